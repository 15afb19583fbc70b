/- What Commit does to a log and its disk. Conditions: the table of half bytes reads as the program's text lays it; fewer than 2^30 writes that wait; a text of at most 10^6 bytes; the log's block is none of the disk's. -/
import Derived.Test.YtfcljcikajaedaaGreatDoorMg3
import Derived.Test.YtfcljcikajaedaaGreatDoorMg35
namespace Go.Proofs.YtfcljcikajaedaaGreatDoor
open Go.RowKit Go.Maps

/-- What a log is: its head may be, its next number is of 64 bits. -/
structure Lm.ok (l : Lm) : Prop where
  h_ : l.h.ok
  a_ : l.a ≤ 1
  next_ : l.next < 18446744073709551616
  left_ : l.left ≤ 512
theorem pair_eta {α β : Type} (p : α × β) (x : α) (y : β) (h1 : p.1 = x) (h2 : p.2 = y) : p = (x, y) := by rw [← h1, ← h2]
theorem wrap_add (n k : Nat) : IntKind.u64.wrap ((n : Int) + k) = (((n + k) % 18446744073709551616 : Nat) : Int) := by
  simp [IntKind.wrap, IntKind.bits, IntKind.signed]
theorem commit_eq (l : Lm) (d : Dm) (t : List UInt8) (hd : l.dead = false) (h1 : ¬ l.h.n < need t.length) (h2 : ¬ l.left < need t.length) : l.commitS d t = if (Dm.putAll l.h.n (cutL l.next t) d).2 = 0 then ({ l with next := (l.next + need t.length) % 18446744073709551616, left := l.left - need t.length }, (Dm.putAll l.h.n (cutL l.next t) d).1, 0) else ({ l with dead := (Dm.putAll l.h.n (cutL l.next t) d).2 == 4 }, (Dm.putAll l.h.n (cutL l.next t) d).1, (Dm.putAll l.h.n (cutL l.next t) d).2) := by
  unfold Lm.commitS
  rw [hd, if_neg (by decide), if_neg h1, if_neg h2]
section
variable {w : World} {b g : Nat} {d : Dm} {l : Lm} {F : Nat → Prop}
set_option maxRecDepth 100000 in
set_option maxHeartbeats 8000000 in
theorem commit_any (hF : ∀ k, w.heap.size ≤ k → F k) (hFT : ¬ (F 0 ∧ DT w 0)) (hD : Dsk F w b d) (ht : Tbl w) (hb : Box w g 93 (lcs b l)) (ok : l.ok) (t : List UInt8) (htx : t.length ≤ 1000000) (hw : d.wait.length + 10000 < 1073741824) :
    Calls Tryz.prog 13 #[.pointer (some ⟨g, 0, none⟩), .string ⟨t.toArray⟩] w fun e w' => e = .returned (.int .i64 (l.commitS d t).2.2) ∧ Dsk F w' b (l.commitS d t).2.1 ∧ Box w' g 93 (lcs b (l.commitS d t).1) ∧ Kp (fun k => F k ∨ k = g) w w' := by
  have HF := Lib.hid hF
  have HFT := Lib.hid hFT
  have DD := Lib.hid hD
  have HT := Lib.hid ht
  have BL := Lib.hid hb
  have HOK := Lib.hid ok.h_
  have HNX := Lib.hid ok.next_
  have HTX := Lib.hid htx
  have HWT := Lib.hid hw
  have hn0 : 0 < l.h.n := by have := ok.h_.lo; omega
  have hn5 : l.h.n ≤ 512 := ok.h_.hi
  have hl5 := ok.left_
  have htl := note_size t
  have HTL := Lib.hid htl
  have hlen : t.length ≤ 140737488355328 := by omega
  clear hF hFT hD ht ok hw htl
  rcases hdd : l.dead with _ | _
  · have hr := ready_any g b l w hb
    rw [hdd, if_neg (by decide)] at hr
    have c3 := hb.cell 3
    have c7 := hb.cell 7
    have c6 := hb.cell 6
    simp only [lcs] at c3 c7 c6
    simp at c3 c7 c6
    by_cases h1 : l.h.n < need t.length
    · have HX := Lib.hid (show l.commitS d t = (l, d, 6) by simp [Lm.commitS, hdd, h1])
      have hd1 : decide (l.h.n < need t.length) = true := by simpa using h1
      clear hdd h1 hb
      go_enter Tryz.func13, Tryz.ntmps13
      go_wp2_with fail
      refine hr.mono ?_
      clear hr
      rintro e w1 ⟨rfl, rfl⟩
      go_wp2_with fail
      refine (need_any t.length w hlen).mono ?_
      rintro e w1 ⟨rfl, rfl⟩
      generalize need t.length = nd at *
      go_wp2_with fail
      go_ret
      rw [HX.out]
      exact ⟨rfl, DD.out, BL.out, Kp.refl _ _⟩
    by_cases h2 : l.left < need t.length
    · have HX := Lib.hid (show l.commitS d t = (l, d, 5) by simp [Lm.commitS, hdd, h1, h2])
      have hd1 : decide (l.h.n < need t.length) = false := by simpa using h1
      have hd2 : decide (l.left < need t.length) = true := by simpa using h2
      clear hdd h1 h2 hb
      go_enter Tryz.func13, Tryz.ntmps13
      go_wp2_with fail
      refine hr.mono ?_
      clear hr
      rintro e w1 ⟨rfl, rfl⟩
      go_wp2_with fail
      refine (need_any t.length w hlen).mono ?_
      rintro e w1 ⟨rfl, rfl⟩
      generalize need t.length = nd at *
      go_wp2_with fail
      go_ret
      rw [HX.out]
      exact ⟨rfl, DD.out, BL.out, Kp.refl _ _⟩
    · have hX := commit_eq l d t hdd h1 h2
      have hd1 : decide (l.h.n < need t.length) = false := by simpa using h1
      have hd2 : decide (l.left < need t.length) = false := by simpa using h2
      have HDD := Lib.hid hdd
      have H2 := Lib.hid (show need t.length ≤ l.left by omega)
      clear hdd h1 h2 hb
      go_enter Tryz.func13, Tryz.ntmps13
      go_wp2_with fail
      refine hr.mono ?_
      clear hr
      rintro e w1 ⟨rfl, rfl⟩
      go_wp2_with fail
      refine (need_any t.length w hlen).mono ?_
      rintro e w1 ⟨rfl, rfl⟩
      obtain ⟨nd, hnd⟩ : ∃ nd, need t.length = nd := ⟨_, rfl⟩
      rw [hnd] at hd1 hd2 hX H2 ⊢
      obtain ⟨r, hr⟩ : ∃ r, Dm.putAll l.h.n (cutL l.next t) d = r := ⟨_, rfl⟩
      rw [hr] at hX
      obtain ⟨r1, r2⟩ := r
      have HR := Lib.hid hr
      have HX := Lib.hid hX
      clear hnd hr hX
      go_upto_region 9 with fail
      refine wp_region_held_drew (S := fun v => v.cell? ⟨g, 0, none⟩ = some (.pointer (some ⟨b, 0, none⟩)) ∧ v.cell? ⟨g, 3, none⟩ = some (.int .i64 l.h.n) ∧ v.cell? ⟨g, 6, none⟩ = some (.int .u64 l.next)) (by kernel_rfl) (⟨BL.out.cell 0, BL.out.cell 3, BL.out.cell 6⟩) (fun hHeld => ?_)
      refine tk 0 (h := ?_)
      refine tk 1 (h := ?_)
      refine tk 2 (h := ?_)
      refine tk 3 (h := ?_)
      refine tk 4 (h := ?_)
      refine tk 5 (h := ?_)
      refine tk 6 (h := ?_)
      refine tk 7 (h := ?_)
      refine tk 8 (h := ?_)
      refine tk 9 (h := ?_)
      refine tk 10 (h := ?_)
      refine tk 11 (h := ?_)
      refine tk 12 (h := ?_)
      refine tk 13 (h := ?_)
      refine tk 14 (h := ?_)
      refine rd 15 (h := fun K hK => ?_)
      go_simp
      have hpt := put_any2 (w := w.drew) (F := fun k => F k ∧ DT w k) (newG HF.out (Nat.le_refl w.heap.size)) HFT.out (DD.out.still (Kp.refl (fun _ => False) w).drew).bothG (HT.out.kp (S := fun _ => False) (Kp.refl (fun _ => False) w).drew (fun e => e)) l.h.n l.next t hn0 HOK.out.hi HNX.out HTX.out HWT.out
      rw [HR.out] at hpt
      refine hpt.mono ?_
      clear hpt
      rintro e w1 ⟨rfl, hd, hk⟩
      have D1 := Lib.hid (hd.mono (F' := F) (fun _ e => e.1))
      have K1 := Lib.hid ((Kp.refl F w).drew.trans (hk.mono (fun _ _ e => e.1)))
      have B1 := Lib.hid (BL.out.drew.kp hk (fun e => not_DT BL.out.drew ⟨by decide, by decide, by decide⟩ e.2))
      clear hd hk
      go_wp2_with fail
      refine hK.out _ _ (⟨B1.out.cell 0, B1.out.cell 3, B1.out.cell 6⟩) (fun hHeld1 => ?_)
      clear hK K
      try simp only [Act.put, List.setIfInBounds_toArray, List.set_cons_zero, List.set_cons_succ]
      refine rd 16 (h := fun K hK => ?_)
      go_simp
      refine (hear_any g b l r2 w1 B1.out).mono ?_
      rintro e w2 ⟨rfl, hb, hk⟩
      have B2 := Lib.hid hb
      have D2 := Lib.hid (D1.out.off B1.out ⟨by decide, by decide, by decide⟩ hk)
      have K2 := Lib.hid ((K1.out.mono (S' := fun k => F k ∨ k = g) (fun _ _ e => .inl e)).trans (hk.mono (fun _ _ e => .inr e)))
      clear hb hk
      go_wp2_with fail
      refine hK.out _ _ (⟨B2.out.cell 0, B2.out.cell 3, B2.out.cell 6⟩) (fun hHeld2 => ?_)
      clear hK K
      try simp only [Act.put, List.setIfInBounds_toArray, List.set_cons_zero, List.set_cons_succ]
      refine tk 17 (h := ?_)
      refine wpAnyH_done (by kernel_rfl) ?_ _
      clear c3 c6 c7 hHeld hHeld1 hHeld2
      by_cases hz : r2 = 0
      · subst hz
        have HX2 := Lib.hid (HX.out.trans (if_pos rfl))
        have HB := Lib.hid (show Box w2 g 93 (lcs b l) by
          have := B2.out
          have e : ({ l with dead := l.dead || (0 : Int) == 4 } : Lm) = l := by rw [show ((0 : Int) == 4) = false from rfl, Bool.or_false]
          rwa [e] at this)
        have c6 := HB.out.cell 6
        have c7 := HB.out.cell 7
        have f6 := HB.out.free 6
        have f7 := HB.out.free 7
        simp only [lcs] at c6 c7
        simp at c6 c7
        have hwn : IntKind.u64.wrap (nd : Int) = nd := IntWalk.u64_in _ (by have := H2.out; omega)
        have hsb : IntKind.i64.wrap ((l.left : Int) - nd) = ((l.left - nd : Nat) : Int) := by rw [IntWalk.i64_in _ (by have := H2.out; omega)]; have := H2.out; omega
        have h2 := H2.out
        go_wp2_with fail
        have e1 : IntKind.u64.wrap ((l.next : Int) + nd) = (((l.next + nd) % 18446744073709551616 : Nat) : Int) := wrap_add l.next nd
        have HP := (HB.out.put 6 (.int .u64 (IntKind.u64.wrap ((l.next : Int) + nd)))).put 7 (.int .i64 ((l.left - nd : Nat) : Int))
        have hd := D2.out.off HB.out ⟨by decide, by decide, by decide⟩ ((Kp.one w2 g 6 (.int .u64 (IntKind.u64.wrap ((l.next : Int) + nd)))).trans (Kp.one _ g 7 (.int .i64 ((l.left - nd : Nat) : Int))))
        have hk := (K2.out.setCell (p := ⟨g, 6, none⟩) (.inr (.inr rfl)) (.int .u64 (IntKind.u64.wrap ((l.next : Int) + nd)))).setCell (p := ⟨g, 7, none⟩) (.inr (.inr rfl)) (.int .i64 ((l.left - nd : Nat) : Int))
        go_ret
        rw [HX2.out]
        refine ⟨rfl, hd, ?_, hk⟩
        rw [e1] at HP
        rw [e1]
        exact HP
      · have HX2 := Lib.hid (HX.out.trans (if_neg hz))
        have hne : (r2 != 0) = true := by simpa using hz
        have HB := Lib.hid (show Box w2 g 93 (lcs b { l with dead := r2 == 4 }) by
          have := B2.out
          have e : ({ l with dead := l.dead || r2 == 4 } : Lm) = { l with dead := r2 == 4 } := by rw [HDD.out, Bool.false_or]
          rwa [e] at this)
        clear hz
        go_wp2_with fail
        go_ret
        rw [HX2.out]
        exact ⟨rfl, D2.out, HB.out, K2.out⟩
  · have hr := ready_any g b l w hb
    rw [hdd, if_pos rfl] at hr
    have HX := Lib.hid (show l.commitS d t = (l, d, 4) by simp [Lm.commitS, hdd])
    clear hdd hb
    go_enter Tryz.func13, Tryz.ntmps13
    go_wp2_with fail
    refine hr.mono ?_
    clear hr
    rintro e w1 ⟨rfl, rfl⟩
    go_wp2_with fail
    go_ret
    rw [HX.out]
    exact ⟨rfl, DD.out, BL.out, Kp.refl _ _⟩
end
set_option maxHeartbeats 400000 in
theorem commit_nil (w : World) (s : ByteArray) :
    Calls Tryz.prog 13 #[.pointer none, .string s] w fun e w' => e = .returned (.int .i64 1) ∧ w = w' := by
  go_enter Tryz.func13, Tryz.ntmps13
  go_wp2_with fail
  refine (ready_nil w).mono ?_
  rintro e w1 ⟨rfl, rfl⟩
  go_wp2_with fail
  go_ret
  exact ⟨rfl, rfl⟩
end Go.Proofs.YtfcljcikajaedaaGreatDoor

/- What Trim does to a log and its disk. Conditions: the table of half bytes reads as the program's text lays it; fewer than 2^30 writes that wait; the log's block is none of the disk's. -/
namespace Go.Proofs.YtfcljcikajaedaaGreatDoor
open Go.RowKit Go.Maps

theorem box_there {w : World} {g : Nat} {t : TypeId} {L : List Value} (h : Box w g t L.toArray) (o n : Nat) (hl : o + n ≤ L.length) : w.there g o n := fun j hj => by
  rw [h.cell, h.free]
  exact ⟨by simp; omega, rfl⟩
theorem trim_eq (l : Lm) (d : Dm) (hd : l.dead = false) : l.trimS d = if (d.putHead (1 - l.a) l.newHead).2 = 0 then ({ l with h := l.newHead, a := 1 - l.a, left := l.h.n }, (d.putHead (1 - l.a) l.newHead).1, 0) else ({ l with dead := (d.putHead (1 - l.a) l.newHead).2 == 4 }, (d.putHead (1 - l.a) l.newHead).1, (d.putHead (1 - l.a) l.newHead).2) := by
  unfold Lm.trimS
  rw [hd, if_neg (by decide)]
section
variable {w : World} {b g : Nat} {d : Dm} {l : Lm} {F : Nat → Prop}
set_option maxRecDepth 100000 in
set_option maxHeartbeats 8000000 in
theorem trim_any (hF : ∀ k, w.heap.size ≤ k → F k) (hD : Dsk F w b d) (ht : Tbl w) (hb : Box w g 93 (lcs b l)) (ok : l.ok) (hw : d.wait.length + 1 < 1073741824) :
    Calls Tryz.prog 12 #[.pointer (some ⟨g, 0, none⟩)] w fun e w' => e = .returned (.int .i64 (l.trimS d).2.2) ∧ Dsk F w' b (l.trimS d).2.1 ∧ Box w' g 93 (lcs b (l.trimS d).1) ∧ Kp (fun k => F k ∨ k = g) w w' := by
  have HF := Lib.hid hF
  have DD := Lib.hid hD
  have HT := Lib.hid ht
  have BL := Lib.hid hb
  have OK := Lib.hid ok
  have HWT := Lib.hid hw
  clear hF hD ht ok hw
  rcases hdd : l.dead with _ | _
  · have hr := ready_any g b l w hb
    rw [hdd, if_neg (by decide)] at hr
    have hX := trim_eq l d hdd
    obtain ⟨hn, hhn⟩ : ∃ hn, l.newHead = hn := ⟨_, rfl⟩
    have HNOK := Lib.hid (show hn.ok by rw [← hhn]; exact newOk l.h.g l.next l.h.n l.h.note OK.out.next_ ⟨OK.out.h_.lo, OK.out.h_.hi⟩ OK.out.h_.note_)
    have HHN := Lib.hid hhn
    rw [hhn] at hX
    obtain ⟨r, hrr⟩ : ∃ r, d.putHead (1 - l.a) hn = r := ⟨_, rfl⟩
    rw [hrr] at hX
    obtain ⟨r1, r2⟩ := r
    have HR := Lib.hid hrr
    have HX := Lib.hid hX
    have HDD := Lib.hid hdd
    clear hdd hb hrr hX hhn
    go_enter Tryz.func12, Tryz.ntmps12
    go_wp2_with fail
    refine hr.mono ?_
    clear hr
    rintro e w1 ⟨rfl, rfl⟩
    go_upto_region 4 with fail
    refine wp_region_held_drew (S := fun v => v.cell? ⟨g, 0, none⟩ = some (.pointer (some ⟨b, 0, none⟩)) ∧ v.cell? ⟨g, 1, none⟩ = some (.int .u64 l.h.g) ∧ v.cell? ⟨g, 2, none⟩ = some (.int .u64 l.h.f) ∧ v.cell? ⟨g, 3, none⟩ = some (.int .i64 l.h.n) ∧ v.cell? ⟨g, 4, none⟩ = some (.string ⟨l.h.note.toArray⟩) ∧ v.cell? ⟨g, 5, none⟩ = some (.int .i64 l.a) ∧ v.cell? ⟨g, 6, none⟩ = some (.int .u64 l.next)) (by kernel_rfl) (⟨BL.out.cell 0, BL.out.cell 1, BL.out.cell 2, BL.out.cell 3, BL.out.cell 4, BL.out.cell 5, BL.out.cell 6⟩) (fun hHeld => ?_)
    refine tk 0 (h := ?_)
    refine tk 1 (h := ?_)
    refine tk 2 (h := ?_)
    refine tk 3 (h := ?_)
    refine tk 4 (h := ?_)
    refine tk 5 (h := ?_)
    refine tk 6 (h := ?_)
    refine tk 7 (h := ?_)
    refine wpAnyH_ready (rs := [8, 9]) (by kernel_rfl) (by simp) ?_
    refine rdc 8 (h := fun K hK => ?_) (hs := rdc 9 (h := fun K hK => ?_) (hs := AllReadyH.nil))
    · go_simp
      have hfo := follow_any l.h l.a l.next w.drew OK.out.a_
      simp only [hcs] at hfo
      refine hfo.mono ?_
      clear hfo
      rintro e w1 ⟨rfl, hk⟩
      have B1 := Lib.hid (BL.out.drew.kp hk (fun e => e))
      have K1 := Lib.hid ((Kp.refl (fun _ => False) w).drew.trans hk)
      clear hk
      go_wp2_with fail
      refine hK.out _ _ (⟨B1.out.cell 0, B1.out.cell 1, B1.out.cell 2, B1.out.cell 3, B1.out.cell 4, B1.out.cell 5, B1.out.cell 6⟩) (fun hHeld5 => ?_)
      clear hK K
      try simp only [Act.put, List.setIfInBounds_toArray, List.set_cons_zero, List.set_cons_succ]
      refine rd 9 (h := fun K hK => ?_)
      go_simp
      have B2 := Lib.hid (B1.out.alloc (.cells #[.int .u64 0, .int .u64 0, .int .i64 0, .string ⟨#[]⟩, .int .i64 0] 84))
      have K2 := Lib.hid (K1.out.alloc (.cells #[.int .u64 0, .int .u64 0, .int .i64 0, .string ⟨#[]⟩, .int .i64 0] 84))
      have Z2 := Lib.hid (Box.new w1 84 #[.int .u64 0, .int .u64 0, .int .i64 0, .string ⟨#[]⟩, .int .i64 0])
      have hg4 := K1.out.size
      have hlg := B1.out.lt
      generalize w1.alloc (.cells #[.int .u64 0, .int .u64 0, .int .i64 0, .string ⟨#[]⟩, .int .i64 0] 84) = w2 at *
      generalize w1.heap.size = g4 at *
      refine hK.out _ _ (⟨B2.out.cell 0, B2.out.cell 1, B2.out.cell 2, B2.out.cell 3, B2.out.cell 4, B2.out.cell 5, B2.out.cell 6⟩) (fun hHeld6 => ?_)
      clear hK K
      try simp only [Act.put, List.setIfInBounds_toArray, List.set_cons_zero, List.set_cons_succ]
      refine rd 10 (h := fun K hK => ?_)
      rw [if_pos (by rfl)]
      refine dwp_store_box 84 (.tmp 4) (.tmp 19) rfl g4 [.int .u64 ((l.h.g + 1) % 18446744073709551616 : Nat), .int .u64 l.next, .int .i64 l.h.n, .string ⟨l.h.note.toArray⟩, .int .i64 (1 - l.a : Nat)] rfl rfl Z2.out rfl info_head (hcs_one l.newHead (1 - l.a)) ?_
      intro w4 hb4 hk4
      have H4 := Lib.hid (show Box w4 g4 84 #[.int .u64 hn.g, .int .u64 hn.f, .int .i64 hn.n, .string ⟨hn.note.toArray⟩, .int .i64 (1 - l.a : Nat)] by rw [← HHN.out]; exact hb4)
      have B4 := Lib.hid (B2.out.kp hk4 (fun e => by omega))
      have K4 := Lib.hid (K2.out.trans_new hk4 (fun b e => .inl (by omega)))
      have D4 := Lib.hid (DD.out.still K4.out)
      have G4 : g4 ≠ g := by omega
      clear hb4 hk4
      refine hK.out _ _ (⟨B4.out.cell 0, B4.out.cell 1, B4.out.cell 2, B4.out.cell 3, B4.out.cell 4, B4.out.cell 5, B4.out.cell 6⟩) (fun hHeld9 => ?_)
      clear hK K
      try simp only [Act.put]
      refine wpAnyH_done (by kernel_rfl) ?_ _
      clear hHeld
      have hgg : g4 ≠ g := G4
      go_upto_region 5 with fail
      refine wp_region_held_drew (S := fun v => v.cell? ⟨g4, 0, none⟩ = some (.int .u64 hn.g) ∧ v.cell? ⟨g4, 1, none⟩ = some (.int .u64 hn.f) ∧ v.cell? ⟨g4, 2, none⟩ = some (.int .i64 hn.n) ∧ v.cell? ⟨g4, 3, none⟩ = some (.string ⟨hn.note.toArray⟩) ∧ v.cell? ⟨g4, 4, none⟩ = some (.int .i64 (1 - l.a : Nat)) ∧ v.cell? ⟨g, 0, none⟩ = some (.pointer (some ⟨b, 0, none⟩))) (by kernel_rfl) (⟨H4.out.cell 0, H4.out.cell 1, H4.out.cell 2, H4.out.cell 3, H4.out.cell 4, B4.out.cell 0⟩) (fun hHeld => ?_)
      refine tk 0 (h := ?_)
      refine tk 1 (h := ?_)
      refine tk 2 (h := ?_)
      refine tk 3 (h := ?_)
      refine tk 4 (h := ?_)
      refine tk 5 (h := ?_)
      refine rd 6 (h := fun K hK => ?_)
      go_simp
      have hwr := hwrite_any (newG (w := w) HF.out K4.out.drew.size) (D4.out.still (Kp.refl (fun _ => False) w4).drew).bothG (HT.out.kp K4.out.drew (fun e => e)) hn (1 - l.a) HNOK.out HWT.out
      simp only [hcs] at hwr
      rw [HR.out] at hwr
      refine hwr.mono ?_
      clear hwr
      rintro e w5 ⟨rfl, hd, hk⟩
      have D5 := Lib.hid (hd.mono (F' := F) (fun _ e => e.1))
      have K5 := Lib.hid (K4.out.drew.of_false.trans (hk.mono (fun _ _ e => e.1)))
      have H5 := Lib.hid (H4.out.drew.kp hk (fun e => not_DT H4.out.drew ⟨by decide, by decide, by decide⟩ e.2))
      have B5 := Lib.hid (B4.out.drew.kp hk (fun e => not_DT B4.out.drew ⟨by decide, by decide, by decide⟩ e.2))
      clear hd hk
      go_wp2_with fail
      refine hK.out _ _ (⟨H5.out.cell 0, H5.out.cell 1, H5.out.cell 2, H5.out.cell 3, H5.out.cell 4, B5.out.cell 0⟩) (fun hHeld1 => ?_)
      clear hK K
      try simp only [Act.put, List.setIfInBounds_toArray, List.set_cons_zero, List.set_cons_succ]
      refine rd 7 (h := fun K hK => ?_)
      go_simp
      refine (hear_any g b l r2 w5 B5.out).mono ?_
      rintro e w6 ⟨rfl, hb, hk⟩
      have B6 := Lib.hid hb
      have H6 := Lib.hid (H5.out.kp hk hgg)
      have D6 := Lib.hid (D5.out.off B5.out ⟨by decide, by decide, by decide⟩ hk)
      have K6 := Lib.hid ((K5.out.mono (S' := fun k => F k ∨ k = g) (fun _ _ e => .inl e)).trans (hk.mono (fun _ _ e => .inr e)))
      clear hb hk
      go_wp2_with fail
      refine hK.out _ _ (⟨H6.out.cell 0, H6.out.cell 1, H6.out.cell 2, H6.out.cell 3, H6.out.cell 4, B6.out.cell 0⟩) (fun hHeld2 => ?_)
      clear hK K
      try simp only [Act.put, List.setIfInBounds_toArray, List.set_cons_zero, List.set_cons_succ]
      refine tk 8 (h := ?_)
      refine wpAnyH_done (by kernel_rfl) ?_ _
      clear hHeld
      by_cases hz : r2 = 0
      · subst hz
        have HX2 := Lib.hid (HX.out.trans (if_pos rfl))
        have HB := Lib.hid (show Box w6 g 93 (lcs b l) by
          have := B6.out
          have e : ({ l with dead := l.dead || (0 : Int) == 4 } : Lm) = l := by rw [show ((0 : Int) == 4) = false from rfl, Bool.or_false]
          rwa [e] at this)
        go_upto_region 8 with fail
        have B7 := Lib.hid (show Box w6 g 93 [.pointer (some ⟨b, 0, none⟩), .int .u64 l.h.g, .int .u64 l.h.f, .int .i64 l.h.n, .string ⟨l.h.note.toArray⟩, .int .i64 l.a, .int .u64 l.next, .int .i64 l.left, .bool l.dead].toArray from HB.out)
        have H7 := Lib.hid H6.out
        have K7 := Lib.hid K6.out
        have D7 := Lib.hid D6.out
        generalize w6 = w7 at *
        refine wp_region_held_drew (S := fun v => v.cell? ⟨g4, 0, none⟩ = some (.int .u64 hn.g) ∧ v.cell? ⟨g4, 1, none⟩ = some (.int .u64 hn.f) ∧ v.cell? ⟨g4, 2, none⟩ = some (.int .i64 hn.n) ∧ v.cell? ⟨g4, 3, none⟩ = some (.string ⟨hn.note.toArray⟩) ∧ v.cell? ⟨g4, 4, none⟩ = some (.int .i64 (1 - l.a : Nat))) (by kernel_rfl) (⟨H7.out.cell 0, H7.out.cell 1, H7.out.cell 2, H7.out.cell 3, H7.out.cell 4⟩) (fun hHeld => ?_)
        refine tk 0 (h := ?_)
        refine tk 1 (h := ?_)
        refine tk 2 (h := ?_)
        refine tk 3 (h := ?_)
        refine tk 4 (h := ?_)
        refine tk 5 (h := ?_)
        refine tk 6 (h := ?_)
        refine rd 7 (h := fun K hK => ?_)
        rw [if_pos (by rfl)]
        refine wp_store_mid 84 (.tmp 37) (.tmp 33) rfl g 1 #[.int .u64 hn.g, .int .u64 hn.f, .int .i64 hn.n, .string ⟨hn.note.toArray⟩, .int .i64 (1 - l.a : Nat)] rfl rfl (box_there B7.out.drew 1 5 (by simp)) (by kernel_rfl) (all_oneCell_toArray (hcs_one hn (1 - l.a))) ?_
        have B8 := Lib.hid (Box.writes [.int .u64 hn.g, .int .u64 hn.f, .int .i64 hn.n, .string ⟨hn.note.toArray⟩, .int .i64 (1 - l.a : Nat)] 1 w7.drew _ B7.out.drew (by simp))
        have K8 := Lib.hid (Kp.setCells (S := fun k => k = g) [.int .u64 hn.g, .int .u64 hn.f, .int .i64 hn.n, .string ⟨hn.note.toArray⟩, .int .i64 (1 - l.a : Nat)] 1 w7.drew (Kp.refl (fun k => k = g) w7.drew) (.inr rfl))
        have H8 := Lib.hid (H7.out.drew.kp K8.out hgg)
        simp only [List.take_succ_cons, List.take_zero, List.drop_succ_cons, List.drop_zero, List.cons_append, List.nil_append, List.length_cons, List.length_nil, Nat.reduceAdd] at B8
        generalize w7.drew.setCells g 1 _ = w8 at *
        refine hK.out _ _ (⟨H8.out.cell 0, H8.out.cell 1, H8.out.cell 2, H8.out.cell 3, H8.out.cell 4⟩) (fun hHeld3 => ?_)
        clear hK K
        try simp only [Act.put]
        refine tk 8 (h := ?_)
        refine tk 9 (h := ?_)
        refine rd 10 (h := fun K hK => ?_)
        have c7 := B8.out.cell 7
        have f7 := B8.out.free 7
        simp at c7
        go_simp
        have B9 := Lib.hid (B8.out.put 7 (.int .i64 hn.n))
        have K9 := Lib.hid ((Kp.one w8 g 7 (.int .i64 hn.n)))
        have H9 := Lib.hid (H8.out.kp K9.out hgg)
        clear c7 f7
        generalize w8.setCell ⟨g, 7, none⟩ (.int .i64 hn.n) = w9 at *
        refine hK.out _ _ (⟨H9.out.cell 0, H9.out.cell 1, H9.out.cell 2, H9.out.cell 3, H9.out.cell 4⟩) (fun hHeld4 => ?_)
        clear hK K
        try simp only [Act.put, List.setIfInBounds_toArray, List.set_cons_zero, List.set_cons_succ]
        refine wpAnyH_done (by kernel_rfl) ?_ _
        go_wp2_with fail
        go_ret
        rw [HX2.out]
        have kg := K8.out.trans K9.out
        refine ⟨rfl, (D7.out.still (Kp.refl (fun _ => False) w7).drew).off B7.out.drew ⟨by decide, by decide, by decide⟩ kg, ?_, K7.out.drew.trans (kg.mono (fun _ _ e => .inr e))⟩
        rw [show l.h.n = hn.n by rw [← HHN.out]; rfl]
        exact B9.out
      · have HX2 := Lib.hid (HX.out.trans (if_neg hz))
        have hne : (r2 != 0) = true := by simpa using hz
        have HB := Lib.hid (show Box w6 g 93 (lcs b { l with dead := r2 == 4 }) by
          have := B6.out
          have e : ({ l with dead := l.dead || r2 == 4 } : Lm) = { l with dead := r2 == 4 } := by rw [HDD.out, Bool.false_or]
          rwa [e] at this)
        clear hz
        go_wp2_with fail
        go_ret
        rw [HX2.out]
        exact ⟨rfl, D6.out, HB.out, K6.out⟩
    · go_simp
      have B1 := Lib.hid (BL.out.alloc (.cells #[.int .u64 0, .int .u64 0, .int .i64 0, .string ⟨#[]⟩, .int .i64 0] 84)).drew
      have K1 := Lib.hid ((Kp.refl (fun _ => False) w).alloc (.cells #[.int .u64 0, .int .u64 0, .int .i64 0, .string ⟨#[]⟩, .int .i64 0] 84)).drew
      have Z1 := Lib.hid (Box.new w 84 #[.int .u64 0, .int .u64 0, .int .i64 0, .string ⟨#[]⟩, .int .i64 0]).drew
      generalize hgx : w.heap.size = g4
      have hg4 : w.heap.size ≤ g4 := by omega
      have hlg : g < g4 := by rw [← hgx]; exact BL.out.lt
      rw [hgx] at Z1
      clear hgx
      generalize (w.alloc (.cells #[.int .u64 0, .int .u64 0, .int .i64 0, .string ⟨#[]⟩, .int .i64 0] 84)).drew = w1 at *
      refine hK.out _ _ (⟨B1.out.cell 0, B1.out.cell 1, B1.out.cell 2, B1.out.cell 3, B1.out.cell 4, B1.out.cell 5, B1.out.cell 6⟩) (fun hHeld7 => ?_)
      clear hK K
      try simp only [Act.put, List.setIfInBounds_toArray, List.set_cons_zero, List.set_cons_succ]
      refine rd 8 (h := fun K hK => ?_)
      go_simp
      have hfo := follow_any l.h l.a l.next w1 OK.out.a_
      simp only [hcs] at hfo
      refine hfo.mono ?_
      clear hfo
      rintro e w2 ⟨rfl, hk⟩
      have B2 := Lib.hid (B1.out.kp hk (fun e => e))
      have K2 := Lib.hid (K1.out.trans hk)
      have Z2 := Lib.hid (Z1.out.kp hk (fun e => e))
      clear hk
      go_wp2_with fail
      refine hK.out _ _ (⟨B2.out.cell 0, B2.out.cell 1, B2.out.cell 2, B2.out.cell 3, B2.out.cell 4, B2.out.cell 5, B2.out.cell 6⟩) (fun hHeld8 => ?_)
      clear hK K
      try simp only [Act.put, List.setIfInBounds_toArray, List.set_cons_zero, List.set_cons_succ]
      refine rd 10 (h := fun K hK => ?_)
      rw [if_pos (by rfl)]
      refine dwp_store_box 84 (.tmp 4) (.tmp 19) rfl g4 [.int .u64 ((l.h.g + 1) % 18446744073709551616 : Nat), .int .u64 l.next, .int .i64 l.h.n, .string ⟨l.h.note.toArray⟩, .int .i64 (1 - l.a : Nat)] rfl rfl Z2.out rfl info_head (hcs_one l.newHead (1 - l.a)) ?_
      intro w4 hb4 hk4
      have H4 := Lib.hid (show Box w4 g4 84 #[.int .u64 hn.g, .int .u64 hn.f, .int .i64 hn.n, .string ⟨hn.note.toArray⟩, .int .i64 (1 - l.a : Nat)] by rw [← HHN.out]; exact hb4)
      have B4 := Lib.hid (B2.out.kp hk4 (fun e => by omega))
      have K4 := Lib.hid (K2.out.trans_new hk4 (fun b e => .inl (by omega)))
      have D4 := Lib.hid (DD.out.still K4.out)
      have G4 : g4 ≠ g := by omega
      clear hb4 hk4
      refine hK.out _ _ (⟨B4.out.cell 0, B4.out.cell 1, B4.out.cell 2, B4.out.cell 3, B4.out.cell 4, B4.out.cell 5, B4.out.cell 6⟩) (fun hHeld9 => ?_)
      clear hK K
      try simp only [Act.put]
      refine wpAnyH_done (by kernel_rfl) ?_ _
      clear hHeld
      have hgg : g4 ≠ g := G4
      go_upto_region 5 with fail
      refine wp_region_held_drew (S := fun v => v.cell? ⟨g4, 0, none⟩ = some (.int .u64 hn.g) ∧ v.cell? ⟨g4, 1, none⟩ = some (.int .u64 hn.f) ∧ v.cell? ⟨g4, 2, none⟩ = some (.int .i64 hn.n) ∧ v.cell? ⟨g4, 3, none⟩ = some (.string ⟨hn.note.toArray⟩) ∧ v.cell? ⟨g4, 4, none⟩ = some (.int .i64 (1 - l.a : Nat)) ∧ v.cell? ⟨g, 0, none⟩ = some (.pointer (some ⟨b, 0, none⟩))) (by kernel_rfl) (⟨H4.out.cell 0, H4.out.cell 1, H4.out.cell 2, H4.out.cell 3, H4.out.cell 4, B4.out.cell 0⟩) (fun hHeld => ?_)
      refine tk 0 (h := ?_)
      refine tk 1 (h := ?_)
      refine tk 2 (h := ?_)
      refine tk 3 (h := ?_)
      refine tk 4 (h := ?_)
      refine tk 5 (h := ?_)
      refine rd 6 (h := fun K hK => ?_)
      go_simp
      have hwr := hwrite_any (newG (w := w) HF.out K4.out.drew.size) (D4.out.still (Kp.refl (fun _ => False) w4).drew).bothG (HT.out.kp K4.out.drew (fun e => e)) hn (1 - l.a) HNOK.out HWT.out
      simp only [hcs] at hwr
      rw [HR.out] at hwr
      refine hwr.mono ?_
      clear hwr
      rintro e w5 ⟨rfl, hd, hk⟩
      have D5 := Lib.hid (hd.mono (F' := F) (fun _ e => e.1))
      have K5 := Lib.hid (K4.out.drew.of_false.trans (hk.mono (fun _ _ e => e.1)))
      have H5 := Lib.hid (H4.out.drew.kp hk (fun e => not_DT H4.out.drew ⟨by decide, by decide, by decide⟩ e.2))
      have B5 := Lib.hid (B4.out.drew.kp hk (fun e => not_DT B4.out.drew ⟨by decide, by decide, by decide⟩ e.2))
      clear hd hk
      go_wp2_with fail
      refine hK.out _ _ (⟨H5.out.cell 0, H5.out.cell 1, H5.out.cell 2, H5.out.cell 3, H5.out.cell 4, B5.out.cell 0⟩) (fun hHeld1 => ?_)
      clear hK K
      try simp only [Act.put, List.setIfInBounds_toArray, List.set_cons_zero, List.set_cons_succ]
      refine rd 7 (h := fun K hK => ?_)
      go_simp
      refine (hear_any g b l r2 w5 B5.out).mono ?_
      rintro e w6 ⟨rfl, hb, hk⟩
      have B6 := Lib.hid hb
      have H6 := Lib.hid (H5.out.kp hk hgg)
      have D6 := Lib.hid (D5.out.off B5.out ⟨by decide, by decide, by decide⟩ hk)
      have K6 := Lib.hid ((K5.out.mono (S' := fun k => F k ∨ k = g) (fun _ _ e => .inl e)).trans (hk.mono (fun _ _ e => .inr e)))
      clear hb hk
      go_wp2_with fail
      refine hK.out _ _ (⟨H6.out.cell 0, H6.out.cell 1, H6.out.cell 2, H6.out.cell 3, H6.out.cell 4, B6.out.cell 0⟩) (fun hHeld2 => ?_)
      clear hK K
      try simp only [Act.put, List.setIfInBounds_toArray, List.set_cons_zero, List.set_cons_succ]
      refine tk 8 (h := ?_)
      refine wpAnyH_done (by kernel_rfl) ?_ _
      clear hHeld
      by_cases hz : r2 = 0
      · subst hz
        have HX2 := Lib.hid (HX.out.trans (if_pos rfl))
        have HB := Lib.hid (show Box w6 g 93 (lcs b l) by
          have := B6.out
          have e : ({ l with dead := l.dead || (0 : Int) == 4 } : Lm) = l := by rw [show ((0 : Int) == 4) = false from rfl, Bool.or_false]
          rwa [e] at this)
        go_upto_region 8 with fail
        have B7 := Lib.hid (show Box w6 g 93 [.pointer (some ⟨b, 0, none⟩), .int .u64 l.h.g, .int .u64 l.h.f, .int .i64 l.h.n, .string ⟨l.h.note.toArray⟩, .int .i64 l.a, .int .u64 l.next, .int .i64 l.left, .bool l.dead].toArray from HB.out)
        have H7 := Lib.hid H6.out
        have K7 := Lib.hid K6.out
        have D7 := Lib.hid D6.out
        generalize w6 = w7 at *
        refine wp_region_held_drew (S := fun v => v.cell? ⟨g4, 0, none⟩ = some (.int .u64 hn.g) ∧ v.cell? ⟨g4, 1, none⟩ = some (.int .u64 hn.f) ∧ v.cell? ⟨g4, 2, none⟩ = some (.int .i64 hn.n) ∧ v.cell? ⟨g4, 3, none⟩ = some (.string ⟨hn.note.toArray⟩) ∧ v.cell? ⟨g4, 4, none⟩ = some (.int .i64 (1 - l.a : Nat))) (by kernel_rfl) (⟨H7.out.cell 0, H7.out.cell 1, H7.out.cell 2, H7.out.cell 3, H7.out.cell 4⟩) (fun hHeld => ?_)
        refine tk 0 (h := ?_)
        refine tk 1 (h := ?_)
        refine tk 2 (h := ?_)
        refine tk 3 (h := ?_)
        refine tk 4 (h := ?_)
        refine tk 5 (h := ?_)
        refine tk 6 (h := ?_)
        refine rd 7 (h := fun K hK => ?_)
        rw [if_pos (by rfl)]
        refine wp_store_mid 84 (.tmp 37) (.tmp 33) rfl g 1 #[.int .u64 hn.g, .int .u64 hn.f, .int .i64 hn.n, .string ⟨hn.note.toArray⟩, .int .i64 (1 - l.a : Nat)] rfl rfl (box_there B7.out.drew 1 5 (by simp)) (by kernel_rfl) (all_oneCell_toArray (hcs_one hn (1 - l.a))) ?_
        have B8 := Lib.hid (Box.writes [.int .u64 hn.g, .int .u64 hn.f, .int .i64 hn.n, .string ⟨hn.note.toArray⟩, .int .i64 (1 - l.a : Nat)] 1 w7.drew _ B7.out.drew (by simp))
        have K8 := Lib.hid (Kp.setCells (S := fun k => k = g) [.int .u64 hn.g, .int .u64 hn.f, .int .i64 hn.n, .string ⟨hn.note.toArray⟩, .int .i64 (1 - l.a : Nat)] 1 w7.drew (Kp.refl (fun k => k = g) w7.drew) (.inr rfl))
        have H8 := Lib.hid (H7.out.drew.kp K8.out hgg)
        simp only [List.take_succ_cons, List.take_zero, List.drop_succ_cons, List.drop_zero, List.cons_append, List.nil_append, List.length_cons, List.length_nil, Nat.reduceAdd] at B8
        generalize w7.drew.setCells g 1 _ = w8 at *
        refine hK.out _ _ (⟨H8.out.cell 0, H8.out.cell 1, H8.out.cell 2, H8.out.cell 3, H8.out.cell 4⟩) (fun hHeld3 => ?_)
        clear hK K
        try simp only [Act.put]
        refine tk 8 (h := ?_)
        refine tk 9 (h := ?_)
        refine rd 10 (h := fun K hK => ?_)
        have c7 := B8.out.cell 7
        have f7 := B8.out.free 7
        simp at c7
        go_simp
        have B9 := Lib.hid (B8.out.put 7 (.int .i64 hn.n))
        have K9 := Lib.hid ((Kp.one w8 g 7 (.int .i64 hn.n)))
        have H9 := Lib.hid (H8.out.kp K9.out hgg)
        clear c7 f7
        generalize w8.setCell ⟨g, 7, none⟩ (.int .i64 hn.n) = w9 at *
        refine hK.out _ _ (⟨H9.out.cell 0, H9.out.cell 1, H9.out.cell 2, H9.out.cell 3, H9.out.cell 4⟩) (fun hHeld4 => ?_)
        clear hK K
        try simp only [Act.put, List.setIfInBounds_toArray, List.set_cons_zero, List.set_cons_succ]
        refine wpAnyH_done (by kernel_rfl) ?_ _
        go_wp2_with fail
        go_ret
        rw [HX2.out]
        have kg := K8.out.trans K9.out
        refine ⟨rfl, (D7.out.still (Kp.refl (fun _ => False) w7).drew).off B7.out.drew ⟨by decide, by decide, by decide⟩ kg, ?_, K7.out.drew.trans (kg.mono (fun _ _ e => .inr e))⟩
        rw [show l.h.n = hn.n by rw [← HHN.out]; rfl]
        exact B9.out
      · have HX2 := Lib.hid (HX.out.trans (if_neg hz))
        have hne : (r2 != 0) = true := by simpa using hz
        have HB := Lib.hid (show Box w6 g 93 (lcs b { l with dead := r2 == 4 }) by
          have := B6.out
          have e : ({ l with dead := l.dead || r2 == 4 } : Lm) = { l with dead := r2 == 4 } := by rw [HDD.out, Bool.false_or]
          rwa [e] at this)
        clear hz
        go_wp2_with fail
        go_ret
        rw [HX2.out]
        exact ⟨rfl, D6.out, HB.out, K6.out⟩
  · have hr := ready_any g b l w hb
    rw [hdd, if_pos rfl] at hr
    have HX := Lib.hid (show l.trimS d = (l, d, 4) by simp [Lm.trimS, hdd])
    clear hdd hb
    go_enter Tryz.func12, Tryz.ntmps12
    go_wp2_with fail
    refine hr.mono ?_
    clear hr
    rintro e w1 ⟨rfl, rfl⟩
    go_wp2_with fail
    go_ret
    rw [HX.out]
    exact ⟨rfl, DD.out, BL.out, Kp.refl _ _⟩
end
set_option maxHeartbeats 400000 in
theorem trim_nil (w : World) :
    Calls Tryz.prog 12 #[.pointer none] w fun e w' => e = .returned (.int .i64 1) ∧ w = w' := by
  go_enter Tryz.func12, Tryz.ntmps12
  go_wp2_with fail
  refine (ready_nil w).mono ?_
  rintro e w1 ⟨rfl, rfl⟩
  go_wp2_with fail
  go_ret
  exact ⟨rfl, rfl⟩
end Go.Proofs.YtfcljcikajaedaaGreatDoor
