/- What Commit does to a log and its disk. Conditions: the table of half bytes reads as the program's text lays it; fewer than 2^30 writes that wait; a text of at most 10^6 bytes; the log's block is none of the disk's. -/
import Derived.Test.YtfcljcikajaedaaDoorMg43
namespace Go.Proofs.YtfcljcikajaedaaDoor
open Go.RowKit Go.Maps

/-- What a log is: its head may be, its next number is of 64 bits. -/
structure Lm.ok (l : Lm) : Prop where
  h_ : l.h.ok
  a_ : l.a ≤ 1
  next_ : l.next < 18446744073709551616
  left_ : l.left ≤ 512
theorem pair_eta {α β : Type} (p : α × β) (x : α) (y : β) (h1 : p.1 = x) (h2 : p.2 = y) : p = (x, y) := by rw [← h1, ← h2]
theorem wrap_add (n k : Nat) : IntKind.u64.wrap ((n : Int) + k) = (((n + k) % 18446744073709551616 : Nat) : Int) := by
  simp [IntKind.wrap, IntKind.bits, IntKind.signed]
theorem commit_eq (l : Lm) (d : Dm) (t : List UInt8) (hd : l.dead = false) (h1 : ¬ l.h.n < need t.length) (h2 : ¬ l.left < need t.length) : l.commitS d t = if (Dm.putAll l.h.n (cutL l.next t) d).2 = 0 then ({ l with next := (l.next + need t.length) % 18446744073709551616, left := l.left - need t.length }, (Dm.putAll l.h.n (cutL l.next t) d).1, 0) else ({ l with dead := (Dm.putAll l.h.n (cutL l.next t) d).2 == 4 }, (Dm.putAll l.h.n (cutL l.next t) d).1, (Dm.putAll l.h.n (cutL l.next t) d).2) := by
  unfold Lm.commitS
  rw [hd, if_neg (by decide), if_neg h1, if_neg h2]
section
variable {w : World} {b g : Nat} {d : Dm} {l : Lm} {F : Nat → Prop}
set_option maxRecDepth 100000 in
set_option maxHeartbeats 8000000 in
theorem commit_any (hF : ∀ k, w.heap.size ≤ k → F k) (hFT : ¬ (F 0 ∧ DT w 0)) (hD : Dsk F w b d) (ht : Tbl w) (hb : Box w g 47 (lcs b l)) (ok : l.ok) (t : List UInt8) (htx : t.length ≤ 1000000) (hw : d.wait.length + 10000 < 1073741824) :
    Calls Tryd.prog 10 #[.pointer (some ⟨g, 0, none⟩), .string ⟨t.toArray⟩] w fun e w' => e = .returned (.int .i64 (l.commitS d t).2.2) ∧ Dsk F w' b (l.commitS d t).2.1 ∧ Box w' g 47 (lcs b (l.commitS d t).1) ∧ Kp (fun k => F k ∨ k = g) w w' := by
  have HF := Lib.hid hF
  have HFT := Lib.hid hFT
  have DD := Lib.hid hD
  have HT := Lib.hid ht
  have BL := Lib.hid hb
  have HOK := Lib.hid ok.h_
  have HNX := Lib.hid ok.next_
  have HTX := Lib.hid htx
  have HWT := Lib.hid hw
  have hn0 : 0 < l.h.n := by have := ok.h_.lo; omega
  have hn5 : l.h.n ≤ 512 := ok.h_.hi
  have hl5 := ok.left_
  have htl := note_size t
  have HTL := Lib.hid htl
  have hlen : t.length ≤ 140737488355328 := by omega
  clear hF hFT hD ht ok hw htl
  rcases hdd : l.dead with _ | _
  · have hr := ready_any g b l w hb
    rw [hdd, if_neg (by decide)] at hr
    have c3 := hb.cell 3
    have c7 := hb.cell 7
    have c6 := hb.cell 6
    simp only [lcs] at c3 c7 c6
    simp at c3 c7 c6
    by_cases h1 : l.h.n < need t.length
    · have HX := Lib.hid (show l.commitS d t = (l, d, 6) by simp [Lm.commitS, hdd, h1])
      have hd1 : decide (l.h.n < need t.length) = true := by simpa using h1
      clear hdd h1 hb
      go_enter Tryd.func10, Tryd.ntmps10
      go_wp2_with fail
      refine hr.mono ?_
      clear hr
      rintro e w1 ⟨rfl, rfl⟩
      go_wp2_with fail
      refine (need_any t.length w hlen).mono ?_
      rintro e w1 ⟨rfl, rfl⟩
      generalize need t.length = nd at *
      go_wp2_with fail
      go_ret
      rw [HX.out]
      exact ⟨rfl, DD.out, BL.out, Kp.refl _ _⟩
    by_cases h2 : l.left < need t.length
    · have HX := Lib.hid (show l.commitS d t = (l, d, 5) by simp [Lm.commitS, hdd, h1, h2])
      have hd1 : decide (l.h.n < need t.length) = false := by simpa using h1
      have hd2 : decide (l.left < need t.length) = true := by simpa using h2
      clear hdd h1 h2 hb
      go_enter Tryd.func10, Tryd.ntmps10
      go_wp2_with fail
      refine hr.mono ?_
      clear hr
      rintro e w1 ⟨rfl, rfl⟩
      go_wp2_with fail
      refine (need_any t.length w hlen).mono ?_
      rintro e w1 ⟨rfl, rfl⟩
      generalize need t.length = nd at *
      go_wp2_with fail
      go_ret
      rw [HX.out]
      exact ⟨rfl, DD.out, BL.out, Kp.refl _ _⟩
    · have hX := commit_eq l d t hdd h1 h2
      have hd1 : decide (l.h.n < need t.length) = false := by simpa using h1
      have hd2 : decide (l.left < need t.length) = false := by simpa using h2
      have HDD := Lib.hid hdd
      have H2 := Lib.hid (show need t.length ≤ l.left by omega)
      clear hdd h1 h2 hb
      go_enter Tryd.func10, Tryd.ntmps10
      go_wp2_with fail
      refine hr.mono ?_
      clear hr
      rintro e w1 ⟨rfl, rfl⟩
      go_wp2_with fail
      refine (need_any t.length w hlen).mono ?_
      rintro e w1 ⟨rfl, rfl⟩
      obtain ⟨nd, hnd⟩ : ∃ nd, need t.length = nd := ⟨_, rfl⟩
      rw [hnd] at hd1 hd2 hX H2 ⊢
      obtain ⟨r, hr⟩ : ∃ r, Dm.putAll l.h.n (cutL l.next t) d = r := ⟨_, rfl⟩
      rw [hr] at hX
      obtain ⟨r1, r2⟩ := r
      have HR := Lib.hid hr
      have HX := Lib.hid hX
      clear hnd hr hX
      go_upto_region 9 with fail
      refine wp_region_held_drew (S := fun v => v.cell? ⟨g, 0, none⟩ = some (.pointer (some ⟨b, 0, none⟩)) ∧ v.cell? ⟨g, 3, none⟩ = some (.int .i64 l.h.n) ∧ v.cell? ⟨g, 6, none⟩ = some (.int .u64 l.next)) (by kernel_rfl) (⟨BL.out.cell 0, BL.out.cell 3, BL.out.cell 6⟩) (fun hHeld => ?_)
      refine wpAnyH_take (i := 0) (oi := { dst := some 29, op := Op.move (Operand.tmp 0), type := 23, pos := "wal.go:97", after := #[], guard := none }) (v := ?_) rfl (by kernel_rfl) (by kernel_rfl) (by kernel_rfl) (fun _ _ _ h => h) (Or.inl ⟨by rfl, ?_⟩) (by assumption) ?_
      rotate_left
      · intro v hSw
        try dsimp only at hSw
        go_simp
        with_reducible rfl
      try simp only [Act.put, List.setIfInBounds_toArray, List.set_cons_zero, List.set_cons_succ]
      refine wpAnyH_take (i := 1) (oi := { dst := some 30, op := Op.move (Operand.tmp 0), type := 23, pos := "wal.go:97", after := #[], guard := none }) (v := ?_) rfl (by kernel_rfl) (by kernel_rfl) (by kernel_rfl) (fun _ _ _ h => h) (Or.inl ⟨by rfl, ?_⟩) (by assumption) ?_
      rotate_left
      · intro v hSw
        try dsimp only at hSw
        go_simp
        with_reducible rfl
      try simp only [Act.put, List.setIfInBounds_toArray, List.set_cons_zero, List.set_cons_succ]
      refine wpAnyH_take (i := 2) (oi := { dst := some 31, op := Op.nilCheck (Operand.tmp 30), type := 0, pos := "wal.go:97", after := #[{ on := 1, ground := Ground.data }], guard := none }) (v := ?_) rfl (by kernel_rfl) (by kernel_rfl) (by kernel_rfl) (fun _ _ _ h => h) (Or.inl ⟨by rfl, ?_⟩) (by assumption) ?_
      rotate_left
      · intro v hSw
        try dsimp only at hSw
        go_simp
        with_reducible rfl
      try simp only [Act.put, List.setIfInBounds_toArray, List.set_cons_zero, List.set_cons_succ]
      refine wpAnyH_take (i := 3) (oi := { dst := some 32, op := Op.fieldAddr 47 (Operand.tmp 31) 0, type := 0, pos := "wal.go:97", after := #[{ on := 2, ground := Ground.data }], guard := none }) (v := ?_) rfl (by kernel_rfl) (by kernel_rfl) (by kernel_rfl) (fun _ _ _ h => h) (Or.inl ⟨by rfl, ?_⟩) (by assumption) ?_
      rotate_left
      · intro v hSw
        try dsimp only at hSw
        go_simp
        with_reducible rfl
      try simp only [Act.put, List.setIfInBounds_toArray, List.set_cons_zero, List.set_cons_succ]
      refine wpAnyH_take (i := 4) (oi := { dst := some 33, op := Op.load 34 (Operand.tmp 32), type := 34, pos := "wal.go:97", after := #[{ on := 3, ground := Ground.data }], guard := none }) (v := ?_) rfl (by kernel_rfl) (by kernel_rfl) (by kernel_rfl) (fun _ _ _ h => h) (Or.inl ⟨by rfl, ?_⟩) (by assumption) ?_
      rotate_left
      · intro v hSw
        try dsimp only at hSw
        go_simp
        with_reducible rfl
      try simp only [Act.put, List.setIfInBounds_toArray, List.set_cons_zero, List.set_cons_succ]
      refine wpAnyH_take (i := 5) (oi := { dst := some 34, op := Op.move (Operand.tmp 0), type := 23, pos := "wal.go:97", after := #[], guard := none }) (v := ?_) rfl (by kernel_rfl) (by kernel_rfl) (by kernel_rfl) (fun _ _ _ h => h) (Or.inl ⟨by rfl, ?_⟩) (by assumption) ?_
      rotate_left
      · intro v hSw
        try dsimp only at hSw
        go_simp
        with_reducible rfl
      try simp only [Act.put, List.setIfInBounds_toArray, List.set_cons_zero, List.set_cons_succ]
      refine wpAnyH_take (i := 6) (oi := { dst := some 35, op := Op.nilCheck (Operand.tmp 34), type := 0, pos := "wal.go:97", after := #[{ on := 5, ground := Ground.data }], guard := none }) (v := ?_) rfl (by kernel_rfl) (by kernel_rfl) (by kernel_rfl) (fun _ _ _ h => h) (Or.inl ⟨by rfl, ?_⟩) (by assumption) ?_
      rotate_left
      · intro v hSw
        try dsimp only at hSw
        go_simp
        with_reducible rfl
      try simp only [Act.put, List.setIfInBounds_toArray, List.set_cons_zero, List.set_cons_succ]
      refine wpAnyH_take (i := 7) (oi := { dst := some 36, op := Op.fieldAddr 47 (Operand.tmp 35) 1, type := 0, pos := "wal.go:97", after := #[{ on := 6, ground := Ground.data }], guard := none }) (v := ?_) rfl (by kernel_rfl) (by kernel_rfl) (by kernel_rfl) (fun _ _ _ h => h) (Or.inl ⟨by rfl, ?_⟩) (by assumption) ?_
      rotate_left
      · intro v hSw
        try dsimp only at hSw
        go_simp
        with_reducible rfl
      try simp only [Act.put, List.setIfInBounds_toArray, List.set_cons_zero, List.set_cons_succ]
      refine wpAnyH_take (i := 8) (oi := { dst := some 37, op := Op.fieldAddr 39 (Operand.tmp 36) 2, type := 0, pos := "wal.go:97", after := #[{ on := 7, ground := Ground.data }], guard := none }) (v := ?_) rfl (by kernel_rfl) (by kernel_rfl) (by kernel_rfl) (fun _ _ _ h => h) (Or.inl ⟨by rfl, ?_⟩) (by assumption) ?_
      rotate_left
      · intro v hSw
        try dsimp only at hSw
        go_simp
        with_reducible rfl
      try simp only [Act.put, List.setIfInBounds_toArray, List.set_cons_zero, List.set_cons_succ]
      refine wpAnyH_take (i := 9) (oi := { dst := some 38, op := Op.load 3 (Operand.tmp 37), type := 3, pos := "wal.go:97", after := #[{ on := 8, ground := Ground.data }], guard := none }) (v := ?_) rfl (by kernel_rfl) (by kernel_rfl) (by kernel_rfl) (fun _ _ _ h => h) (Or.inl ⟨by rfl, ?_⟩) (by assumption) ?_
      rotate_left
      · intro v hSw
        try dsimp only at hSw
        go_simp
        with_reducible rfl
      try simp only [Act.put, List.setIfInBounds_toArray, List.set_cons_zero, List.set_cons_succ]
      refine wpAnyH_take (i := 10) (oi := { dst := some 39, op := Op.move (Operand.tmp 0), type := 23, pos := "wal.go:97", after := #[], guard := none }) (v := ?_) rfl (by kernel_rfl) (by kernel_rfl) (by kernel_rfl) (fun _ _ _ h => h) (Or.inl ⟨by rfl, ?_⟩) (by assumption) ?_
      rotate_left
      · intro v hSw
        try dsimp only at hSw
        go_simp
        with_reducible rfl
      try simp only [Act.put, List.setIfInBounds_toArray, List.set_cons_zero, List.set_cons_succ]
      refine wpAnyH_take (i := 11) (oi := { dst := some 40, op := Op.nilCheck (Operand.tmp 39), type := 0, pos := "wal.go:97", after := #[{ on := 10, ground := Ground.data }], guard := none }) (v := ?_) rfl (by kernel_rfl) (by kernel_rfl) (by kernel_rfl) (fun _ _ _ h => h) (Or.inl ⟨by rfl, ?_⟩) (by assumption) ?_
      rotate_left
      · intro v hSw
        try dsimp only at hSw
        go_simp
        with_reducible rfl
      try simp only [Act.put, List.setIfInBounds_toArray, List.set_cons_zero, List.set_cons_succ]
      refine wpAnyH_take (i := 12) (oi := { dst := some 41, op := Op.fieldAddr 47 (Operand.tmp 40) 2, type := 0, pos := "wal.go:97", after := #[{ on := 11, ground := Ground.data }], guard := none }) (v := ?_) rfl (by kernel_rfl) (by kernel_rfl) (by kernel_rfl) (fun _ _ _ h => h) (Or.inl ⟨by rfl, ?_⟩) (by assumption) ?_
      rotate_left
      · intro v hSw
        try dsimp only at hSw
        go_simp
        with_reducible rfl
      try simp only [Act.put, List.setIfInBounds_toArray, List.set_cons_zero, List.set_cons_succ]
      refine wpAnyH_take (i := 13) (oi := { dst := some 42, op := Op.load 37 (Operand.tmp 41), type := 37, pos := "wal.go:97", after := #[{ on := 12, ground := Ground.data }], guard := none }) (v := ?_) rfl (by kernel_rfl) (by kernel_rfl) (by kernel_rfl) (fun _ _ _ h => h) (Or.inl ⟨by rfl, ?_⟩) (by assumption) ?_
      rotate_left
      · intro v hSw
        try dsimp only at hSw
        go_simp
        with_reducible rfl
      try simp only [Act.put, List.setIfInBounds_toArray, List.set_cons_zero, List.set_cons_succ]
      refine wpAnyH_take (i := 14) (oi := { dst := some 43, op := Op.move (Operand.tmp 1), type := 9, pos := "wal.go:97", after := #[], guard := none }) (v := ?_) rfl (by kernel_rfl) (by kernel_rfl) (by kernel_rfl) (fun _ _ _ h => h) (Or.inl ⟨by rfl, ?_⟩) (by assumption) ?_
      rotate_left
      · intro v hSw
        try dsimp only at hSw
        go_simp
        with_reducible rfl
      try simp only [Act.put, List.setIfInBounds_toArray, List.set_cons_zero, List.set_cons_succ]
      refine wpAnyH_ready (rs := [15]) (by kernel_rfl) (by simp) ?_
      refine AllReadyH.cons (o := { dst := some 44, op := Op.call { callee := Callee.value (Operand.func 25), args := #[Operand.tmp 33, Operand.tmp 38, Operand.tmp 42, Operand.tmp 43], argTypes := #[34, 3, 37, 9] }, type := 25, pos := "wal.go:97", after := #[{ on := 4, ground := Ground.data }, { on := 9, ground := Ground.data }, { on := 13, ground := Ground.data }, { on := 14, ground := Ground.data }], guard := none }) rfl (fun K hK => ?_) AllReadyH.nil
      go_simp
      have hpt := put_any2 (w := w.drew) (F := fun k => F k ∧ DT w k) (newG HF.out (Nat.le_refl w.heap.size)) HFT.out (DD.out.still (Kp.refl (fun _ => False) w).drew).bothG (HT.out.kp (S := fun _ => False) (Kp.refl (fun _ => False) w).drew (fun e => e)) l.h.n l.next t hn0 HOK.out.hi HNX.out HTX.out HWT.out
      rw [HR.out] at hpt
      refine hpt.mono ?_
      clear hpt
      rintro e w1 ⟨rfl, hd, hk⟩
      have D1 := Lib.hid (hd.mono (F' := F) (fun _ e => e.1))
      have K1 := Lib.hid ((Kp.refl F w).drew.trans (hk.mono (fun _ _ e => e.1)))
      have B1 := Lib.hid (BL.out.drew.kp hk (fun e => not_DT BL.out.drew ⟨by decide, by decide, by decide⟩ e.2))
      clear hd hk
      go_wp2_with fail
      refine hK.out _ _ (⟨B1.out.cell 0, B1.out.cell 3, B1.out.cell 6⟩) (fun hHeld1 => ?_)
      clear hK K
      try simp only [Act.put, List.setIfInBounds_toArray, List.set_cons_zero, List.set_cons_succ]
      refine wpAnyH_ready (rs := [16]) (by kernel_rfl) (by simp) ?_
      refine AllReadyH.cons (o := { dst := some 45, op := Op.call { callee := Callee.value (Operand.func 24), args := #[Operand.tmp 29, Operand.tmp 44], argTypes := #[23, 25] }, type := 25, pos := "wal.go:97", after := #[{ on := 0, ground := Ground.data }, { on := 15, ground := Ground.data }, { on := 15, ground := Ground.chain }], guard := none }) rfl (fun K hK => ?_) AllReadyH.nil
      go_simp
      refine (hear_any g b l r2 w1 B1.out).mono ?_
      rintro e w2 ⟨rfl, hb, hk⟩
      have B2 := Lib.hid hb
      have D2 := Lib.hid (D1.out.off B1.out ⟨by decide, by decide, by decide⟩ hk)
      have K2 := Lib.hid ((K1.out.mono (S' := fun k => F k ∨ k = g) (fun _ _ e => .inl e)).trans (hk.mono (fun _ _ e => .inr e)))
      clear hb hk
      go_wp2_with fail
      refine hK.out _ _ (⟨B2.out.cell 0, B2.out.cell 3, B2.out.cell 6⟩) (fun hHeld2 => ?_)
      clear hK K
      try simp only [Act.put, List.setIfInBounds_toArray, List.set_cons_zero, List.set_cons_succ]
      refine wpAnyH_take (i := 17) (oi := { dst := some 7, op := Op.assign (Operand.tmp 45), type := 25, pos := "wal.go:97", after := #[{ on := 16, ground := Ground.data }, { on := 16, ground := Ground.chain }, { on := 0, ground := Ground.phase }, { on := 1, ground := Ground.phase }, { on := 2, ground := Ground.phase }, { on := 3, ground := Ground.phase }, { on := 4, ground := Ground.phase }, { on := 5, ground := Ground.phase }, { on := 6, ground := Ground.phase }, { on := 7, ground := Ground.phase }, { on := 8, ground := Ground.phase }, { on := 9, ground := Ground.phase }, { on := 10, ground := Ground.phase }, { on := 11, ground := Ground.phase }, { on := 12, ground := Ground.phase }, { on := 13, ground := Ground.phase }, { on := 14, ground := Ground.phase }, { on := 15, ground := Ground.phase }, { on := 16, ground := Ground.phase }], guard := none }) (v := ?_) rfl (by kernel_rfl) (by kernel_rfl) (by kernel_rfl) (fun _ _ _ h => h) (Or.inl ⟨by rfl, ?_⟩) (by assumption) ?_
      rotate_left
      · intro v hSw
        try dsimp only at hSw
        go_simp
        with_reducible rfl
      try simp only [Act.put, List.setIfInBounds_toArray, List.set_cons_zero, List.set_cons_succ]
      refine wpAnyH_done (by kernel_rfl) ?_ _
      clear c3 c6 c7 hHeld hHeld1 hHeld2
      by_cases hz : r2 = 0
      · subst hz
        have HX2 := Lib.hid (HX.out.trans (if_pos rfl))
        have HB := Lib.hid (show Box w2 g 47 (lcs b l) by
          have := B2.out
          have e : ({ l with dead := l.dead || (0 : Int) == 4 } : Lm) = l := by rw [show ((0 : Int) == 4) = false from rfl, Bool.or_false]
          rwa [e] at this)
        have c6 := HB.out.cell 6
        have c7 := HB.out.cell 7
        have f6 := HB.out.free 6
        have f7 := HB.out.free 7
        simp only [lcs] at c6 c7
        simp at c6 c7
        have hwn : IntKind.u64.wrap (nd : Int) = nd := IntWalk.u64_in _ (by have := H2.out; omega)
        have hsb : IntKind.i64.wrap ((l.left : Int) - nd) = ((l.left - nd : Nat) : Int) := by rw [IntWalk.i64_in _ (by have := H2.out; omega)]; have := H2.out; omega
        have h2 := H2.out
        go_wp2_with fail
        have e1 : IntKind.u64.wrap ((l.next : Int) + nd) = (((l.next + nd) % 18446744073709551616 : Nat) : Int) := wrap_add l.next nd
        have HP := (HB.out.put 6 (.int .u64 (IntKind.u64.wrap ((l.next : Int) + nd)))).put 7 (.int .i64 ((l.left - nd : Nat) : Int))
        have hd := D2.out.off HB.out ⟨by decide, by decide, by decide⟩ ((Kp.one w2 g 6 (.int .u64 (IntKind.u64.wrap ((l.next : Int) + nd)))).trans (Kp.one _ g 7 (.int .i64 ((l.left - nd : Nat) : Int))))
        have hk := (K2.out.setCell (p := ⟨g, 6, none⟩) (.inr (.inr rfl)) (.int .u64 (IntKind.u64.wrap ((l.next : Int) + nd)))).setCell (p := ⟨g, 7, none⟩) (.inr (.inr rfl)) (.int .i64 ((l.left - nd : Nat) : Int))
        go_ret
        rw [HX2.out]
        refine ⟨rfl, hd, ?_, hk⟩
        rw [e1] at HP
        rw [e1]
        exact HP
      · have HX2 := Lib.hid (HX.out.trans (if_neg hz))
        have hne : (r2 != 0) = true := by simpa using hz
        have HB := Lib.hid (show Box w2 g 47 (lcs b { l with dead := r2 == 4 }) by
          have := B2.out
          have e : ({ l with dead := l.dead || r2 == 4 } : Lm) = { l with dead := r2 == 4 } := by rw [HDD.out, Bool.false_or]
          rwa [e] at this)
        clear hz
        go_wp2_with fail
        go_ret
        rw [HX2.out]
        exact ⟨rfl, D2.out, HB.out, K2.out⟩
  · have hr := ready_any g b l w hb
    rw [hdd, if_pos rfl] at hr
    have HX := Lib.hid (show l.commitS d t = (l, d, 4) by simp [Lm.commitS, hdd])
    clear hdd hb
    go_enter Tryd.func10, Tryd.ntmps10
    go_wp2_with fail
    refine hr.mono ?_
    clear hr
    rintro e w1 ⟨rfl, rfl⟩
    go_wp2_with fail
    go_ret
    rw [HX.out]
    exact ⟨rfl, DD.out, BL.out, Kp.refl _ _⟩
end
set_option maxHeartbeats 400000 in
theorem commit_nil (w : World) (s : ByteArray) :
    Calls Tryd.prog 10 #[.pointer none, .string s] w fun e w' => e = .returned (.int .i64 1) ∧ w = w' := by
  go_enter Tryd.func10, Tryd.ntmps10
  go_wp2_with fail
  refine (ready_nil w).mono ?_
  rintro e w1 ⟨rfl, rfl⟩
  go_wp2_with fail
  go_ret
  exact ⟨rfl, rfl⟩
end Go.Proofs.YtfcljcikajaedaaDoor
