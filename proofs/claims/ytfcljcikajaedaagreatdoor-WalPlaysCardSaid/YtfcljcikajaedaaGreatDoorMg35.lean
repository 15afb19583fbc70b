/- What wal.Open answers: a disk's log, and its texts; and what a log says of itself. Conditions: the table of half bytes reads as the program's text lays it; the log's first number is below 2^64 - 513. -/
import Derived.Test.YtfcljcikajaedaaGreatDoorMg3
import Derived.Test.YtfcljcikajaedaaGreatDoorMg33
namespace Go.Proofs.YtfcljcikajaedaaGreatDoor
open Go.RowKit Go.Maps

/-- What Open answers. -/
def OpenP (w : World) (b : Nat) (x : Option (Lm × List (List UInt8)) × Int) (e : Ending) (w' : World) : Prop := match x with
  | (none, c) => e = .returned (.tuple #[.pointer none, .slice none 0 0, .int .i64 c]) ∧ Kp (fun _ => False) w w'
  | (some (l, u), _) => ∃ g v, e = .returned (.tuple #[.pointer (some ⟨g, 0, none⟩), v, .int .i64 0]) ∧ Box w' g 93 (lcs b l) ∧ w'.ownsRow w.heap.size 9 1 v u.length (strs u) ∧ w.heap.size ≤ g ∧ Kp (fun _ => False) w w'
theorem own_base' {w : World} {B B' : Nat} {e : TypeId} {size n : Nat} {v : Value} {xs : List Value} (h : w.ownsRow B e size v n xs) (hB : B' ≤ B) : w.ownsRow B' e size v n xs := by
  refine ⟨h.1, ?_⟩
  rcases h.2 with h2 | ⟨g, cap, cur, rfl, hb, r⟩
  · exact .inl h2
  · exact .inr ⟨g, cap, cur, rfl, Nat.le_trans hB hb, r⟩
section
variable {w : World} {b : Nat} {d : Dm} {F : Nat → Prop}
set_option maxRecDepth 100000 in
set_option maxHeartbeats 8000000 in
theorem open_any (hD : Dsk F w b d) (ht : Tbl w) (hfb : ∀ h a, d.heads = some (h, a) → h.f + 513 < 18446744073709551616) :
    Calls Tryz.prog 11 #[.pointer (some ⟨b, 0, none⟩)] w (OpenP w b d.openS) := by
  have DD := Lib.hid hD
  have HT := Lib.hid ht
  have hfew : d.on.length ≤ 4096 := by obtain ⟨_, _, _, h1, _⟩ := hD; exact h1.ok.few
  have hfm : d.openS = if !d.power then (none, (4 : Int)) else match d.heads with
      | none => (none, (12 : Int))
      | some (h, a) => if 2 + h.n ≤ d.on.length then (some ((⟨h, a, nextF d.nowAt h.n h.f, 0, false⟩ : Lm), textsF d.nowAt h.n h.f), (0 : Int)) else (none, (12 : Int)) := rfl
  have hcv : countV d = if d.power then (match d.heads with
      | some (h, a) => .tuple #[.agg (hcs h a).toArray, .bool true, .int .i64 0]
      | none => .tuple #[.agg #[.int .u64 0, .int .u64 0, .int .i64 0, .string ⟨#[]⟩, .int .i64 0], .bool false, .int .i64 0])
    else .tuple #[.agg #[.int .u64 0, .int .u64 0, .int .i64 0, .string ⟨#[]⟩, .int .i64 0], .bool false, .int .i64 4] := rfl
  clear hD ht
  rcases hpw : d.power with _ | _
  · have HX := Lib.hid (show d.openS = (none, 4) by rw [hfm, hpw]; rfl)
    have HCV := Lib.hid (show countV d = .tuple #[.agg #[.int .u64 0, .int .u64 0, .int .i64 0, .string ⟨#[]⟩, .int .i64 0], .bool false, .int .i64 4] by rw [hcv, hpw]; rfl)
    clear hfm hcv hpw hfb
    go_enter Tryz.func11, Tryz.ntmps11
    go_wp2_with fail
    refine (counting_any DD.out HT.out).mono ?_
    rintro e w1 ⟨rfl, hk⟩
    rw [HCV.out]
    have B2 := Lib.hid (Box.new w1 84 #[.int .u64 0, .int .u64 0, .int .i64 0, .string ⟨#[]⟩, .int .i64 0])
    have K2 := Lib.hid (hk.alloc (.cells #[.int .u64 0, .int .u64 0, .int .i64 0, .string ⟨#[]⟩, .int .i64 0] 84))
    have hg5 := hk.size
    clear hk
    go_upto_region 4 with fail
    generalize w1.alloc (.cells #[.int .u64 0, .int .u64 0, .int .i64 0, .string ⟨#[]⟩, .int .i64 0] 84) = w2 at *
    generalize w1.heap.size = g5 at *
    have D2 := Lib.hid (DD.out.still K2.out)
    go_wp2_with fail
    refine bodyPost_ret (v := .tuple #[.pointer none, .slice none 0 0, .int .i64 4]) (by simp [results, Tryz.results11, go_sem]) rfl ?_
    rw [HX.out]
    exact ⟨rfl, K2.out⟩
  rw [hpw, Bool.not_true, if_neg (by decide)] at hfm
  rw [hpw, if_pos rfl] at hcv
  rcases hh : d.heads with _ | ⟨h, a⟩
  · rw [hh] at hfm hcv
    have HX := Lib.hid hfm
    have HCV := Lib.hid hcv
    clear hfm hcv hpw hfb hh
    go_enter Tryz.func11, Tryz.ntmps11
    go_wp2_with fail
    refine (counting_any DD.out HT.out).mono ?_
    rintro e w1 ⟨rfl, hk⟩
    rw [HCV.out]
    have B2 := Lib.hid (Box.new w1 84 #[.int .u64 0, .int .u64 0, .int .i64 0, .string ⟨#[]⟩, .int .i64 0])
    have K2 := Lib.hid (hk.alloc (.cells #[.int .u64 0, .int .u64 0, .int .i64 0, .string ⟨#[]⟩, .int .i64 0] 84))
    have hg5 := hk.size
    clear hk
    go_upto_region 4 with fail
    generalize w1.alloc (.cells #[.int .u64 0, .int .u64 0, .int .i64 0, .string ⟨#[]⟩, .int .i64 0] 84) = w2 at *
    generalize w1.heap.size = g5 at *
    have D2 := Lib.hid (DD.out.still K2.out)
    go_upto_region 6 with fail
    refine wp_region_held_drew (S := fun v => v.cell? ⟨g5, 0, none⟩ = some (.int .u64 0) ∧ v.cell? ⟨g5, 1, none⟩ = some (.int .u64 0) ∧ v.cell? ⟨g5, 2, none⟩ = some (.int .i64 0) ∧ v.cell? ⟨g5, 3, none⟩ = some (.string ⟨#[]⟩) ∧ v.cell? ⟨g5, 4, none⟩ = some (.int .i64 0)) (by kernel_rfl) (⟨(B2.out.cell 0), (B2.out.cell 1), (B2.out.cell 2), (B2.out.cell 3), (B2.out.cell 4)⟩) (fun hHeld => ?_)
    refine tk 0 (h := ?_)
    refine tk 1 (h := ?_)
    refine tk 2 (h := ?_)
    refine sk 3 (h := ?_)
    refine sk 4 (h := ?_)
    refine sk 5 (h := ?_)
    refine sk 6 (h := ?_)
    refine sk 7 (h := ?_)
    refine sk 8 (h := ?_)
    refine tk 9 (h := ?_)
    refine wpAnyH_done (by kernel_rfl) ?_ _
    go_wp2_with fail
    refine bodyPost_ret (v := .tuple #[.pointer none, .slice none 0 0, .int .i64 12]) (by simp [results, Tryz.results11, go_sem]) rfl ?_
    rw [HX.out]
    exact ⟨rfl, K2.out.drew⟩
  · have hok : h.ok := by
      rcases countS_at hh with ⟨_, e⟩ | ⟨_, e⟩ <;> exact (headS_some e).2.2.1
    have HOK := Lib.hid hok
    have HFB := Lib.hid (hfb h a hh)
    have hn0 : 0 < h.n := by have := hok.lo; omega
    have hn5 : h.n ≤ 512 := hok.hi
    rw [hh] at hfm hcv
    simp only [hcs] at hcv
    have HCV := Lib.hid hcv
    have HPW := Lib.hid hpw
    by_cases hlen : 2 + h.n ≤ d.on.length
    · obtain ⟨z, hz⟩ : ∃ z : Int, 2 + (h.n : Int) = z := ⟨_, rfl⟩
      have hd1 : decide ((d.on.length : Int) < z) = false := by simp; omega
      have hwn : IntKind.i64.wrap (2 + (h.n : Int)) = z := by rw [IntWalk.i64_in _ (by omega)]; exact hz
      have HX := Lib.hid (show d.openS = (some ((⟨h, a, nextF d.nowAt h.n h.f, 0, false⟩ : Lm), textsF d.nowAt h.n h.f), 0) by rw [hfm]; dsimp only; rw [if_pos hlen])
      clear hfm hcv hpw hfb hh hok hz
      go_enter Tryz.func11, Tryz.ntmps11
      go_wp2_with fail
      refine (counting_any DD.out HT.out).mono ?_
      rintro e w1 ⟨rfl, hk⟩
      rw [HCV.out]
      have B2 := Lib.hid (Box.new w1 84 #[.int .u64 h.g, .int .u64 h.f, .int .i64 h.n, .string ⟨h.note.toArray⟩, .int .i64 a])
      have K2 := Lib.hid (hk.alloc (.cells #[.int .u64 h.g, .int .u64 h.f, .int .i64 h.n, .string ⟨h.note.toArray⟩, .int .i64 a] 84))
      have hg5 := hk.size
      clear hk
      go_upto_region 4 with fail
      generalize w1.alloc (.cells #[.int .u64 h.g, .int .u64 h.f, .int .i64 h.n, .string ⟨h.note.toArray⟩, .int .i64 a] 84) = w2 at *
      generalize w1.heap.size = g5 at *
      have D2 := Lib.hid (DD.out.still K2.out)
      go_upto_region 6 with fail
      refine wp_region_held_drew (S := fun v => v.cell? ⟨g5, 0, none⟩ = some (.int .u64 h.g) ∧ v.cell? ⟨g5, 1, none⟩ = some (.int .u64 h.f) ∧ v.cell? ⟨g5, 2, none⟩ = some (.int .i64 h.n) ∧ v.cell? ⟨g5, 3, none⟩ = some (.string ⟨h.note.toArray⟩) ∧ v.cell? ⟨g5, 4, none⟩ = some (.int .i64 a)) (by kernel_rfl) (⟨(B2.out.cell 0), (B2.out.cell 1), (B2.out.cell 2), (B2.out.cell 3), (B2.out.cell 4)⟩) (fun hHeld => ?_)
      refine tk 0 (h := ?_)
      refine tk 1 (h := ?_)
      refine tk 2 (h := ?_)
      refine tk 3 (h := ?_)
      refine tk 4 (h := ?_)
      refine tk 5 (h := ?_)
      refine tk 6 (h := ?_)
      refine rd 7 (h := fun K hK => ?_)
      go_simp
      refine (len_any (D2.out.still (Kp.refl (fun _ => False) w2).drew)).mono ?_
      rintro e w3 ⟨rfl, rfl⟩
      go_wp2_with fail
      refine hK.out _ _ (⟨(B2.out.drew.cell 0), (B2.out.drew.cell 1), (B2.out.drew.cell 2), (B2.out.drew.cell 3), (B2.out.drew.cell 4)⟩) (fun hHeld1 => ?_)
      clear hK K
      try simp only [Act.put, List.setIfInBounds_toArray, List.set_cons_zero, List.set_cons_succ]
      refine tk 8 (h := ?_)
      refine tk 9 (h := ?_)
      refine wpAnyH_done (by kernel_rfl) ?_ _
      clear hwn hd1 hHeld
      have B3 := Lib.hid (B2.out.drew)
      have K3 := Lib.hid (K2.out.drew)
      have D3 := Lib.hid (DD.out.still K3.out)
      generalize w2.drew = w3 at *
      have c2 := B3.out.cell 2
      simp at c2
      go_wp2_with fail
      refine (inPlace_any D3.out (HT.out.kp K3.out (fun e => e)) h.n hn0 hn5 hlen HPW.out).mono ?_
      rintro e w4 ⟨gm, rfl, _, hfm3, hk3⟩
      have B4 := Lib.hid (B3.out.kp hk3 (fun e => e))
      have K4 := Lib.hid (K3.out.trans hk3)
      have F4 := Lib.hid hfm3
      clear hfm3 hk3 c2
      go_upto_region 11 with fail
      refine wp_region_held_drew (S := fun v => v.cell? ⟨g5, 0, none⟩ = some (.int .u64 h.g) ∧ v.cell? ⟨g5, 1, none⟩ = some (.int .u64 h.f) ∧ v.cell? ⟨g5, 2, none⟩ = some (.int .i64 h.n) ∧ v.cell? ⟨g5, 3, none⟩ = some (.string ⟨h.note.toArray⟩) ∧ v.cell? ⟨g5, 4, none⟩ = some (.int .i64 a)) (by kernel_rfl) (⟨(B4.out.cell 0), (B4.out.cell 1), (B4.out.cell 2), (B4.out.cell 3), (B4.out.cell 4)⟩) (fun hHeld => ?_)
      refine tk 0 (h := ?_)
      refine tk 1 (h := ?_)
      refine tk 2 (h := ?_)
      refine tk 3 (h := ?_)
      refine tk 4 (h := ?_)
      refine tk 8 (h := ?_)
      refine tk 9 (h := ?_)
      refine tk 10 (h := ?_)
      refine rd 5 (h := fun K hK => ?_)
      go_simp
      refine (behind_any (F4.out.kp (Kp.refl (fun _ => False) w4).drew (fun e => e)) (fun q s hs => by have h1 := sheetF_q hs; rw [← h1.1]; exact (takeS_lt h1.2).1) h.f HOK.out.f_).mono ?_
      rintro e w5 ⟨r, rfl, hr, hk⟩
      have B5 := Lib.hid ((B4.out.drew).kp hk (fun e => e))
      have K5 := Lib.hid (K4.out.drew.trans hk)
      have F5 := Lib.hid (F4.out.kp ((Kp.refl (fun _ => False) w4).drew.trans hk) (fun e => e))
      have HRN := Lib.hid (hr.one (nextF_is d.nowAt h.n h.f hn0))
      clear hr hk
      go_wp2_with fail
      refine hK.out _ _ (⟨(B5.out.cell 0), (B5.out.cell 1), (B5.out.cell 2), (B5.out.cell 3), (B5.out.cell 4)⟩) (fun hHeld2 => ?_)
      clear hK K
      try simp only [Act.put, List.setIfInBounds_toArray, List.set_cons_zero, List.set_cons_succ]
      refine tk 6 (h := ?_)
      refine wpAnyH_ready (rs := [7, 11]) (by kernel_rfl) (by simp) ?_
      refine rdc 7 (h := fun K hK => ?_) (hs := rdc 11 (h := fun K hK => ?_) (hs := AllReadyH.nil))
      · go_simp
        have B6 := Lib.hid (B5.out.alloc (.cells #[.pointer (some ⟨b, 0, none⟩), .int .u64 h.g, .int .u64 h.f, .int .i64 h.n, .string ⟨h.note.toArray⟩, .int .i64 a, .int .u64 r, .int .i64 0, .bool false] 93))
        have K6 := Lib.hid (K5.out.alloc (.cells #[.pointer (some ⟨b, 0, none⟩), .int .u64 h.g, .int .u64 h.f, .int .i64 h.n, .string ⟨h.note.toArray⟩, .int .i64 a, .int .u64 r, .int .i64 0, .bool false] 93))
        have G6 := Lib.hid (Box.new w5 93 #[.pointer (some ⟨b, 0, none⟩), .int .u64 h.g, .int .u64 h.f, .int .i64 h.n, .string ⟨h.note.toArray⟩, .int .i64 a, .int .u64 r, .int .i64 0, .bool false])
        have F6 := Lib.hid (F5.out.kp ((Kp.refl (fun _ => False) w5).alloc (.cells #[.pointer (some ⟨b, 0, none⟩), .int .u64 h.g, .int .u64 h.f, .int .i64 h.n, .string ⟨h.note.toArray⟩, .int .i64 a, .int .u64 r, .int .i64 0, .bool false] 93)) (fun e => e))
        have hlt := G6.out.lt
        have hgg := K5.out.size
        generalize w5.alloc (.cells #[.pointer (some ⟨b, 0, none⟩), .int .u64 h.g, .int .u64 h.f, .int .i64 h.n, .string ⟨h.note.toArray⟩, .int .i64 a, .int .u64 r, .int .i64 0, .bool false] 93) = w6 at *
        generalize w5.heap.size = g at *
        refine hK.out _ _ (⟨(B6.out.cell 0), (B6.out.cell 1), (B6.out.cell 2), (B6.out.cell 3), (B6.out.cell 4)⟩) (fun hHeld3 => ?_)
        clear hK K
        try simp only [Act.put, List.setIfInBounds_toArray, List.set_cons_zero, List.set_cons_succ]
        refine rd 11 (h := fun K hK => ?_)
        go_simp
        refine (texts_any F6.out hn0 HOK.out.hi h.f HFB.out).mono ?_
        rintro e w7 ⟨v, rfl, hown, hk⟩
        obtain ⟨A, c, rfl⟩ := own_shape3 hown
        have B7 := Lib.hid (B6.out.kp hk (fun e => e))
        have K7 := Lib.hid (K6.out.trans hk)
        have R7 := Lib.hid (own_base' hown K6.out.size)
        have G7 := Lib.hid (G6.out.kp hk (fun e => e))
        clear hown hk
        go_wp2_with fail
        refine hK.out _ _ (⟨(B7.out.cell 0), (B7.out.cell 1), (B7.out.cell 2), (B7.out.cell 3), (B7.out.cell 4)⟩) (fun hHeld4 => ?_)
        clear hK K
        try simp only [Act.put, List.setIfInBounds_toArray, List.set_cons_zero, List.set_cons_succ]
        refine tk 12 (h := ?_)
        refine tk 13 (h := ?_)
        refine tk 14 (h := ?_)
        refine wpAnyH_done (by kernel_rfl) ?_ _
        go_wp2_with fail
        refine bodyPost_ret (v := .tuple #[.pointer (some ⟨g, 0, none⟩), .slice A (textsF d.nowAt h.n h.f).length c, .int .i64 0]) (by simp [results, Tryz.results11, go_sem]) rfl ?_
        rw [HX.out]
        refine ⟨g, .slice A (textsF d.nowAt h.n h.f).length c, rfl, ?_, R7.out, hgg, K7.out⟩
        have := G7.out
        rw [HRN.out] at this
        exact this
      · go_simp
        refine (texts_any F5.out hn0 HOK.out.hi h.f HFB.out).mono ?_
        rintro e w6 ⟨v, rfl, hown, hk⟩
        obtain ⟨A, c, rfl⟩ := own_shape3 hown
        have B6 := Lib.hid (B5.out.kp hk (fun e => e))
        have K6 := Lib.hid (K5.out.trans hk)
        have R6 := Lib.hid (own_base' hown K5.out.size)
        clear hown hk
        go_wp2_with fail
        refine hK.out _ _ (⟨(B6.out.cell 0), (B6.out.cell 1), (B6.out.cell 2), (B6.out.cell 3), (B6.out.cell 4)⟩) (fun hHeld5 => ?_)
        clear hK K
        try simp only [Act.put, List.setIfInBounds_toArray, List.set_cons_zero, List.set_cons_succ]
        refine rd 7 (h := fun K hK => ?_)
        go_simp
        have B7 := Lib.hid (B6.out.alloc (.cells #[.pointer (some ⟨b, 0, none⟩), .int .u64 h.g, .int .u64 h.f, .int .i64 h.n, .string ⟨h.note.toArray⟩, .int .i64 a, .int .u64 r, .int .i64 0, .bool false] 93))
        have K7 := Lib.hid (K6.out.alloc (.cells #[.pointer (some ⟨b, 0, none⟩), .int .u64 h.g, .int .u64 h.f, .int .i64 h.n, .string ⟨h.note.toArray⟩, .int .i64 a, .int .u64 r, .int .i64 0, .bool false] 93))
        have G7 := Lib.hid (Box.new w6 93 #[.pointer (some ⟨b, 0, none⟩), .int .u64 h.g, .int .u64 h.f, .int .i64 h.n, .string ⟨h.note.toArray⟩, .int .i64 a, .int .u64 r, .int .i64 0, .bool false])
        have R7 := Lib.hid (R6.out.alloc (.cells #[.pointer (some ⟨b, 0, none⟩), .int .u64 h.g, .int .u64 h.f, .int .i64 h.n, .string ⟨h.note.toArray⟩, .int .i64 a, .int .u64 r, .int .i64 0, .bool false] 93))
        have hgg := K6.out.size
        generalize w6.alloc (.cells #[.pointer (some ⟨b, 0, none⟩), .int .u64 h.g, .int .u64 h.f, .int .i64 h.n, .string ⟨h.note.toArray⟩, .int .i64 a, .int .u64 r, .int .i64 0, .bool false] 93) = w7 at *
        generalize w6.heap.size = g at *
        refine hK.out _ _ (⟨(B7.out.cell 0), (B7.out.cell 1), (B7.out.cell 2), (B7.out.cell 3), (B7.out.cell 4)⟩) (fun hHeld6 => ?_)
        clear hK K
        try simp only [Act.put, List.setIfInBounds_toArray, List.set_cons_zero, List.set_cons_succ]
        refine tk 12 (h := ?_)
        refine tk 13 (h := ?_)
        refine tk 14 (h := ?_)
        refine wpAnyH_done (by kernel_rfl) ?_ _
        go_wp2_with fail
        refine bodyPost_ret (v := .tuple #[.pointer (some ⟨g, 0, none⟩), .slice A (textsF d.nowAt h.n h.f).length c, .int .i64 0]) (by simp [results, Tryz.results11, go_sem]) rfl ?_
        rw [HX.out]
        refine ⟨g, .slice A (textsF d.nowAt h.n h.f).length c, rfl, ?_, R7.out, hgg, K7.out⟩
        have := G7.out
        rw [HRN.out] at this
        exact this
    · obtain ⟨z, hz⟩ : ∃ z : Int, 2 + (h.n : Int) = z := ⟨_, rfl⟩
      have hd1 : decide ((d.on.length : Int) < z) = true := by simp; omega
      have hwn : IntKind.i64.wrap (2 + (h.n : Int)) = z := by rw [IntWalk.i64_in _ (by omega)]; exact hz
      have HX := Lib.hid (show d.openS = (none, 12) by rw [hfm]; dsimp only; rw [if_neg hlen])
      clear hfm hcv hpw hfb hh hok hz
      go_enter Tryz.func11, Tryz.ntmps11
      go_wp2_with fail
      refine (counting_any DD.out HT.out).mono ?_
      rintro e w1 ⟨rfl, hk⟩
      rw [HCV.out]
      have B2 := Lib.hid (Box.new w1 84 #[.int .u64 h.g, .int .u64 h.f, .int .i64 h.n, .string ⟨h.note.toArray⟩, .int .i64 a])
      have K2 := Lib.hid (hk.alloc (.cells #[.int .u64 h.g, .int .u64 h.f, .int .i64 h.n, .string ⟨h.note.toArray⟩, .int .i64 a] 84))
      have hg5 := hk.size
      clear hk
      go_upto_region 4 with fail
      generalize w1.alloc (.cells #[.int .u64 h.g, .int .u64 h.f, .int .i64 h.n, .string ⟨h.note.toArray⟩, .int .i64 a] 84) = w2 at *
      generalize w1.heap.size = g5 at *
      have D2 := Lib.hid (DD.out.still K2.out)
      go_upto_region 6 with fail
      refine wp_region_held_drew (S := fun v => v.cell? ⟨g5, 0, none⟩ = some (.int .u64 h.g) ∧ v.cell? ⟨g5, 1, none⟩ = some (.int .u64 h.f) ∧ v.cell? ⟨g5, 2, none⟩ = some (.int .i64 h.n) ∧ v.cell? ⟨g5, 3, none⟩ = some (.string ⟨h.note.toArray⟩) ∧ v.cell? ⟨g5, 4, none⟩ = some (.int .i64 a)) (by kernel_rfl) (⟨(B2.out.cell 0), (B2.out.cell 1), (B2.out.cell 2), (B2.out.cell 3), (B2.out.cell 4)⟩) (fun hHeld => ?_)
      refine tk 0 (h := ?_)
      refine tk 1 (h := ?_)
      refine tk 2 (h := ?_)
      refine tk 3 (h := ?_)
      refine tk 4 (h := ?_)
      refine tk 5 (h := ?_)
      refine tk 6 (h := ?_)
      refine rd 7 (h := fun K hK => ?_)
      go_simp
      refine (len_any (D2.out.still (Kp.refl (fun _ => False) w2).drew)).mono ?_
      rintro e w3 ⟨rfl, rfl⟩
      go_wp2_with fail
      refine hK.out _ _ (⟨(B2.out.drew.cell 0), (B2.out.drew.cell 1), (B2.out.drew.cell 2), (B2.out.drew.cell 3), (B2.out.drew.cell 4)⟩) (fun hHeld7 => ?_)
      clear hK K
      try simp only [Act.put, List.setIfInBounds_toArray, List.set_cons_zero, List.set_cons_succ]
      refine tk 8 (h := ?_)
      refine tk 9 (h := ?_)
      refine wpAnyH_done (by kernel_rfl) ?_ _
      go_wp2_with fail
      refine bodyPost_ret (v := .tuple #[.pointer none, .slice none 0 0, .int .i64 12]) (by simp [results, Tryz.results11, go_sem]) rfl ?_
      rw [HX.out]
      exact ⟨rfl, K2.out.drew⟩
end
set_option maxHeartbeats 400000 in
theorem open_nil (w : World) :
    Calls Tryz.prog 11 #[.pointer none] w fun e w' => e = .returned (.tuple #[.pointer none, .slice none 0 0, .int .i64 1]) ∧ w = w' := by
  go_enter Tryz.func11, Tryz.ntmps11
  go_wp2_with fail
  refine bodyPost_ret (v := .tuple #[.pointer none, .slice none 0 0, .int .i64 1]) (by simp [results, Tryz.results11, go_sem]) rfl ⟨rfl, rfl⟩
set_option maxHeartbeats 400000 in
theorem lnote_any {w : World} {g b : Nat} {l : Lm} (h : Box w g 93 (lcs b l)) :
    Calls Tryz.prog 21 #[.pointer (some ⟨g, 0, none⟩)] w fun e w' => e = .returned (.string ⟨l.h.note.toArray⟩) ∧ w = w' := by
  have c := h.cell 4
  simp [lcs] at c
  clear h
  go_enter Tryz.func21, Tryz.ntmps21
  go_wp2_with fail
  go_ret
  exact ⟨rfl, rfl⟩
set_option maxHeartbeats 400000 in
theorem lnote_nil (w : World) :
    Calls Tryz.prog 21 #[.pointer none] w fun e w' => e = .returned (.string ⟨#[]⟩) ∧ w = w' := by
  go_enter Tryz.func21, Tryz.ntmps21
  go_wp2_with fail
  go_ret
  exact ⟨rfl, rfl⟩
set_option maxHeartbeats 400000 in
theorem lsectors_any {w : World} {g b : Nat} {l : Lm} (h : Box w g 93 (lcs b l)) :
    Calls Tryz.prog 22 #[.pointer (some ⟨g, 0, none⟩)] w fun e w' => e = .returned (.int .i64 l.h.n) ∧ w = w' := by
  have c := h.cell 3
  simp [lcs] at c
  clear h
  go_enter Tryz.func22, Tryz.ntmps22
  go_wp2_with fail
  go_ret
  exact ⟨rfl, rfl⟩
set_option maxHeartbeats 400000 in
theorem lsectors_nil (w : World) :
    Calls Tryz.prog 22 #[.pointer none] w fun e w' => e = .returned (.int .i64 0) ∧ w = w' := by
  go_enter Tryz.func22, Tryz.ntmps22
  go_wp2_with fail
  go_ret
  exact ⟨rfl, rfl⟩
set_option maxHeartbeats 400000 in
theorem lleft_any {w : World} {g b : Nat} {l : Lm} (h : Box w g 93 (lcs b l)) :
    Calls Tryz.prog 20 #[.pointer (some ⟨g, 0, none⟩)] w fun e w' => e = .returned (.int .i64 l.left) ∧ w = w' := by
  have c := h.cell 7
  simp [lcs] at c
  clear h
  go_enter Tryz.func20, Tryz.ntmps20
  go_wp2_with fail
  go_ret
  exact ⟨rfl, rfl⟩
set_option maxHeartbeats 400000 in
theorem lleft_nil (w : World) :
    Calls Tryz.prog 20 #[.pointer none] w fun e w' => e = .returned (.int .i64 0) ∧ w = w' := by
  go_enter Tryz.func20, Tryz.ntmps20
  go_wp2_with fail
  go_ret
  exact ⟨rfl, rfl⟩
end Go.Proofs.YtfcljcikajaedaaGreatDoor
