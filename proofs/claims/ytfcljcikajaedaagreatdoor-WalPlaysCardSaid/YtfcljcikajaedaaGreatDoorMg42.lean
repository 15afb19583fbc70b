/- Trim of a live log in the document's own words. Conditions: the disk's own; the log's own. -/
import Derived.Test.YtfcljcikajaedaaGreatDoorMg3
import Derived.Test.YtfcljcikajaedaaGreatDoorMg38
namespace Go.Proofs.YtfcljcikajaedaaGreatDoor
open Go.RowKit Go.Maps

set_option maxRecDepth 100000 in
set_option maxHeartbeats 8000000 in
theorem rtrim_any {w : World} {vo vw : Value} {d : Dm} (h0 : Rf w vo vw d) (ok : d.ok) (hw : d.wait.length + 1 < 1073741824) (l : Lm) (u : Int) (hl : l.dead = false) (ha : l.a ≤ 1) (okh : l.newHead.ok) :
    Calls Tryz.prog 54 #[.agg (mcs l u).toArray, .agg (rcs d vo vw)] w fun e w' => ∃ vo' vw', e = .returned (.tuple #[.agg (if (d.putHead (otherI l.a) l.newHead).2 = 0 then mcs ({ l with h := l.newHead, a := otherI l.a } : Lm) 0 else mcs ({ l with dead := true } : Lm) u).toArray, .agg (rcs (d.putHead (otherI l.a) l.newHead).1 vo' vw'), .int .i64 (d.putHead (otherI l.a) l.newHead).2]) ∧ Rf w' vo' vw' (d.putHead (otherI l.a) l.newHead).1 ∧ Kp (fun _ => False) w w' := by
  obtain ⟨D9, e9, h9⟩ : ∃ D9 e9, d.putHead (otherI l.a) l.newHead = (D9, e9) := ⟨_, _, rfl⟩
  have HPU : Hid (∀ w : World, Rf w vo vw d → Calls Tryz.prog 58 #[.agg (rcs d vo vw), .int .i64 (otherI l.a : Nat), .agg (hcsR l.newHead)] w fun e w' => ∃ vo' vw', e = .returned (.tuple #[.agg (rcs D9 vo' vw'), .int .i64 e9]) ∧ Rf w' vo' vw' D9 ∧ Kp (fun _ => False) w w') := Lib.hid (fun w hh => by
    have := rputD_any hh ok (otherI l.a) _ okh hw
    rwa [h9] at this)
  have HOT := Lib.hid (fun w : World => other_all l.a (by omega) w)
  rw [h9]
  dsimp only
  have Hr : Hid (Tryz.f54.results = #[.cell 4 42, .cell 5 37, .tmp 6]) := Lib.hid (by kernel_rfl)
  obtain ⟨W, hW, hb0, hb1, hb2, hb3, hkw⟩ : ∃ W, W = (((w.alloc (.cells (mcs l u).toArray 42)).alloc (.cells (rcs d vo vw) 37)).alloc (.cells #[.int .u64 0, .int .u64 0, .int .i64 0, .string ⟨#[]⟩, .int .i64 0, .int .u64 0, .int .i64 0, .bool false] 42)).alloc (.cells #[.slice none 0 0, .slice none 0 0, .bool false, .int .i64 0, .string ⟨#[]⟩, .int .u64 0] 37) ∧ Box W w.heap.size 42 (mcs l u).toArray ∧ Box W (w.heap.size + 1) 37 (rcs d vo vw) ∧ Box W (w.heap.size + 1 + 1) 42 #[.int .u64 0, .int .u64 0, .int .i64 0, .string ⟨#[]⟩, .int .i64 0, .int .u64 0, .int .i64 0, .bool false] ∧ Box W (w.heap.size + 1 + 1 + 1) 37 #[.slice none 0 0, .slice none 0 0, .bool false, .int .i64 0, .string ⟨#[]⟩, .int .u64 0] ∧ Kp (fun _ => False) w W := by
    refine ⟨_, rfl, (((Box.new w _ _).alloc _).alloc _).alloc _, ?_, ?_, ?_, ((((Kp.refl _ w).alloc _).alloc _).alloc _).alloc _⟩
    · have := Box.new (w.alloc (.cells (mcs l u).toArray 42)) 37 (rcs d vo vw)
      rw [World.size_alloc] at this
      exact (this.alloc _).alloc _
    · have := Box.new ((w.alloc (.cells (mcs l u).toArray 42)).alloc (.cells (rcs d vo vw) 37)) 42 #[.int .u64 0, .int .u64 0, .int .i64 0, .string ⟨#[]⟩, .int .i64 0, .int .u64 0, .int .i64 0, .bool false]
      rw [World.size_alloc, World.size_alloc] at this
      exact this.alloc _
    · have := Box.new (((w.alloc (.cells (mcs l u).toArray 42)).alloc (.cells (rcs d vo vw) 37)).alloc (.cells #[.int .u64 0, .int .u64 0, .int .i64 0, .string ⟨#[]⟩, .int .i64 0, .int .u64 0, .int .i64 0, .bool false] 42)) 37 #[.slice none 0 0, .slice none 0 0, .bool false, .int .i64 0, .string ⟨#[]⟩, .int .u64 0]
      rw [World.size_alloc, World.size_alloc, World.size_alloc] at this
      exact this
  have HW := Lib.hid hW
  have B0 := Lib.hid hb0
  have B1 := Lib.hid hb1
  have KW := Lib.hid hkw
  have H0 := Lib.hid (h0.still hkw)
  have HWS := Lib.hid (show W.heap.size = (w.heap.size + 1 + 1 + 1 + 1) by rw [hW]; simp)
  have y7 : W.cell? ⟨w.heap.size, 7, none⟩ = some (.bool l.dead) := B0.out.cell 7
  have y0 : W.cell? ⟨w.heap.size, 0, none⟩ = some (.int .u64 l.h.g) := B0.out.cell 0
  have y2 : W.cell? ⟨w.heap.size, 2, none⟩ = some (.int .i64 l.h.n) := B0.out.cell 2
  have y3 : W.cell? ⟨w.heap.size, 3, none⟩ = some (.string ⟨l.h.note.toArray⟩) := B0.out.cell 3
  have y5 : W.cell? ⟨w.heap.size, 5, none⟩ = some (.int .u64 l.next) := B0.out.cell 5
  have BN := Lib.hid (show Box (W.alloc (.cells #[.int .u64 0, .int .u64 0, .int .i64 0, .string ⟨#[]⟩] 40)) (w.heap.size + 1 + 1 + 1 + 1) 40 #[.int .u64 0, .int .u64 0, .int .i64 0, .string ⟨#[]⟩] by rw [← HWS.out]; exact Box.new W 40 #[.int .u64 0, .int .u64 0, .int .i64 0, .string ⟨#[]⟩])
  have B2 := Lib.hid hb2
  have B3 := Lib.hid hb3
  clear hW hb0 hb1 hb2 hb3 hkw h0 h9 okh
  rw [hl] at y7
  go_enter Tryz.func54, Tryz.ntmps54
  go_upto_region 1 with fail
  rw [← HW.out]
  go_upto_region 4 with (first | (try rw [HWS.out]); (refine wpList_store_box rfl 40 (.tmp 7) (.tmp 25) rfl (w.heap.size + 1 + 1 + 1 + 1) [.int .u64 (IntKind.u64.wrap ((l.h.g : Int) + 1)), .int .u64 l.next, .int .i64 l.h.n, .string ⟨l.h.note.toArray⟩] rfl rfl BN.out rfl info_rhead (hd_one _ _ _ _) ?_; intro wx hb8 hk) | fail)
  have hb8' : Box wx (w.heap.size + 1 + 1 + 1 + 1) 40 (hcsR l.newHead) := by rw [u64_next] at hb8; exact hb8
  have hk8 : Kp (fun _ => False) W wx := ((Kp.refl _ W).alloc _).trans_new hk (fun b e => .inl (by rw [HWS.out, e]; exact Nat.le_refl _))
  have BX8 := Lib.hid hb8'
  have BX0 := Lib.hid (B0.out.kp hk8 (fun e => e))
  have BX1 := Lib.hid (B1.out.kp hk8 (fun e => e))
  have BX2 := Lib.hid (B2.out.kp hk8 (fun e => e))
  have BX3 := Lib.hid (B3.out.kp hk8 (fun e => e))
  have HX0 := Lib.hid (H0.out.still hk8)
  have KX := Lib.hid (KW.out.trans hk8)
  have DRX := Lib.hid ((Kp.refl (fun _ => False) wx).drew)
  clear hb8 hb8' hk8 hk y0 y2 y3 y5 y7
  try simp only [Act.put]
  go_cut [8] (fun q8 wy => ∃ va vb, q8 = .int .i64 e9 ∧ Rf wy va vb D9 ∧ Kp (fun _ => False) w wy ∧ Box wy (w.heap.size + 1) 37 (rcs D9 va vb) ∧ Kp (fun k => k = (w.heap.size + 1)) wx wy)
  case first =>
    refine wp_region_held_drew (S := fun v => Kp (fun k => k = (w.heap.size + 1)) wx v) (by kernel_rfl) (DRX.out.of_false) (fun hHeld => ?_)
    refine tk 1 (h := ?_)
    refine tk 2 (v := ?_) (hy := ?_) (h := ?_)
    rotate_left
    · intro v hSw
      have y : v.cell? ⟨w.heap.size, 4, none⟩ = some (.int .i64 l.a) := (BX0.out.kp hSw (fun e => by omega)).cell 4
      try dsimp only at hSw
      go_simp
      with_reducible rfl
    refine wpAnyH_take (i := 4) (oi := { dst := some 31, op := Op.load 40 (Operand.tmp 7), type := 40, pos := "ref.go:183", after := #[], guard := none }) (v := _) rfl (by kernel_rfl) (by kernel_rfl) (by kernel_rfl) (fun _ _ _ h => h) (yieldsIf_load_mid (by rfl) _ _ rfl (w.heap.size + 1 + 1 + 1 + 1) 0 rfl (hcsR l.newHead).toList _ (fun v hv => Box.range' (L := (hcsR l.newHead).toList) (BX8.out.kp hv (fun e => by omega))) Tryz.underlying40 rfl info_rhead) (by assumption) ?_
    try simp only [Act.put, List.setIfInBounds_toArray, List.set_cons_zero, List.set_cons_succ]
    refine wpAnyH_ready (rs := [0, 3]) (by kernel_rfl) (by simp) ?_
    refine rdc 0 (h := fun K hK => ?_) (hs := rdc 3 (h := fun K hK => ?_) (hs := AllReadyH.nil))
    · rw [if_pos (by rfl)]
      refine wp_load_mid 37 (.tmp 3) rfl (w.heap.size + 1) 0 rfl (rcs d vo vw).toList _ (Box.range' (L := (rcs d vo vw).toList) (BX1.out.kp (DRX.out) (fun e => e))) Tryz.underlying37 rfl infoRef ?_
      refine hK.out _ _ (DRX.out.of_false) (fun hHeld24 => ?_)
      clear hK K
      try simp only [Act.put, List.setIfInBounds_toArray, List.set_cons_zero, List.set_cons_succ]
      refine rd 3 (h := fun K hK => ?_)
      go_simp
      refine (HOT.out _).mono ?_
      rintro e w5 ⟨rfl, rfl⟩
      go_wp2_with fail
      refine hK.out _ _ (DRX.out.of_false) (fun hHeld25 => ?_)
      clear hK K
      try simp only [Act.put, List.setIfInBounds_toArray, List.set_cons_zero, List.set_cons_succ]
      refine rd 5 (h := fun K hK => ?_)
      go_simp
      refine (HPU.out _ (HX0.out.still DRX.out)).mono ?_
      rintro e w7 ⟨va, vb, rfl, r7, k7⟩
      have R7 := Lib.hid r7
      have S7 := Lib.hid (DRX.out.trans k7)
      have K7 := Lib.hid (KX.out.trans S7.out)
      have BR7 := Lib.hid (BX1.out.kp S7.out (fun e => e))
      clear r7 k7
      go_wp2_with fail
      refine hK.out _ _ (S7.out.of_false) (fun hHeld26 => ?_)
      clear hK K
      try simp only [Act.put, List.setIfInBounds_toArray, List.set_cons_zero, List.set_cons_succ]
      refine tk 6 (h := ?_)
      refine tk 7 (h := ?_)
      refine tk 8 (h := ?_)
      refine rd 9 (h := fun K hK => ?_)
      rw [if_pos (by rfl)]
      refine dwp_store_box 37 (.tmp 3) (.tmp 33) rfl (w.heap.size + 1) (rcs D9 va vb).toList rfl rfl BR7.out rfl infoRef (rcs_one _ _ _ R7.out.c1.1 R7.out.c1.2) ?_
      intro w8 hb5 hk5
      have S8 := Lib.hid (S7.out.of_false.trans hk5)
      have BD8 := Lib.hid hb5
      have R8 := Lib.hid (R7.out.store BR7.out hk5)
      have K8 := Lib.hid (K7.out.trans_new hk5 (fun k e => .inl (by omega)))
      clear hb5 hk5
      refine hK.out _ _ (S8.out) (fun hHeld27 => ?_)
      clear hK K
      try simp only [Act.put]
      refine tk 10 (h := ?_)
      refine wpAnyH_done (by kernel_rfl) ?_ _
      go_wp2_with fail
      go_meet
      exact ⟨va, vb, rfl, R8.out, K8.out, BD8.out, S8.out⟩
    · go_simp
      refine (HOT.out _).mono ?_
      rintro e w5 ⟨rfl, rfl⟩
      go_wp2_with fail
      refine hK.out _ _ (DRX.out.of_false) (fun hHeld28 => ?_)
      clear hK K
      try simp only [Act.put, List.setIfInBounds_toArray, List.set_cons_zero, List.set_cons_succ]
      refine rd 0 (h := fun K hK => ?_)
      rw [if_pos (by rfl)]
      refine wp_load_mid 37 (.tmp 3) rfl (w.heap.size + 1) 0 rfl (rcs d vo vw).toList _ (Box.range' (L := (rcs d vo vw).toList) (BX1.out.kp (DRX.out) (fun e => e))) Tryz.underlying37 rfl infoRef ?_
      refine hK.out _ _ (DRX.out.of_false) (fun hHeld29 => ?_)
      clear hK K
      try simp only [Act.put, List.setIfInBounds_toArray, List.set_cons_zero, List.set_cons_succ]
      refine rd 5 (h := fun K hK => ?_)
      go_simp
      refine (HPU.out _ (HX0.out.still DRX.out)).mono ?_
      rintro e w7 ⟨va, vb, rfl, r7, k7⟩
      have R7 := Lib.hid r7
      have S7 := Lib.hid (DRX.out.trans k7)
      have K7 := Lib.hid (KX.out.trans S7.out)
      have BR7 := Lib.hid (BX1.out.kp S7.out (fun e => e))
      clear r7 k7
      go_wp2_with fail
      refine hK.out _ _ (S7.out.of_false) (fun hHeld30 => ?_)
      clear hK K
      try simp only [Act.put, List.setIfInBounds_toArray, List.set_cons_zero, List.set_cons_succ]
      refine tk 6 (h := ?_)
      refine tk 7 (h := ?_)
      refine tk 8 (h := ?_)
      refine rd 9 (h := fun K hK => ?_)
      rw [if_pos (by rfl)]
      refine dwp_store_box 37 (.tmp 3) (.tmp 33) rfl (w.heap.size + 1) (rcs D9 va vb).toList rfl rfl BR7.out rfl infoRef (rcs_one _ _ _ R7.out.c1.1 R7.out.c1.2) ?_
      intro w8 hb5 hk5
      have S8 := Lib.hid (S7.out.of_false.trans hk5)
      have BD8 := Lib.hid hb5
      have R8 := Lib.hid (R7.out.store BR7.out hk5)
      have K8 := Lib.hid (K7.out.trans_new hk5 (fun k e => .inl (by omega)))
      clear hb5 hk5
      refine hK.out _ _ (S8.out) (fun hHeld31 => ?_)
      clear hK K
      try simp only [Act.put]
      refine tk 10 (h := ?_)
      refine wpAnyH_done (by kernel_rfl) ?_ _
      go_wp2_with fail
      go_meet
      exact ⟨va, vb, rfl, R8.out, K8.out, BD8.out, S8.out⟩
  case rest =>
    obtain ⟨va, vb, rfl, ry, ky, bdy, sy⟩ := hcut
    obtain ⟨wy, ewy, ry⟩ : ∃ wy, wy = _ ∧ Rf wy va vb D9 := ⟨_, rfl, ry⟩
    subst ewy
    have RY := Lib.hid ry
    have KY := Lib.hid ky
    have BDY := Lib.hid bdy
    have BL0 := Lib.hid (BX0.out.kp sy (fun e => by omega))
    have BH9 := Lib.hid (BX8.out.kp sy (fun e => by omega))
    have BRL := Lib.hid (BX2.out.kp sy (fun e => by omega))
    have BRD := Lib.hid (BX3.out.kp sy (fun e => by omega))
    have z4 : wy.cell? ⟨w.heap.size, 4, none⟩ = some (.int .i64 l.a) := BL0.out.cell 4
    clear ry ky bdy sy
    by_cases he : e9 = 0
    · subst he
      go_upto_region 9 with (first | (refine wpList_load_mid rfl 40 (.tmp 7) rfl (w.heap.size + 1 + 1 + 1 + 1) 0 rfl (hcsR l.newHead).toList _ (Box.range' (L := (hcsR l.newHead).toList) BH9.out) Tryz.underlying40 rfl info_rhead ?_) | (refine wpList_store_head rfl (.tmp 42) (.tmp 41) rfl w.heap.size l.newHead l u rfl rfl BL0.out ?_; intro wh hbh hkh) | fail)
      have BLH := Lib.hid hbh
      have y4 : wh.cell? ⟨w.heap.size, 4, none⟩ = some (.int .i64 l.a) := BLH.out.cell 4
      have y6 : wh.cell? ⟨w.heap.size, 6, none⟩ = some (.int .i64 u) := BLH.out.cell 6
      have f4 := BLH.out.free 4
      have f6 := BLH.out.free 6
      go_wp2_with fail
      refine (HOT.out _).mono ?_
      rintro e w5 ⟨rfl, rfl⟩
      go_upto_region 11 with fail
      have hl9 := (BLH.out.put 4 (.int .i64 (otherI l.a : Nat))).put 6 (.int .i64 0)
      have KD9 : Kp (fun k => k = w.heap.size) wy ((wh.setCell ⟨w.heap.size, 4, none⟩ (.int .i64 (otherI l.a : Nat))).setCell ⟨w.heap.size, 6, none⟩ (.int .i64 0)) := (hkh.setCell (p := ⟨w.heap.size, 4, none⟩) (.inr rfl) _).setCell (p := ⟨w.heap.size, 6, none⟩) (.inr rfl) _
      generalize ((wh.setCell ⟨w.heap.size, 4, none⟩ (.int .i64 (otherI l.a : Nat))).setCell ⟨w.heap.size, 6, none⟩ (.int .i64 0)) = wz at *
      have BL9 := Lib.hid (show Box wz w.heap.size 42 (mcs ({ l with h := l.newHead, a := otherI l.a } : Lm) 0).toArray from hl9)
      have RZ := Lib.hid (RY.out.kp KD9 (fun q cs fr e1 e2 => by
          rcases e1 with e1 | e1
          · exact type_off e1 BL0.out (by decide) e2
          · exact type_off e1 BL0.out (by decide) e2))
      have KZ := Lib.hid (KY.out.trans_new KD9 (fun k e => .inl (by omega)))
      have BD9 := Lib.hid (BDY.out.kp KD9 (fun e => by omega))
      have BRL9 := Lib.hid (BRL.out.kp KD9 (fun e => by omega))
      have BRD9 := Lib.hid (BRD.out.kp KD9 (fun e => by omega))
      have DRZ := Lib.hid ((Kp.refl (fun _ => False) wz).drew)
      clear hl9 KD9 hbh hkh
      refine wp_region_held_drew (S := fun v => Kp (fun k => k = (w.heap.size + 1 + 1) ∨ k = (w.heap.size + 1 + 1 + 1)) wz v) (by kernel_rfl) (DRZ.out.of_false) (fun hHeld => ?_)
      refine wpAnyH_take (i := 0) (oi := { dst := some 48, op := Op.load 42 (Operand.tmp 2), type := 42, pos := "ref.go:191", after := #[], guard := none }) (v := _) rfl (by kernel_rfl) (by kernel_rfl) (by kernel_rfl) (fun _ _ _ h => h) (yieldsIf_load_mid (by rfl) _ _ rfl w.heap.size 0 rfl ((mcs ({ l with h := l.newHead, a := otherI l.a } : Lm) 0).toArray).toList _ (fun v hv => Box.range' (L := ((mcs ({ l with h := l.newHead, a := otherI l.a } : Lm) 0).toArray).toList) (BL9.out.kp hv (fun e => by omega))) Tryz.underlying42 rfl info_rlog) (by assumption) ?_
      try simp only [Act.put, List.setIfInBounds_toArray, List.set_cons_zero, List.set_cons_succ]
      refine wpAnyH_take (i := 1) (oi := { dst := some 49, op := Op.load 37 (Operand.tmp 3), type := 37, pos := "ref.go:191", after := #[{ on := 2, ground := Ground.gcOnly Departure.lateStores }], guard := none }) (v := _) rfl (by kernel_rfl) (by kernel_rfl) (by kernel_rfl) (fun _ _ _ h => h) (yieldsIf_load_mid (by rfl) _ _ rfl (w.heap.size + 1) 0 rfl (rcs D9 va vb).toList _ (fun v hv => Box.range' (L := (rcs D9 va vb).toList) (BD9.out.kp hv (fun e => by omega))) Tryz.underlying37 rfl infoRef) (by assumption) ?_
      try simp only [Act.put, List.setIfInBounds_toArray, List.set_cons_zero, List.set_cons_succ]
      refine rd 2 (h := fun K hK => ?_)
      rw [if_pos (by rfl)]
      refine wp_store_box 42 (.tmp 4) (.tmp 48) rfl (w.heap.size + 1 + 1) (mcs ({ l with h := l.newHead, a := otherI l.a } : Lm) 0) rfl rfl (BRL9.out.kp DRZ.out (fun e => e)) rfl info_rlog (mcs_one _ _) ?_
      intro wl hbL hkL
      have BLX := Lib.hid hbL
      have KLX := Lib.hid hkL
      have BDX := Lib.hid ((BRD9.out.kp DRZ.out (fun e => e)).kp hkL (fun e => by omega))
      have SLX := Lib.hid ((DRZ.out.of_false).trans (hkL.mono (S' := fun k => k = (w.heap.size + 1 + 1) ∨ k = (w.heap.size + 1 + 1 + 1)) (fun _ _ e => .inl e)))
      clear hbL hkL
      refine hK.out _ _ (SLX.out) (fun hHeld32 => ?_)
      clear hK K
      try simp only [Act.put]
      refine rd 3 (h := fun K hK => ?_)
      rw [if_pos (by rfl)]
      refine dwp_store_box 37 (.tmp 5) (.tmp 49) rfl (w.heap.size + 1 + 1 + 1) (rcs D9 va vb).toList rfl rfl BDX.out rfl infoRef (rcs_one _ _ _ (RZ.out).c1.1 (RZ.out).c1.2) ?_
      intro w5 hb5 hk5
      refine hK.out _ _ (SLX.out.trans (hk5.mono (S' := fun k => k = (w.heap.size + 1 + 1) ∨ k = (w.heap.size + 1 + 1 + 1)) (fun _ _ e => .inr e))) (fun hHeld33 => ?_)
      clear hK K
      try simp only [Act.put]
      refine tk 4 (h := ?_)
      refine wpAnyH_done (by kernel_rfl) ?_ _
      go_wp2_with fail
      have K5 := ((((KZ.out).trans DRZ.out)).trans_new KLX.out (fun k e => .inl (by omega))).trans_new hk5 (fun k e => .inl (by omega))
      have R5 := Rf.store (Rf.kp (Rf.still (RZ.out) DRZ.out) KLX.out (fun q cs fr e1 e2 => by
          rcases e1 with e1 | e1
          · exact type_off e1 (BRL9.out.kp DRZ.out (fun e => e)) (by decide) e2
          · exact type_off e1 (BRL9.out.kp DRZ.out (fun e => e)) (by decide) e2)) BDX.out hk5
      refine bodyPost_ret (v := .tuple #[.agg (mcs ({ l with h := l.newHead, a := otherI l.a } : Lm) 0).toArray, .agg (rcs D9 va vb), .int .i64 0]) ?_ rfl ⟨va, vb, (by first | rfl | simp only [hl]), R5, K5⟩
      exact results_cct Hr.out _ _ (w.heap.size + 1 + 1) 42 _ (0, 0) _ (w.heap.size + 1 + 1 + 1) 37 _ (0, 0) _ rfl (BLX.out.kp hk5 (fun e => by omega)) Tryz.underlying42 rfl info_rlog rfl hb5 Tryz.underlying37 rfl infoRef
    · have hne : (e9 != 0) = true := by simpa using he
      have y7 : wy.cell? ⟨w.heap.size, 7, none⟩ = some (.bool l.dead) := BL0.out.cell 7
      rw [hl] at y7
      have f7 := BL0.out.free 7
      go_upto_region 7 with fail
      have hl9 := BL0.out.put 7 (.bool true)
      have KD9 : Kp (fun k => k = w.heap.size) wy (wy.setCell ⟨w.heap.size, 7, none⟩ (.bool true)) := (Kp.refl (fun k => k = w.heap.size) wy).setCell (p := ⟨w.heap.size, 7, none⟩) (.inr rfl) _
      obtain ⟨wz, hwz⟩ : ∃ wz, wy.setCell ⟨w.heap.size, 7, none⟩ (.bool true) = wz := ⟨_, rfl⟩
      rw [hwz] at hl9 KD9
      try rw [hwz]
      have BL9 := Lib.hid (show Box wz w.heap.size 42 (mcs ({ l with dead := true } : Lm) u).toArray from hl9)
      have RZ := Lib.hid (RY.out.kp KD9 (fun q cs fr e1 e2 => by
          rcases e1 with e1 | e1
          · exact type_off e1 BL0.out (by decide) e2
          · exact type_off e1 BL0.out (by decide) e2))
      have KZ := Lib.hid (KY.out.trans_new KD9 (fun k e => .inl (by omega)))
      have BD9 := Lib.hid (BDY.out.kp KD9 (fun e => by omega))
      have BRL9 := Lib.hid (BRL.out.kp KD9 (fun e => by omega))
      have BRD9 := Lib.hid (BRD.out.kp KD9 (fun e => by omega))
      have DRZ := Lib.hid ((Kp.refl (fun _ => False) wz).drew)
      clear hl9 KD9 hwz
      refine wp_region_held_drew (S := fun v => Kp (fun k => k = (w.heap.size + 1 + 1) ∨ k = (w.heap.size + 1 + 1 + 1)) wz v) (by kernel_rfl) (DRZ.out.of_false) (fun hHeld => ?_)
      refine wpAnyH_take (i := 0) (oi := { dst := some 38, op := Op.load 42 (Operand.tmp 2), type := 42, pos := "ref.go:186", after := #[], guard := none }) (v := _) rfl (by kernel_rfl) (by kernel_rfl) (by kernel_rfl) (fun _ _ _ h => h) (yieldsIf_load_mid (by rfl) _ _ rfl w.heap.size 0 rfl ((mcs ({ l with dead := true } : Lm) u).toArray).toList _ (fun v hv => Box.range' (L := ((mcs ({ l with dead := true } : Lm) u).toArray).toList) (BL9.out.kp hv (fun e => by omega))) Tryz.underlying42 rfl info_rlog) (by assumption) ?_
      try simp only [Act.put, List.setIfInBounds_toArray, List.set_cons_zero, List.set_cons_succ]
      refine wpAnyH_take (i := 1) (oi := { dst := some 39, op := Op.load 37 (Operand.tmp 3), type := 37, pos := "ref.go:186", after := #[{ on := 3, ground := Ground.gcOnly Departure.lateStores }], guard := none }) (v := _) rfl (by kernel_rfl) (by kernel_rfl) (by kernel_rfl) (fun _ _ _ h => h) (yieldsIf_load_mid (by rfl) _ _ rfl (w.heap.size + 1) 0 rfl (rcs D9 va vb).toList _ (fun v hv => Box.range' (L := (rcs D9 va vb).toList) (BD9.out.kp hv (fun e => by omega))) Tryz.underlying37 rfl infoRef) (by assumption) ?_
      try simp only [Act.put, List.setIfInBounds_toArray, List.set_cons_zero, List.set_cons_succ]
      refine tk 2 (h := ?_)
      refine rd 3 (h := fun K hK => ?_)
      rw [if_pos (by rfl)]
      refine wp_store_box 42 (.tmp 4) (.tmp 38) rfl (w.heap.size + 1 + 1) (mcs ({ l with dead := true } : Lm) u) rfl rfl (BRL9.out.kp DRZ.out (fun e => e)) rfl info_rlog (mcs_one _ _) ?_
      intro wl hbL hkL
      have BLX := Lib.hid hbL
      have KLX := Lib.hid hkL
      have BDX := Lib.hid ((BRD9.out.kp DRZ.out (fun e => e)).kp hkL (fun e => by omega))
      have SLX := Lib.hid ((DRZ.out.of_false).trans (hkL.mono (S' := fun k => k = (w.heap.size + 1 + 1) ∨ k = (w.heap.size + 1 + 1 + 1)) (fun _ _ e => .inl e)))
      clear hbL hkL
      refine hK.out _ _ (SLX.out) (fun hHeld34 => ?_)
      clear hK K
      try simp only [Act.put]
      refine rd 4 (h := fun K hK => ?_)
      rw [if_pos (by rfl)]
      refine dwp_store_box 37 (.tmp 5) (.tmp 39) rfl (w.heap.size + 1 + 1 + 1) (rcs D9 va vb).toList rfl rfl BDX.out rfl infoRef (rcs_one _ _ _ (RZ.out).c1.1 (RZ.out).c1.2) ?_
      intro w5 hb5 hk5
      refine hK.out _ _ (SLX.out.trans (hk5.mono (S' := fun k => k = (w.heap.size + 1 + 1) ∨ k = (w.heap.size + 1 + 1 + 1)) (fun _ _ e => .inr e))) (fun hHeld35 => ?_)
      clear hK K
      try simp only [Act.put]
      refine tk 5 (h := ?_)
      refine wpAnyH_done (by kernel_rfl) ?_ _
      go_wp2_with fail
      have K5 := ((((KZ.out).trans DRZ.out)).trans_new KLX.out (fun k e => .inl (by omega))).trans_new hk5 (fun k e => .inl (by omega))
      have R5 := Rf.store (Rf.kp (Rf.still (RZ.out) DRZ.out) KLX.out (fun q cs fr e1 e2 => by
          rcases e1 with e1 | e1
          · exact type_off e1 (BRL9.out.kp DRZ.out (fun e => e)) (by decide) e2
          · exact type_off e1 (BRL9.out.kp DRZ.out (fun e => e)) (by decide) e2)) BDX.out hk5
      refine bodyPost_ret (v := .tuple #[.agg (mcs ({ l with dead := true } : Lm) u).toArray, .agg (rcs D9 va vb), .int .i64 e9]) ?_ rfl ⟨va, vb, (by first | rfl | simp only [hl] | (rw [if_neg he])), R5, K5⟩
      exact results_cct Hr.out _ _ (w.heap.size + 1 + 1) 42 _ (0, 0) _ (w.heap.size + 1 + 1 + 1) 37 _ (0, 0) _ rfl (BLX.out.kp hk5 (fun e => by omega)) Tryz.underlying42 rfl info_rlog rfl hb5 Tryz.underlying37 rfl infoRef
end Go.Proofs.YtfcljcikajaedaaGreatDoor
