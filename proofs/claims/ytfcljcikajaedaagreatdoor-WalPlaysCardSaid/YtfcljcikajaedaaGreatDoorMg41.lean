/- Commit in the document's own words. Conditions: the disk's own; the log's own; a text of at most 60,000 bytes. -/
import Derived.Test.YtfcljcikajaedaaGreatDoorMg3
import Derived.Test.YtfcljcikajaedaaGreatDoorMg39
import Derived.Test.YtfcljcikajaedaaGreatDoorMg40
namespace Go.Proofs.YtfcljcikajaedaaGreatDoor
open Go.RowKit Go.Maps

set_option maxRecDepth 100000 in
set_option maxHeartbeats 16000000 in
theorem rcommit_any {w : World} {vo vw : Value} {d : Dm} (h0 : Rf w vo vw d) (ok : d.ok) (hw : d.wait.length + 1000 < 1073741824) (B : Nat) (hB : B + 2000 < 18446744073709551616) (l : Lm) (hk : Lk B d l) (t : List UInt8) (htx : t.length ≤ 60000) :
    Calls Tryz.prog 24 #[.agg (mcs l ((l.h.n : Int) - l.left)).toArray, .agg (rcs d vo vw), .string ⟨t.toArray⟩] w fun e w' => ∃ vo' vw', e = .returned (.tuple #[.agg (mcs (l.commitS d t).1 (((l.commitS d t).1.h.n : Int) - (l.commitS d t).1.left)).toArray, .agg (rcs (l.commitS d t).2.1 vo' vw'), .int .i64 (l.commitS d t).2.2]) ∧ Rf w' vo' vw' (l.commitS d t).2.1 ∧ Kp (fun _ => False) w w' := by
  have HDEAD : Hid (l.dead = true → l.commitS d t = (l, d, 4)) := Lib.hid (fun h => by unfold Lm.commitS; rw [if_pos h])
  have HLIM : Hid (l.dead = false → l.h.n < need t.length → l.commitS d t = (l, d, 6)) := Lib.hid (fun h h1 => by unfold Lm.commitS; rw [h, if_neg (by decide), if_pos h1])
  have HFUL : Hid (l.dead = false → ¬ l.h.n < need t.length → l.left < need t.length → l.commitS d t = (l, d, 5)) := Lib.hid (fun h h1 h2 => by unfold Lm.commitS; rw [h, if_neg (by decide), if_neg h1, if_pos h2])
  have HGO : Hid (l.dead = false → ¬ l.h.n < need t.length → ¬ l.left < need t.length → l.commitS d t = if (Dm.putAll l.h.n (cutL l.next t) d).2 = 0 then ({ l with next := (l.next + need t.length) % 18446744073709551616, left := l.left - need t.length }, (Dm.putAll l.h.n (cutL l.next t) d).1, 0) else ({ l with dead := (Dm.putAll l.h.n (cutL l.next t) d).2 == 4 }, (Dm.putAll l.h.n (cutL l.next t) d).1, (Dm.putAll l.h.n (cutL l.next t) d).2)) := Lib.hid (fun h h1 h2 => commit_eq l d t h h1 h2)
  have HNX := Lib.hid (show l.next < 18446744073709551616 by have := hk.next_; omega)
  have hn5 : l.h.n ≤ 512 := hk.h_.hi
  have hn0 : 0 < l.h.n := by have := hk.h_.lo; omega
  have hlf : l.left ≤ l.h.n := hk.left_
  have HIN := Lib.hid hk.in_
  have OK := Lib.hid ok
  have HWT := Lib.hid hw
  have HTX := Lib.hid htx
  have Hr : Hid (Tryz.f24.results = #[.cell 6 42, .cell 7 37, .tmp 8]) := Lib.hid (by kernel_rfl)
  obtain ⟨W, hW, hb0, hb1, hb2, hb3, hkw⟩ : ∃ W, W = (((w.alloc (.cells (mcs l ((l.h.n : Int) - l.left)).toArray 42)).alloc (.cells (rcs d vo vw) 37)).alloc (.cells #[.int .u64 0, .int .u64 0, .int .i64 0, .string ⟨#[]⟩, .int .i64 0, .int .u64 0, .int .i64 0, .bool false] 42)).alloc (.cells #[.slice none 0 0, .slice none 0 0, .bool false, .int .i64 0, .string ⟨#[]⟩, .int .u64 0] 37) ∧ Box W w.heap.size 42 (mcs l ((l.h.n : Int) - l.left)).toArray ∧ Box W (w.heap.size + 1) 37 (rcs d vo vw) ∧ Box W (w.heap.size + 1 + 1) 42 #[.int .u64 0, .int .u64 0, .int .i64 0, .string ⟨#[]⟩, .int .i64 0, .int .u64 0, .int .i64 0, .bool false] ∧ Box W (w.heap.size + 1 + 1 + 1) 37 #[.slice none 0 0, .slice none 0 0, .bool false, .int .i64 0, .string ⟨#[]⟩, .int .u64 0] ∧ Kp (fun _ => False) w W := by
    refine ⟨_, rfl, (((Box.new w _ _).alloc _).alloc _).alloc _, ?_, ?_, ?_, ((((Kp.refl _ w).alloc _).alloc _).alloc _).alloc _⟩
    · have := Box.new (w.alloc (.cells (mcs l ((l.h.n : Int) - l.left)).toArray 42)) 37 (rcs d vo vw)
      rw [World.size_alloc] at this
      exact (this.alloc _).alloc _
    · have := Box.new ((w.alloc (.cells (mcs l ((l.h.n : Int) - l.left)).toArray 42)).alloc (.cells (rcs d vo vw) 37)) 42 #[.int .u64 0, .int .u64 0, .int .i64 0, .string ⟨#[]⟩, .int .i64 0, .int .u64 0, .int .i64 0, .bool false]
      rw [World.size_alloc, World.size_alloc] at this
      exact this.alloc _
    · have := Box.new (((w.alloc (.cells (mcs l ((l.h.n : Int) - l.left)).toArray 42)).alloc (.cells (rcs d vo vw) 37)).alloc (.cells #[.int .u64 0, .int .u64 0, .int .i64 0, .string ⟨#[]⟩, .int .i64 0, .int .u64 0, .int .i64 0, .bool false] 42)) 37 #[.slice none 0 0, .slice none 0 0, .bool false, .int .i64 0, .string ⟨#[]⟩, .int .u64 0]
      rw [World.size_alloc, World.size_alloc, World.size_alloc] at this
      exact this
  have HW := Lib.hid hW
  have B0 := Lib.hid hb0
  have B1 := Lib.hid hb1
  have KW := Lib.hid hkw
  have H0 := Lib.hid (h0.still hkw)
  have HWS := Lib.hid (show W.heap.size = (w.heap.size + 1 + 1 + 1 + 1) by rw [hW]; simp)
  have y7 : W.cell? ⟨w.heap.size, 7, none⟩ = some (.bool l.dead) := B0.out.cell 7
  have BRL0 := Lib.hid hb2
  have BRD0 := Lib.hid hb3
  have y5 : W.cell? ⟨w.heap.size, 5, none⟩ = some (.int .u64 l.next) := B0.out.cell 5
  clear hW hb0 hb1 hb2 hb3 hkw h0 ok hw hk htx
  obtain ⟨m, hm⟩ : ∃ m, need t.length = m := ⟨_, rfl⟩
  obtain ⟨Ls, hL⟩ : ∃ Ls, cutL l.next t = Ls := ⟨_, rfl⟩
  have hm5 : m ≤ 200 := by rw [← hm]; have := HTX.out; unfold need; omega
  have hm1 : 1 ≤ m := by rw [← hm]; exact need_pos _
  have HLL := Lib.hid (show Ls.length = m by rw [← hL, cutL_length, hm])
  have HSH := Lib.hid (show ∀ s ∈ Ls, s.q < 18446744073709551616 ∧ s.t.length ≤ 497 by
    rw [← hL]
    intro s hs
    simp only [cutL, List.mem_map] at hs
    obtain ⟨i, _, rfl⟩ := hs
    exact ⟨shAt_lt _ _ _, shAt_le _ _ _⟩)
  rw [hm] at HLIM HFUL HGO
  rw [hL] at HGO
  have HM := Lib.hid hm
  have HL0 := Lib.hid hL
  clear hm hL
  go_enter Tryz.func24, Tryz.ntmps24
  go_upto_region 1 with fail
  rw [← HW.out]
  go_wp2_with fail
  refine (rcut_any l.next t _ HNX.out (by have := HTX.out; omega)).mono ?_
  rintro e w1 ⟨v, rfl, hown, hk1⟩
  obtain ⟨A, c, rfl⟩ := own_shape3 hown
  rw [HM.out, HL0.out] at hown
  rw [HM.out]
  have RS := Lib.hid hown
  have BL := Lib.hid (B0.out.kp hk1 (fun e => e))
  have BD := Lib.hid (B1.out.kp hk1 (fun e => e))
  have BRL := Lib.hid (BRL0.out.kp hk1 (fun e => e))
  have BRD := Lib.hid (BRD0.out.kp hk1 (fun e => e))
  have RR := Lib.hid (H0.out.still hk1)
  have KK := Lib.hid (KW.out.trans hk1)
  have DR1 := Lib.hid ((Kp.refl (fun _ => False) w1).drew)
  clear hown hk1 y5 y7
  have y2 : w1.cell? ⟨w.heap.size, 2, none⟩ = some (.int .i64 l.h.n) := BL.out.cell 2
  have y6 : w1.cell? ⟨w.heap.size, 6, none⟩ = some (.int .i64 ((l.h.n : Int) - l.left)) := BL.out.cell 6
  have y7 : w1.cell? ⟨w.heap.size, 7, none⟩ = some (.bool l.dead) := BL.out.cell 7
  rcases hdd : l.dead with _ | _
  case true =>
    have HE := Lib.hid (HDEAD.out hdd)
    rw [hdd] at y7
    clear HDEAD HLIM HFUL HGO hdd
    go_upto_region 3 with fail
    refine wp_region_held_drew (S := fun v => Kp (fun k => k = (w.heap.size + 1 + 1) ∨ k = (w.heap.size + 1 + 1 + 1)) w1 v) (by kernel_rfl) (DR1.out.of_false) (fun hHeld => ?_)
    refine wpAnyH_take (i := 0) (oi := { dst := some 20, op := Op.load 42 (Operand.tmp 3), type := 42, pos := "ref.go:151", after := #[], guard := none }) (v := _) rfl (by kernel_rfl) (by kernel_rfl) (by kernel_rfl) (fun _ _ _ h => h) (yieldsIf_load_mid (by rfl) _ _ rfl w.heap.size 0 rfl ((mcs l ((l.h.n : Int) - l.left)).toArray).toList _ (fun v hv => Box.range' (L := ((mcs l ((l.h.n : Int) - l.left)).toArray).toList) (BL.out.kp hv (fun e => by omega))) Tryz.underlying42 rfl info_rlog) (by assumption) ?_
    try simp only [Act.put, List.setIfInBounds_toArray, List.set_cons_zero, List.set_cons_succ]
    refine wpAnyH_take (i := 1) (oi := { dst := some 21, op := Op.load 37 (Operand.tmp 4), type := 37, pos := "ref.go:151", after := #[{ on := 2, ground := Ground.gcOnly Departure.lateStores }], guard := none }) (v := _) rfl (by kernel_rfl) (by kernel_rfl) (by kernel_rfl) (fun _ _ _ h => h) (yieldsIf_load_mid (by rfl) _ _ rfl (w.heap.size + 1) 0 rfl (rcs d vo vw).toList _ (fun v hv => Box.range' (L := (rcs d vo vw).toList) (BD.out.kp hv (fun e => by omega))) Tryz.underlying37 rfl infoRef) (by assumption) ?_
    try simp only [Act.put, List.setIfInBounds_toArray, List.set_cons_zero, List.set_cons_succ]
    refine rd 2 (h := fun K hK => ?_)
    rw [if_pos (by rfl)]
    refine wp_store_box 42 (.tmp 6) (.tmp 20) rfl (w.heap.size + 1 + 1) (mcs l ((l.h.n : Int) - l.left)) rfl rfl (BRL.out.kp DR1.out (fun e => e)) rfl info_rlog (mcs_one _ _) ?_
    intro wl hbL hkL
    have BLX := Lib.hid hbL
    have KLX := Lib.hid hkL
    have BDX := Lib.hid ((BRD.out.kp DR1.out (fun e => e)).kp hkL (fun e => by omega))
    have SLX := Lib.hid ((DR1.out.of_false).trans (hkL.mono (S' := fun k => k = (w.heap.size + 1 + 1) ∨ k = (w.heap.size + 1 + 1 + 1)) (fun _ _ e => .inl e)))
    clear hbL hkL
    refine hK.out _ _ (SLX.out) (fun hHeld41 => ?_)
    clear hK K
    try simp only [Act.put]
    refine rd 3 (h := fun K hK => ?_)
    rw [if_pos (by rfl)]
    refine dwp_store_box 37 (.tmp 7) (.tmp 21) rfl (w.heap.size + 1 + 1 + 1) (rcs d vo vw).toList rfl rfl BDX.out rfl infoRef (rcs_one _ _ _ (RR.out).c1.1 (RR.out).c1.2) ?_
    intro w5 hb5 hk5
    refine hK.out _ _ (SLX.out.trans (hk5.mono (S' := fun k => k = (w.heap.size + 1 + 1) ∨ k = (w.heap.size + 1 + 1 + 1)) (fun _ _ e => .inr e))) (fun hHeld42 => ?_)
    clear hK K
    try simp only [Act.put]
    refine tk 4 (h := ?_)
    refine wpAnyH_done (by kernel_rfl) ?_ _
    go_wp2_with fail
    have K5 := ((((KK.out).trans DR1.out)).trans_new KLX.out (fun k e => .inl (by omega))).trans_new hk5 (fun k e => .inl (by omega))
    have R5 := Rf.store (Rf.kp (Rf.still (RR.out) DR1.out) KLX.out (fun q cs fr e1 e2 => by
        rcases e1 with e1 | e1
        · exact type_off e1 (BRL.out.kp DR1.out (fun e => e)) (by decide) e2
        · exact type_off e1 (BRL.out.kp DR1.out (fun e => e)) (by decide) e2)) BDX.out hk5
    refine bodyPost_ret (v := .tuple #[.agg (mcs l ((l.h.n : Int) - l.left)).toArray, .agg (rcs d vo vw), .int .i64 4]) ?_ rfl (by rw [HE.out]; exact ⟨vo, vw, rfl, R5, K5⟩)
    exact results_cct Hr.out _ _ (w.heap.size + 1 + 1) 42 _ (0, 0) _ (w.heap.size + 1 + 1 + 1) 37 _ (0, 0) _ rfl (BLX.out.kp hk5 (fun e => by omega)) Tryz.underlying42 rfl info_rlog rfl hb5 Tryz.underlying37 rfl infoRef
  rw [hdd] at y7
  by_cases h1 : l.h.n < m
  · have HE := Lib.hid (HLIM.out hdd h1)
    have b1 : decide ((l.h.n : Int) < m) = true := by simp; omega
    clear HDEAD HLIM HFUL HGO hdd
    go_upto_region 5 with fail
    refine wp_region_held_drew (S := fun v => Kp (fun k => k = (w.heap.size + 1 + 1) ∨ k = (w.heap.size + 1 + 1 + 1)) w1 v) (by kernel_rfl) (DR1.out.of_false) (fun hHeld => ?_)
    refine wpAnyH_take (i := 0) (oi := { dst := some 28, op := Op.load 42 (Operand.tmp 3), type := 42, pos := "ref.go:154", after := #[], guard := none }) (v := _) rfl (by kernel_rfl) (by kernel_rfl) (by kernel_rfl) (fun _ _ _ h => h) (yieldsIf_load_mid (by rfl) _ _ rfl w.heap.size 0 rfl ((mcs l ((l.h.n : Int) - l.left)).toArray).toList _ (fun v hv => Box.range' (L := ((mcs l ((l.h.n : Int) - l.left)).toArray).toList) (BL.out.kp hv (fun e => by omega))) Tryz.underlying42 rfl info_rlog) (by assumption) ?_
    try simp only [Act.put, List.setIfInBounds_toArray, List.set_cons_zero, List.set_cons_succ]
    refine wpAnyH_take (i := 1) (oi := { dst := some 29, op := Op.load 37 (Operand.tmp 4), type := 37, pos := "ref.go:154", after := #[{ on := 2, ground := Ground.gcOnly Departure.lateStores }], guard := none }) (v := _) rfl (by kernel_rfl) (by kernel_rfl) (by kernel_rfl) (fun _ _ _ h => h) (yieldsIf_load_mid (by rfl) _ _ rfl (w.heap.size + 1) 0 rfl (rcs d vo vw).toList _ (fun v hv => Box.range' (L := (rcs d vo vw).toList) (BD.out.kp hv (fun e => by omega))) Tryz.underlying37 rfl infoRef) (by assumption) ?_
    try simp only [Act.put, List.setIfInBounds_toArray, List.set_cons_zero, List.set_cons_succ]
    refine rd 2 (h := fun K hK => ?_)
    rw [if_pos (by rfl)]
    refine wp_store_box 42 (.tmp 6) (.tmp 28) rfl (w.heap.size + 1 + 1) (mcs l ((l.h.n : Int) - l.left)) rfl rfl (BRL.out.kp DR1.out (fun e => e)) rfl info_rlog (mcs_one _ _) ?_
    intro wl hbL hkL
    have BLX := Lib.hid hbL
    have KLX := Lib.hid hkL
    have BDX := Lib.hid ((BRD.out.kp DR1.out (fun e => e)).kp hkL (fun e => by omega))
    have SLX := Lib.hid ((DR1.out.of_false).trans (hkL.mono (S' := fun k => k = (w.heap.size + 1 + 1) ∨ k = (w.heap.size + 1 + 1 + 1)) (fun _ _ e => .inl e)))
    clear hbL hkL
    refine hK.out _ _ (SLX.out) (fun hHeld43 => ?_)
    clear hK K
    try simp only [Act.put]
    refine rd 3 (h := fun K hK => ?_)
    rw [if_pos (by rfl)]
    refine dwp_store_box 37 (.tmp 7) (.tmp 29) rfl (w.heap.size + 1 + 1 + 1) (rcs d vo vw).toList rfl rfl BDX.out rfl infoRef (rcs_one _ _ _ (RR.out).c1.1 (RR.out).c1.2) ?_
    intro w5 hb5 hk5
    refine hK.out _ _ (SLX.out.trans (hk5.mono (S' := fun k => k = (w.heap.size + 1 + 1) ∨ k = (w.heap.size + 1 + 1 + 1)) (fun _ _ e => .inr e))) (fun hHeld44 => ?_)
    clear hK K
    try simp only [Act.put]
    refine tk 4 (h := ?_)
    refine wpAnyH_done (by kernel_rfl) ?_ _
    go_wp2_with fail
    have K5 := ((((KK.out).trans DR1.out)).trans_new KLX.out (fun k e => .inl (by omega))).trans_new hk5 (fun k e => .inl (by omega))
    have R5 := Rf.store (Rf.kp (Rf.still (RR.out) DR1.out) KLX.out (fun q cs fr e1 e2 => by
        rcases e1 with e1 | e1
        · exact type_off e1 (BRL.out.kp DR1.out (fun e => e)) (by decide) e2
        · exact type_off e1 (BRL.out.kp DR1.out (fun e => e)) (by decide) e2)) BDX.out hk5
    refine bodyPost_ret (v := .tuple #[.agg (mcs l ((l.h.n : Int) - l.left)).toArray, .agg (rcs d vo vw), .int .i64 6]) ?_ rfl (by rw [HE.out]; exact ⟨vo, vw, rfl, R5, K5⟩)
    exact results_cct Hr.out _ _ (w.heap.size + 1 + 1) 42 _ (0, 0) _ (w.heap.size + 1 + 1 + 1) 37 _ (0, 0) _ rfl (BLX.out.kp hk5 (fun e => by omega)) Tryz.underlying42 rfl info_rlog rfl hb5 Tryz.underlying37 rfl infoRef
  have b1 : decide ((l.h.n : Int) < m) = false := by simp; omega
  have cu : IntKind.i64.wrap ((l.h.n : Int) - ((l.h.n : Int) - l.left)) = l.left := by rw [IntWalk.i64_in _ (by omega)]; omega
  by_cases h2 : l.left < m
  · have HE := Lib.hid (HFUL.out hdd h1 h2)
    have b2 : decide ((l.left : Int) < m) = true := by simp; omega
    clear HDEAD HLIM HFUL HGO hdd
    go_upto_region 7 with fail
    refine wp_region_held_drew (S := fun v => Kp (fun k => k = (w.heap.size + 1 + 1) ∨ k = (w.heap.size + 1 + 1 + 1)) w1 v) (by kernel_rfl) (DR1.out.of_false) (fun hHeld => ?_)
    refine wpAnyH_take (i := 0) (oi := { dst := some 39, op := Op.load 42 (Operand.tmp 3), type := 42, pos := "ref.go:157", after := #[], guard := none }) (v := _) rfl (by kernel_rfl) (by kernel_rfl) (by kernel_rfl) (fun _ _ _ h => h) (yieldsIf_load_mid (by rfl) _ _ rfl w.heap.size 0 rfl ((mcs l ((l.h.n : Int) - l.left)).toArray).toList _ (fun v hv => Box.range' (L := ((mcs l ((l.h.n : Int) - l.left)).toArray).toList) (BL.out.kp hv (fun e => by omega))) Tryz.underlying42 rfl info_rlog) (by assumption) ?_
    try simp only [Act.put, List.setIfInBounds_toArray, List.set_cons_zero, List.set_cons_succ]
    refine wpAnyH_take (i := 1) (oi := { dst := some 40, op := Op.load 37 (Operand.tmp 4), type := 37, pos := "ref.go:157", after := #[{ on := 2, ground := Ground.gcOnly Departure.lateStores }], guard := none }) (v := _) rfl (by kernel_rfl) (by kernel_rfl) (by kernel_rfl) (fun _ _ _ h => h) (yieldsIf_load_mid (by rfl) _ _ rfl (w.heap.size + 1) 0 rfl (rcs d vo vw).toList _ (fun v hv => Box.range' (L := (rcs d vo vw).toList) (BD.out.kp hv (fun e => by omega))) Tryz.underlying37 rfl infoRef) (by assumption) ?_
    try simp only [Act.put, List.setIfInBounds_toArray, List.set_cons_zero, List.set_cons_succ]
    refine rd 2 (h := fun K hK => ?_)
    rw [if_pos (by rfl)]
    refine wp_store_box 42 (.tmp 6) (.tmp 39) rfl (w.heap.size + 1 + 1) (mcs l ((l.h.n : Int) - l.left)) rfl rfl (BRL.out.kp DR1.out (fun e => e)) rfl info_rlog (mcs_one _ _) ?_
    intro wl hbL hkL
    have BLX := Lib.hid hbL
    have KLX := Lib.hid hkL
    have BDX := Lib.hid ((BRD.out.kp DR1.out (fun e => e)).kp hkL (fun e => by omega))
    have SLX := Lib.hid ((DR1.out.of_false).trans (hkL.mono (S' := fun k => k = (w.heap.size + 1 + 1) ∨ k = (w.heap.size + 1 + 1 + 1)) (fun _ _ e => .inl e)))
    clear hbL hkL
    refine hK.out _ _ (SLX.out) (fun hHeld45 => ?_)
    clear hK K
    try simp only [Act.put]
    refine rd 3 (h := fun K hK => ?_)
    rw [if_pos (by rfl)]
    refine dwp_store_box 37 (.tmp 7) (.tmp 40) rfl (w.heap.size + 1 + 1 + 1) (rcs d vo vw).toList rfl rfl BDX.out rfl infoRef (rcs_one _ _ _ (RR.out).c1.1 (RR.out).c1.2) ?_
    intro w5 hb5 hk5
    refine hK.out _ _ (SLX.out.trans (hk5.mono (S' := fun k => k = (w.heap.size + 1 + 1) ∨ k = (w.heap.size + 1 + 1 + 1)) (fun _ _ e => .inr e))) (fun hHeld46 => ?_)
    clear hK K
    try simp only [Act.put]
    refine tk 4 (h := ?_)
    refine wpAnyH_done (by kernel_rfl) ?_ _
    go_wp2_with fail
    have K5 := ((((KK.out).trans DR1.out)).trans_new KLX.out (fun k e => .inl (by omega))).trans_new hk5 (fun k e => .inl (by omega))
    have R5 := Rf.store (Rf.kp (Rf.still (RR.out) DR1.out) KLX.out (fun q cs fr e1 e2 => by
        rcases e1 with e1 | e1
        · exact type_off e1 (BRL.out.kp DR1.out (fun e => e)) (by decide) e2
        · exact type_off e1 (BRL.out.kp DR1.out (fun e => e)) (by decide) e2)) BDX.out hk5
    refine bodyPost_ret (v := .tuple #[.agg (mcs l ((l.h.n : Int) - l.left)).toArray, .agg (rcs d vo vw), .int .i64 5]) ?_ rfl (by rw [HE.out]; exact ⟨vo, vw, rfl, R5, K5⟩)
    exact results_cct Hr.out _ _ (w.heap.size + 1 + 1) 42 _ (0, 0) _ (w.heap.size + 1 + 1 + 1) 37 _ (0, 0) _ rfl (BLX.out.kp hk5 (fun e => by omega)) Tryz.underlying42 rfl info_rlog rfl hb5 Tryz.underlying37 rfl infoRef
  have b2 : decide ((l.left : Int) < m) = false := by simp; omega
  have HC := Lib.hid (HGO.out hdd h1 h2)
  clear HDEAD HLIM HFUL HGO
  go_wp2_with fail
  go_loopw [10] (fun s10 wr => ∃ (k : Nat) (d' : Dm) (va vb : Value), k ≤ m ∧ s10 = .int .i64 k ∧ Dm.putAll l.h.n (Ls.drop k) d' = Dm.putAll l.h.n Ls d ∧ Rf wr va vb d' ∧ wr.ownsRow W.heap.size 102 3 (.slice A m c) m (rowS Ls) ∧ Kp (fun _ => False) w wr ∧ d'.wait.length ≤ d.wait.length + k ∧ d'.ok ∧ d'.on.length = d.on.length ∧ Box wr w.heap.size 42 (mcs l ((l.h.n : Int) - l.left)).toArray ∧ Box wr (w.heap.size + 1) 37 (rcs d' va vb) ∧ Box wr (w.heap.size + 1 + 1) 42 #[.int .u64 0, .int .u64 0, .int .i64 0, .string ⟨#[]⟩, .int .i64 0, .int .u64 0, .int .i64 0, .bool false] ∧ Box wr (w.heap.size + 1 + 1 + 1) 37 #[.slice none 0 0, .slice none 0 0, .bool false, .int .i64 0, .string ⟨#[]⟩, .int .u64 0])
    (fun s10 _ => m - (intOf s10).toNat)
  case atStart => exact ⟨0, d, vo, vw, Nat.zero_le _, rfl, by rw [List.drop_zero], RR.out, RS.out, KK.out, Nat.le_refl _, OK.out, rfl, BL.out, BD.out, BRL.out, BRD.out⟩
  case round =>
    obtain ⟨k, d2, va, vb, hkm, rfl, hsum, hrf, hrow, hkp, hwt, hok2, hon2, hbl, hbd, hbrl, hbrd⟩ := hrel
    clear BL BD BRL BRD RR KK DR1 y2 y6 y7
    have HS := Lib.hid hsum
    have RR := Lib.hid hrf
    have RS := Lib.hid hrow
    have KK := Lib.hid hkp
    have HW2 := Lib.hid hwt
    have OK2 := Lib.hid hok2
    have ON2 := Lib.hid hon2
    have BL := Lib.hid hbl
    have BD := Lib.hid hbd
    have BRL := Lib.hid hbrl
    have BRD := Lib.hid hbrd
    have DRR := Lib.hid ((Kp.refl (fun _ => False) wr).drew)
    clear hsum hrf hrow hkp hwt hok2 hon2 hbl hbd hbrl hbrd
    by_cases hlt : k < m
    · have hkl : k < Ls.length := by have := HLL.out; omega
      obtain ⟨s, hs⟩ : ∃ s, Ls[k] = s := ⟨_, rfl⟩
      obtain ⟨b1, o1, hA, c0, c1, c2⟩ := (RdS.of_own RS.out).three hkl
      subst hA
      rw [hs] at c0 c1 c2
      obtain ⟨hsq, hst⟩ := HSH.out s (by rw [← hs]; exact List.getElem_mem hkl)
      have HDR := Lib.hid (show Ls.drop k = s :: Ls.drop (k + 1) by rw [List.drop_eq_getElem_cons hkl, hs])
      have HSUM := Lib.hid (show (if (d2.writeS ((2 + s.q % l.h.n : Nat) : Int) (secL s.q s.last s.t)).2 = 0 then Dm.putAll l.h.n (Ls.drop (k + 1)) (d2.writeS ((2 + s.q % l.h.n : Nat) : Int) (secL s.q s.last s.t)).1 else d2.writeS ((2 + s.q % l.h.n : Nat) : Int) (secL s.q s.last s.t)) = Dm.putAll l.h.n Ls d by rw [← putAll_cons, ← HDR.out]; exact HS.out)
      obtain ⟨p1, hp1⟩ : ∃ p1, o1 + 3 * k = p1 := ⟨_, rfl⟩
      rw [hp1] at c0 c1 c2
      have hq1 : o1 + k * 3 = p1 := by omega
      have HSQ := Lib.hid hsq
      have HST := Lib.hid hst
      have hmm := Nat.mod_lt s.q hn0
      have hwl : (secL s.q s.last s.t).length = 512 := secL_length _ _ _ hst
      have hrm : (s.q : Int).tmod (l.h.n : Int) = ((s.q % l.h.n : Nat) : Int) := by rw [Int.tmod_eq_emod_of_nonneg (by omega)]; exact (Int.natCast_emod s.q l.h.n).symm
      have hrm2 : (s.q : Int) % (l.h.n : Int) = ((s.q % l.h.n : Nat) : Int) := (Int.natCast_emod s.q l.h.n).symm
      have hwr := fun (v : World) (hh : Rf v va vb d2) => rwrite_any hh OK2.out ((2 + s.q % l.h.n : Nat) : Int) (secL s.q s.last s.t) (by rw [hwl]; decide) (by have := HWT.out; have := HW2.out; omega)
      have HCD := Lib.hid (writeS_code d2 (2 + s.q % l.h.n) (secL s.q s.last s.t) (by have := ON2.out; have := HIN.out; omega) hwl)
      have HWW := Lib.hid (wait_writeS d2 ((2 + s.q % l.h.n : Nat) : Int) (secL s.q s.last s.t))
      have HOW := Lib.hid (on_writeS d2 ((2 + s.q % l.h.n : Nat) : Int) (secL s.q s.last s.t))
      have HOK := Lib.hid (ok_writeS OK2.out ((2 + s.q % l.h.n : Nat) : Int) (secL s.q s.last s.t) (by have := HWT.out; have := HW2.out; omega))
      generalize d2.writeS ((2 + s.q % l.h.n : Nat) : Int) (secL s.q s.last s.t) = r at *
      obtain ⟨D1, e1⟩ := r
      obtain ⟨mm, hme⟩ : ∃ mm, s.q % l.h.n = mm := ⟨_, rfl⟩
      rw [hme] at hmm hrm hrm2 hwr
      have hcn : IntKind.u64.wrap (l.h.n : Int) = (l.h.n : Int) := by rw [IntKind.wrap_u64]; omega
      have hwm : IntKind.u64.wrap (mm : Int) = (mm : Int) := by rw [IntKind.wrap_u64]; omega
      have hwi : IntKind.i64.wrap (mm : Int) = (mm : Int) := IntWalk.i64_in _ (by omega)
      obtain ⟨p, hp⟩ : ∃ p : Nat, 2 + mm = p := ⟨_, rfl⟩
      rw [hp] at hwr
      have hadd : IntKind.i64.wrap (p : Int) = (p : Int) := IntWalk.i64_in _ (by omega)
      have hadd2 : (2 : Int) + (mm : Int) = (p : Int) := by omega
      have hz0 : ((l.h.n : Int) == 0) = false := by simp; omega
      have hz1 : ¬ l.h.n = 0 := by omega
      have HWR := Lib.hid hwr
      clear hs hp1 hsq hst hkl hwr hwl hme hp hmm
      go_upto_region 11 with fail
      try simp only [Act.put]
      go_cut [11, 12] (fun p11 p12 wy => ∃ (g8 : Nat) (vc vd : Value), p11 = .pointer (some ⟨g8, 0, none⟩) ∧ p12 = .int .i64 e1 ∧ Box wy g8 37 (rcs D1 vc vd) ∧ Rf wy vc vd D1 ∧ Kp (fun _ => False) wr wy ∧ wr.heap.size ≤ g8)
      case first =>
        refine wp_region_held_drew (S := fun v => Kp (fun _ => False) wr v) (by kernel_rfl) (DRR.out) (fun hHeld => ?_)
        refine wpAnyH_take (i := 0) (oi := { dst := some 48, op := Op.load 37 (Operand.tmp 4), type := 37, pos := "ref.go:160", after := #[], guard := none }) (v := _) rfl (by kernel_rfl) (by kernel_rfl) (by kernel_rfl) (fun _ _ _ h => h) (yieldsIf_load_mid (by rfl) _ _ rfl (w.heap.size + 1) 0 rfl (rcs d2 va vb).toList _ (fun v hv => Box.range' (L := (rcs d2 va vb).toList) (BD.out.kp hv (fun e => e))) Tryz.underlying37 rfl infoRef) (by assumption) ?_
        try simp only [Act.put, List.setIfInBounds_toArray, List.set_cons_zero, List.set_cons_succ]
        refine tk 1 (h := ?_)
        refine tk 2 (h := ?_)
        refine tk 3 (h := ?_)
        refine tk 4 (h := ?_)
        refine tk 5 (v := ?_) (hy := ?_) (h := ?_)
        rotate_left
        · intro v hSw
          have y : v.cell? ⟨b1, p1, none⟩ = some (.int .u64 s.q) := (hSw.cell (p := ⟨b1, p1, none⟩) (World.block_lt_of_cell? wr ⟨b1, p1, none⟩ c0) (fun e => e)).trans c0
          try dsimp only at hSw
          go_simp
          with_reducible rfl
        refine tk 6 (h := ?_)
        refine tk 7 (h := ?_)
        refine tk 8 (v := ?_) (hy := ?_) (h := ?_)
        rotate_left
        · intro v hSw
          have y : v.cell? ⟨w.heap.size, 2, none⟩ = some (.int .i64 l.h.n) := (BL.out.kp hSw (fun e => e)).cell 2
          try dsimp only at hSw
          go_simp
          with_reducible rfl
        refine tk 9 (h := ?_)
        refine tk 10 (h := ?_)
        refine tk 11 (h := ?_)
        refine tk 12 (h := ?_)
        refine tk 13 (h := ?_)
        refine tk 14 (h := ?_)
        refine tk 15 (h := ?_)
        refine tk 16 (v := ?_) (hy := ?_) (h := ?_)
        rotate_left
        · intro v hSw
          have y : v.cell? ⟨b1, p1, none⟩ = some (.int .u64 s.q) := (hSw.cell (p := ⟨b1, p1, none⟩) (World.block_lt_of_cell? wr ⟨b1, p1, none⟩ c0) (fun e => e)).trans c0
          have y1 : v.cell? ⟨b1, p1 + 1, none⟩ = some (.bool s.last) := (hSw.cell (p := ⟨b1, p1 + 1, none⟩) (World.block_lt_of_cell? wr ⟨b1, p1 + 1, none⟩ c1) (fun e => e)).trans c1
          have y2 : v.cell? ⟨b1, p1 + 2, none⟩ = some (.string ⟨s.t.toArray⟩) := (hSw.cell (p := ⟨b1, p1 + 2, none⟩) (World.block_lt_of_cell? wr ⟨b1, p1 + 2, none⟩ c2) (fun e => e)).trans c2
          try dsimp only at hSw
          go_simp
          with_reducible rfl
        refine wpAnyH_ready (rs := [17, 22]) (by kernel_rfl) (by simp) ?_
        refine rdc 17 (h := fun K hK => ?_) (hs := rdc 22 (h := fun K hK => ?_) (hs := AllReadyH.nil))
        · go_simp
          refine (rput_any s.q s.last s.t _ HSQ.out HST.out).mono ?_
          rintro e x1 ⟨rfl, k6⟩
          have KN1 := Lib.hid ((DRR.out).trans k6)
          clear k6
          go_wp2_with fail
          refine hK.out _ _ (KN1.out) (fun hHeld30 => ?_)
          clear hK K
          try simp only [Act.put, List.setIfInBounds_toArray, List.set_cons_zero, List.set_cons_succ]
          refine wpAnyH_ready (rs := [18, 22]) (by kernel_rfl) (by simp) ?_
          refine rdc 18 (h := fun K hK => ?_) (hs := rdc 22 (h := fun K hK => ?_) (hs := AllReadyH.nil))
          · go_simp
            refine (HWR.out _ (RR.out.still (KN1.out))).mono ?_
            rintro e x2 ⟨vc, vd, rfl, r7, k7⟩
            have R7 := Lib.hid r7
            have KN2 := Lib.hid ((KN1.out).trans k7)
            clear r7 k7
            go_wp2_with fail
            refine hK.out _ _ (KN2.out) (fun hHeld31 => ?_)
            clear hK K
            try simp only [Act.put, List.setIfInBounds_toArray, List.set_cons_zero, List.set_cons_succ]
            refine tk 19 (h := ?_)
            refine tk 20 (h := ?_)
            refine tk 21 (h := ?_)
            refine rd 22 (h := fun K hK => ?_)
            go_simp
            have ka : Kp (fun _ => False) wr (x2.alloc (.cells #[.slice none 0 0, .slice none 0 0, .bool false, .int .i64 0, .string ⟨#[]⟩, .int .u64 0] 37)) := (KN2.out).alloc (.cells #[.slice none 0 0, .slice none 0 0, .bool false, .int .i64 0, .string ⟨#[]⟩, .int .u64 0] 37)
            have hge : wr.heap.size ≤ x2.heap.size := (KN2.out).size
            have R7 := Lib.hid (R7.out.still ((Kp.refl (fun _ => False) x2).alloc (.cells #[.slice none 0 0, .slice none 0 0, .bool false, .int .i64 0, .string ⟨#[]⟩, .int .u64 0] 37)))
            have hb6 : Box (x2.alloc (.cells #[.slice none 0 0, .slice none 0 0, .bool false, .int .i64 0, .string ⟨#[]⟩, .int .u64 0] 37)) x2.heap.size 37 #[.slice none 0 0, .slice none 0 0, .bool false, .int .i64 0, .string ⟨#[]⟩, .int .u64 0] := Box.new x2 37 #[.slice none 0 0, .slice none 0 0, .bool false, .int .i64 0, .string ⟨#[]⟩, .int .u64 0]
            obtain ⟨g8, hg8⟩ : ∃ g8, x2.heap.size = g8 := ⟨_, rfl⟩
            rw [hg8] at hb6
            try rw [hg8]
            have HGE := Lib.hid (show wr.heap.size ≤ g8 by omega)
            clear hg8 hge
            generalize (x2.alloc (.cells #[.slice none 0 0, .slice none 0 0, .bool false, .int .i64 0, .string ⟨#[]⟩, .int .u64 0] 37)) = x3 at *
            have BN := Lib.hid hb6
            have KN3 := Lib.hid ka
            clear hb6 ka
            refine hK.out _ _ (KN3.out) (fun hHeld32 => ?_)
            clear hK K
            try simp only [Act.put, List.setIfInBounds_toArray, List.set_cons_zero, List.set_cons_succ]
            refine rd 23 (h := fun K hK => ?_)
            rw [if_pos (by rfl)]
            refine dwp_store_box 37 (.tmp 11) (.tmp 67) rfl g8 (rcs D1 vc vd).toList rfl rfl BN.out rfl infoRef (rcs_one _ _ _ R7.out.c1.1 R7.out.c1.2) ?_
            intro w8 hb5 hk5
            have K8 := Lib.hid ((KN3.out).trans_new hk5 (fun b e => .inl (by have := HGE.out; omega)))
            have R8 := Lib.hid ((R7.out).store BN.out hk5)
            have BX := Lib.hid hb5
            clear hb5 hk5
            refine hK.out _ _ (K8.out) (fun hHeld33 => ?_)
            clear hK K
            try simp only [Act.put]
            refine tk 24 (h := ?_)
            refine wpAnyH_done (by kernel_rfl) ?_ _
            go_wp2_with fail
            go_meet
            exact ⟨g8, vc, vd, rfl, rfl, BX.out, R8.out, K8.out, HGE.out⟩
          · go_simp
            have ka : Kp (fun _ => False) wr (x1.alloc (.cells #[.slice none 0 0, .slice none 0 0, .bool false, .int .i64 0, .string ⟨#[]⟩, .int .u64 0] 37)) := (KN1.out).alloc (.cells #[.slice none 0 0, .slice none 0 0, .bool false, .int .i64 0, .string ⟨#[]⟩, .int .u64 0] 37)
            have hge : wr.heap.size ≤ x1.heap.size := (KN1.out).size
            have hb6 : Box (x1.alloc (.cells #[.slice none 0 0, .slice none 0 0, .bool false, .int .i64 0, .string ⟨#[]⟩, .int .u64 0] 37)) x1.heap.size 37 #[.slice none 0 0, .slice none 0 0, .bool false, .int .i64 0, .string ⟨#[]⟩, .int .u64 0] := Box.new x1 37 #[.slice none 0 0, .slice none 0 0, .bool false, .int .i64 0, .string ⟨#[]⟩, .int .u64 0]
            obtain ⟨g8, hg8⟩ : ∃ g8, x1.heap.size = g8 := ⟨_, rfl⟩
            rw [hg8] at hb6
            try rw [hg8]
            have HGE := Lib.hid (show wr.heap.size ≤ g8 by omega)
            clear hg8 hge
            generalize (x1.alloc (.cells #[.slice none 0 0, .slice none 0 0, .bool false, .int .i64 0, .string ⟨#[]⟩, .int .u64 0] 37)) = x4 at *
            have BN := Lib.hid hb6
            have KN4 := Lib.hid ka
            clear hb6 ka
            refine hK.out _ _ (KN4.out) (fun hHeld34 => ?_)
            clear hK K
            try simp only [Act.put, List.setIfInBounds_toArray, List.set_cons_zero, List.set_cons_succ]
            refine rd 18 (h := fun K hK => ?_)
            go_simp
            refine (HWR.out _ (RR.out.still (KN4.out))).mono ?_
            rintro e x5 ⟨vc, vd, rfl, r7, k7⟩
            have R7 := Lib.hid r7
            have KN5 := Lib.hid ((KN4.out).trans k7)
            have BN := Lib.hid (BN.out.kp k7 (fun e => e))
            clear r7 k7
            go_wp2_with fail
            refine hK.out _ _ (KN5.out) (fun hHeld35 => ?_)
            clear hK K
            try simp only [Act.put, List.setIfInBounds_toArray, List.set_cons_zero, List.set_cons_succ]
            refine tk 19 (h := ?_)
            refine tk 20 (h := ?_)
            refine tk 21 (h := ?_)
            refine rd 23 (h := fun K hK => ?_)
            rw [if_pos (by rfl)]
            refine dwp_store_box 37 (.tmp 11) (.tmp 67) rfl g8 (rcs D1 vc vd).toList rfl rfl BN.out rfl infoRef (rcs_one _ _ _ R7.out.c1.1 R7.out.c1.2) ?_
            intro w8 hb5 hk5
            have K8 := Lib.hid ((KN5.out).trans_new hk5 (fun b e => .inl (by have := HGE.out; omega)))
            have R8 := Lib.hid ((R7.out).store BN.out hk5)
            have BX := Lib.hid hb5
            clear hb5 hk5
            refine hK.out _ _ (K8.out) (fun hHeld36 => ?_)
            clear hK K
            try simp only [Act.put]
            refine tk 24 (h := ?_)
            refine wpAnyH_done (by kernel_rfl) ?_ _
            go_wp2_with fail
            go_meet
            exact ⟨g8, vc, vd, rfl, rfl, BX.out, R8.out, K8.out, HGE.out⟩
        · go_simp
          have ka : Kp (fun _ => False) wr (wr.alloc (.cells #[.slice none 0 0, .slice none 0 0, .bool false, .int .i64 0, .string ⟨#[]⟩, .int .u64 0] 37)).drew := ((Kp.refl (fun _ => False) wr).alloc (.cells #[.slice none 0 0, .slice none 0 0, .bool false, .int .i64 0, .string ⟨#[]⟩, .int .u64 0] 37)).drew
          have hge : wr.heap.size ≤ wr.heap.size := Nat.le_refl _
          have hb6 : Box (wr.alloc (.cells #[.slice none 0 0, .slice none 0 0, .bool false, .int .i64 0, .string ⟨#[]⟩, .int .u64 0] 37)).drew wr.heap.size 37 #[.slice none 0 0, .slice none 0 0, .bool false, .int .i64 0, .string ⟨#[]⟩, .int .u64 0] := Box.new wr 37 #[.slice none 0 0, .slice none 0 0, .bool false, .int .i64 0, .string ⟨#[]⟩, .int .u64 0]
          obtain ⟨g8, hg8⟩ : ∃ g8, wr.heap.size = g8 := ⟨_, rfl⟩
          rw [hg8] at hb6
          try rw [hg8]
          have HGE := Lib.hid (show wr.heap.size ≤ g8 by omega)
          clear hg8 hge
          generalize (wr.alloc (.cells #[.slice none 0 0, .slice none 0 0, .bool false, .int .i64 0, .string ⟨#[]⟩, .int .u64 0] 37)).drew = x6 at *
          have BN := Lib.hid hb6
          have KN6 := Lib.hid ka
          clear hb6 ka
          refine hK.out _ _ (KN6.out) (fun hHeld37 => ?_)
          clear hK K
          try simp only [Act.put, List.setIfInBounds_toArray, List.set_cons_zero, List.set_cons_succ]
          refine rd 17 (h := fun K hK => ?_)
          go_simp
          refine (rput_any s.q s.last s.t _ HSQ.out HST.out).mono ?_
          rintro e x7 ⟨rfl, k6⟩
          have KN7 := Lib.hid ((KN6.out).trans k6)
          have BN := Lib.hid (BN.out.kp k6 (fun e => e))
          clear k6
          go_wp2_with fail
          refine hK.out _ _ (KN7.out) (fun hHeld38 => ?_)
          clear hK K
          try simp only [Act.put, List.setIfInBounds_toArray, List.set_cons_zero, List.set_cons_succ]
          refine rd 18 (h := fun K hK => ?_)
          go_simp
          refine (HWR.out _ (RR.out.still (KN7.out))).mono ?_
          rintro e x8 ⟨vc, vd, rfl, r7, k7⟩
          have R7 := Lib.hid r7
          have KN8 := Lib.hid ((KN7.out).trans k7)
          have BN := Lib.hid (BN.out.kp k7 (fun e => e))
          clear r7 k7
          go_wp2_with fail
          refine hK.out _ _ (KN8.out) (fun hHeld39 => ?_)
          clear hK K
          try simp only [Act.put, List.setIfInBounds_toArray, List.set_cons_zero, List.set_cons_succ]
          refine tk 19 (h := ?_)
          refine tk 20 (h := ?_)
          refine tk 21 (h := ?_)
          refine rd 23 (h := fun K hK => ?_)
          rw [if_pos (by rfl)]
          refine dwp_store_box 37 (.tmp 11) (.tmp 67) rfl g8 (rcs D1 vc vd).toList rfl rfl BN.out rfl infoRef (rcs_one _ _ _ R7.out.c1.1 R7.out.c1.2) ?_
          intro w8 hb5 hk5
          have K8 := Lib.hid ((KN8.out).trans_new hk5 (fun b e => .inl (by have := HGE.out; omega)))
          have R8 := Lib.hid ((R7.out).store BN.out hk5)
          have BX := Lib.hid hb5
          clear hb5 hk5
          refine hK.out _ _ (K8.out) (fun hHeld40 => ?_)
          clear hK K
          try simp only [Act.put]
          refine tk 24 (h := ?_)
          refine wpAnyH_done (by kernel_rfl) ?_ _
          go_wp2_with fail
          go_meet
          exact ⟨g8, vc, vd, rfl, rfl, BX.out, R8.out, K8.out, HGE.out⟩
      case rest =>
        obtain ⟨g8, vc, vd, rfl, rfl, hbx, hry, hky, hge⟩ := hcut
        obtain ⟨wy, ewy, hry⟩ : ∃ wy, wy = _ ∧ Rf wy vc vd D1 := ⟨_, rfl, hry⟩
        subst ewy
        have BX := Lib.hid hbx
        have RY := Lib.hid hry
        have KY := Lib.hid (KK.out.trans hky)
        have HG8 := Lib.hid (show ¬ g8 = (w.heap.size + 1) by have := BD.out.lt; omega)
        have BD1 := Lib.hid (BD.out.kp hky (fun e => e))
        have BL1 := Lib.hid (BL.out.kp hky (fun e => e))
        have BRL1 := Lib.hid (BRL.out.kp hky (fun e => e))
        have BRD1 := Lib.hid (BRD.out.kp hky (fun e => e))
        have RS1 := Lib.hid (down_kp RS.out hky (fun _ _ e => e))
        clear hbx hry hky hge RR KK BD BL BRL BRD RS DRR
        have hcd := HCD.out
        try dsimp only at hcd
        go_upto_region 13 with (first | (refine wpList_load_mid rfl 37 (.tmp 11) rfl g8 0 rfl (rcs D1 vc vd).toList _ (Box.range' (L := (rcs D1 vc vd).toList) BX.out) Tryz.underlying37 rfl infoRef ?_) | (refine dwpList_store_box rfl 37 (.tmp 4) (.tmp 69) rfl (w.heap.size + 1) (rcs D1 vc vd).toList rfl rfl BD1.out rfl infoRef (rcs_one _ _ _ RY.out.c1.1 RY.out.c1.2) ?_; intro wq hb5 hk5) | fail)
        have RR := Lib.hid (RY.out.store BD1.out hk5)
        have KK := Lib.hid (KY.out.trans_new hk5 (fun k e => .inl (by omega)))
        have BD := Lib.hid hb5
        have BL := Lib.hid (BL1.out.kp hk5 (fun e => by omega))
        have BRL := Lib.hid (BRL1.out.kp hk5 (fun e => by omega))
        have BRD := Lib.hid (BRD1.out.kp hk5 (fun e => by omega))
        have RS := Lib.hid (down_kp RS1.out hk5 (fun k hk e => by
          obtain ⟨cur, hc⟩ := own_block RS1.out hk
          exact type_off hc BD1.out (by decide) e))
        clear hb5 hk5 RY KY BD1 BL1 BRL1 BRD1 RS1 BX
        rcases hcd with rfl | rfl
        · have HS5 := Lib.hid (show Dm.putAll l.h.n (Ls.drop (k + 1)) D1 = Dm.putAll l.h.n Ls d by have := HSUM.out; rwa [if_pos rfl] at this)
          go_wp2_with fail
          go_roundw
          case rel =>
            exact ⟨k + 1, D1, vc, vd, by omega, by go_num, HS5.out, RR.out, RS.out, KK.out, by have h1 : D1.wait.length ≤ d2.wait.length + 1 := HWW.out; have := HW2.out; omega, HOK.out, by have h1 : D1.on.length = d2.on.length := HOW.out; have := ON2.out; omega, BL.out, BD.out, BRL.out, BRD.out⟩
          case measure => simp [intOf]; omega
        · have HE := Lib.hid (show l.commitS d t = (({ l with dead := true } : Lm), D1, 4) by
            have h5 : (D1, (4 : Int)) = Dm.putAll l.h.n Ls d := by have := HSUM.out; rwa [if_neg (show ¬ ((4 : Int) = 0) by decide)] at this
            rw [HC.out, ← h5]
            rfl)
          have y7 : wq.cell? ⟨w.heap.size, 7, none⟩ = some (.bool l.dead) := BL.out.cell 7
          rw [hdd] at y7
          have f7 := BL.out.free 7
          go_upto_region 15 with fail
          have hl9 := BL.out.put 7 (.bool true)
          have KD9 : Kp (fun k => k = w.heap.size) wq (wq.setCell ⟨w.heap.size, 7, none⟩ (.bool true)) := (Kp.refl (fun k => k = w.heap.size) wq).setCell (p := ⟨w.heap.size, 7, none⟩) (.inr rfl) _
          generalize wq.setCell ⟨w.heap.size, 7, none⟩ (.bool true) = wz at *
          have BL9 := Lib.hid (show Box wz w.heap.size 42 (mcs ({ l with dead := true } : Lm) ((l.h.n : Int) - l.left)).toArray from hl9)
          have RZ := Lib.hid (RR.out.kp KD9 (fun q cs fr e1 e2 => by
              rcases e1 with e1 | e1
              · exact type_off e1 BL.out (by decide) e2
              · exact type_off e1 BL.out (by decide) e2))
          have KZ := Lib.hid (KK.out.trans_new KD9 (fun k e => .inl (by omega)))
          have BD9 := Lib.hid (BD.out.kp KD9 (fun e => by omega))
          have BRL9 := Lib.hid (BRL.out.kp KD9 (fun e => by omega))
          have BRD9 := Lib.hid (BRD.out.kp KD9 (fun e => by omega))
          have DRZ := Lib.hid ((Kp.refl (fun _ => False) wz).drew)
          clear hl9 KD9
          refine wp_region_held_drew (S := fun v => Kp (fun k => k = (w.heap.size + 1 + 1) ∨ k = (w.heap.size + 1 + 1 + 1)) wz v) (by kernel_rfl) (DRZ.out.of_false) (fun hHeld => ?_)
          refine wpAnyH_take (i := 0) (oi := { dst := some 73, op := Op.load 42 (Operand.tmp 3), type := 42, pos := "ref.go:164", after := #[], guard := none }) (v := _) rfl (by kernel_rfl) (by kernel_rfl) (by kernel_rfl) (fun _ _ _ h => h) (yieldsIf_load_mid (by rfl) _ _ rfl w.heap.size 0 rfl ((mcs ({ l with dead := true } : Lm) ((l.h.n : Int) - l.left)).toArray).toList _ (fun v hv => Box.range' (L := ((mcs ({ l with dead := true } : Lm) ((l.h.n : Int) - l.left)).toArray).toList) (BL9.out.kp hv (fun e => by omega))) Tryz.underlying42 rfl info_rlog) (by assumption) ?_
          try simp only [Act.put, List.setIfInBounds_toArray, List.set_cons_zero, List.set_cons_succ]
          refine wpAnyH_take (i := 1) (oi := { dst := some 74, op := Op.load 37 (Operand.tmp 4), type := 37, pos := "ref.go:164", after := #[{ on := 3, ground := Ground.gcOnly Departure.lateStores }], guard := none }) (v := _) rfl (by kernel_rfl) (by kernel_rfl) (by kernel_rfl) (fun _ _ _ h => h) (yieldsIf_load_mid (by rfl) _ _ rfl (w.heap.size + 1) 0 rfl (rcs D1 vc vd).toList _ (fun v hv => Box.range' (L := (rcs D1 vc vd).toList) (BD9.out.kp hv (fun e => by omega))) Tryz.underlying37 rfl infoRef) (by assumption) ?_
          try simp only [Act.put, List.setIfInBounds_toArray, List.set_cons_zero, List.set_cons_succ]
          refine tk 2 (h := ?_)
          refine rd 3 (h := fun K hK => ?_)
          rw [if_pos (by rfl)]
          refine wp_store_box 42 (.tmp 6) (.tmp 73) rfl (w.heap.size + 1 + 1) (mcs ({ l with dead := true } : Lm) ((l.h.n : Int) - l.left)) rfl rfl (BRL9.out.kp DRZ.out (fun e => e)) rfl info_rlog (mcs_one _ _) ?_
          intro wl hbL hkL
          have BLX := Lib.hid hbL
          have KLX := Lib.hid hkL
          have BDX := Lib.hid ((BRD9.out.kp DRZ.out (fun e => e)).kp hkL (fun e => by omega))
          have SLX := Lib.hid ((DRZ.out.of_false).trans (hkL.mono (S' := fun k => k = (w.heap.size + 1 + 1) ∨ k = (w.heap.size + 1 + 1 + 1)) (fun _ _ e => .inl e)))
          clear hbL hkL
          refine hK.out _ _ (SLX.out) (fun hHeld26 => ?_)
          clear hK K
          try simp only [Act.put]
          refine rd 4 (h := fun K hK => ?_)
          rw [if_pos (by rfl)]
          refine dwp_store_box 37 (.tmp 7) (.tmp 74) rfl (w.heap.size + 1 + 1 + 1) (rcs D1 vc vd).toList rfl rfl BDX.out rfl infoRef (rcs_one _ _ _ (RZ.out).c1.1 (RZ.out).c1.2) ?_
          intro w5 hb5 hk5
          refine hK.out _ _ (SLX.out.trans (hk5.mono (S' := fun k => k = (w.heap.size + 1 + 1) ∨ k = (w.heap.size + 1 + 1 + 1)) (fun _ _ e => .inr e))) (fun hHeld27 => ?_)
          clear hK K
          try simp only [Act.put]
          refine tk 5 (h := ?_)
          refine wpAnyH_done (by kernel_rfl) ?_ _
          go_wp2_with fail
          have K5 := ((((KZ.out).trans DRZ.out)).trans_new KLX.out (fun k e => .inl (by omega))).trans_new hk5 (fun k e => .inl (by omega))
          have R5 := Rf.store (Rf.kp (Rf.still (RZ.out) DRZ.out) KLX.out (fun q cs fr e1 e2 => by
              rcases e1 with e1 | e1
              · exact type_off e1 (BRL9.out.kp DRZ.out (fun e => e)) (by decide) e2
              · exact type_off e1 (BRL9.out.kp DRZ.out (fun e => e)) (by decide) e2)) BDX.out hk5
          refine bodyPost_ret (v := .tuple #[.agg (mcs ({ l with dead := true } : Lm) ((l.h.n : Int) - l.left)).toArray, .agg (rcs D1 vc vd), .int .i64 4]) ?_ rfl (by rw [HE.out]; exact ⟨vc, vd, rfl, R5, K5⟩)
          exact results_cct Hr.out _ _ (w.heap.size + 1 + 1) 42 _ (0, 0) _ (w.heap.size + 1 + 1 + 1) 37 _ (0, 0) _ rfl (BLX.out.kp hk5 (fun e => by omega)) Tryz.underlying42 rfl info_rlog rfl hb5 Tryz.underlying37 rfl infoRef

    · have HS5 := Lib.hid (show d2.flushS = Dm.putAll l.h.n Ls d by
        have := HS.out
        rw [List.drop_of_length_le (by have := HLL.out; omega)] at this
        exact this)
      have hfl := rflush_any RR.out OK2.out
      have HCD := Lib.hid (flushS_code d2)
      generalize d2.flushS = r at *
      obtain ⟨D1, e1⟩ := r
      have HFL := Lib.hid hfl
      clear hfl
      go_wp2_with (first | (refine wpList_load_mid rfl 37 (.tmp 4) rfl (w.heap.size + 1) 0 rfl (rcs d2 va vb).toList _ (Box.range' (L := (rcs d2 va vb).toList) BD.out) Tryz.underlying37 rfl infoRef ?_) | fail)
      refine HFL.out.mono ?_
      rintro e w7 ⟨vc, vd, rfl, r7, k7⟩
      have RY := Lib.hid r7
      have KY := Lib.hid (KK.out.trans k7)
      have BD1 := Lib.hid (BD.out.kp k7 (fun e => e))
      have BL1 := Lib.hid (BL.out.kp k7 (fun e => e))
      have BRL1 := Lib.hid (BRL.out.kp k7 (fun e => e))
      have BRD1 := Lib.hid (BRD.out.kp k7 (fun e => e))
      clear r7 k7 RR KK BD BL BRL BRD RS DRR HFL
      have hcd := HCD.out
      try dsimp only at hcd
      go_upto_region 17 with (first | (refine dwpList_store_box rfl 37 (.tmp 4) (.tmp 79) rfl (w.heap.size + 1) (rcs D1 vc vd).toList rfl rfl BD1.out rfl infoRef (rcs_one _ _ _ RY.out.c1.1 RY.out.c1.2) ?_; intro wq hb5 hk5) | fail)
      have RR := Lib.hid (RY.out.store BD1.out hk5)
      have KK := Lib.hid (KY.out.trans_new hk5 (fun k e => .inl (by omega)))
      have BD := Lib.hid hb5
      have BL := Lib.hid (BL1.out.kp hk5 (fun e => by omega))
      have BRL := Lib.hid (BRL1.out.kp hk5 (fun e => by omega))
      have BRD := Lib.hid (BRD1.out.kp hk5 (fun e => by omega))
      clear hb5 hk5 RY KY BD1 BL1 BRL1 BRD1
      rcases hcd with rfl | rfl
      · have HE := Lib.hid (show l.commitS d t = (({ l with next := (l.next + m) % 18446744073709551616, left := l.left - m } : Lm), D1, 0) by
          have h5 : (D1, (0 : Int)) = Dm.putAll l.h.n Ls d := HS5.out
          rw [HC.out, ← h5]
          rfl)
        have y5 : wq.cell? ⟨w.heap.size, 5, none⟩ = some (.int .u64 l.next) := BL.out.cell 5
        have y6 : wq.cell? ⟨w.heap.size, 6, none⟩ = some (.int .i64 ((l.h.n : Int) - l.left)) := BL.out.cell 6
        have f5 := BL.out.free 5
        have f6 := BL.out.free 6
        have cu5 : IntKind.u64.wrap (m : Int) = (m : Int) := by rw [IntKind.wrap_u64]; omega
        have cu6 : IntKind.u64.wrap ((l.next : Int) + m) = (((l.next + m) % 18446744073709551616 : Nat) : Int) := wrap_add _ _
        have cu7 : IntKind.i64.wrap (((l.h.n : Int) - l.left) + m) = ((l.h.n : Int) - (l.left - m : Nat)) := by rw [IntWalk.i64_in _ (by omega)]; omega
        go_upto_region 22 with fail
        have hl9 := (BL.out.put 5 (.int .u64 (((l.next : Int) + (m : Int)) % 18446744073709551616))).put 6 (.int .i64 ((l.h.n : Int) - (l.left - m : Nat)))
        have KD9 : Kp (fun k => k = w.heap.size) wq ((wq.setCell ⟨w.heap.size, 5, none⟩ (.int .u64 (((l.next : Int) + (m : Int)) % 18446744073709551616))).setCell ⟨w.heap.size, 6, none⟩ (.int .i64 ((l.h.n : Int) - (l.left - m : Nat)))) := ((Kp.refl (fun k => k = w.heap.size) wq).setCell (p := ⟨w.heap.size, 5, none⟩) (.inr rfl) _).setCell (p := ⟨w.heap.size, 6, none⟩) (.inr rfl) _
        generalize ((wq.setCell ⟨w.heap.size, 5, none⟩ (.int .u64 (((l.next : Int) + (m : Int)) % 18446744073709551616))).setCell ⟨w.heap.size, 6, none⟩ (.int .i64 ((l.h.n : Int) - (l.left - m : Nat)))) = wz at *
        rw [show ((l.next : Int) + (m : Int)) % 18446744073709551616 = (((l.next + m) % 18446744073709551616 : Nat) : Int) by omega] at hl9
        have BL9 := Lib.hid (show Box wz w.heap.size 42 (mcs ({ l with next := (l.next + m) % 18446744073709551616, left := l.left - m } : Lm) ((l.h.n : Int) - (l.left - m : Nat))).toArray from hl9)
        have RZ := Lib.hid (RR.out.kp KD9 (fun q cs fr e1 e2 => by
            rcases e1 with e1 | e1
            · exact type_off e1 BL.out (by decide) e2
            · exact type_off e1 BL.out (by decide) e2))
        have KZ := Lib.hid (KK.out.trans_new KD9 (fun k e => .inl (by omega)))
        have BD9 := Lib.hid (BD.out.kp KD9 (fun e => by omega))
        have BRL9 := Lib.hid (BRL.out.kp KD9 (fun e => by omega))
        have BRD9 := Lib.hid (BRD.out.kp KD9 (fun e => by omega))
        have DRZ := Lib.hid ((Kp.refl (fun _ => False) wz).drew)
        clear hl9 KD9
        refine wp_region_held_drew (S := fun v => Kp (fun k => k = (w.heap.size + 1 + 1) ∨ k = (w.heap.size + 1 + 1 + 1)) wz v) (by kernel_rfl) (DRZ.out.of_false) (fun hHeld => ?_)
        refine wpAnyH_take (i := 0) (oi := { dst := some 100, op := Op.load 42 (Operand.tmp 3), type := 42, pos := "ref.go:174", after := #[], guard := none }) (v := _) rfl (by kernel_rfl) (by kernel_rfl) (by kernel_rfl) (fun _ _ _ h => h) (yieldsIf_load_mid (by rfl) _ _ rfl w.heap.size 0 rfl ((mcs ({ l with next := (l.next + m) % 18446744073709551616, left := l.left - m } : Lm) ((l.h.n : Int) - (l.left - m : Nat))).toArray).toList _ (fun v hv => Box.range' (L := ((mcs ({ l with next := (l.next + m) % 18446744073709551616, left := l.left - m } : Lm) ((l.h.n : Int) - (l.left - m : Nat))).toArray).toList) (BL9.out.kp hv (fun e => by omega))) Tryz.underlying42 rfl info_rlog) (by assumption) ?_
        try simp only [Act.put, List.setIfInBounds_toArray, List.set_cons_zero, List.set_cons_succ]
        refine wpAnyH_take (i := 1) (oi := { dst := some 101, op := Op.load 37 (Operand.tmp 4), type := 37, pos := "ref.go:174", after := #[{ on := 2, ground := Ground.gcOnly Departure.lateStores }], guard := none }) (v := _) rfl (by kernel_rfl) (by kernel_rfl) (by kernel_rfl) (fun _ _ _ h => h) (yieldsIf_load_mid (by rfl) _ _ rfl (w.heap.size + 1) 0 rfl (rcs D1 vc vd).toList _ (fun v hv => Box.range' (L := (rcs D1 vc vd).toList) (BD9.out.kp hv (fun e => by omega))) Tryz.underlying37 rfl infoRef) (by assumption) ?_
        try simp only [Act.put, List.setIfInBounds_toArray, List.set_cons_zero, List.set_cons_succ]
        refine rd 2 (h := fun K hK => ?_)
        rw [if_pos (by rfl)]
        refine wp_store_box 42 (.tmp 6) (.tmp 100) rfl (w.heap.size + 1 + 1) (mcs ({ l with next := (l.next + m) % 18446744073709551616, left := l.left - m } : Lm) ((l.h.n : Int) - (l.left - m : Nat))) rfl rfl (BRL9.out.kp DRZ.out (fun e => e)) rfl info_rlog (mcs_one _ _) ?_
        intro wl hbL hkL
        have BLX := Lib.hid hbL
        have KLX := Lib.hid hkL
        have BDX := Lib.hid ((BRD9.out.kp DRZ.out (fun e => e)).kp hkL (fun e => by omega))
        have SLX := Lib.hid ((DRZ.out.of_false).trans (hkL.mono (S' := fun k => k = (w.heap.size + 1 + 1) ∨ k = (w.heap.size + 1 + 1 + 1)) (fun _ _ e => .inl e)))
        clear hbL hkL
        refine hK.out _ _ (SLX.out) (fun hHeld24 => ?_)
        clear hK K
        try simp only [Act.put]
        refine rd 3 (h := fun K hK => ?_)
        rw [if_pos (by rfl)]
        refine dwp_store_box 37 (.tmp 7) (.tmp 101) rfl (w.heap.size + 1 + 1 + 1) (rcs D1 vc vd).toList rfl rfl BDX.out rfl infoRef (rcs_one _ _ _ (RZ.out).c1.1 (RZ.out).c1.2) ?_
        intro w5 hb5 hk5
        refine hK.out _ _ (SLX.out.trans (hk5.mono (S' := fun k => k = (w.heap.size + 1 + 1) ∨ k = (w.heap.size + 1 + 1 + 1)) (fun _ _ e => .inr e))) (fun hHeld25 => ?_)
        clear hK K
        try simp only [Act.put]
        refine tk 4 (h := ?_)
        refine wpAnyH_done (by kernel_rfl) ?_ _
        go_wp2_with fail
        have K5 := ((((KZ.out).trans DRZ.out)).trans_new KLX.out (fun k e => .inl (by omega))).trans_new hk5 (fun k e => .inl (by omega))
        have R5 := Rf.store (Rf.kp (Rf.still (RZ.out) DRZ.out) KLX.out (fun q cs fr e1 e2 => by
            rcases e1 with e1 | e1
            · exact type_off e1 (BRL9.out.kp DRZ.out (fun e => e)) (by decide) e2
            · exact type_off e1 (BRL9.out.kp DRZ.out (fun e => e)) (by decide) e2)) BDX.out hk5
        refine bodyPost_ret (v := .tuple #[.agg (mcs ({ l with next := (l.next + m) % 18446744073709551616, left := l.left - m } : Lm) ((l.h.n : Int) - (l.left - m : Nat))).toArray, .agg (rcs D1 vc vd), .int .i64 0]) ?_ rfl (by rw [HE.out]; exact ⟨vc, vd, rfl, R5, K5⟩)
        exact results_cct Hr.out _ _ (w.heap.size + 1 + 1) 42 _ (0, 0) _ (w.heap.size + 1 + 1 + 1) 37 _ (0, 0) _ rfl (BLX.out.kp hk5 (fun e => by omega)) Tryz.underlying42 rfl info_rlog rfl hb5 Tryz.underlying37 rfl infoRef
      · have HE := Lib.hid (show l.commitS d t = (({ l with dead := true } : Lm), D1, 4) by
          have h5 : (D1, (4 : Int)) = Dm.putAll l.h.n Ls d := HS5.out
          rw [HC.out, ← h5]
          rfl)
        have y7 : wq.cell? ⟨w.heap.size, 7, none⟩ = some (.bool l.dead) := BL.out.cell 7
        rw [hdd] at y7
        have f7 := BL.out.free 7
        go_upto_region 19 with fail
        have hl9 := BL.out.put 7 (.bool true)
        have KD9 : Kp (fun k => k = w.heap.size) wq (wq.setCell ⟨w.heap.size, 7, none⟩ (.bool true)) := (Kp.refl (fun k => k = w.heap.size) wq).setCell (p := ⟨w.heap.size, 7, none⟩) (.inr rfl) _
        generalize wq.setCell ⟨w.heap.size, 7, none⟩ (.bool true) = wz at *
        have BL9 := Lib.hid (show Box wz w.heap.size 42 (mcs ({ l with dead := true } : Lm) ((l.h.n : Int) - l.left)).toArray from hl9)
        have RZ := Lib.hid (RR.out.kp KD9 (fun q cs fr e1 e2 => by
            rcases e1 with e1 | e1
            · exact type_off e1 BL.out (by decide) e2
            · exact type_off e1 BL.out (by decide) e2))
        have KZ := Lib.hid (KK.out.trans_new KD9 (fun k e => .inl (by omega)))
        have BD9 := Lib.hid (BD.out.kp KD9 (fun e => by omega))
        have BRL9 := Lib.hid (BRL.out.kp KD9 (fun e => by omega))
        have BRD9 := Lib.hid (BRD.out.kp KD9 (fun e => by omega))
        have DRZ := Lib.hid ((Kp.refl (fun _ => False) wz).drew)
        clear hl9 KD9
        refine wp_region_held_drew (S := fun v => Kp (fun k => k = (w.heap.size + 1 + 1) ∨ k = (w.heap.size + 1 + 1 + 1)) wz v) (by kernel_rfl) (DRZ.out.of_false) (fun hHeld => ?_)
        refine wpAnyH_take (i := 0) (oi := { dst := some 84, op := Op.load 42 (Operand.tmp 3), type := 42, pos := "ref.go:170", after := #[], guard := none }) (v := _) rfl (by kernel_rfl) (by kernel_rfl) (by kernel_rfl) (fun _ _ _ h => h) (yieldsIf_load_mid (by rfl) _ _ rfl w.heap.size 0 rfl ((mcs ({ l with dead := true } : Lm) ((l.h.n : Int) - l.left)).toArray).toList _ (fun v hv => Box.range' (L := ((mcs ({ l with dead := true } : Lm) ((l.h.n : Int) - l.left)).toArray).toList) (BL9.out.kp hv (fun e => by omega))) Tryz.underlying42 rfl info_rlog) (by assumption) ?_
        try simp only [Act.put, List.setIfInBounds_toArray, List.set_cons_zero, List.set_cons_succ]
        refine wpAnyH_take (i := 1) (oi := { dst := some 85, op := Op.load 37 (Operand.tmp 4), type := 37, pos := "ref.go:170", after := #[{ on := 3, ground := Ground.gcOnly Departure.lateStores }], guard := none }) (v := _) rfl (by kernel_rfl) (by kernel_rfl) (by kernel_rfl) (fun _ _ _ h => h) (yieldsIf_load_mid (by rfl) _ _ rfl (w.heap.size + 1) 0 rfl (rcs D1 vc vd).toList _ (fun v hv => Box.range' (L := (rcs D1 vc vd).toList) (BD9.out.kp hv (fun e => by omega))) Tryz.underlying37 rfl infoRef) (by assumption) ?_
        try simp only [Act.put, List.setIfInBounds_toArray, List.set_cons_zero, List.set_cons_succ]
        refine tk 2 (h := ?_)
        refine rd 3 (h := fun K hK => ?_)
        rw [if_pos (by rfl)]
        refine wp_store_box 42 (.tmp 6) (.tmp 84) rfl (w.heap.size + 1 + 1) (mcs ({ l with dead := true } : Lm) ((l.h.n : Int) - l.left)) rfl rfl (BRL9.out.kp DRZ.out (fun e => e)) rfl info_rlog (mcs_one _ _) ?_
        intro wl hbL hkL
        have BLX := Lib.hid hbL
        have KLX := Lib.hid hkL
        have BDX := Lib.hid ((BRD9.out.kp DRZ.out (fun e => e)).kp hkL (fun e => by omega))
        have SLX := Lib.hid ((DRZ.out.of_false).trans (hkL.mono (S' := fun k => k = (w.heap.size + 1 + 1) ∨ k = (w.heap.size + 1 + 1 + 1)) (fun _ _ e => .inl e)))
        clear hbL hkL
        refine hK.out _ _ (SLX.out) (fun hHeld28 => ?_)
        clear hK K
        try simp only [Act.put]
        refine rd 4 (h := fun K hK => ?_)
        rw [if_pos (by rfl)]
        refine dwp_store_box 37 (.tmp 7) (.tmp 85) rfl (w.heap.size + 1 + 1 + 1) (rcs D1 vc vd).toList rfl rfl BDX.out rfl infoRef (rcs_one _ _ _ (RZ.out).c1.1 (RZ.out).c1.2) ?_
        intro w5 hb5 hk5
        refine hK.out _ _ (SLX.out.trans (hk5.mono (S' := fun k => k = (w.heap.size + 1 + 1) ∨ k = (w.heap.size + 1 + 1 + 1)) (fun _ _ e => .inr e))) (fun hHeld29 => ?_)
        clear hK K
        try simp only [Act.put]
        refine tk 5 (h := ?_)
        refine wpAnyH_done (by kernel_rfl) ?_ _
        go_wp2_with fail
        have K5 := ((((KZ.out).trans DRZ.out)).trans_new KLX.out (fun k e => .inl (by omega))).trans_new hk5 (fun k e => .inl (by omega))
        have R5 := Rf.store (Rf.kp (Rf.still (RZ.out) DRZ.out) KLX.out (fun q cs fr e1 e2 => by
            rcases e1 with e1 | e1
            · exact type_off e1 (BRL9.out.kp DRZ.out (fun e => e)) (by decide) e2
            · exact type_off e1 (BRL9.out.kp DRZ.out (fun e => e)) (by decide) e2)) BDX.out hk5
        refine bodyPost_ret (v := .tuple #[.agg (mcs ({ l with dead := true } : Lm) ((l.h.n : Int) - l.left)).toArray, .agg (rcs D1 vc vd), .int .i64 4]) ?_ rfl (by rw [HE.out]; exact ⟨vc, vd, rfl, R5, K5⟩)
        exact results_cct Hr.out _ _ (w.heap.size + 1 + 1) 42 _ (0, 0) _ (w.heap.size + 1 + 1 + 1) 37 _ (0, 0) _ rfl (BLX.out.kp hk5 (fun e => by omega)) Tryz.underlying42 rfl info_rlog rfl hb5 Tryz.underlying37 rfl infoRef


end Go.Proofs.YtfcljcikajaedaaGreatDoor
