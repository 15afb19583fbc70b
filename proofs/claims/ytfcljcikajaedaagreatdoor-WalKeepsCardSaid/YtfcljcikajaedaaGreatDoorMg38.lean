/- The document's own disk: fuse, crash, start. Conditions: the disk's own. -/
import Derived.Test.YtfcljcikajaedaaGreatDoorMg37
namespace Go.Proofs.YtfcljcikajaedaaGreatDoor
open Go.RowKit Go.Maps

set_option maxRecDepth 100000 in
set_option maxHeartbeats 4000000 in
theorem rfuse_any {w : World} {vo vw : Value} {d : Dm} (h : Rf w vo vw d) (n : Int) (l : List UInt8) :
    Calls Tryz.prog 27 #[.agg (rcs d vo vw), .int .i64 n, .string ⟨l.toArray⟩] w fun e w' => ∃ vo' vw', e = .returned (.tuple #[.agg (rcs (d.fuseS n l).1 vo' vw'), .int .i64 (d.fuseS n l).2]) ∧ Rf w' vo' vw' (d.fuseS n l).1 ∧ Kp (fun _ => False) w w' := by
  have Hr : Hid (Tryz.f27.results = #[.cell 6 37, .tmp 7]) := Lib.hid (by kernel_rfl)
  obtain ⟨W, hW, hb0, hb1, hkw⟩ := start2 w (rcs d vo vw)
  have HW := Lib.hid hW
  have B0 := Lib.hid hb0
  have B1 := Lib.hid hb1
  have KW := Lib.hid hkw
  have H0 := Lib.hid (h.still hkw)
  obtain ⟨ho1, ho2⟩ := h.c1
  clear hb0 hb1 hkw hW
  clear h
  by_cases hn : n < 0
  · have hx : d.fuseS n l = (d, 2) := by rw [Dm.fuseS, decide_eq_false (by omega)]; rfl
    rw [hx]
    clear hx
    go_enter Tryz.func27, Tryz.ntmps27
    go_upto_region 1 with fail
    rw [← HW.out]
    go_wp2_with (first | (refine wpList_load_mid rfl 37 (.tmp 3) rfl w.heap.size 0 rfl (rcs d vo vw).toList _ (Box.range' (L := (rcs d vo vw).toList) B0.out) Tryz.underlying37 rfl infoRef ?_) | (refine dwpList_store_box rfl 37 (.tmp 6) (.tmp 10) rfl (w.heap.size + 1) (rcs d vo vw).toList rfl rfl B1.out rfl infoRef (rcs_one _ _ _ ho1 ho2) ?_; intro w5 hb5 hk5) | fail)
    refine bodyPost_ret (v := .tuple #[.agg (rcs d vo vw), .int .i64 2]) ?_ rfl ⟨vo, vw, rfl, H0.out.store B1.out hk5, KW.out.trans_new hk5 (fun k e => .inl (by omega))⟩
    exact dresults_two Hr.out _ _ (w.heap.size + 1) 37 _ (0, 0) _ rfl hb5 Tryz.underlying37 rfl infoRef
  · have hx : d.fuseS n l = ({ d with lit := true, left := n.toNat, keep := l }, 0) := by rw [Dm.fuseS, decide_eq_true (by omega)]; rfl
    rw [hx]
    clear hx
    obtain ⟨D, hD⟩ : ∃ D : Dm, D = { d with lit := true, left := n.toNat, keep := l } := ⟨_, rfl⟩
    rw [← hD]
    have e : rcs D vo vw = ((rcs d vo vw).setIfInBounds 3 (.int .i64 n)).setIfInBounds 4 (.string ⟨l.toArray⟩) := by
      have hc : ((n.toNat : Nat) : Int) = n := by omega
      rw [hD]
      simp [rcs, leftZ, hc]
    have hon : D.on = d.on := by rw [hD]
    have hwt : D.wait = d.wait := by rw [hD]
    have y4 : W.cell? ⟨w.heap.size, 4, none⟩ = some (.string ⟨d.keep.toArray⟩) := B0.out.cell 4
    have y3 : W.cell? ⟨w.heap.size, 3, none⟩ = some (.int .i64 (leftZ d)) := B0.out.cell 3
    have f3 := B0.out.free 3
    have f4 := B0.out.free 4
    have E := Lib.hid e
    have HON := Lib.hid hon
    have HWT := Lib.hid hwt
    clear e hD hon hwt
    go_enter Tryz.func27, Tryz.ntmps27
    go_upto_region 1 with fail
    rw [← HW.out]
    go_upto_region 5 with fail
    have hb := (B0.out.put 3 (.int .i64 n)).put 4 (.string ⟨l.toArray⟩)
    have hbr := (B1.out.far (p := ⟨w.heap.size, 3, none⟩) (by simp) (.int .i64 n)).far (p := ⟨w.heap.size, 4, none⟩) (by simp) (.string ⟨l.toArray⟩)
    rw [← E.out] at hb
    have hr := ((H0.out.cell B0.out 3 (.int .i64 n)).cell (B0.out.put 3 (.int .i64 n)) 4 (.string ⟨l.toArray⟩)).alike (D' := D) HON.out HWT.out
    have hk1 := (KW.out.setCell (p := ⟨w.heap.size, 3, none⟩) (.inl (Nat.le_refl _)) (.int .i64 n)).setCell (p := ⟨w.heap.size, 4, none⟩) (.inl (Nat.le_refl _)) (.string ⟨l.toArray⟩)
    have HB := Lib.hid hb
    have HBR := Lib.hid hbr
    have HR := Lib.hid hr
    have HK1 := Lib.hid hk1
    clear hb hbr hr hk1 y3 y4 f3 f4
    go_wp2_with (first | (refine wpList_load_mid rfl 37 (.tmp 3) rfl w.heap.size 0 rfl (rcs D vo vw).toList _ (Box.range' (L := (rcs D vo vw).toList) HB.out) Tryz.underlying37 rfl infoRef ?_) | (refine dwpList_store_box rfl 37 (.tmp 6) (.tmp 15) rfl (w.heap.size + 1) (rcs D vo vw).toList rfl rfl HBR.out rfl infoRef (rcs_one _ _ _ ho1 ho2) ?_; intro w5 hb5 hk5) | fail)
    refine bodyPost_ret (v := .tuple #[.agg (rcs D vo vw), .int .i64 0]) ?_ rfl ⟨vo, vw, rfl, HR.out.store HBR.out hk5, HK1.out.trans_new hk5 (fun k e => .inl (by omega))⟩
    exact dresults_two Hr.out _ _ (w.heap.size + 1) 37 _ (0, 0) _ rfl hb5 Tryz.underlying37 rfl infoRef

set_option maxRecDepth 100000 in
set_option maxHeartbeats 4000000 in
theorem rcrash_any {w : World} {vo vw : Value} {d : Dm} (h : Rf w vo vw d) (ok : d.ok) (l : List UInt8) (hl : l.length ≤ maxLen) :
    Calls Tryz.prog 28 #[.agg (rcs d vo vw), .string ⟨l.toArray⟩] w fun e w' => ∃ vo' vw', e = .returned (.tuple #[.agg (rcs (d.crashS l).1 vo' vw'), .int .i64 (d.crashS l).2]) ∧ Rf w' vo' vw' (d.crashS l).1 ∧ Kp (fun _ => False) w w' := by
  have Hr : Hid (Tryz.f28.results = #[.cell 4 37, .tmp 5]) := Lib.hid (by kernel_rfl)
  obtain ⟨W, hW, hb0, hb1, hkw⟩ := start2 w (rcs d vo vw)
  have HW := Lib.hid hW
  have B0 := Lib.hid hb0
  have B1 := Lib.hid hb1
  have KW := Lib.hid hkw
  have H0 := Lib.hid (h.still hkw)
  obtain ⟨ho1, ho2⟩ := h.c1
  clear hb0 hb1 hkw hW
  have y2 : W.cell? ⟨w.heap.size, 2, none⟩ = some (.bool (!d.power)) := B0.out.cell 2
  have OK := Lib.hid ok
  clear h ok
  rcases hp : d.power with _ | _
  · have hx : d.crashS l = (d, 4) := by simp [Dm.crashS, hp]
    rw [hx]
    rw [hp, Bool.not_false] at y2
    clear hx hp
    go_enter Tryz.func28, Tryz.ntmps28
    go_upto_region 1 with fail
    rw [← HW.out]
    go_wp2_with (first | (refine wpList_load_mid rfl 37 (.tmp 2) rfl w.heap.size 0 rfl (rcs d vo vw).toList _ (Box.range' (L := (rcs d vo vw).toList) B0.out) Tryz.underlying37 rfl infoRef ?_) | (refine dwpList_store_box rfl 37 (.tmp 4) (.tmp 8) rfl (w.heap.size + 1) (rcs d vo vw).toList rfl rfl B1.out rfl infoRef (rcs_one _ _ _ ho1 ho2) ?_; intro w5 hb5 hk5) | fail)
    refine bodyPost_ret (v := .tuple #[.agg (rcs d vo vw), .int .i64 4]) ?_ rfl ⟨vo, vw, rfl, H0.out.store B1.out hk5, KW.out.trans_new hk5 (fun k e => .inl (by omega))⟩
    exact dresults_two Hr.out _ _ (w.heap.size + 1) 37 _ (0, 0) _ rfl hb5 Tryz.underlying37 rfl infoRef
  · have hx : d.crashS l = (d.lose l, 0) := by simp [Dm.crashS, hp]
    rw [hx]
    rw [hp, Bool.not_true] at y2
    clear hx hp
    go_enter Tryz.func28, Tryz.ntmps28
    go_upto_region 1 with fail
    rw [← HW.out]
    go_wp2_with (first | (refine wpList_load_mid rfl 37 (.tmp 2) rfl w.heap.size 0 rfl (rcs d vo vw).toList _ (Box.range' (L := (rcs d vo vw).toList) B0.out) Tryz.underlying37 rfl infoRef ?_) | fail)
    refine (goes_any H0.out OK.out l hl).mono ?_
    rintro e w1 ⟨vn, rfl, hrn, hkn⟩
    have HN := Lib.hid hrn
    have HKN := Lib.hid (KW.out.trans hkn)
    have HBR := Lib.hid (B1.out.kp hkn (fun h => h))
    obtain ⟨ho3, _⟩ := hrn.c1
    clear hrn hkn y2
    go_wp2_with (first | (refine dwpList_store_box rfl 37 (.tmp 4) (.tmp 11) rfl (w.heap.size + 1) (rcs (d.lose l) vn (.slice none 0 0)).toList rfl rfl HBR.out rfl infoRef (rcs_one _ _ _ ho3 rfl) ?_; intro w5 hb5 hk5) | fail)
    refine bodyPost_ret (v := .tuple #[.agg (rcs (d.lose l) vn (.slice none 0 0)), .int .i64 0]) ?_ rfl ⟨vn, _, rfl, HN.out.store HBR.out hk5, HKN.out.trans_new hk5 (fun k e => .inl (by omega))⟩
    exact dresults_two Hr.out _ _ (w.heap.size + 1) 37 _ (0, 0) _ rfl hb5 Tryz.underlying37 rfl infoRef

set_option maxRecDepth 100000 in
set_option maxHeartbeats 4000000 in
theorem rstart_any {w : World} {vo vw : Value} {d : Dm} (h : Rf w vo vw d) :
    Calls Tryz.prog 29 #[.agg (rcs d vo vw)] w fun e w' => ∃ vo' vw', e = .returned (.agg (rcs d.startS vo' vw')) ∧ Rf w' vo' vw' d.startS ∧ Kp (fun _ => False) w w' := by
  have Hr : Hid (Tryz.f29.results = #[.cell 2 37]) := Lib.hid (by kernel_rfl)
  obtain ⟨W, hW, hb0, hb1, hkw⟩ := start2 w (rcs d vo vw)
  have HW := Lib.hid hW
  have B0 := Lib.hid hb0
  have B1 := Lib.hid hb1
  have KW := Lib.hid hkw
  have H0 := Lib.hid (h.still hkw)
  obtain ⟨ho1, ho2⟩ := h.c1
  clear hb0 hb1 hkw hW
  have y2 : W.cell? ⟨w.heap.size, 2, none⟩ = some (.bool (!d.power)) := B0.out.cell 2
  have f2 := B0.out.free 2
  clear h
  go_enter Tryz.func29, Tryz.ntmps29
  go_upto_region 1 with fail
  rw [← HW.out]
  go_upto_region 2 with fail
  have hb := B0.out.put 2 (.bool false)
  have hbr := B1.out.far (p := ⟨w.heap.size, 2, none⟩) (by simp) (.bool false)
  have e : rcs d.startS vo vw = (rcs d vo vw).setIfInBounds 2 (.bool false) := by simp [rcs, Dm.startS, leftZ]; rfl
  rw [← e] at hb
  have hr := (H0.out.cell B0.out 2 (.bool false)).alike (D' := d.startS) rfl rfl
  have hk1 := KW.out.setCell (p := ⟨w.heap.size, 2, none⟩) (.inl (Nat.le_refl _)) (.bool false)
  have HB := Lib.hid hb
  have HBR := Lib.hid hbr
  have HR := Lib.hid hr
  have HK1 := Lib.hid hk1
  clear hb hbr hr hk1 y2 f2 e
  go_wp2_with (first | (refine wpList_load_mid rfl 37 (.tmp 1) rfl w.heap.size 0 rfl (rcs d.startS vo vw).toList _ (Box.range' (L := (rcs d.startS vo vw).toList) HB.out) Tryz.underlying37 rfl infoRef ?_) | (refine dwpList_store_box rfl 37 (.tmp 2) (.tmp 4) rfl (w.heap.size + 1) (rcs d.startS vo vw).toList rfl rfl HBR.out rfl infoRef (rcs_one _ _ _ ho1 ho2) ?_; intro w5 hb5 hk5) | fail)
  refine bodyPost_ret (v := .agg (rcs d.startS vo vw)) ?_ rfl ⟨vo, vw, rfl, HR.out.store HBR.out hk5, HK1.out.trans_new hk5 (fun k e => .inl (by omega))⟩
  exact results_cell_row Hr.out _ _ (w.heap.size + 1) 37 _ (0, 0) _ rfl hb5 Tryz.underlying37 rfl infoRef
end Go.Proofs.YtfcljcikajaedaaGreatDoor
