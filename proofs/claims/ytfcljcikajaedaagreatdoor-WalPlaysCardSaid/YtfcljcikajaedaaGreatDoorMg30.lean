/- The document's own disk: an act; fuse, crash, start. Conditions: the disk's own. -/
import Derived.Test.YtfcljcikajaedaaGreatDoorMg13
import Derived.Test.YtfcljcikajaedaaGreatDoorMg3
namespace Go.Proofs.YtfcljcikajaedaaGreatDoor
open Go.RowKit Go.Maps

theorem dresults_two {P : Program} {fn : Func} {p u : Tmp} {ty : TypeId} (h : fn.results = #[.cell p ty, .tmp u]) (tmps : Array Value) (w : World) (g : Nat) (t : TypeId) (cs : Array Value) (fr : Nat × Nat) (d : TypeDesc)
    (hp : tmps.getD p undef = .pointer (some ⟨g, 0, none⟩)) (hg : w.heap[g]? = some (.cells cs t fr))
    (hu : P.underlying ty = some d) (hd : (match d with | .struct _ | .array _ _ => true | _ => false) = true) (hi : (P.info? ty).map (·.size) = some cs.size) :
    (results fn tmps).run P w = .ok (.tuple #[.agg cs, tmps.getD u undef]) w := by
  have hp' : tmps[p]?.getD undef = .pointer (some ⟨g, 0, none⟩) := by simpa using hp
  rw [results_cell_tmp h]
  simp [hp', asAddr, run_loadVar_row w g t ty cs fr d hg hu hd hi, Result.andThen]
theorem Rf.store {v w5 : World} {a b : Value} {D : Dm} {g : Nat} {cs : Array Value} (h : Rf v a b D) (hb : Box v g 37 cs) (hk : Kp (fun k => k = g) v w5) : Rf w5 a b D :=
  h.kp hk (fun q cs fr e1 e2 => by
    rcases e1 with e1 | e1
    · exact type_off e1 hb (by decide) e2
    · exact type_off e1 hb (by decide) e2)
theorem Rf.cell {v : World} {a b : Value} {D : Dm} {g : Nat} {cs : Array Value} (h : Rf v a b D) (hb : Box v g 37 cs) (i : Nat) (u : Value) : Rf (v.setCell ⟨g, i, none⟩ u) a b D := h.store hb (Kp.one v g i u)
theorem Rf.alike {v : World} {a b : Value} {D D' : Dm} (h : Rf v a b D) (h1 : D'.on = D.on) (h2 : D'.wait = D.wait) : Rf v a b D' := ⟨by rw [h1]; exact h.on, by rw [h2]; exact h.wt⟩
/-- An act: false: the power went. -/
def Dm.actS (d : Dm) : Dm × Bool := if d.out then (d.lose d.keep, false) else (d.act, true)

set_option maxRecDepth 100000 in
set_option maxHeartbeats 4000000 in
theorem ract_any {w : World} {vo vw : Value} {d : Dm} (h : Rf w vo vw d) (ok : d.ok) :
    Calls Tryz.prog 79 #[.agg (rcs d vo vw)] w fun e w' => ∃ vo' vw', e = .returned (.tuple #[.agg (rcs d.actS.1 vo' vw'), .bool d.actS.2]) ∧ Rf w' vo' vw' d.actS.1 ∧ Kp (fun _ => False) w w' := by
  have Hr : Hid (Tryz.f79.results = #[.cell 2 37, .tmp 3]) := Lib.hid (by kernel_rfl)
  obtain ⟨W, hW, hb0, hb1, hkw⟩ := start2 w (rcs d vo vw)
  have HW := Lib.hid hW
  have B0 := Lib.hid hb0
  have B1 := Lib.hid hb1
  have KW := Lib.hid hkw
  have H0 := Lib.hid (h.still hkw)
  obtain ⟨ho1, ho2⟩ := h.c1
  clear hb0 hb1 hkw hW
  have y4 : W.cell? ⟨w.heap.size, 4, none⟩ = some (.string ⟨d.keep.toArray⟩) := B0.out.cell 4
  have y3 : W.cell? ⟨w.heap.size, 3, none⟩ = some (.int .i64 (leftZ d)) := B0.out.cell 3
  have hk := ok.keep_
  have hleft := ok.left_
  have OK := Lib.hid ok
  clear h ok
  rcases ho : d.out with _ | _
  · have hx : d.actS = (d.act, true) := by simp [Dm.actS, ho]
    rw [hx]
    clear hx
    have y5 : W.cell? ⟨w.heap.size, 5, none⟩ = some (.int .u64 d.acts) := B0.out.cell 5
    have f5 := B0.out.free 5
    have f3 := B0.out.free 3
    have ha := OK.out.acts_
    rcases hl : d.lit with _ | _
    · have hz : leftZ d = -1 := by simp [leftZ, hl]
      rw [hz] at y3
      have HL := Lib.hid hl
      clear hl ho hz y4 f3
      go_enter Tryz.func79, Tryz.ntmps79
      go_upto_region 1 with fail
      rw [← HW.out]
      go_upto_region 6 with fail
      have hb := B0.out.put 5 (.int .u64 (IntKind.u64.wrap (d.acts + 1)))
      have hbr := B1.out.far (p := ⟨w.heap.size, 5, none⟩) (by simp) (.int .u64 (IntKind.u64.wrap (d.acts + 1)))
      have e : rcs d.act vo vw = (rcs d vo vw).setIfInBounds 5 (.int .u64 (IntKind.u64.wrap (d.acts + 1))) := by
        rw [u64_next]
        simp [rcs, Dm.act, leftZ, HL.out]
      rw [← e] at hb
      have hr := (H0.out.cell B0.out 5 (.int .u64 (IntKind.u64.wrap (d.acts + 1)))).alike (D' := d.act) rfl rfl
      have hk1 := KW.out.setCell (p := ⟨w.heap.size, 5, none⟩) (.inl (Nat.le_refl _)) (.int .u64 (IntKind.u64.wrap (d.acts + 1)))
      have HB := Lib.hid hb
      have HBR := Lib.hid hbr
      have HR := Lib.hid hr
      have HK1 := Lib.hid hk1
      clear hb hbr hr hk1 e y5 y3 f5
      go_wp2_with (first | (refine wpList_load_mid rfl 37 (.tmp 1) rfl w.heap.size 0 rfl (rcs d.act vo vw).toList _ (Box.range' (L := (rcs d.act vo vw).toList) HB.out) Tryz.underlying37 rfl infoRef ?_) | (refine dwpList_store_box rfl 37 (.tmp 2) (.tmp 22) rfl (w.heap.size + 1) (rcs d.act vo vw).toList rfl rfl HBR.out rfl infoRef (rcs_one _ _ _ ho1 ho2) ?_; intro w5 hb5 hk5) | fail)
      refine bodyPost_ret (v := .tuple #[.agg (rcs d.act vo vw), .bool true]) ?_ rfl ⟨vo, vw, rfl, HR.out.store HBR.out hk5, HK1.out.trans_new hk5 (fun k e => .inl (by omega))⟩
      exact dresults_two Hr.out _ _ (w.heap.size + 1) 37 _ (0, 0) _ rfl hb5 Tryz.underlying37 rfl infoRef
    · have h0 : d.left ≠ 0 := by simpa [Dm.out, hl] using ho
      have hz : leftZ d = (d.left : Int) := by simp [leftZ, hl]
      rw [hz] at y3
      have HL := Lib.hid hl
      obtain ⟨z, hze⟩ : ∃ z : Int, z = d.left := ⟨_, rfl⟩
      rw [← hze] at y3
      have hd : (z == 0) = false := by simp; omega
      have h1 : (1 : Int) ≤ z := by omega
      have hf' : z < 9223372036854775808 := by omega
      have HZ := Lib.hid hze
      clear hleft ha hk hze
      clear hl ho h0 hz y4
      go_enter Tryz.func79, Tryz.ntmps79
      go_upto_region 1 with fail
      rw [← HW.out]
      go_upto_region 6 with fail
      have hb := (B0.out.put 3 (.int .i64 (z - 1))).put 5 (.int .u64 (IntKind.u64.wrap (d.acts + 1)))
      have hbr := (B1.out.far (p := ⟨w.heap.size, 3, none⟩) (by simp) (.int .i64 (z - 1))).far (p := ⟨w.heap.size, 5, none⟩) (by simp) (.int .u64 (IntKind.u64.wrap (d.acts + 1)))
      have e : rcs d.act vo vw = ((rcs d vo vw).setIfInBounds 3 (.int .i64 (z - 1))).setIfInBounds 5 (.int .u64 (IntKind.u64.wrap (d.acts + 1))) := by
        have hc : ((d.left - 1 : Nat) : Int) = z - 1 := by have := HZ.out; omega
        rw [u64_next, ← hc]
        simp [rcs, Dm.act, leftZ, HL.out]
      rw [← e] at hb
      have hr := ((H0.out.cell B0.out 3 (.int .i64 (z - 1))).cell (B0.out.put 3 (.int .i64 (z - 1))) 5 (.int .u64 (IntKind.u64.wrap (d.acts + 1)))).alike (D' := d.act) rfl rfl
      have hk1 := (KW.out.setCell (p := ⟨w.heap.size, 3, none⟩) (.inl (Nat.le_refl _)) (.int .i64 (z - 1))).setCell (p := ⟨w.heap.size, 5, none⟩) (.inl (Nat.le_refl _)) (.int .u64 (IntKind.u64.wrap (d.acts + 1)))
      have HB := Lib.hid hb
      have HBR := Lib.hid hbr
      have HR := Lib.hid hr
      have HK1 := Lib.hid hk1
      clear hb hbr hr hk1 e y5 y3 f5 f3
      go_wp2_with (first | (refine wpList_load_mid rfl 37 (.tmp 1) rfl w.heap.size 0 rfl (rcs d.act vo vw).toList _ (Box.range' (L := (rcs d.act vo vw).toList) HB.out) Tryz.underlying37 rfl infoRef ?_) | (refine dwpList_store_box rfl 37 (.tmp 2) (.tmp 22) rfl (w.heap.size + 1) (rcs d.act vo vw).toList rfl rfl HBR.out rfl infoRef (rcs_one _ _ _ ho1 ho2) ?_; intro w5 hb5 hk5) | fail)
      refine bodyPost_ret (v := .tuple #[.agg (rcs d.act vo vw), .bool true]) ?_ rfl ⟨vo, vw, rfl, HR.out.store HBR.out hk5, HK1.out.trans_new hk5 (fun k e => .inl (by omega))⟩
      exact dresults_two Hr.out _ _ (w.heap.size + 1) 37 _ (0, 0) _ rfl hb5 Tryz.underlying37 rfl infoRef
  · have hx : d.actS = (d.lose d.keep, false) := by simp [Dm.actS, ho]
    obtain ⟨hl, h0⟩ : d.lit = true ∧ d.left = 0 := by simpa [Dm.out] using ho
    have hz : leftZ d = 0 := by simp [leftZ, hl, h0]
    rw [hx]
    rw [hz] at y3
    clear hx hl h0 hz ho
    go_enter Tryz.func79, Tryz.ntmps79
    go_upto_region 1 with fail
    rw [← HW.out]
    go_wp2_with (first | (refine wpList_load_mid rfl 37 (.tmp 1) rfl w.heap.size 0 rfl (rcs d vo vw).toList _ (Box.range' (L := (rcs d vo vw).toList) B0.out) Tryz.underlying37 rfl infoRef ?_) | fail)
    refine (goes_any H0.out OK.out d.keep hk).mono ?_
    rintro e w1 ⟨vn, rfl, hrn, hkn⟩
    have HN := Lib.hid hrn
    have HKN := Lib.hid (KW.out.trans hkn)
    have HBR := Lib.hid (B1.out.kp hkn (fun h => h))
    obtain ⟨ho3, _⟩ := hrn.c1
    clear hrn hkn y3 y4
    go_wp2_with (first | (refine dwpList_store_box rfl 37 (.tmp 2) (.tmp 10) rfl (w.heap.size + 1) (rcs (d.lose d.keep) vn (.slice none 0 0)).toList rfl rfl HBR.out rfl infoRef (rcs_one _ _ _ ho3 rfl) ?_; intro w5 hb5 hk5) | fail)
    refine bodyPost_ret (v := .tuple #[.agg (rcs (d.lose d.keep) vn (.slice none 0 0)), .bool false]) ?_ rfl ⟨vn, _, rfl, HN.out.store HBR.out hk5, HKN.out.trans_new hk5 (fun k e => .inl (by omega))⟩
    exact dresults_two Hr.out _ _ (w.heap.size + 1) 37 _ (0, 0) _ rfl hb5 Tryz.underlying37 rfl infoRef
end Go.Proofs.YtfcljcikajaedaaGreatDoor

/- The document's own disk: fuse, crash, start. Conditions: the disk's own. -/
namespace Go.Proofs.YtfcljcikajaedaaGreatDoor
open Go.RowKit Go.Maps

set_option maxRecDepth 100000 in
set_option maxHeartbeats 4000000 in
theorem rfuse_any {w : World} {vo vw : Value} {d : Dm} (h : Rf w vo vw d) (n : Int) (l : List UInt8) :
    Calls Tryz.prog 27 #[.agg (rcs d vo vw), .int .i64 n, .string ⟨l.toArray⟩] w fun e w' => ∃ vo' vw', e = .returned (.tuple #[.agg (rcs (d.fuseS n l).1 vo' vw'), .int .i64 (d.fuseS n l).2]) ∧ Rf w' vo' vw' (d.fuseS n l).1 ∧ Kp (fun _ => False) w w' := by
  have Hr : Hid (Tryz.f27.results = #[.cell 6 37, .tmp 7]) := Lib.hid (by kernel_rfl)
  obtain ⟨W, hW, hb0, hb1, hkw⟩ := start2 w (rcs d vo vw)
  have HW := Lib.hid hW
  have B0 := Lib.hid hb0
  have B1 := Lib.hid hb1
  have KW := Lib.hid hkw
  have H0 := Lib.hid (h.still hkw)
  obtain ⟨ho1, ho2⟩ := h.c1
  clear hb0 hb1 hkw hW
  clear h
  by_cases hn : n < 0
  · have hx : d.fuseS n l = (d, 2) := by rw [Dm.fuseS, decide_eq_false (by omega)]; rfl
    rw [hx]
    clear hx
    go_enter Tryz.func27, Tryz.ntmps27
    go_upto_region 1 with fail
    rw [← HW.out]
    go_wp2_with (first | (refine wpList_load_mid rfl 37 (.tmp 3) rfl w.heap.size 0 rfl (rcs d vo vw).toList _ (Box.range' (L := (rcs d vo vw).toList) B0.out) Tryz.underlying37 rfl infoRef ?_) | (refine dwpList_store_box rfl 37 (.tmp 6) (.tmp 10) rfl (w.heap.size + 1) (rcs d vo vw).toList rfl rfl B1.out rfl infoRef (rcs_one _ _ _ ho1 ho2) ?_; intro w5 hb5 hk5) | fail)
    refine bodyPost_ret (v := .tuple #[.agg (rcs d vo vw), .int .i64 2]) ?_ rfl ⟨vo, vw, rfl, H0.out.store B1.out hk5, KW.out.trans_new hk5 (fun k e => .inl (by omega))⟩
    exact dresults_two Hr.out _ _ (w.heap.size + 1) 37 _ (0, 0) _ rfl hb5 Tryz.underlying37 rfl infoRef
  · have hx : d.fuseS n l = ({ d with lit := true, left := n.toNat, keep := l }, 0) := by rw [Dm.fuseS, decide_eq_true (by omega)]; rfl
    rw [hx]
    clear hx
    obtain ⟨D, hD⟩ : ∃ D : Dm, D = { d with lit := true, left := n.toNat, keep := l } := ⟨_, rfl⟩
    rw [← hD]
    have e : rcs D vo vw = ((rcs d vo vw).setIfInBounds 3 (.int .i64 n)).setIfInBounds 4 (.string ⟨l.toArray⟩) := by
      have hc : ((n.toNat : Nat) : Int) = n := by omega
      rw [hD]
      simp [rcs, leftZ, hc]
    have hon : D.on = d.on := by rw [hD]
    have hwt : D.wait = d.wait := by rw [hD]
    have y4 : W.cell? ⟨w.heap.size, 4, none⟩ = some (.string ⟨d.keep.toArray⟩) := B0.out.cell 4
    have y3 : W.cell? ⟨w.heap.size, 3, none⟩ = some (.int .i64 (leftZ d)) := B0.out.cell 3
    have f3 := B0.out.free 3
    have f4 := B0.out.free 4
    have E := Lib.hid e
    have HON := Lib.hid hon
    have HWT := Lib.hid hwt
    clear e hD hon hwt
    go_enter Tryz.func27, Tryz.ntmps27
    go_upto_region 1 with fail
    rw [← HW.out]
    go_upto_region 5 with fail
    have hb := (B0.out.put 3 (.int .i64 n)).put 4 (.string ⟨l.toArray⟩)
    have hbr := (B1.out.far (p := ⟨w.heap.size, 3, none⟩) (by simp) (.int .i64 n)).far (p := ⟨w.heap.size, 4, none⟩) (by simp) (.string ⟨l.toArray⟩)
    rw [← E.out] at hb
    have hr := ((H0.out.cell B0.out 3 (.int .i64 n)).cell (B0.out.put 3 (.int .i64 n)) 4 (.string ⟨l.toArray⟩)).alike (D' := D) HON.out HWT.out
    have hk1 := (KW.out.setCell (p := ⟨w.heap.size, 3, none⟩) (.inl (Nat.le_refl _)) (.int .i64 n)).setCell (p := ⟨w.heap.size, 4, none⟩) (.inl (Nat.le_refl _)) (.string ⟨l.toArray⟩)
    have HB := Lib.hid hb
    have HBR := Lib.hid hbr
    have HR := Lib.hid hr
    have HK1 := Lib.hid hk1
    clear hb hbr hr hk1 y3 y4 f3 f4
    go_wp2_with (first | (refine wpList_load_mid rfl 37 (.tmp 3) rfl w.heap.size 0 rfl (rcs D vo vw).toList _ (Box.range' (L := (rcs D vo vw).toList) HB.out) Tryz.underlying37 rfl infoRef ?_) | (refine dwpList_store_box rfl 37 (.tmp 6) (.tmp 15) rfl (w.heap.size + 1) (rcs D vo vw).toList rfl rfl HBR.out rfl infoRef (rcs_one _ _ _ ho1 ho2) ?_; intro w5 hb5 hk5) | fail)
    refine bodyPost_ret (v := .tuple #[.agg (rcs D vo vw), .int .i64 0]) ?_ rfl ⟨vo, vw, rfl, HR.out.store HBR.out hk5, HK1.out.trans_new hk5 (fun k e => .inl (by omega))⟩
    exact dresults_two Hr.out _ _ (w.heap.size + 1) 37 _ (0, 0) _ rfl hb5 Tryz.underlying37 rfl infoRef

set_option maxRecDepth 100000 in
set_option maxHeartbeats 4000000 in
theorem rcrash_any {w : World} {vo vw : Value} {d : Dm} (h : Rf w vo vw d) (ok : d.ok) (l : List UInt8) (hl : l.length ≤ maxLen) :
    Calls Tryz.prog 28 #[.agg (rcs d vo vw), .string ⟨l.toArray⟩] w fun e w' => ∃ vo' vw', e = .returned (.tuple #[.agg (rcs (d.crashS l).1 vo' vw'), .int .i64 (d.crashS l).2]) ∧ Rf w' vo' vw' (d.crashS l).1 ∧ Kp (fun _ => False) w w' := by
  have Hr : Hid (Tryz.f28.results = #[.cell 4 37, .tmp 5]) := Lib.hid (by kernel_rfl)
  obtain ⟨W, hW, hb0, hb1, hkw⟩ := start2 w (rcs d vo vw)
  have HW := Lib.hid hW
  have B0 := Lib.hid hb0
  have B1 := Lib.hid hb1
  have KW := Lib.hid hkw
  have H0 := Lib.hid (h.still hkw)
  obtain ⟨ho1, ho2⟩ := h.c1
  clear hb0 hb1 hkw hW
  have y2 : W.cell? ⟨w.heap.size, 2, none⟩ = some (.bool (!d.power)) := B0.out.cell 2
  have OK := Lib.hid ok
  clear h ok
  rcases hp : d.power with _ | _
  · have hx : d.crashS l = (d, 4) := by simp [Dm.crashS, hp]
    rw [hx]
    rw [hp, Bool.not_false] at y2
    clear hx hp
    go_enter Tryz.func28, Tryz.ntmps28
    go_upto_region 1 with fail
    rw [← HW.out]
    go_wp2_with (first | (refine wpList_load_mid rfl 37 (.tmp 2) rfl w.heap.size 0 rfl (rcs d vo vw).toList _ (Box.range' (L := (rcs d vo vw).toList) B0.out) Tryz.underlying37 rfl infoRef ?_) | (refine dwpList_store_box rfl 37 (.tmp 4) (.tmp 8) rfl (w.heap.size + 1) (rcs d vo vw).toList rfl rfl B1.out rfl infoRef (rcs_one _ _ _ ho1 ho2) ?_; intro w5 hb5 hk5) | fail)
    refine bodyPost_ret (v := .tuple #[.agg (rcs d vo vw), .int .i64 4]) ?_ rfl ⟨vo, vw, rfl, H0.out.store B1.out hk5, KW.out.trans_new hk5 (fun k e => .inl (by omega))⟩
    exact dresults_two Hr.out _ _ (w.heap.size + 1) 37 _ (0, 0) _ rfl hb5 Tryz.underlying37 rfl infoRef
  · have hx : d.crashS l = (d.lose l, 0) := by simp [Dm.crashS, hp]
    rw [hx]
    rw [hp, Bool.not_true] at y2
    clear hx hp
    go_enter Tryz.func28, Tryz.ntmps28
    go_upto_region 1 with fail
    rw [← HW.out]
    go_wp2_with (first | (refine wpList_load_mid rfl 37 (.tmp 2) rfl w.heap.size 0 rfl (rcs d vo vw).toList _ (Box.range' (L := (rcs d vo vw).toList) B0.out) Tryz.underlying37 rfl infoRef ?_) | fail)
    refine (goes_any H0.out OK.out l hl).mono ?_
    rintro e w1 ⟨vn, rfl, hrn, hkn⟩
    have HN := Lib.hid hrn
    have HKN := Lib.hid (KW.out.trans hkn)
    have HBR := Lib.hid (B1.out.kp hkn (fun h => h))
    obtain ⟨ho3, _⟩ := hrn.c1
    clear hrn hkn y2
    go_wp2_with (first | (refine dwpList_store_box rfl 37 (.tmp 4) (.tmp 11) rfl (w.heap.size + 1) (rcs (d.lose l) vn (.slice none 0 0)).toList rfl rfl HBR.out rfl infoRef (rcs_one _ _ _ ho3 rfl) ?_; intro w5 hb5 hk5) | fail)
    refine bodyPost_ret (v := .tuple #[.agg (rcs (d.lose l) vn (.slice none 0 0)), .int .i64 0]) ?_ rfl ⟨vn, _, rfl, HN.out.store HBR.out hk5, HKN.out.trans_new hk5 (fun k e => .inl (by omega))⟩
    exact dresults_two Hr.out _ _ (w.heap.size + 1) 37 _ (0, 0) _ rfl hb5 Tryz.underlying37 rfl infoRef

set_option maxRecDepth 100000 in
set_option maxHeartbeats 4000000 in
theorem rstart_any {w : World} {vo vw : Value} {d : Dm} (h : Rf w vo vw d) :
    Calls Tryz.prog 29 #[.agg (rcs d vo vw)] w fun e w' => ∃ vo' vw', e = .returned (.agg (rcs d.startS vo' vw')) ∧ Rf w' vo' vw' d.startS ∧ Kp (fun _ => False) w w' := by
  have Hr : Hid (Tryz.f29.results = #[.cell 2 37]) := Lib.hid (by kernel_rfl)
  obtain ⟨W, hW, hb0, hb1, hkw⟩ := start2 w (rcs d vo vw)
  have HW := Lib.hid hW
  have B0 := Lib.hid hb0
  have B1 := Lib.hid hb1
  have KW := Lib.hid hkw
  have H0 := Lib.hid (h.still hkw)
  obtain ⟨ho1, ho2⟩ := h.c1
  clear hb0 hb1 hkw hW
  have y2 : W.cell? ⟨w.heap.size, 2, none⟩ = some (.bool (!d.power)) := B0.out.cell 2
  have f2 := B0.out.free 2
  clear h
  go_enter Tryz.func29, Tryz.ntmps29
  go_upto_region 1 with fail
  rw [← HW.out]
  go_upto_region 2 with fail
  have hb := B0.out.put 2 (.bool false)
  have hbr := B1.out.far (p := ⟨w.heap.size, 2, none⟩) (by simp) (.bool false)
  have e : rcs d.startS vo vw = (rcs d vo vw).setIfInBounds 2 (.bool false) := by simp [rcs, Dm.startS, leftZ]; rfl
  rw [← e] at hb
  have hr := (H0.out.cell B0.out 2 (.bool false)).alike (D' := d.startS) rfl rfl
  have hk1 := KW.out.setCell (p := ⟨w.heap.size, 2, none⟩) (.inl (Nat.le_refl _)) (.bool false)
  have HB := Lib.hid hb
  have HBR := Lib.hid hbr
  have HR := Lib.hid hr
  have HK1 := Lib.hid hk1
  clear hb hbr hr hk1 y2 f2 e
  go_wp2_with (first | (refine wpList_load_mid rfl 37 (.tmp 1) rfl w.heap.size 0 rfl (rcs d.startS vo vw).toList _ (Box.range' (L := (rcs d.startS vo vw).toList) HB.out) Tryz.underlying37 rfl infoRef ?_) | (refine dwpList_store_box rfl 37 (.tmp 2) (.tmp 4) rfl (w.heap.size + 1) (rcs d.startS vo vw).toList rfl rfl HBR.out rfl infoRef (rcs_one _ _ _ ho1 ho2) ?_; intro w5 hb5 hk5) | fail)
  refine bodyPost_ret (v := .agg (rcs d.startS vo vw)) ?_ rfl ⟨vo, vw, rfl, HR.out.store HBR.out hk5, HK1.out.trans_new hk5 (fun k e => .inl (by omega))⟩
  exact results_cell_row Hr.out _ _ (w.heap.size + 1) 37 _ (0, 0) _ rfl hb5 Tryz.underlying37 rfl infoRef
end Go.Proofs.YtfcljcikajaedaaGreatDoor

/- The document's own disk: flush. Conditions: the disk's own. -/
namespace Go.Proofs.YtfcljcikajaedaaGreatDoor
open Go.RowKit Go.Maps

theorem actS_out {d : Dm} (h : d.out = true) : d.actS = (d.lose d.keep, false) := by simp [Dm.actS, h]
theorem actS_ok {d : Dm} (h : d.out = false) : d.actS = (d.act, true) := by simp [Dm.actS, h]

set_option maxRecDepth 100000 in
set_option maxHeartbeats 4000000 in
theorem rflush_any {w : World} {vo vw : Value} {d : Dm} (h : Rf w vo vw d) (ok : d.ok) :
    Calls Tryz.prog 53 #[.agg (rcs d vo vw)] w fun e w' => ∃ vo' vw', e = .returned (.tuple #[.agg (rcs d.flushS.1 vo' vw'), .int .i64 d.flushS.2]) ∧ Rf w' vo' vw' d.flushS.1 ∧ Kp (fun _ => False) w w' := by
  have Hr : Hid (Tryz.f53.results = #[.cell 2 37, .tmp 3]) := Lib.hid (by kernel_rfl)
  obtain ⟨W, hW, hb0, hb1, hkw⟩ := start2 w (rcs d vo vw)
  have HW := Lib.hid hW
  have B0 := Lib.hid hb0
  have B1 := Lib.hid hb1
  have KW := Lib.hid hkw
  have H0 := Lib.hid (h.still hkw)
  obtain ⟨ho1, ho2⟩ := h.c1
  clear hb0 hb1 hkw hW
  have y2 : W.cell? ⟨w.heap.size, 2, none⟩ = some (.bool (!d.power)) := B0.out.cell 2
  have hwl := ok.waits
  have OK := Lib.hid ok
  clear h ok
  rcases hp : d.power with _ | _
  · have hx : d.flushS = (d, 4) := by simp [Dm.flushS, hp]
    rw [hx]
    rw [hp, Bool.not_false] at y2
    clear hx hp
    go_enter Tryz.func53, Tryz.ntmps53
    go_upto_region 1 with fail
    rw [← HW.out]
    go_wp2_with (first | (refine wpList_load_mid rfl 37 (.tmp 1) rfl w.heap.size 0 rfl (rcs d vo vw).toList _ (Box.range' (L := (rcs d vo vw).toList) B0.out) Tryz.underlying37 rfl infoRef ?_) | (refine dwpList_store_box rfl 37 (.tmp 2) (.tmp 8) rfl (w.heap.size + 1) (rcs d vo vw).toList rfl rfl B1.out rfl infoRef (rcs_one _ _ _ ho1 ho2) ?_; intro w5 hb5 hk5) | fail)
    refine bodyPost_ret (v := .tuple #[.agg (rcs d vo vw), .int .i64 4]) ?_ rfl ⟨vo, vw, rfl, H0.out.store B1.out hk5, KW.out.trans_new hk5 (fun k e => .inl (by omega))⟩
    exact dresults_two Hr.out _ _ (w.heap.size + 1) 37 _ (0, 0) _ rfl hb5 Tryz.underlying37 rfl infoRef
  rw [hp, Bool.not_true] at y2
  have ra := ract_any H0.out OK.out
  rcases ho : d.out with _ | _
  · have hx : d.flushS = (d.act.all, 0) := by simp [Dm.flushS, hp, ho]
    rw [hx]
    rw [actS_ok ho] at ra
    obtain ⟨D, hD⟩ : ∃ D, D = d.act := ⟨_, rfl⟩
    have okd : D.ok := by rw [hD]; exact ok_act OK.out
    rw [← hD] at ra ⊢
    have hwl2 := okd.waits
    have OKD := Lib.hid okd
    clear hx hp ho hD okd hwl
    have RA := Lib.hid ra
    clear ra
    go_enter Tryz.func53, Tryz.ntmps53
    go_upto_region 1 with fail
    rw [← HW.out]
    go_wp2_with (first | (refine wpList_load_mid rfl 37 (.tmp 1) rfl w.heap.size 0 rfl (rcs d vo vw).toList _ (Box.range' (L := (rcs d vo vw).toList) B0.out) Tryz.underlying37 rfl infoRef ?_) | fail)
    refine RA.out.mono ?_
    rintro e w1 ⟨va, vb, rfl, hrn, hkn⟩
    obtain ⟨Aw, cw, hvw, hcw⟩ : ∃ Aw cw, vb = .slice Aw D.wait.length cw ∧ D.wait.length ≤ cw := by
      obtain ⟨_, Aw, cw, hvw, hcw, _⟩ := hrn.wt
      exact ⟨Aw, cw, hvw, hcw⟩
    subst hvw
    obtain ⟨ho3, ho4⟩ := hrn.c1
    have bq := B0.out.kp hkn (fun h => h)
    have HN := Lib.hid hrn
    have HKN := Lib.hid (KW.out.trans hkn)
    have HBQ := Lib.hid bq
    have HBR := Lib.hid (B1.out.kp hkn (fun h => h))
    clear hrn hkn y2 bq
    go_wp2_with (first | (refine dwpList_store_box rfl 37 (.tmp 1) (.tmp 12) rfl w.heap.size (rcs D va (.slice Aw D.wait.length cw)).toList rfl rfl HBQ.out rfl infoRef (rcs_one _ _ _ ho3 ho4) ?_; intro w2 hb2 hk2; have HR2 := Lib.hid (HN.out.store HBQ.out hk2); have HB2 := Lib.hid hb2; have HBR2 := Lib.hid (HBR.out.kp hk2 (fun e => by omega)); have HK2 := Lib.hid (HKN.out.trans_new hk2 (fun k e => .inl (by omega))); clear hb2 hk2) | fail)
    go_loopw [5] (fun i wr => ∃ (k : Nat) (vk : Value), k ≤ D.wait.length ∧ i = .int .i64 k ∧ Box wr w.heap.size 37 (rcs D vk (.slice Aw D.wait.length cw)) ∧ Box wr (w.heap.size + 1) 37 #[.slice none 0 0, .slice none 0 0, .bool false, .int .i64 0, .string ⟨#[]⟩, .int .u64 0] ∧ Rf wr vk (.slice Aw D.wait.length cw) (D.upto (fun _ => true) k) ∧ Kp (fun _ => False) w wr)
      (fun i _ => D.wait.length - (intOf i).toNat)
    case atStart => exact ⟨0, va, Nat.zero_le _, rfl, HB2.out, HBR2.out, by rw [upto_zero]; exact HR2.out, HK2.out⟩
    case round =>
      obtain ⟨k, vk, hk, rfl, hb0, hb1, hrf, hkw⟩ := hrel
      have BK := Lib.hid hb0
      have BR := Lib.hid hb1
      have RK := Lib.hid hrf
      have HK := Lib.hid hkw
      have cs : wr.cell? ⟨w.heap.size, 1, none⟩ = some (.slice Aw D.wait.length cw) := hb0.cell 1
      clear hb0 hb1 hrf hkw
      by_cases hlt : k < D.wait.length
      · obtain ⟨gw, cw', hvg, _, hcell⟩ := RK.out.wt.cell (show 0 < (D.upto (fun _ => true) k).wait.length from Nat.lt_of_le_of_lt (Nat.zero_le k) hlt)
        injection hvg with hA hB0 hC
        clear hB0
        subst hA
        subst hC
        have hgw0 : ¬ gw = w.heap.size := by
          rintro rfl
          obtain ⟨_, _, _, hv1, _, h2⟩ := RK.out.wt
          injection hv1 with e1 _ _
          subst e1
          rcases h2 with h2 | ⟨b, cur, e2, hb, _⟩
          · have h2' : D.wait.length = 0 := h2
            omega
          · injection e2 with e3
            injection e3 with e4
            subst e4
            exact Box.type_ne hb BK.out (by decide) rfl
        obtain ⟨x, hx⟩ : ∃ x, D.wait[k]? = some x := ⟨_, List.getElem?_eq_getElem hlt⟩
        obtain ⟨p0, p1⟩ := prs_get D.wait k x hx
        have c0 : wr.cell? ⟨gw, k * 2, none⟩ = some (.int .i64 x.1) := hcell _ _ p0
        have c1 : wr.cell? ⟨gw, k * 2 + 1, none⟩ = some (.string ⟨x.2.toArray⟩) := hcell _ _ p1
        have HX := Lib.hid hx
        clear hx hcell p0 p1
        go_upto_region 9 with fail
        refine wp_region_held_drew (S := fun v => v.cell? ⟨w.heap.size, 1, none⟩ = some (.slice (some ⟨gw, 0, none⟩) D.wait.length cw) ∧ v.cell? ⟨gw, k * 2, none⟩ = some (.int .i64 x.1) ∧ v.cell? ⟨gw, k * 2 + 1, none⟩ = some (.string ⟨x.2.toArray⟩)) (by kernel_rfl) ⟨cs, c0, c1⟩ (fun hHeld => ?_)
        refine tk 1 (h := ?_)
        refine tk 2 (h := ?_)
        refine tk 3 (h := ?_)
        refine tk 4 (h := ?_)
        refine tk 5 (h := ?_)
        refine rd 0 (h := fun K hK => ?_)
        rw [if_pos (by rfl)]
        refine wp_load_mid 37 (.tmp 1) rfl w.heap.size 0 rfl (rcs D vk (.slice (some ⟨gw, 0, none⟩) D.wait.length cw)).toList _ (Box.range' (L := (rcs D vk (.slice (some ⟨gw, 0, none⟩) D.wait.length cw)).toList) BK.out.drew) Tryz.underlying37 rfl infoRef ?_
        refine hK.out _ _ ⟨cs, c0, c1⟩ (fun hHeld0 => ?_)
        clear hK K
        try simp only [Act.put, List.setIfInBounds_toArray, List.set_cons_zero, List.set_cons_succ]
        refine rd 6 (h := fun K hK => ?_)
        go_simp
        refine (put_upto (f := fun _ => true) RK.out.drew OKD.out x HX.out rfl).mono ?_
        rintro e y1 ⟨vn, rfl, rn, kn⟩
        have RN := Lib.hid rn
        have KN := Lib.hid ((Kp.refl (fun _ => False) wr).drew.trans kn)
        clear rn kn
        have ds := (KN.out.cell (p := ⟨w.heap.size, 1, none⟩) (World.block_lt_of_cell? wr _ cs) (fun h => h)).trans cs
        have d0 := (KN.out.cell (p := ⟨gw, k * 2, none⟩) (World.block_lt_of_cell? wr _ c0) (fun h => h)).trans c0
        have d1 := (KN.out.cell (p := ⟨gw, k * 2 + 1, none⟩) (World.block_lt_of_cell? wr _ c1) (fun h => h)).trans c1
        go_wp2_with fail
        refine hK.out _ _ ⟨ds, d0, d1⟩ (fun hHeld6 => ?_)
        clear hK K
        try simp only [Act.put, List.setIfInBounds_toArray, List.set_cons_zero, List.set_cons_succ]
        refine rd 7 (h := fun K hK => ?_)
        rw [if_pos (by rfl)]
        refine dwp_store_box 37 (.tmp 1) (.tmp 30) rfl w.heap.size (rcs D vn (.slice (some ⟨gw, 0, none⟩) D.wait.length cw)).toList rfl rfl (BK.out.kp KN.out (fun h => h)) rfl infoRef (rcs_one _ _ _ RN.out.c1.1 rfl) ?_
        intro y2 hb2 hk2
        have B2 := Lib.hid hb2
        have K2 := Lib.hid hk2
        clear hb2 hk2
        have fs : y2.cell? ⟨w.heap.size, 1, none⟩ = some (.slice (some ⟨gw, 0, none⟩) D.wait.length cw) := B2.out.cell 1
        have f0 := (K2.out.cell (p := ⟨gw, k * 2, none⟩) (World.block_lt_of_cell? y1 _ d0) hgw0).trans d0
        have f1 := (K2.out.cell (p := ⟨gw, k * 2 + 1, none⟩) (World.block_lt_of_cell? y1 _ d1) hgw0).trans d1
        refine hK.out _ _ ⟨fs, f0, f1⟩ (fun hHeld7 => ?_)
        clear hK K
        try simp only [Act.put]
        refine wpAnyH_done (by kernel_rfl) ?_ _
        go_wp2_with fail
        go_roundw
        case rel => exact ⟨k + 1, vn, by omega, by go_num, B2.out, (BR.out.kp KN.out (fun h => h)).kp K2.out (fun e => by omega), RN.out.store (BK.out.kp KN.out (fun h => h)) K2.out, (HK.out.trans KN.out).trans_new K2.out (fun q e => .inl (by omega))⟩
        case measure => simp [intOf]; omega
      · obtain rfl : k = D.wait.length := by omega
        have f1 := BK.out.free 1
        go_upto_region 11 with fail
        have hb := BK.out.put 1 (.slice none 0 0)
        have hbr := BR.out.far (p := ⟨w.heap.size, 1, none⟩) (by simp) (.slice none 0 0)
        have e : rcs D.all vk (.slice none 0 0) = (rcs D vk (.slice Aw D.wait.length cw)).setIfInBounds 1 (.slice none 0 0) := by
          simp [rcs, Dm.all, leftZ]; rfl
        rw [← e] at hb
        have hr0 := RK.out.cell BK.out 1 (.slice none 0 0)
        have hr : Rf (wr.setCell ⟨w.heap.size, 1, none⟩ (.slice none 0 0)) vk (.slice none 0 0) D.all := ⟨by
          have h1 := hr0.on
          have e1 : (D.upto (fun _ => true) D.wait.length).on = D.all.on := by
            simp only [Dm.upto, List.take_length]; rfl
          rw [e1] at h1
          exact h1, RdR.nil _ _ _⟩
        have hk1 := HK.out.setCell (p := ⟨w.heap.size, 1, none⟩) (.inl (Nat.le_refl _)) (.slice none 0 0)
        obtain ⟨ho1, ho2⟩ := hr.c1
        have HB := Lib.hid hb
        have HBR := Lib.hid hbr
        have HR := Lib.hid hr
        have HK1 := Lib.hid hk1
        clear hb hbr hr hr0 hk1 cs f1 e
        go_wp2_with (first | (refine wpList_load_mid rfl 37 (.tmp 1) rfl w.heap.size 0 rfl (rcs D.all vk (.slice none 0 0)).toList _ (Box.range' (L := (rcs D.all vk (.slice none 0 0)).toList) HB.out) Tryz.underlying37 rfl infoRef ?_) | (refine dwpList_store_box rfl 37 (.tmp 2) (.tmp 32) rfl (w.heap.size + 1) (rcs D.all vk (.slice none 0 0)).toList rfl rfl HBR.out rfl infoRef (rcs_one _ _ _ ho1 ho2) ?_; intro w5 hb5 hk5) | fail)
        refine bodyPost_ret (v := .tuple #[.agg (rcs D.all vk (.slice none 0 0)), .int .i64 0]) ?_ rfl ⟨vk, _, rfl, HR.out.store HBR.out hk5, HK1.out.trans_new hk5 (fun k e => .inl (by omega))⟩
        exact dresults_two Hr.out _ _ (w.heap.size + 1) 37 _ (0, 0) _ rfl hb5 Tryz.underlying37 rfl infoRef
  · have hx : d.flushS = (d.lose d.keep, 4) := by simp [Dm.flushS, hp, ho]
    rw [hx]
    rw [actS_out ho] at ra
    clear hx hp ho
    have RA := Lib.hid ra
    clear ra
    go_enter Tryz.func53, Tryz.ntmps53
    go_upto_region 1 with fail
    rw [← HW.out]
    go_wp2_with (first | (refine wpList_load_mid rfl 37 (.tmp 1) rfl w.heap.size 0 rfl (rcs d vo vw).toList _ (Box.range' (L := (rcs d vo vw).toList) B0.out) Tryz.underlying37 rfl infoRef ?_) | fail)
    refine RA.out.mono ?_
    rintro e w1 ⟨va, vb, rfl, hrn, hkn⟩
    obtain ⟨ho3, ho4⟩ := hrn.c1
    have bq := B0.out.kp hkn (fun h => h)
    have HN := Lib.hid hrn
    have HKN := Lib.hid (KW.out.trans hkn)
    have HBQ := Lib.hid bq
    have HBR := Lib.hid (B1.out.kp hkn (fun h => h))
    clear hrn hkn y2 bq
    go_wp2_with (first | (refine dwpList_store_box rfl 37 (.tmp 1) (.tmp 12) rfl w.heap.size (rcs (d.lose d.keep) va vb).toList rfl rfl HBQ.out rfl infoRef (rcs_one _ _ _ ho3 ho4) ?_; intro w2 hb2 hk2; have HR2 := Lib.hid (HN.out.store HBQ.out hk2); have HB2 := Lib.hid hb2; have HBR2 := Lib.hid (HBR.out.kp hk2 (fun e => by omega)); have HK2 := Lib.hid (HKN.out.trans_new hk2 (fun k e => .inl (by omega))); clear hb2 hk2) | (refine wpList_load_mid rfl 37 (.tmp 1) rfl w.heap.size 0 rfl (rcs (d.lose d.keep) va vb).toList _ (Box.range' (L := (rcs (d.lose d.keep) va vb).toList) HB2.out) Tryz.underlying37 rfl infoRef ?_) | (refine dwpList_store_box rfl 37 (.tmp 2) (.tmp 16) rfl (w.heap.size + 1) (rcs (d.lose d.keep) va vb).toList rfl rfl HBR2.out rfl infoRef (rcs_one _ _ _ ho3 ho4) ?_; intro w5 hb5 hk5) | fail)
    refine bodyPost_ret (v := .tuple #[.agg (rcs (d.lose d.keep) va vb), .int .i64 4]) ?_ rfl ⟨va, vb, rfl, HR2.out.store HBR2.out hk5, HK2.out.trans_new hk5 (fun k e => .inl (by omega))⟩
    exact dresults_two Hr.out _ _ (w.heap.size + 1) 37 _ (0, 0) _ rfl hb5 Tryz.underlying37 rfl infoRef
end Go.Proofs.YtfcljcikajaedaaGreatDoor

/- The document's own disk: read, write. Conditions: the disk's own; fewer than 2^30 writes that wait. -/
namespace Go.Proofs.YtfcljcikajaedaaGreatDoor
open Go.RowKit Go.Maps

theorem run_append_nil_empty {P : Program} {w : World} (t ty e : TypeId) (i : TypeInfo) (ht : P.underlying t = some (.slice e)) (hi : P.info? e = some i) (cap : Nat) :
    (Builtin.append_ #[t, t] ty #[.slice none 0 0, .slice none 0 cap]).run P w = .ok (.slice none 0 0) w := by
  simp [Builtin.append_, run_underlying ht, sizeOf, typeInfo, hi, Builtin.lenOf, Builtin.firstCells]
/-- A row that is read, copied into a new one: append to nil. -/
theorem wpList_append_rdr {P : Program} {w : World} {ops : Array Oper} {rest : List Oper} {o : Oper} {a : Act} {Q : Exit → Act → World → Prop} (hgd : o.guard = none) (s x : Operand) (t : TypeId)
    (ho : o.op = .call { callee := .builtin .append, args := #[s, x], argTypes := #[t, t] })
    (e : TypeId) (i : TypeInfo) (z : Value) (size bytes : Nat) (ht : P.underlying t = some (.slice e)) (hi : P.info? e = some i) (hz : i.zero = some z)
    (hsize : i.size = size) (hby : i.bytes = bytes) (hzs : z.cells.size = size) (hsz : 0 < size)
    (v : Value) (n : Nat) (xs : List Value) (hs : a.eval s = .slice none 0 0) (hx : a.eval x = v) (hr : RdR w e size v n xs) (h1 : ∀ u ∈ xs, u.oneCell' = true)
    (h63 : n ≤ maxLen) (hbytes : n * bytes ≤ 140737488355328)
    (h : ∀ v' w', w'.ownsRow w.heap.size e size v' n xs → w.grownBy w' none → wpList P ops Q rest (a.put o.dst v') w') : wpList P ops Q (o :: rest) a w := by
  obtain ⟨hl, A, cap, hv, hcap, hc⟩ := hr
  subst hv
  cases A with
  | none =>
    rcases hc with h0 | ⟨b, cur, e1, _⟩
    · subst h0
      have hxs : xs = [] := List.eq_nil_of_length_eq_zero (by omega)
      subst hxs
      refine wpList_plain hgd fun K hK => ?_
      have hrun := run_append_nil_empty (P := P) (w := w) t o.type e i ht hi cap
      unfold Oper.wp
      simp [execOp, ho, resolve, invoke, builtin, hs, hx, hrun, Result.andThen]
      exact hK _ _ (h _ _ (World.ownsRow_nil _ _ _ _) ⟨rfl, rfl, rfl, Nat.le_refl _, fun _ _ _ => rfl⟩)
    · cases e1
  | some ad =>
    refine wpList_append_own w hgd s x t ho w.heap.size e i z size bytes ht hi hz hsize hby hzs hsz (.slice none 0 0) 0 [] hs (World.ownsRow_nil _ _ _ _) ad n cap xs hx hl (fun j u hj => ?_) h1 (by omega) (by simpa using hbytes) (Nat.le_refl _) (fun v' w' h2 h3 _ => ?_)
    · rcases hc with h0 | ⟨b, cur, e1, hb, hcur⟩
      · subst h0
        have hxs : xs = [] := List.eq_nil_of_length_eq_zero (by omega)
        subst hxs
        simp at hj
      · cases e1
        rw [Addr.add_mid, Nat.zero_add, hb.cell]
        exact hcur j u hj
    · rw [Nat.zero_add, List.nil_append] at h2
      exact h v' w' h2 h3
theorem wtInfo : ∃ i, Tryz.prog.info? 142 = some i ∧ i.zero = some (.agg #[.int .i64 0, .string ⟨#[]⟩]) ∧ i.size = 2 ∧ i.bytes = 24 := by
  have h : (Tryz.prog.info? 142).map (fun i => (i.zero, i.size, i.bytes)) = some (some (.agg #[.int .i64 0, .string ⟨#[]⟩]), 2, 24) := by kernel_rfl
  obtain ⟨i, h1, h2, h3, h4⟩ := info_parts h
  exact ⟨i, h1, h2, h3, h4⟩
theorem prs_one (l : List (Nat × List UInt8)) : ∀ u ∈ prs l, u.oneCell' = true := fun u hu => by
  obtain ⟨x, _, hx⟩ := List.mem_flatMap.1 hu
  simp only [List.mem_cons, List.not_mem_nil, or_false] at hx
  rcases hx with rfl | rfl <;> rfl

set_option maxRecDepth 100000 in
set_option maxHeartbeats 4000000 in
theorem rread_any {w : World} {vo vw : Value} {d : Dm} (h : Rf w vo vw d) (ok : d.ok) (a : Int) :
    Calls Tryz.prog 109 #[.agg (rcs d vo vw), .int .i64 a] w fun e w' => e = .returned (.tuple #[.string ⟨(d.readS a).1.toArray⟩, .int .i64 (d.readS a).2]) ∧ Kp (fun _ => False) w w' := by
  obtain ⟨_, Ao, co, hvo, hco, _⟩ := h.on
  obtain ⟨_, Aw, cw, hvw, hcw, _⟩ := h.wt
  subst hvo
  subst hvw
  obtain ⟨W, hW, hb0, hkw⟩ : ∃ W, W = w.alloc (.cells (rcs d (.slice Ao d.on.length co) (.slice Aw d.wait.length cw)) 37) ∧ Box W w.heap.size 37 (rcs d (.slice Ao d.on.length co) (.slice Aw d.wait.length cw)) ∧ Kp (fun _ => False) w W := ⟨_, rfl, Box.new w _ _, (Kp.refl _ w).alloc _⟩
  have HW := Lib.hid hW
  have B0 := Lib.hid hb0
  have KW := Lib.hid hkw
  have H0 := Lib.hid (h.still hkw)
  have y2 : W.cell? ⟨w.heap.size, 2, none⟩ = some (.bool (!d.power)) := B0.out.cell 2
  have hwl := ok.waits
  have hfew := ok.few
  clear hb0 hkw hW h ok
  rcases hp : d.power with _ | _
  · have hx : d.readS a = ([], 4) := by simp [Dm.readS, hp]
    rw [hx]
    rw [hp, Bool.not_false] at y2
    clear hx hp
    go_enter Tryz.func109, Tryz.ntmps109
    go_upto_region 1 with fail
    rw [← HW.out]
    go_wp2_with fail
    go_ret2
    exact ⟨rfl, KW.out⟩
  rw [hp, Bool.not_true] at y2
  have y0 : W.cell? ⟨w.heap.size, 0, none⟩ = some (.slice Ao d.on.length co) := B0.out.cell 0
  by_cases ha : a < 0
  · have hx : d.readS a = ([], 2) := by
      have : secB d a = false := by simp [secB]; omega
      simp [Dm.readS, hp, this]
    rw [hx]
    clear hx hp y0
    go_enter Tryz.func109, Tryz.ntmps109
    go_upto_region 1 with fail
    rw [← HW.out]
    go_wp2_with fail
    go_ret2
    exact ⟨rfl, KW.out⟩
  obtain ⟨k, rfl⟩ : ∃ k : Nat, a = k := ⟨a.toNat, by omega⟩
  by_cases hk : k < d.on.length
  · have hx : d.readS k = (d.nowAt k, 0) := by
      have : secB d k = true := by simp [secB]; omega
      simp [Dm.readS, hp, this]
    rw [hx, nowAt_eq]
    obtain ⟨go_, co', hvg, _, hcell⟩ := H0.out.on.cell (show 0 < d.on.length by omega)
    injection hvg with hA hB0 hC
    clear hB0
    subst hA
    subst hC
    have c0 : W.cell? ⟨go_, k, none⟩ = some (.string ⟨(d.on.getD k []).toArray⟩) := hcell _ _ (strs_get d.on k hk)
    have y1 : W.cell? ⟨w.heap.size, 1, none⟩ = some (.slice Aw d.wait.length cw) := B0.out.cell 1
    clear hx hp hcell
    go_enter Tryz.func109, Tryz.ntmps109
    go_upto_region 1 with fail
    rw [← HW.out]
    go_wp2_with fail
    go_loop [6, 7] (fun s i => ∃ (j : Nat), j ≤ d.wait.length ∧ i = .int .i64 j ∧ s = .string ⟨(lastB d.on (d.wait.take j) k).toArray⟩) (fun _ i => d.wait.length - (intOf i).toNat)
    case atStart => exact ⟨0, Nat.zero_le _, rfl, by simp [lastB, lastOf, List.getD, hk]⟩
    case round =>
      obtain ⟨j, hj, rfl, rfl⟩ := hrel
      by_cases hlt : j < d.wait.length
      · obtain ⟨gw, cw', hvg, _, hcell⟩ := H0.out.wt.cell (show 0 < d.wait.length by omega)
        injection hvg with hA hB0 hC
        clear hB0
        subst hA
        subst hC
        obtain ⟨x, hx⟩ : ∃ x, d.wait[j]? = some x := ⟨_, List.getElem?_eq_getElem hlt⟩
        obtain ⟨p0, p1⟩ := prs_get d.wait j x hx
        have e0 : W.cell? ⟨gw, j * 2, none⟩ = some (.int .i64 x.1) := hcell _ _ p0
        have e1 : W.cell? ⟨gw, j * 2 + 1, none⟩ = some (.string ⟨x.2.toArray⟩) := hcell _ _ p1
        have hsnoc : d.wait.take (j + 1) = d.wait.take j ++ [x] := by rw [List.take_add_one, hx]; rfl
        have hl := lastB_snoc d.on (d.wait.take j) x k
        rw [← hsnoc] at hl
        clear hx hcell p0 p1 hsnoc
        by_cases hxk : x.1 = k
        · rw [if_pos hxk] at hl
          have HL := Lib.hid hl
          have hd : (((x.1 : Nat) : Int) == (k : Int)) = true := by simp [hxk]
          have HXK := Lib.hid hxk
          clear hl hxk
          go_wp2_with fail
          go_round
          case rel => exact ⟨j + 1, by omega, by go_num, by rw [HL.out]⟩
          case measure => simp [intOf]; omega
        · rw [if_neg hxk] at hl
          have HL := Lib.hid hl
          have hd : (((x.1 : Nat) : Int) == (k : Int)) = false := by simp; omega
          have HXK := Lib.hid hxk
          clear hl hxk
          go_wp2_with fail
          go_round
          case rel => exact ⟨j + 1, by omega, by go_num, by rw [HL.out]⟩
          case measure => simp [intOf]; omega
      · obtain rfl : j = d.wait.length := by omega
        go_wp2_with fail
        go_ret2
        exact ⟨rfl, KW.out⟩
  · have hx : d.readS k = ([], 2) := by
      have : secB d k = false := by simp [secB]; omega
      simp [Dm.readS, hp, this]
    rw [hx]
    clear hx hp
    go_enter Tryz.func109, Tryz.ntmps109
    go_upto_region 1 with fail
    rw [← HW.out]
    go_wp2_with fail
    go_ret2
    exact ⟨rfl, KW.out⟩
end Go.Proofs.YtfcljcikajaedaaGreatDoor

/- The document's own disk: write. Conditions: the disk's own; fewer than 2^30 writes that wait. -/
namespace Go.Proofs.YtfcljcikajaedaaGreatDoor
open Go.RowKit Go.Maps

set_option maxRecDepth 100000 in
set_option maxHeartbeats 4000000 in
theorem rwrite_any {w : World} {vo vw : Value} {d : Dm} (h : Rf w vo vw d) (ok : d.ok) (a : Int) (l : List UInt8) (_hll : l.length ≤ maxLen) (hw : d.wait.length + 1 < 1073741824) :
    Calls Tryz.prog 51 #[.agg (rcs d vo vw), .int .i64 a, .string ⟨l.toArray⟩] w fun e w' => ∃ vo' vw', e = .returned (.tuple #[.agg (rcs (d.writeS a l).1 vo' vw'), .int .i64 (d.writeS a l).2]) ∧ Rf w' vo' vw' (d.writeS a l).1 ∧ Kp (fun _ => False) w w' := by
  have Hr : Hid (Tryz.f51.results = #[.cell 6 37, .tmp 7]) := Lib.hid (by kernel_rfl)
  obtain ⟨W, hW, hb0, hb1, hkw⟩ := start2 w (rcs d vo vw)
  have HW := Lib.hid hW
  have B0 := Lib.hid hb0
  have B1 := Lib.hid hb1
  have KW := Lib.hid hkw
  have H0 := Lib.hid (h.still hkw)
  obtain ⟨ho1, ho2⟩ := h.c1
  clear hb0 hb1 hkw hW
  have y2 : W.cell? ⟨w.heap.size, 2, none⟩ = some (.bool (!d.power)) := B0.out.cell 2
  have hfew := ok.few
  have OK := Lib.hid ok
  obtain ⟨Ao, co, hvo⟩ : ∃ Ao co, vo = .slice Ao d.on.length co := by
    obtain ⟨_, Ao, co, hvo, _⟩ := h.on
    exact ⟨Ao, co, hvo⟩
  subst hvo
  unfold maxLen at _hll
  clear h ok
  rcases hp : d.power with _ | _
  · have hx : d.writeS a l = (d, 4) := by simp [Dm.writeS, hp]
    rw [hx]
    rw [hp, Bool.not_false] at y2
    clear hx hp
    go_enter Tryz.func51, Tryz.ntmps51
    go_upto_region 1 with fail
    rw [← HW.out]
    go_wp2_with (first | (refine wpList_load_mid rfl 37 (.tmp 3) rfl w.heap.size 0 rfl (rcs d (.slice Ao d.on.length co) vw).toList _ (Box.range' (L := (rcs d (.slice Ao d.on.length co) vw).toList) B0.out) Tryz.underlying37 rfl infoRef ?_) | (refine dwpList_store_box rfl 37 (.tmp 6) (.tmp 11) rfl (w.heap.size + 1) (rcs d (.slice Ao d.on.length co) vw).toList rfl rfl B1.out rfl infoRef (rcs_one _ _ _ ho1 ho2) ?_; intro w5 hb5 hk5) | fail)
    refine bodyPost_ret (v := .tuple #[.agg (rcs d (.slice Ao d.on.length co) vw), .int .i64 4]) ?_ rfl ⟨_, vw, rfl, H0.out.store B1.out hk5, KW.out.trans_new hk5 (fun k e => .inl (by omega))⟩
    exact dresults_two Hr.out _ _ (w.heap.size + 1) 37 _ (0, 0) _ rfl hb5 Tryz.underlying37 rfl infoRef
  rw [hp, Bool.not_true] at y2
  have y0 : W.cell? ⟨w.heap.size, 0, none⟩ = some (.slice Ao d.on.length co) := B0.out.cell 0
  by_cases ha : a < 0
  · have hx : d.writeS a l = (d, 2) := by
      have : secB d a = false := by simp [secB]; omega
      simp [Dm.writeS, hp, this]
    rw [hx]
    clear hx hp y0
    go_enter Tryz.func51, Tryz.ntmps51
    go_upto_region 1 with fail
    rw [← HW.out]
    go_wp2_with (first | (refine wpList_load_mid rfl 37 (.tmp 3) rfl w.heap.size 0 rfl (rcs d (.slice Ao d.on.length co) vw).toList _ (Box.range' (L := (rcs d (.slice Ao d.on.length co) vw).toList) B0.out) Tryz.underlying37 rfl infoRef ?_) | (refine dwpList_store_box rfl 37 (.tmp 6) (.tmp 26) rfl (w.heap.size + 1) (rcs d (.slice Ao d.on.length co) vw).toList rfl rfl B1.out rfl infoRef (rcs_one _ _ _ ho1 ho2) ?_; intro w5 hb5 hk5) | fail)
    refine bodyPost_ret (v := .tuple #[.agg (rcs d (.slice Ao d.on.length co) vw), .int .i64 2]) ?_ rfl ⟨_, vw, rfl, H0.out.store B1.out hk5, KW.out.trans_new hk5 (fun k e => .inl (by omega))⟩
    exact dresults_two Hr.out _ _ (w.heap.size + 1) 37 _ (0, 0) _ rfl hb5 Tryz.underlying37 rfl infoRef
  obtain ⟨k, rfl⟩ : ∃ k : Nat, a = k := ⟨a.toNat, by omega⟩
  by_cases hk : k < d.on.length
  · have hs : secB d k = true := by simp [secB]; omega
    by_cases hl : l.length = 512
    · have hd : ((((l.length : Nat) : Int)) == 512) = true := by simp [hl]
      have hl512 : (((l.length : Nat) : Int)) = 512 := by omega
      have HL := Lib.hid hl
      have ra := ract_any H0.out OK.out
      have hkk : ((k : Int)).toNat = k := by omega
      rcases ho : d.out with _ | _
      · have hx : d.writeS k l = (d.act.push k l, 0) := by simp [Dm.writeS, hp, hs, hl, ho]
        rw [hx]
        rw [actS_ok ho] at ra
        obtain ⟨D, hD⟩ : ∃ D, D = d.act := ⟨_, rfl⟩
        have hDw : D.wait.length + 1 < 1073741824 := by rw [hD]; exact hw
        rw [← hD] at ra ⊢
        have RA := Lib.hid ra
        clear hx hp ho hD ra hs hkk hl hw
        go_enter Tryz.func51, Tryz.ntmps51
        go_upto_region 1 with fail
        rw [← HW.out]
        go_wp2_with (first | (refine wpList_load_mid rfl 37 (.tmp 3) rfl w.heap.size 0 rfl (rcs d (.slice Ao d.on.length co) vw).toList _ (Box.range' (L := (rcs d (.slice Ao d.on.length co) vw).toList) B0.out) Tryz.underlying37 rfl infoRef ?_) | fail)
        refine RA.out.mono ?_
        rintro e w1 ⟨va, vb, rfl, hrn, hkn⟩
        obtain ⟨ho3, ho4⟩ := hrn.c1
        have bq := B0.out.kp hkn (fun h => h)
        have HN := Lib.hid hrn
        have HKN := Lib.hid (KW.out.trans hkn)
        have HBQ := Lib.hid bq
        have HBR := Lib.hid (B1.out.kp hkn (fun h => h))
        clear hrn hkn y2 y0 bq hd hl512
        go_upto_region 8 with (first | (refine dwpList_store_box rfl 37 (.tmp 3) (.tmp 30) rfl w.heap.size (rcs D va vb).toList rfl rfl HBQ.out rfl infoRef (rcs_one _ _ _ ho3 ho4) ?_; intro w2 hb2 hk2; have HR2 := Lib.hid (HN.out.store HBQ.out hk2); have HB2 := Lib.hid hb2; have HBR2 := Lib.hid (HBR.out.kp hk2 (fun e => by omega)); have HK2 := Lib.hid (HKN.out.trans_new hk2 (fun k e => .inl (by omega))); clear hb2 hk2) | fail)
        obtain ⟨iW, i1, i2, i3, i4⟩ := wtInfo
        have z1 : w2.cell? ⟨w.heap.size, 1, none⟩ = some vb := HB2.out.cell 1
        go_upto_region 9 with (first | (at_builtin; refine wpList_append_rdr rfl (.const (.slice none 0 0)) (.tmp 36) 34 rfl 142 iW _ 2 24 Tryz.underlying34 i1 i2 i3 i4 rfl (by decide) vb D.wait.length (prs D.wait) rfl rfl HR2.out.wt (prs_one _) (by unfold maxLen; omega) (by omega) ?_; intro v3 w3 hown3 hg3; have k3 := (Kp.refl (fun _ => False) w2).grown hg3 (fun k e => by cases e); have HO3 := Lib.hid hown3; have K3 := Lib.hid k3; clear hown3 hg3 k3 z1) | (at_builtin; refine wpList_append_own _ rfl (.tmp 37) (.tmp 41) 34 rfl w2.heap.size 142 iW _ 2 24 Tryz.underlying34 i1 i2 i3 i4 rfl (by decide) v3 D.wait.length (prs D.wait) rfl (HO3.out.alloc _) ⟨w3.heap.size, 0, none⟩ 1 1 (prs [(k, l)]) rfl rfl (World.news_of_block (heap_alloc_new w3 _)) (prs_one _) (by unfold maxLen; omega) (by omega) (by have := K3.out.size; rw [World.size_alloc]; omega) ?_; intro v4 w4 hown4 hg4 _; obtain ⟨g4, c4, rfl, _, _⟩ := hown4.form (by omega); have k4 := (K3.out.alloc (.cells #[.int .i64 k, .string ⟨l.toArray⟩] 142)).grown hg4 (fun q e => .inl ((HO3.out.lt q e).1)); have HO4 := Lib.hid hown4; have K4 := Lib.hid k4; have z4 : w4.cell? ⟨w.heap.size, 1, none⟩ = some vb := (HB2.out.kp k4 (fun h => h)).cell 1; have f4 := (HB2.out.kp k4 (fun h => h)).free 1; clear hown4 hg4 k4) | fail)
        have hb := HB2.out.kp K4.out (fun h => h)
        have hbr := HBR2.out.kp K4.out (fun h => h)
        have hr0 := HR2.out.still K4.out
        have e : rcs (D.push k l) va (.slice (some ⟨g4, 0, none⟩) (D.wait.length + 1) c4) = (rcs D va vb).setIfInBounds 1 (.slice (some ⟨g4, 0, none⟩) (D.wait.length + 1) c4) := by simp [rcs, Dm.push, leftZ]; rfl
        have hb' := hb.put 1 (.slice (some ⟨g4, 0, none⟩) (D.wait.length + 1) c4)
        have hbr' := hbr.far (p := ⟨w.heap.size, 1, none⟩) (by simp) (.slice (some ⟨g4, 0, none⟩) (D.wait.length + 1) c4)
        have hk1 := (HK2.out.trans K4.out).setCell (p := ⟨w.heap.size, 1, none⟩) (.inl (Nat.le_refl _)) (.slice (some ⟨g4, 0, none⟩) (D.wait.length + 1) c4)
        have hnw : ¬ g4 = w.heap.size := by
          rintro rfl
          obtain ⟨cur, hc⟩ := own_block HO4.out rfl
          exact Box.type_ne (t := 142) hc hb (by decide) rfl
        rw [← e] at hb'
        have hr : Rf (w4.setCell ⟨w.heap.size, 1, none⟩ (.slice (some ⟨g4, 0, none⟩) (D.wait.length + 1) c4)) va (.slice (some ⟨g4, 0, none⟩) (D.wait.length + 1) c4) (D.push k l) := by
          have h1 := hr0.cell hb 1 (.slice (some ⟨g4, 0, none⟩) (D.wait.length + 1) c4)
          have h2 := down_kp HO4.out (Kp.one w4 w.heap.size 1 (.slice (some ⟨g4, 0, none⟩) (D.wait.length + 1) c4)) (fun q e1 e2 => by
            simp [Value.ownBlock] at e1
            exact hnw (e1.trans e2))
          refine ⟨h1.on, ?_⟩
          have h3 := RdR.of_own h2
          have e1 : prs (D.push k l).wait = prs D.wait ++ prs [(k, l)] := by simp [Dm.push, prs]
          have e2 : (D.push k l).wait.length = D.wait.length + 1 := by simp [Dm.push]
          rw [e1, e2]
          exact h3
        obtain ⟨ho1, ho2⟩ := hr.c1
        have HB := Lib.hid hb'
        have HBR := Lib.hid hbr'
        have HR := Lib.hid hr
        have HK1 := Lib.hid hk1
        clear hb hbr hr hr0 hk1 e hb' hbr' z4 f4 hnw
        go_wp2_with (first | (refine wpList_load_mid rfl 37 (.tmp 3) rfl w.heap.size 0 rfl (rcs (D.push k l) va (.slice (some ⟨g4, 0, none⟩) (D.wait.length + 1) c4)).toList _ (Box.range' (L := (rcs (D.push k l) va (.slice (some ⟨g4, 0, none⟩) (D.wait.length + 1) c4)).toList) HB.out) Tryz.underlying37 rfl infoRef ?_) | (refine dwpList_store_box rfl 37 (.tmp 6) (.tmp 44) rfl (w.heap.size + 1) (rcs (D.push k l) va (.slice (some ⟨g4, 0, none⟩) (D.wait.length + 1) c4)).toList rfl rfl HBR.out rfl infoRef (rcs_one _ _ _ ho1 ho2) ?_; intro w5 hb5 hk5) | fail)
        refine bodyPost_ret (v := .tuple #[.agg (rcs (D.push k l) va (.slice (some ⟨g4, 0, none⟩) (D.wait.length + 1) c4)), .int .i64 0]) ?_ rfl ⟨va, _, rfl, HR.out.store HBR.out hk5, HK1.out.trans_new hk5 (fun k e => .inl (by omega))⟩
        exact dresults_two Hr.out _ _ (w.heap.size + 1) 37 _ (0, 0) _ rfl hb5 Tryz.underlying37 rfl infoRef
      · have hx : d.writeS k l = (d.lose d.keep, 4) := by simp [Dm.writeS, hp, hs, hl, ho]
        rw [hx]
        rw [actS_out ho] at ra
        clear hx hp ho hs hkk hl
        have RA := Lib.hid ra
        clear ra
        go_enter Tryz.func51, Tryz.ntmps51
        go_upto_region 1 with fail
        rw [← HW.out]
        go_wp2_with (first | (refine wpList_load_mid rfl 37 (.tmp 3) rfl w.heap.size 0 rfl (rcs d (.slice Ao d.on.length co) vw).toList _ (Box.range' (L := (rcs d (.slice Ao d.on.length co) vw).toList) B0.out) Tryz.underlying37 rfl infoRef ?_) | fail)
        refine RA.out.mono ?_
        rintro e w1 ⟨va, vb, rfl, hrn, hkn⟩
        obtain ⟨ho3, ho4⟩ := hrn.c1
        have bq := B0.out.kp hkn (fun h => h)
        have HN := Lib.hid hrn
        have HKN := Lib.hid (KW.out.trans hkn)
        have HBQ := Lib.hid bq
        have HBR := Lib.hid (B1.out.kp hkn (fun h => h))
        clear hrn hkn y2 y0 bq
        go_wp2_with (first | (refine dwpList_store_box rfl 37 (.tmp 3) (.tmp 30) rfl w.heap.size (rcs (d.lose d.keep) va vb).toList rfl rfl HBQ.out rfl infoRef (rcs_one _ _ _ ho3 ho4) ?_; intro w2 hb2 hk2; have HR2 := Lib.hid (HN.out.store HBQ.out hk2); have HB2 := Lib.hid hb2; have HBR2 := Lib.hid (HBR.out.kp hk2 (fun e => by omega)); have HK2 := Lib.hid (HKN.out.trans_new hk2 (fun k e => .inl (by omega))); clear hb2 hk2) | (refine wpList_load_mid rfl 37 (.tmp 3) rfl w.heap.size 0 rfl (rcs (d.lose d.keep) va vb).toList _ (Box.range' (L := (rcs (d.lose d.keep) va vb).toList) HB2.out) Tryz.underlying37 rfl infoRef ?_) | (refine dwpList_store_box rfl 37 (.tmp 6) (.tmp 34) rfl (w.heap.size + 1) (rcs (d.lose d.keep) va vb).toList rfl rfl HBR2.out rfl infoRef (rcs_one _ _ _ ho3 ho4) ?_; intro w5 hb5 hk5) | fail)
        refine bodyPost_ret (v := .tuple #[.agg (rcs (d.lose d.keep) va vb), .int .i64 4]) ?_ rfl ⟨va, vb, rfl, HR2.out.store HBR2.out hk5, HK2.out.trans_new hk5 (fun k e => .inl (by omega))⟩
        exact dresults_two Hr.out _ _ (w.heap.size + 1) 37 _ (0, 0) _ rfl hb5 Tryz.underlying37 rfl infoRef
    · have hx : d.writeS k l = (d, 2) := by simp [Dm.writeS, hp, hs, hl]
      rw [hx]
      have hne : ((((l.length : Nat) : Int)) != 512) = true := by simp; omega
      clear hx hp hs hl
      go_enter Tryz.func51, Tryz.ntmps51
      go_upto_region 1 with fail
      rw [← HW.out]
      go_wp2_with (first | (refine wpList_load_mid rfl 37 (.tmp 3) rfl w.heap.size 0 rfl (rcs d (.slice Ao d.on.length co) vw).toList _ (Box.range' (L := (rcs d (.slice Ao d.on.length co) vw).toList) B0.out) Tryz.underlying37 rfl infoRef ?_) | (refine dwpList_store_box rfl 37 (.tmp 6) (.tmp 26) rfl (w.heap.size + 1) (rcs d (.slice Ao d.on.length co) vw).toList rfl rfl B1.out rfl infoRef (rcs_one _ _ _ ho1 ho2) ?_; intro w5 hb5 hk5) | fail)
      refine bodyPost_ret (v := .tuple #[.agg (rcs d (.slice Ao d.on.length co) vw), .int .i64 2]) ?_ rfl ⟨_, vw, rfl, H0.out.store B1.out hk5, KW.out.trans_new hk5 (fun k e => .inl (by omega))⟩
      exact dresults_two Hr.out _ _ (w.heap.size + 1) 37 _ (0, 0) _ rfl hb5 Tryz.underlying37 rfl infoRef
  · have hx : d.writeS k l = (d, 2) := by
      have : secB d k = false := by simp [secB]; omega
      simp [Dm.writeS, hp, this]
    rw [hx]
    clear hx hp
    go_enter Tryz.func51, Tryz.ntmps51
    go_upto_region 1 with fail
    rw [← HW.out]
    go_wp2_with (first | (refine wpList_load_mid rfl 37 (.tmp 3) rfl w.heap.size 0 rfl (rcs d (.slice Ao d.on.length co) vw).toList _ (Box.range' (L := (rcs d (.slice Ao d.on.length co) vw).toList) B0.out) Tryz.underlying37 rfl infoRef ?_) | (refine dwpList_store_box rfl 37 (.tmp 6) (.tmp 26) rfl (w.heap.size + 1) (rcs d (.slice Ao d.on.length co) vw).toList rfl rfl B1.out rfl infoRef (rcs_one _ _ _ ho1 ho2) ?_; intro w5 hb5 hk5) | fail)
    refine bodyPost_ret (v := .tuple #[.agg (rcs d (.slice Ao d.on.length co) vw), .int .i64 2]) ?_ rfl ⟨_, vw, rfl, H0.out.store B1.out hk5, KW.out.trans_new hk5 (fun k e => .inl (by omega))⟩
    exact dresults_two Hr.out _ _ (w.heap.size + 1) 37 _ (0, 0) _ rfl hb5 Tryz.underlying37 rfl infoRef
end Go.Proofs.YtfcljcikajaedaaGreatDoor
