/- The document's own disk: an act; fuse, crash, start. Conditions: the disk's own. -/
import Derived.Test.YtfcljcikajaedaaGreatDoorMg22
namespace Go.Proofs.YtfcljcikajaedaaGreatDoor
open Go.RowKit Go.Maps

theorem dresults_two {P : Program} {fn : Func} {p u : Tmp} {ty : TypeId} (h : fn.results = #[.cell p ty, .tmp u]) (tmps : Array Value) (w : World) (g : Nat) (t : TypeId) (cs : Array Value) (fr : Nat × Nat) (d : TypeDesc)
    (hp : tmps.getD p undef = .pointer (some ⟨g, 0, none⟩)) (hg : w.heap[g]? = some (.cells cs t fr))
    (hu : P.underlying ty = some d) (hd : (match d with | .struct _ | .array _ _ => true | _ => false) = true) (hi : (P.info? ty).map (·.size) = some cs.size) :
    (results fn tmps).run P w = .ok (.tuple #[.agg cs, tmps.getD u undef]) w := by
  have hp' : tmps[p]?.getD undef = .pointer (some ⟨g, 0, none⟩) := by simpa using hp
  rw [results_cell_tmp h]
  simp [hp', asAddr, run_loadVar_row w g t ty cs fr d hg hu hd hi, Result.andThen]
theorem Rf.store {v w5 : World} {a b : Value} {D : Dm} {g : Nat} {cs : Array Value} (h : Rf v a b D) (hb : Box v g 37 cs) (hk : Kp (fun k => k = g) v w5) : Rf w5 a b D :=
  h.kp hk (fun q cs fr e1 e2 => by
    rcases e1 with e1 | e1
    · exact type_off e1 hb (by decide) e2
    · exact type_off e1 hb (by decide) e2)
theorem Rf.cell {v : World} {a b : Value} {D : Dm} {g : Nat} {cs : Array Value} (h : Rf v a b D) (hb : Box v g 37 cs) (i : Nat) (u : Value) : Rf (v.setCell ⟨g, i, none⟩ u) a b D := h.store hb (Kp.one v g i u)
theorem Rf.alike {v : World} {a b : Value} {D D' : Dm} (h : Rf v a b D) (h1 : D'.on = D.on) (h2 : D'.wait = D.wait) : Rf v a b D' := ⟨by rw [h1]; exact h.on, by rw [h2]; exact h.wt⟩
/-- An act: false: the power went. -/
def Dm.actS (d : Dm) : Dm × Bool := if d.out then (d.lose d.keep, false) else (d.act, true)

set_option maxRecDepth 100000 in
set_option maxHeartbeats 4000000 in
theorem ract_any {w : World} {vo vw : Value} {d : Dm} (h : Rf w vo vw d) (ok : d.ok) :
    Calls Tryz.prog 79 #[.agg (rcs d vo vw)] w fun e w' => ∃ vo' vw', e = .returned (.tuple #[.agg (rcs d.actS.1 vo' vw'), .bool d.actS.2]) ∧ Rf w' vo' vw' d.actS.1 ∧ Kp (fun _ => False) w w' := by
  have Hr : Hid (Tryz.f79.results = #[.cell 2 37, .tmp 3]) := Lib.hid (by kernel_rfl)
  obtain ⟨W, hW, hb0, hb1, hkw⟩ := start2 w (rcs d vo vw)
  have HW := Lib.hid hW
  have B0 := Lib.hid hb0
  have B1 := Lib.hid hb1
  have KW := Lib.hid hkw
  have H0 := Lib.hid (h.still hkw)
  obtain ⟨ho1, ho2⟩ := h.c1
  clear hb0 hb1 hkw hW
  have y4 : W.cell? ⟨w.heap.size, 4, none⟩ = some (.string ⟨d.keep.toArray⟩) := B0.out.cell 4
  have y3 : W.cell? ⟨w.heap.size, 3, none⟩ = some (.int .i64 (leftZ d)) := B0.out.cell 3
  have hk := ok.keep_
  have hleft := ok.left_
  have OK := Lib.hid ok
  clear h ok
  rcases ho : d.out with _ | _
  · have hx : d.actS = (d.act, true) := by simp [Dm.actS, ho]
    rw [hx]
    clear hx
    have y5 : W.cell? ⟨w.heap.size, 5, none⟩ = some (.int .u64 d.acts) := B0.out.cell 5
    have f5 := B0.out.free 5
    have f3 := B0.out.free 3
    have ha := OK.out.acts_
    rcases hl : d.lit with _ | _
    · have hz : leftZ d = -1 := by simp [leftZ, hl]
      rw [hz] at y3
      have HL := Lib.hid hl
      clear hl ho hz y4 f3
      go_enter Tryz.func79, Tryz.ntmps79
      go_upto_region 1 with fail
      rw [← HW.out]
      go_upto_region 6 with fail
      have hb := B0.out.put 5 (.int .u64 (IntKind.u64.wrap (d.acts + 1)))
      have hbr := B1.out.far (p := ⟨w.heap.size, 5, none⟩) (by simp) (.int .u64 (IntKind.u64.wrap (d.acts + 1)))
      have e : rcs d.act vo vw = (rcs d vo vw).setIfInBounds 5 (.int .u64 (IntKind.u64.wrap (d.acts + 1))) := by
        rw [u64_next]
        simp [rcs, Dm.act, leftZ, HL.out]
      rw [← e] at hb
      have hr := (H0.out.cell B0.out 5 (.int .u64 (IntKind.u64.wrap (d.acts + 1)))).alike (D' := d.act) rfl rfl
      have hk1 := KW.out.setCell (p := ⟨w.heap.size, 5, none⟩) (.inl (Nat.le_refl _)) (.int .u64 (IntKind.u64.wrap (d.acts + 1)))
      have HB := Lib.hid hb
      have HBR := Lib.hid hbr
      have HR := Lib.hid hr
      have HK1 := Lib.hid hk1
      clear hb hbr hr hk1 e y5 y3 f5
      go_wp2_with (first | (refine wpList_load_mid rfl 37 (.tmp 1) rfl w.heap.size 0 rfl (rcs d.act vo vw).toList _ (Box.range' (L := (rcs d.act vo vw).toList) HB.out) Tryz.underlying37 rfl infoRef ?_) | (refine dwpList_store_box rfl 37 (.tmp 2) (.tmp 22) rfl (w.heap.size + 1) (rcs d.act vo vw).toList rfl rfl HBR.out rfl infoRef (rcs_one _ _ _ ho1 ho2) ?_; intro w5 hb5 hk5) | fail)
      refine bodyPost_ret (v := .tuple #[.agg (rcs d.act vo vw), .bool true]) ?_ rfl ⟨vo, vw, rfl, HR.out.store HBR.out hk5, HK1.out.trans_new hk5 (fun k e => .inl (by omega))⟩
      exact dresults_two Hr.out _ _ (w.heap.size + 1) 37 _ (0, 0) _ rfl hb5 Tryz.underlying37 rfl infoRef
    · have h0 : d.left ≠ 0 := by simpa [Dm.out, hl] using ho
      have hz : leftZ d = (d.left : Int) := by simp [leftZ, hl]
      rw [hz] at y3
      have HL := Lib.hid hl
      obtain ⟨z, hze⟩ : ∃ z : Int, z = d.left := ⟨_, rfl⟩
      rw [← hze] at y3
      have hd : (z == 0) = false := by simp; omega
      have h1 : (1 : Int) ≤ z := by omega
      have hf' : z < 9223372036854775808 := by omega
      have HZ := Lib.hid hze
      clear hleft ha hk hze
      clear hl ho h0 hz y4
      go_enter Tryz.func79, Tryz.ntmps79
      go_upto_region 1 with fail
      rw [← HW.out]
      go_upto_region 6 with fail
      have hb := (B0.out.put 3 (.int .i64 (z - 1))).put 5 (.int .u64 (IntKind.u64.wrap (d.acts + 1)))
      have hbr := (B1.out.far (p := ⟨w.heap.size, 3, none⟩) (by simp) (.int .i64 (z - 1))).far (p := ⟨w.heap.size, 5, none⟩) (by simp) (.int .u64 (IntKind.u64.wrap (d.acts + 1)))
      have e : rcs d.act vo vw = ((rcs d vo vw).setIfInBounds 3 (.int .i64 (z - 1))).setIfInBounds 5 (.int .u64 (IntKind.u64.wrap (d.acts + 1))) := by
        have hc : ((d.left - 1 : Nat) : Int) = z - 1 := by have := HZ.out; omega
        rw [u64_next, ← hc]
        simp [rcs, Dm.act, leftZ, HL.out]
      rw [← e] at hb
      have hr := ((H0.out.cell B0.out 3 (.int .i64 (z - 1))).cell (B0.out.put 3 (.int .i64 (z - 1))) 5 (.int .u64 (IntKind.u64.wrap (d.acts + 1)))).alike (D' := d.act) rfl rfl
      have hk1 := (KW.out.setCell (p := ⟨w.heap.size, 3, none⟩) (.inl (Nat.le_refl _)) (.int .i64 (z - 1))).setCell (p := ⟨w.heap.size, 5, none⟩) (.inl (Nat.le_refl _)) (.int .u64 (IntKind.u64.wrap (d.acts + 1)))
      have HB := Lib.hid hb
      have HBR := Lib.hid hbr
      have HR := Lib.hid hr
      have HK1 := Lib.hid hk1
      clear hb hbr hr hk1 e y5 y3 f5 f3
      go_wp2_with (first | (refine wpList_load_mid rfl 37 (.tmp 1) rfl w.heap.size 0 rfl (rcs d.act vo vw).toList _ (Box.range' (L := (rcs d.act vo vw).toList) HB.out) Tryz.underlying37 rfl infoRef ?_) | (refine dwpList_store_box rfl 37 (.tmp 2) (.tmp 22) rfl (w.heap.size + 1) (rcs d.act vo vw).toList rfl rfl HBR.out rfl infoRef (rcs_one _ _ _ ho1 ho2) ?_; intro w5 hb5 hk5) | fail)
      refine bodyPost_ret (v := .tuple #[.agg (rcs d.act vo vw), .bool true]) ?_ rfl ⟨vo, vw, rfl, HR.out.store HBR.out hk5, HK1.out.trans_new hk5 (fun k e => .inl (by omega))⟩
      exact dresults_two Hr.out _ _ (w.heap.size + 1) 37 _ (0, 0) _ rfl hb5 Tryz.underlying37 rfl infoRef
  · have hx : d.actS = (d.lose d.keep, false) := by simp [Dm.actS, ho]
    obtain ⟨hl, h0⟩ : d.lit = true ∧ d.left = 0 := by simpa [Dm.out] using ho
    have hz : leftZ d = 0 := by simp [leftZ, hl, h0]
    rw [hx]
    rw [hz] at y3
    clear hx hl h0 hz ho
    go_enter Tryz.func79, Tryz.ntmps79
    go_upto_region 1 with fail
    rw [← HW.out]
    go_wp2_with (first | (refine wpList_load_mid rfl 37 (.tmp 1) rfl w.heap.size 0 rfl (rcs d vo vw).toList _ (Box.range' (L := (rcs d vo vw).toList) B0.out) Tryz.underlying37 rfl infoRef ?_) | fail)
    refine (goes_any H0.out OK.out d.keep hk).mono ?_
    rintro e w1 ⟨vn, rfl, hrn, hkn⟩
    have HN := Lib.hid hrn
    have HKN := Lib.hid (KW.out.trans hkn)
    have HBR := Lib.hid (B1.out.kp hkn (fun h => h))
    obtain ⟨ho3, _⟩ := hrn.c1
    clear hrn hkn y3 y4
    go_wp2_with (first | (refine dwpList_store_box rfl 37 (.tmp 2) (.tmp 10) rfl (w.heap.size + 1) (rcs (d.lose d.keep) vn (.slice none 0 0)).toList rfl rfl HBR.out rfl infoRef (rcs_one _ _ _ ho3 rfl) ?_; intro w5 hb5 hk5) | fail)
    refine bodyPost_ret (v := .tuple #[.agg (rcs (d.lose d.keep) vn (.slice none 0 0)), .bool false]) ?_ rfl ⟨vn, _, rfl, HN.out.store HBR.out hk5, HKN.out.trans_new hk5 (fun k e => .inl (by omega))⟩
    exact dresults_two Hr.out _ _ (w.heap.size + 1) 37 _ (0, 0) _ rfl hb5 Tryz.underlying37 rfl infoRef
end Go.Proofs.YtfcljcikajaedaaGreatDoor
