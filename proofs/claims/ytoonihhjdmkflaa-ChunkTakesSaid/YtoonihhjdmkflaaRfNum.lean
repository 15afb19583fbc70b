/- The document's own opener, by value: a number and a name. Condition: at most 2^47 bytes. -/
import Derived.Test.YtoonihhjdmkflaaRfOpn
import Derived.Test.YtoonihhjdmkflaaBlk2
import Derived.Test.YtoonihhjdmkflaaChMath
namespace Go.Proofs.Ytoonihhjdmkflaa
open Go.RowKit

theorem gv_left2 (k : Nat) (s : List UInt8 × Bool) : (gv k s).2.1.length ≤ s.1.length := gv_left k s
/-- What Take answers. -/
def TnEnd (k : Nat) (s : List UInt8 × Bool) (w : World) (e : Ending) (w' : World) : Prop := e = .returned (.tuple #[.int .u64 (numN (gv k s).1 : Nat), .agg (ocs (gv k s).2)]) ∧ Kp (fun _ => False) w w'
set_option maxRecDepth 100000 in
set_option maxHeartbeats 4000000 in
theorem rtake1 (s : List UInt8 × Bool) (w : World) (hl : s.1.length ≤ 140737488355328) :
    Calls Try.prog 17 #[.agg (ocs s), .int .i64 1] w (TnEnd 1 s w) := by
  have Hr : Hid (Try.f17.results = #[.tmp 4, .cell 5 55]) := Lib.hid (by kernel_rfl)
  obtain ⟨W, hW, b0, b1, k0⟩ : ∃ W, W = (w.alloc (.cells (ocs s) 55)).alloc (.cells (ocs ([], false)) 55) ∧ Box W w.heap.size 55 (ocs s) ∧ Box W (w.heap.size + 1) 55 (ocs ([], false)) ∧ Kp (fun _ => False) w W := ⟨_, rfl, (Box.new w _ _).alloc _, by simpa using Box.new (w.alloc (.cells (ocs s) 55)) 55 (ocs ([], false)), ((Kp.refl _ w).alloc _).alloc _⟩
  have HW := Lib.hid hW
  have K0 := Lib.hid k0
  have B0 := Lib.hid b0
  have B1 := Lib.hid b1
  clear hW b0 b1 k0
  go_enter Try.func17, Try.ntmps17
  go_upto_region 1 with fail
  rw [zero_op]
  rw [← HW.out]
  go_wp2_with (first | (refine wpList_load_mid rfl 55 (.tmp 2) rfl w.heap.size 0 rfl (ocs s).toList _ B0.out.range Try.underlying55 rfl (by kernel_rfl) ?_) | fail)
  refine (rtext_any 1 s _ hl).mono ?_
  rintro e w2 ⟨rfl, k2⟩
  have K2 := Lib.hid (K0.out.trans k2)
  have B2 := Lib.hid (B1.out.kp k2 (fun e => e))
  clear k2
  obtain ⟨x, hx⟩ : ∃ x, x = (gv 1 s).1 := ⟨_, rfl⟩
  obtain ⟨s2, hs2⟩ : ∃ s2, s2 = (gv 1 s).2 := ⟨_, rfl⟩
  have hxl : x.length ≤ 1 := by rw [hx]; exact gv_len _ _
  rw [← hx, ← hs2]
  have HX := Lib.hid hx
  have HS2 := Lib.hid hs2
  clear hx hs2
  go_upto_region 4 with (first | (refine wpList_newA rfl rfl rfl 55 rfl (.tmp 26) rfl (.tmp 7) (.tmp 27) rfl zOp (ocs s2).toList rfl (fun _ => rfl) (fun _ => rfl) (ocs_one s2) ?_; intro w3 g3 hg3 hb3 hk3; have HG3 := Lib.hid hg3; have HB3 := Lib.hid hb3; have B3 := Lib.hid (B2.out.kp hk3 (fun e => e)); have K3 := Lib.hid (K2.out.trans hk3); clear hg3 hb3 hk3) | fail)
  refine wp_region_held_drew (S := fun v => Box v g3 55 (ocs s2)) (by kernel_rfl) (HB3.out.drew) (fun hHeld => ?_)
  have B1 := Lib.hid B3.out.drew
  have HBD := Lib.hid HB3.out.drew
  have KD := Lib.hid K3.out.drew
  refine tk 0 (h := ?_)
  refine tk 2 (hy := fun v hv => nexec_load 55 (.tmp 7) rfl g3 0 rfl (ocs s2).toList _ (Box.range hv) Try.underlying55 rfl (by kernel_rfl)) (h := ?_)
  refine rd 1 (h := fun K hK => ?_)
  go_simp
  refine (rvalue_any ⟨x.toArray⟩ _ (by rw [rsize]; omega)).mono ?_
  rintro e w4 ⟨rfl, rfl⟩
  rw [byt_mk]
  go_wp2_with fail
  refine hK.out _ _ (HBD.out) (fun hHeld1 => ?_)
  clear hK K
  try simp only [Act.put, List.setIfInBounds_toArray, List.set_cons_zero, List.set_cons_succ]
  refine tk 3 (h := ?_)
  refine rd 4 (h := fun K hK => ?_)
  rw [if_pos (by rfl)]
  refine nwp_store_box 55 (.tmp 5) (.tmp 30) rfl (w.heap.size + 1) (ocs s2).toList rfl rfl B1.out rfl (by kernel_rfl) (ocs_one s2) ?_
  intro w9 hb9 hk9
  have HB9 := Lib.hid hb9
  have HK9 := Lib.hid hk9
  clear hb9 hk9
  refine hK.out _ _ (HBD.out.kp HK9.out (by have h1 := HG3.out; have h2 := B2.out.lt; omega)) (fun hHeldZ => ?_)
  clear hK K
  try simp only [Act.put]
  refine wpAnyH_done (by kernel_rfl) ?_ _
  go_wp2_with fail
  refine bodyPost_ret (v := .tuple #[.int .u64 (numN x : Nat), .agg (ocs s2)]) ?_ rfl ?_
  · exact nresults_tc Hr.out _ _ (w.heap.size + 1) _ _ (0, 0) _ rfl HB9.out Try.underlying55 rfl (by kernel_rfl)
  · rw [TnEnd, ← HX.out, ← HS2.out]
    exact ⟨rfl, KD.out.trans_new HK9.out (fun q e => .inl (by omega))⟩
set_option maxRecDepth 100000 in
set_option maxHeartbeats 4000000 in
theorem rtake4 (s : List UInt8 × Bool) (w : World) (hl : s.1.length ≤ 140737488355328) :
    Calls Try.prog 17 #[.agg (ocs s), .int .i64 4] w (TnEnd 4 s w) := by
  have Hr : Hid (Try.f17.results = #[.tmp 4, .cell 5 55]) := Lib.hid (by kernel_rfl)
  obtain ⟨W, hW, b0, b1, k0⟩ : ∃ W, W = (w.alloc (.cells (ocs s) 55)).alloc (.cells (ocs ([], false)) 55) ∧ Box W w.heap.size 55 (ocs s) ∧ Box W (w.heap.size + 1) 55 (ocs ([], false)) ∧ Kp (fun _ => False) w W := ⟨_, rfl, (Box.new w _ _).alloc _, by simpa using Box.new (w.alloc (.cells (ocs s) 55)) 55 (ocs ([], false)), ((Kp.refl _ w).alloc _).alloc _⟩
  have HW := Lib.hid hW
  have K0 := Lib.hid k0
  have B0 := Lib.hid b0
  have B1 := Lib.hid b1
  clear hW b0 b1 k0
  go_enter Try.func17, Try.ntmps17
  go_upto_region 1 with fail
  rw [zero_op]
  rw [← HW.out]
  go_wp2_with (first | (refine wpList_load_mid rfl 55 (.tmp 2) rfl w.heap.size 0 rfl (ocs s).toList _ B0.out.range Try.underlying55 rfl (by kernel_rfl) ?_) | fail)
  refine (rtext_any 4 s _ hl).mono ?_
  rintro e w2 ⟨rfl, k2⟩
  have K2 := Lib.hid (K0.out.trans k2)
  have B2 := Lib.hid (B1.out.kp k2 (fun e => e))
  clear k2
  obtain ⟨x, hx⟩ : ∃ x, x = (gv 4 s).1 := ⟨_, rfl⟩
  obtain ⟨s2, hs2⟩ : ∃ s2, s2 = (gv 4 s).2 := ⟨_, rfl⟩
  have hxl : x.length ≤ 4 := by rw [hx]; exact gv_len _ _
  rw [← hx, ← hs2]
  have HX := Lib.hid hx
  have HS2 := Lib.hid hs2
  clear hx hs2
  go_upto_region 4 with (first | (refine wpList_newA rfl rfl rfl 55 rfl (.tmp 26) rfl (.tmp 7) (.tmp 27) rfl zOp (ocs s2).toList rfl (fun _ => rfl) (fun _ => rfl) (ocs_one s2) ?_; intro w3 g3 hg3 hb3 hk3; have HG3 := Lib.hid hg3; have HB3 := Lib.hid hb3; have B3 := Lib.hid (B2.out.kp hk3 (fun e => e)); have K3 := Lib.hid (K2.out.trans hk3); clear hg3 hb3 hk3) | fail)
  refine wp_region_held_drew (S := fun v => Box v g3 55 (ocs s2)) (by kernel_rfl) (HB3.out.drew) (fun hHeld => ?_)
  have B1 := Lib.hid B3.out.drew
  have HBD := Lib.hid HB3.out.drew
  have KD := Lib.hid K3.out.drew
  refine tk 0 (h := ?_)
  refine tk 2 (hy := fun v hv => nexec_load 55 (.tmp 7) rfl g3 0 rfl (ocs s2).toList _ (Box.range hv) Try.underlying55 rfl (by kernel_rfl)) (h := ?_)
  refine rd 1 (h := fun K hK => ?_)
  go_simp
  refine (rvalue_any ⟨x.toArray⟩ _ (by rw [rsize]; omega)).mono ?_
  rintro e w4 ⟨rfl, rfl⟩
  rw [byt_mk]
  go_wp2_with fail
  refine hK.out _ _ (HBD.out) (fun hHeld2 => ?_)
  clear hK K
  try simp only [Act.put, List.setIfInBounds_toArray, List.set_cons_zero, List.set_cons_succ]
  refine tk 3 (h := ?_)
  refine rd 4 (h := fun K hK => ?_)
  rw [if_pos (by rfl)]
  refine nwp_store_box 55 (.tmp 5) (.tmp 30) rfl (w.heap.size + 1) (ocs s2).toList rfl rfl B1.out rfl (by kernel_rfl) (ocs_one s2) ?_
  intro w9 hb9 hk9
  have HB9 := Lib.hid hb9
  have HK9 := Lib.hid hk9
  clear hb9 hk9
  refine hK.out _ _ (HBD.out.kp HK9.out (by have h1 := HG3.out; have h2 := B2.out.lt; omega)) (fun hHeldZ => ?_)
  clear hK K
  try simp only [Act.put]
  refine wpAnyH_done (by kernel_rfl) ?_ _
  go_wp2_with fail
  refine bodyPost_ret (v := .tuple #[.int .u64 (numN x : Nat), .agg (ocs s2)]) ?_ rfl ?_
  · exact nresults_tc Hr.out _ _ (w.heap.size + 1) _ _ (0, 0) _ rfl HB9.out Try.underlying55 rfl (by kernel_rfl)
  · rw [TnEnd, ← HX.out, ← HS2.out]
    exact ⟨rfl, KD.out.trans_new HK9.out (fun q e => .inl (by omega))⟩
/-- What Name answers. -/
def NmEnd (s : List UInt8 × Bool) (w : World) (e : Ending) (w' : World) : Prop := e = .returned (.tuple #[.string ⟨(gn s).1.toArray⟩, .agg (ocs (gn s).2)]) ∧ Kp (fun _ => False) w w'
theorem gn_failed (l : List UInt8) : gn (l, true) = ([], (l, true)) := rfl
theorem gn_nil : gn ([], false) = ([], ([], true)) := rfl
theorem gn_short {x : UInt8} {r : List UInt8} (h : r.length < x.toNat) : gn (x :: r, false) = ([], (x :: r, true)) := by
  simp only [gn]
  rw [gv_short (by simpa using h)]
  rfl
theorem gn_fine {x : UInt8} {r : List UInt8} (h : x.toNat ≤ r.length) : gn (x :: r, false) = (r.take x.toNat, (r.drop x.toNat, false)) := by
  simp only [gn]
  rw [gv_fine (by simpa using h)]
  simp
set_option maxRecDepth 100000 in
set_option maxHeartbeats 8000000 in
theorem rname_any (s : List UInt8 × Bool) (w : World) (hl : s.1.length ≤ 140737488355328) :
    Calls Try.prog 18 #[.agg (ocs s)] w (NmEnd s w) := by
  have Hr : Hid (Try.f18.results = #[.tmp 2, .cell 3 55]) := Lib.hid (by kernel_rfl)
  obtain ⟨l, f⟩ := s
  obtain ⟨W, hW, b0, b1, k0⟩ : ∃ W, W = (w.alloc (.cells (ocs (l, f)) 55)).alloc (.cells (ocs ([], false)) 55) ∧ Box W w.heap.size 55 (ocs (l, f)) ∧ Box W (w.heap.size + 1) 55 (ocs ([], false)) ∧ Kp (fun _ => False) w W := ⟨_, rfl, (Box.new w _ _).alloc _, by simpa using Box.new (w.alloc (.cells (ocs (l, f)) 55)) 55 (ocs ([], false)), ((Kp.refl _ w).alloc _).alloc _⟩
  have HW := Lib.hid hW
  have K0 := Lib.hid k0
  have B0 := Lib.hid b0
  have B1 := Lib.hid b1
  clear hW b0 b1 k0
  have HL := Lib.hid hl
  dsimp only at hl
  rcases f with _ | _
  · rcases l with _ | ⟨x, r⟩
    · have HG : Hid (gn ([], false) = ([], ([], true))) := Lib.hid rfl
      go_enter Try.func18, Try.ntmps18
      go_upto_region 1 with fail
      rw [zero_op]
      rw [← HW.out]
      have hsz : (⟨([] : List UInt8).toArray⟩ : ByteArray).size = 0 := rfl
      refine wp_region_quiet (C := fun v => Kp (fun _ => False) W v) (by kernel_rfl) (by kernel_rfl) ((Kp.refl _ _).drew) (Wq.out ?_)
      refine qtk (h := ?_)
      refine qtk (hy := fun v hv => by (have y : v.cell? ⟨w.heap.size, 1, none⟩ = some (.bool false) := (B0.out.kp hv (fun e => e)).cell 1; unfold Oper.quietAt; go_simp; with_reducible rfl)) (h := ?_)
      refine qtk (h := ?_)
      refine qtk (h := ?_)
      refine qtk (hy := fun v hv => by (have y : v.cell? ⟨w.heap.size, 0, none⟩ = some (.string ⟨([] : List UInt8).toArray⟩) := (B0.out.kp hv (fun e => e)).cell 0; unfold Oper.quietAt; go_simp; with_reducible rfl)) (h := ?_)
      refine qtk (h := ?_)
      refine qtk (h := ?_)
      refine qtk (h := ?_)
      refine qtk (h := ?_)
      refine qsk (h := ?_)
      refine qsk (h := ?_)
      refine qsk (h := ?_)
      refine qsk (h := ?_)
      refine qsk (h := ?_)
      refine qsk (h := ?_)
      refine qsk (h := ?_)
      refine qsk (h := ?_)
      refine qsk (h := ?_)
      refine qtk (h := ?_)
      refine Wq.mk (wpQuiet_nil ?_)
      intro w5 hw5
      have K5 := Lib.hid (K0.out.trans hw5)
      have B05 := Lib.hid (B0.out.kp hw5 (fun e => e))
      have B15 := Lib.hid (B1.out.kp hw5 (fun e => e))
      clear hw5
      clear hsz
      go_upto_region 2 with fail
      refine wp_region_held_drew (S := fun v => Box v w.heap.size 55 (ocs (([] : List UInt8), false))) (by kernel_rfl) (B05.out.drew) (fun hHeld => ?_)
      have B1 := Lib.hid B15.out.drew
      refine tk 0 (h := ?_)
      refine tk 1 (hy := fun v hv => by (have y : v.cell? ⟨w.heap.size, 0, none⟩ = some (.string ⟨(([] : List UInt8)).toArray⟩) := Box.cell hv 0; go_simp; with_reducible rfl)) (h := ?_)
      refine tk 2 (h := ?_)
      refine tk 3 (h := ?_)
      refine rd 4 (h := fun K hK => ?_)
      rw [if_pos (by rfl)]
      refine nwp_store_box 55 (.tmp 3) (.tmp 26) rfl (w.heap.size + 1) ((ocs ([], true)).toList) rfl rfl B1.out rfl (by kernel_rfl) (ocs_one ([], true)) ?_
      intro w9 hb9 hk9
      have HB9 := Lib.hid hb9
      have HK9 := Lib.hid hk9
      clear hb9 hk9
      refine hK.out _ _ (B05.out.drew.kp HK9.out (by omega)) (fun hHeldZ => ?_)
      clear hK K
      try simp only [Act.put]
      refine wpAnyH_done (by kernel_rfl) ?_ _
      go_wp2_with fail
      refine bodyPost_ret (v := .tuple #[.string ⟨#[]⟩, .agg (ocs ([], true))]) ?_ rfl ?_
      · exact nresults_tc Hr.out _ _ (w.heap.size + 1) _ _ (0, 0) _ rfl HB9.out Try.underlying55 rfl (by kernel_rfl)
      · rw [NmEnd, HG.out]
        exact ⟨rfl, K5.out.drew.trans_new HK9.out (fun q e => .inl (by omega))⟩
    · have hx8 := x.toNat_lt
      obtain ⟨n, hn⟩ : ∃ n, n = (x :: r).length := ⟨_, rfl⟩
      have hrn : r.length + 1 = n := by rw [hn]; rfl
      have hsz : (⟨(x :: r).toArray⟩ : ByteArray).size = n := by rw [rsize, hn]
      have hn0 : ((n : Int) == 0) = false := by simp; omega
      have hwx : IntKind.i64.wrap (x.toNat : Int) = (x.toNat : Int) := IntWalk.i64_in _ (by omega)
      have hwn : IntKind.i64.wrap ((n : Int) - 1) = (n : Int) - 1 := IntWalk.i64_in _ (by rw [List.length_cons] at hl; omega)
      have hn1 : 0 < n := by omega
      have hidx : (⟨(x :: r).toArray⟩ : ByteArray)[0]'(by rw [hsz]; exact hn1) = x := rfl
      clear hn
      by_cases hsh : r.length < x.toNat
      · have HG : Hid (gn (x :: r, false) = ([], (x :: r, true))) := Lib.hid (gn_short hsh)
        have hd : ((n : Int) - 1 < (x.toNat : Int)) := by omega
        go_enter Try.func18, Try.ntmps18
        go_upto_region 1 with fail
        rw [zero_op]
        rw [← HW.out]
        refine wp_region_quiet (C := fun v => Kp (fun _ => False) W v) (by kernel_rfl) (by kernel_rfl) ((Kp.refl _ _).drew) (Wq.out ?_)
        refine qtk (h := ?_)
        refine qtk (hy := fun v hv => by (have y : v.cell? ⟨w.heap.size, 1, none⟩ = some (.bool false) := (B0.out.kp hv (fun e => e)).cell 1; unfold Oper.quietAt; go_simp; with_reducible rfl)) (h := ?_)
        refine qtk (h := ?_)
        refine qtk (h := ?_)
        refine qtk (hy := fun v hv => by (have y : v.cell? ⟨w.heap.size, 0, none⟩ = some (.string ⟨(x :: r).toArray⟩) := (B0.out.kp hv (fun e => e)).cell 0; unfold Oper.quietAt; go_simp; with_reducible rfl)) (h := ?_)
        refine qtk (h := ?_)
        refine qtk (h := ?_)
        refine qtk (h := ?_)
        refine qtk (h := ?_)
        refine qtk (h := ?_)
        refine qtk (hy := fun v hv => by (have y : v.cell? ⟨w.heap.size, 0, none⟩ = some (.string ⟨(x :: r).toArray⟩) := (B0.out.kp hv (fun e => e)).cell 0; unfold Oper.quietAt; go_simp; with_reducible rfl)) (h := ?_)
        refine qtk (h := ?_)
        refine qtk (h := ?_)
        refine qtk (h := ?_)
        refine qtk (hy := fun v hv => by (have y : v.cell? ⟨w.heap.size, 0, none⟩ = some (.string ⟨(x :: r).toArray⟩) := (B0.out.kp hv (fun e => e)).cell 0; unfold Oper.quietAt; go_simp; with_reducible rfl)) (h := ?_)
        refine qtk (h := ?_)
        refine qtk (h := ?_)
        refine qtk (h := ?_)
        refine qtk (h := ?_)
        refine Wq.mk (wpQuiet_nil ?_)
        intro w5 hw5
        have K5 := Lib.hid (K0.out.trans hw5)
        have B05 := Lib.hid (B0.out.kp hw5 (fun e => e))
        have B15 := Lib.hid (B1.out.kp hw5 (fun e => e))
        clear hw5
        clear hwx hwn hidx hn0
        go_upto_region 2 with fail
        refine wp_region_held_drew (S := fun v => Box v w.heap.size 55 (ocs ((x :: r), false))) (by kernel_rfl) (B05.out.drew) (fun hHeld => ?_)
        have B1 := Lib.hid B15.out.drew
        refine tk 0 (h := ?_)
        refine tk 1 (hy := fun v hv => by (have y : v.cell? ⟨w.heap.size, 0, none⟩ = some (.string ⟨((x :: r)).toArray⟩) := Box.cell hv 0; go_simp; with_reducible rfl)) (h := ?_)
        refine tk 2 (h := ?_)
        refine tk 3 (h := ?_)
        refine rd 4 (h := fun K hK => ?_)
        rw [if_pos (by rfl)]
        refine nwp_store_box 55 (.tmp 3) (.tmp 26) rfl (w.heap.size + 1) ((ocs (x :: r, true)).toList) rfl rfl B1.out rfl (by kernel_rfl) (ocs_one (x :: r, true)) ?_
        intro w9 hb9 hk9
        have HB9 := Lib.hid hb9
        have HK9 := Lib.hid hk9
        clear hb9 hk9
        refine hK.out _ _ (B05.out.drew.kp HK9.out (by omega)) (fun hHeldZ => ?_)
        clear hK K
        try simp only [Act.put]
        refine wpAnyH_done (by kernel_rfl) ?_ _
        go_wp2_with fail
        refine bodyPost_ret (v := .tuple #[.string ⟨#[]⟩, .agg (ocs (x :: r, true))]) ?_ rfl ?_
        · exact nresults_tc Hr.out _ _ (w.heap.size + 1) _ _ (0, 0) _ rfl HB9.out Try.underlying55 rfl (by kernel_rfl)
        · rw [NmEnd, HG.out]
          exact ⟨rfl, K5.out.drew.trans_new HK9.out (fun q e => .inl (by omega))⟩
      · have HG : Hid (gn (x :: r, false) = (r.take x.toNat, (r.drop x.toNat, false))) := Lib.hid (gn_fine (by omega))
        have hd : ¬ ((n : Int) - 1 < (x.toNat : Int)) := by omega
        go_enter Try.func18, Try.ntmps18
        go_upto_region 1 with fail
        rw [zero_op]
        rw [← HW.out]
        refine wp_region_quiet (C := fun v => Kp (fun _ => False) W v) (by kernel_rfl) (by kernel_rfl) ((Kp.refl _ _).drew) (Wq.out ?_)
        refine qtk (h := ?_)
        refine qtk (hy := fun v hv => by (have y : v.cell? ⟨w.heap.size, 1, none⟩ = some (.bool false) := (B0.out.kp hv (fun e => e)).cell 1; unfold Oper.quietAt; go_simp; with_reducible rfl)) (h := ?_)
        refine qtk (h := ?_)
        refine qtk (h := ?_)
        refine qtk (hy := fun v hv => by (have y : v.cell? ⟨w.heap.size, 0, none⟩ = some (.string ⟨(x :: r).toArray⟩) := (B0.out.kp hv (fun e => e)).cell 0; unfold Oper.quietAt; go_simp; with_reducible rfl)) (h := ?_)
        refine qtk (h := ?_)
        refine qtk (h := ?_)
        refine qtk (h := ?_)
        refine qtk (h := ?_)
        refine qtk (h := ?_)
        refine qtk (hy := fun v hv => by (have y : v.cell? ⟨w.heap.size, 0, none⟩ = some (.string ⟨(x :: r).toArray⟩) := (B0.out.kp hv (fun e => e)).cell 0; unfold Oper.quietAt; go_simp; with_reducible rfl)) (h := ?_)
        refine qtk (h := ?_)
        refine qtk (h := ?_)
        refine qtk (h := ?_)
        refine qtk (hy := fun v hv => by (have y : v.cell? ⟨w.heap.size, 0, none⟩ = some (.string ⟨(x :: r).toArray⟩) := (B0.out.kp hv (fun e => e)).cell 0; unfold Oper.quietAt; go_simp; with_reducible rfl)) (h := ?_)
        refine qtk (h := ?_)
        refine qtk (h := ?_)
        refine qtk (h := ?_)
        refine qtk (h := ?_)
        refine Wq.mk (wpQuiet_nil ?_)
        intro w5 hw5
        have K5 := Lib.hid (K0.out.trans hw5)
        have B05 := Lib.hid (B0.out.kp hw5 (fun e => e))
        have B15 := Lib.hid (B1.out.kp hw5 (fun e => e))
        clear hw5
        have y0 : w5.cell? ⟨w.heap.size, 0, none⟩ = some (.string ⟨(x :: r).toArray⟩) := B05.out.cell 0
        have hw1x : IntKind.i64.wrap ((1 : Int) + (x.toNat : Int)) = 1 + (x.toNat : Int) := IntWalk.i64_in _ (by omega)
        go_upto_region 4 with fail
        clear y0 hn0 hwn hwx hidx hd
        refine wp_region_held_drew (S := fun v => Box v w.heap.size 55 (ocs (x :: r, false))) (by kernel_rfl) (B05.out.drew) (fun hHeld => ?_)
        have B1 := Lib.hid B15.out.drew
        have he1 : (⟨(x :: r).toArray⟩ : ByteArray).extract 1 (x.toNat + 1) = ⟨(r.take x.toNat).toArray⟩ := by rw [rext_mid]; simp
        have he1b : (⟨(x :: r).toArray⟩ : ByteArray).extract 1 (1 + x.toNat) = ⟨(r.take x.toNat).toArray⟩ := by rw [Nat.add_comm 1]; exact he1
        have he2 : (⟨(x :: r).toArray⟩ : ByteArray).extract (x.toNat + 1) n = ⟨(r.drop x.toNat).toArray⟩ := by rw [rext_from _ _ _ (by rw [List.length_cons]; exact hrn)]; simp
        have he2b : (⟨(x :: r).toArray⟩ : ByteArray).extract (1 + x.toNat) n = ⟨(r.drop x.toNat).toArray⟩ := by rw [Nat.add_comm 1]; exact he2
        have htn : ((1 : Int) + (x.toNat : Int)).toNat = x.toNat + 1 := by omega
        have h0n : (0 : Int) ≤ 1 + (x.toNat : Int) := by omega
        have h1n : (1 : Int) + (x.toNat : Int) ≤ n := by omega
        have h11 : (1 : Int) ≤ 1 + (x.toNat : Int) := by omega
        refine tk 0 (h := ?_)
        refine tk 1 (hy := fun v hv => by (have y : v.cell? ⟨w.heap.size, 0, none⟩ = some (.string ⟨(x :: r).toArray⟩) := Box.cell hv 0; go_simp; with_reducible rfl)) (h := ?_)
        refine tk 2 (h := ?_)
        refine tk 3 (h := ?_)
        refine tk 4 (h := ?_)
        refine tk 5 (h := ?_)
        refine tk 6 (hy := fun v hv => by (have y : v.cell? ⟨w.heap.size, 0, none⟩ = some (.string ⟨(x :: r).toArray⟩) := Box.cell hv 0; go_simp; with_reducible rfl)) (h := ?_)
        refine tk 7 (h := ?_)
        refine tk 8 (h := ?_)
        refine tk 9 (h := ?_)
        refine tk 10 (h := ?_)
        refine tk 11 (h := ?_)
        refine rd 12 (h := fun K hK => ?_)
        rw [if_pos (by rfl)]
        refine nwp_store_box 55 (.tmp 3) (.tmp 41) rfl (w.heap.size + 1) ((ocs (r.drop x.toNat, false)).toList) rfl rfl B1.out rfl (by kernel_rfl) (ocs_one (r.drop x.toNat, false)) ?_
        intro w9 hb9 hk9
        have HB9 := Lib.hid hb9
        have HK9 := Lib.hid hk9
        clear hb9 hk9
        refine hK.out _ _ (B05.out.drew.kp HK9.out (by omega)) (fun hHeldZ => ?_)
        clear hK K
        try simp only [Act.put]
        refine wpAnyH_done (by kernel_rfl) ?_ _
        clear he1 he1b he2 he2b htn h0n h1n h11 hsz hw1x
        go_wp2_with fail
        refine bodyPost_ret (v := .tuple #[.string ⟨(r.take x.toNat).toArray⟩, .agg (ocs (r.drop x.toNat, false))]) ?_ rfl ?_
        · exact nresults_tc Hr.out _ _ (w.heap.size + 1) _ _ (0, 0) _ rfl HB9.out Try.underlying55 rfl (by kernel_rfl)
        · rw [NmEnd, HG.out]
          exact ⟨rfl, K5.out.drew.trans_new HK9.out (fun q e => .inl (by omega))⟩
  · have HG : Hid (gn (l, true) = ([], (l, true))) := Lib.hid rfl
    go_enter Try.func18, Try.ntmps18
    go_upto_region 1 with fail
    rw [zero_op]
    rw [← HW.out]
    refine wp_region_quiet (C := fun v => Kp (fun _ => False) W v) (by kernel_rfl) (by kernel_rfl) ((Kp.refl _ _).drew) (Wq.out ?_)
    refine qtk (h := ?_)
    refine qtk (hy := fun v hv => by (have y : v.cell? ⟨w.heap.size, 1, none⟩ = some (.bool true) := (B0.out.kp hv (fun e => e)).cell 1; unfold Oper.quietAt; go_simp; with_reducible rfl)) (h := ?_)
    refine qtk (h := ?_)
    refine qsk (h := ?_)
    refine qsk (h := ?_)
    refine qsk (h := ?_)
    refine qsk (h := ?_)
    refine qtk (h := ?_)
    refine qtk (h := ?_)
    refine qsk (h := ?_)
    refine qsk (h := ?_)
    refine qsk (h := ?_)
    refine qsk (h := ?_)
    refine qsk (h := ?_)
    refine qsk (h := ?_)
    refine qsk (h := ?_)
    refine qsk (h := ?_)
    refine qsk (h := ?_)
    refine qtk (h := ?_)
    refine Wq.mk (wpQuiet_nil ?_)
    intro w5 hw5
    have K5 := Lib.hid (K0.out.trans hw5)
    have B05 := Lib.hid (B0.out.kp hw5 (fun e => e))
    have B15 := Lib.hid (B1.out.kp hw5 (fun e => e))
    clear hw5
    go_upto_region 2 with fail
    refine wp_region_held_drew (S := fun v => Box v w.heap.size 55 (ocs (l, true))) (by kernel_rfl) (B05.out.drew) (fun hHeld => ?_)
    have B1 := Lib.hid B15.out.drew
    refine tk 0 (h := ?_)
    refine tk 1 (hy := fun v hv => by (have y : v.cell? ⟨w.heap.size, 0, none⟩ = some (.string ⟨(l).toArray⟩) := Box.cell hv 0; go_simp; with_reducible rfl)) (h := ?_)
    refine tk 2 (h := ?_)
    refine tk 3 (h := ?_)
    refine rd 4 (h := fun K hK => ?_)
    rw [if_pos (by rfl)]
    refine nwp_store_box 55 (.tmp 3) (.tmp 26) rfl (w.heap.size + 1) ((ocs (l, true)).toList) rfl rfl B1.out rfl (by kernel_rfl) (ocs_one (l, true)) ?_
    intro w9 hb9 hk9
    have HB9 := Lib.hid hb9
    have HK9 := Lib.hid hk9
    clear hb9 hk9
    refine hK.out _ _ (B05.out.drew.kp HK9.out (by omega)) (fun hHeldZ => ?_)
    clear hK K
    try simp only [Act.put]
    refine wpAnyH_done (by kernel_rfl) ?_ _
    go_wp2_with fail
    refine bodyPost_ret (v := .tuple #[.string ⟨#[]⟩, .agg (ocs (l, true))]) ?_ rfl ?_
    · exact nresults_tc Hr.out _ _ (w.heap.size + 1) _ _ (0, 0) _ rfl HB9.out Try.underlying55 rfl (by kernel_rfl)
    · rw [NmEnd, HG.out]
      exact ⟨rfl, K5.out.drew.trans_new HK9.out (fun q e => .inl (by omega))⟩
end Go.Proofs.Ytoonihhjdmkflaa
