/- A map that is known. Condition: the table of the lowest bit is laid. -/
import Derived.Test.YtlhfdoaknfgemaaDoorBtRefB
import Derived.Test.YtlhfdoaknfgemaaDoorBtSetB
namespace Go.Proofs.YtlhfdoaknfgemaaDoor
open Go.RowKit

def f3 : Nat → Bool := fnL [true, false, true]
theorem nof3 : nof = fnL [false, false, false] := by
  funext i
  unfold nof fnL
  match i with
  | 0 => rfl
  | 1 => rfl
  | 2 => rfl
  | i + 3 => rfl
theorem s0 : setF nof 3 0 true = fnL [true, false, false] := by
  rw [nof3]
  exact (fnL_set [false, false, false] 0 true).trans (by rw [show setB [false, false, false] 0 true = [true, false, false] by decide])
theorem s2 : setF (fnL [true, false, false]) 3 2 true = f3 :=
  (fnL_set [true, false, false] 2 true).trans (by rw [show setB [true, false, false] 2 true = [true, false, true] by decide]; rfl)
theorem s3 : setF f3 3 3 true = f3 :=
  (fnL_set [true, false, true] 3 true).trans (by rw [show setB [true, false, true] 3 true = [true, false, true] by decide]; rfl)
theorem wf3 : Wf f3 3 := fnL_wf [true, false, true] (by decide)
theorem wfn : Wf nof 3 := by rw [nof3]; exact fnL_wf [false, false, false] (by decide)
theorem least3 : Least f3 3 1 := ⟨by decide, fun j hj => by
  have h0 : j = 0 := Nat.lt_one_iff.1 hj
  subst h0
  rfl, fun _ => rfl⟩
theorem cnt3 : cntF f3 3 = 2 := by decide
theorem cntn : cntF nof 3 = 0 := by decide
theorem has2 : hasB f3 3 2 = true := by decide
theorem has1 : hasB f3 3 1 = false := by decide
theorem has9 : hasB f3 3 9 = true := by decide
theorem page3 : (pageL f3)[0]? = some 5 := by
  rw [pageL_get _ _ (by decide)]
  decide
set_option maxRecDepth 100000 in
set_option maxHeartbeats 4000000 in
theorem wakes_true (w : World) (tb : Tbl w) :
    Calls Tryd.prog 6 #[] w fun e w' => e = .returned (.bool true) ∧ Kp (fun _ => False) w w' := by
  have hnew := new_any 3 w
  rw [if_pos (by decide), if_pos (by decide)] at hnew
  have HNEW : Hid (Calls Tryd.prog 7 #[.int .i64 3] w fun e w' => e = .returned (.tuple #[.agg (mcs nof 3).toArray, .int .i64 0]) ∧ Kp (fun _ => False) w w') := Lib.hid hnew
  have HT := Lib.hid tb
  clear hnew tb
  go_enter Tryd.func6, Tryd.ntmps6
  go_wp2_with fail
  refine (HNEW.out).mono ?_
  rintro e w1 ⟨rfl, k1⟩
  have K1 := Lib.hid k1
  clear k1
  go_upto_region 2 with (first | (refine bstore_box rfl 27 (.tmp 1) (.tmp 9) rfl (w1.heap.size) (mcs nof 3) rfl rfl (Box.new w1 _ _) (by rw [mcs_length]; rfl) (infoMcs _ _) (mcs_one _ _) ?_; intro w2 hb2 hk2) | fail)
  have K2 := Lib.hid ((K1.out.alloc (.cells #[.int .u64 0, .int .u64 0, .int .u64 0, .int .u64 0, .int .u64 0, .int .u64 0, .int .u64 0, .int .u64 0, .int .u64 0, .int .u64 0, .int .u64 0, .int .u64 0, .int .u64 0, .int .u64 0, .int .u64 0, .int .u64 0, .int .i64 0] 27)).trans_new hk2 (fun k e => .inl (by have := K1.out.size; omega)))
  have M2 : Hid (Mp w2 w1.heap.size nof 3) := Lib.hid hb2
  obtain ⟨gm, hgm⟩ : ∃ gm, w1.heap.size = gm := ⟨_, rfl⟩
  have hlt : gm < w2.heap.size := by rw [← hgm]; exact M2.out.lt
  rw [hgm] at M2
  have HG := Lib.hid hgm
  rw [HG.out]
  clear hb2 hk2 hgm
  go_wp2_with (first | (refine wpList_load_mid rfl 27 (.tmp 1) rfl gm 0 rfl (mcs nof 3) _ (Mp.range M2.out) Tryd.underlying27 rfl (infoMca _ _) ?_) | fail)
  have q0 := set_any nof 3 0 true w2 (by decide)
  rw [s0] at q0
  refine q0.mono ?_
  clear q0
  rintro e w3 ⟨rfl, k3⟩
  have K3 := Lib.hid (K2.out.trans k3)
  have M3 := Lib.hid (M2.out.kp k3 (fun h => h))
  clear k3
  go_wp2_with fail
  have q0 := set_any (fnL [true, false, false]) 3 2 true w3 (by decide)
  rw [s2] at q0
  refine q0.mono ?_
  clear q0
  rintro e w4 ⟨rfl, k4⟩
  have K4 := Lib.hid (K3.out.trans k4)
  have M4 := Lib.hid (M3.out.kp k4 (fun h => h))
  clear k4
  go_wp2_with fail
  have q0 := set_any f3 3 3 true w4 (by decide)
  rw [s3] at q0
  refine q0.mono ?_
  clear q0
  rintro e w5 ⟨rfl, k5⟩
  have K5 := Lib.hid (K4.out.trans k5)
  have M5 := Lib.hid (M4.out.kp k5 (fun h => h))
  clear k5
  go_upto_region 3 with (first | (refine bstore_box rfl 27 (.tmp 3) (.tmp 14) rfl (w5.heap.size) (mcs f3 3) rfl rfl (Box.new w5 _ _) (by rw [mcs_length]; rfl) (infoMcs _ _) (mcs_one _ _) ?_; intro w6 hb6 hk6) | fail)
  have hg5 := M5.out.lt
  have K6 := Lib.hid ((K5.out.alloc (.cells #[.int .u64 0, .int .u64 0, .int .u64 0, .int .u64 0, .int .u64 0, .int .u64 0, .int .u64 0, .int .u64 0, .int .u64 0, .int .u64 0, .int .u64 0, .int .u64 0, .int .u64 0, .int .u64 0, .int .u64 0, .int .u64 0, .int .i64 0] 27)).trans_new hk6 (fun k e => .inl (by have := K5.out.size; omega)))
  have N6 : Hid (Mp w6 w5.heap.size f3 3) := Lib.hid hb6
  have M6 := Lib.hid ((M5.out.alloc (.cells #[.int .u64 0, .int .u64 0, .int .u64 0, .int .u64 0, .int .u64 0, .int .u64 0, .int .u64 0, .int .u64 0, .int .u64 0, .int .u64 0, .int .u64 0, .int .u64 0, .int .u64 0, .int .u64 0, .int .u64 0, .int .u64 0, .int .i64 0] 27)).kp hk6 (fun e => by omega))
  obtain ⟨gn, hgn⟩ : ∃ gn, w5.heap.size = gn := ⟨_, rfl⟩
  rw [hgn] at N6
  have HGN := Lib.hid hgn
  rw [HGN.out]
  have HT6 := Lib.hid (HT.out.kp K6.out (fun h => h))
  clear hb6 hk6 hgn hg5 hlt
  go_wp2_with (first | (refine wpList_load_mid rfl 27 (.tmp 3) rfl gn 0 rfl (mcs f3 3) _ (Mp.range N6.out) Tryd.underlying27 rfl (infoMca _ _) ?_) | fail)
  refine (find_any f3 3 1 w6 wf3 least3 HT6.out).mono ?_
  rintro e w7 ⟨rfl, k7⟩
  have K7 := Lib.hid (K6.out.trans k7)
  have M7 := Lib.hid (M6.out.kp k7 (fun h => h))
  have N7 := Lib.hid (N6.out.kp k7 (fun h => h))
  clear k7
  rw [if_pos (by decide), decide_eq_true (by decide)]
  go_wp2_with (first | (refine wpList_load_mid rfl 27 (.tmp 3) rfl gn 0 rfl (mcs f3 3) _ (Mp.range N7.out) Tryd.underlying27 rfl (infoMca _ _) ?_) | fail)
  refine (bytes_any f3 3 w7 wf3).mono ?_
  rintro e w8 ⟨gb, rfl, hb8, k8⟩
  have K8 := Lib.hid (K7.out.trans k8)
  have M8 := Lib.hid (M7.out.kp k8 (fun h => h))
  have N8 := Lib.hid (N7.out.kp k8 (fun h => h))
  have y8 : w8.cell? ⟨gb, 0, none⟩ = some (.int .u8 5) := by
    rw [hb8.2.cell]
    have := page3
    simp [bcs_get, this]
  clear k8 hb8
  have U1 := Lib.hid (fun v => used_any f3 3 v wf3)
  have U2 := Lib.hid (fun v => used_any nof 3 v wfn)
  have A2 := Lib.hid (fun v => has_any f3 3 2 v (by decide))
  have A1 := Lib.hid (fun v => has_any f3 3 1 v (by decide))
  have A9 := Lib.hid (fun v => has_any f3 3 9 v (by decide))
  rw [cnt3] at U1
  rw [cntn] at U2
  rw [has2] at A2
  rw [has1] at A1
  rw [has9] at A9
  go_upto_region 5 with fail
  refine wp_region_list ?_
  simp only []
  refine wpList_step (fun K hK => ?_)
  go_simp
  refine hK _ _ ?_
  clear hK K
  refine wpList_step (fun K hK => ?_)
  go_simp
  refine hK _ _ ?_
  clear hK K
  refine wpList_step (fun K hK => ?_)
  go_simp
  refine hK _ _ ?_
  clear hK K
  refine wpList_step (fun K hK => ?_)
  go_simp
  refine hK _ _ ?_
  clear hK K
  refine wpList_step (fun K hK => ?_)
  go_simp
  refine hK _ _ ?_
  clear hK K
  refine wpList_step (fun K hK => ?_)
  go_simp
  refine hK _ _ ?_
  clear hK K
  refine wpList_step (fun K hK => ?_)
  go_simp
  refine hK _ _ ?_
  clear hK K
  refine wpList_step (fun K hK => ?_)
  go_simp
  refine hK _ _ ?_
  clear hK K
  refine wpList_step (fun K hK => ?_)
  go_simp
  refine hK _ _ ?_
  clear hK K
  refine wpList_step (fun K hK => ?_)
  go_simp
  refine hK _ _ ?_
  clear hK K
  refine wpList_step (fun K hK => ?_)
  go_simp
  refine hK _ _ ?_
  clear hK K
  refine wpList_step (fun K hK => ?_)
  go_simp
  refine hK _ _ ?_
  clear hK K
  refine wpList_step (fun K hK => ?_)
  go_simp
  refine hK _ _ ?_
  clear hK K
  refine wpList_step (fun K hK => ?_)
  go_simp
  refine hK _ _ ?_
  clear hK K
  refine wpList_step (fun K hK => ?_)
  go_simp
  refine hK _ _ ?_
  clear hK K
  refine wpList_step (fun K hK => ?_)
  go_simp
  refine hK _ _ ?_
  clear hK K
  refine wpList_step (fun K hK => ?_)
  go_simp
  refine hK _ _ ?_
  clear hK K
  refine wpList_step (fun K hK => ?_)
  go_simp
  refine hK _ _ ?_
  clear hK K
  refine wpList_step (fun K hK => ?_)
  go_simp
  refine hK _ _ ?_
  clear hK K
  refine wpList_step (fun K hK => ?_)
  go_simp
  refine hK _ _ ?_
  clear hK K
  refine wpList_step (fun K hK => ?_)
  go_simp
  refine hK _ _ ?_
  clear hK K
  refine wpList_step (fun K hK => ?_)
  rw [if_pos (by rfl)]
  refine wp_load_mid 27 (.tmp 3) rfl (gn) 0 rfl (mcs f3 3) _ (Mp.range N8.out) Tryd.underlying27 rfl (infoMcs _ _) ?_
  refine hK _ _ ?_
  clear hK K
  refine wpList_step (fun K hK => ?_)
  go_simp
  refine (U1.out w8).mono ?_
  rintro e w9 ⟨rfl, k9⟩
  have K9 := Lib.hid (K8.out.trans k9)
  have M9 := Lib.hid (M8.out.kp k9 (fun h => h))
  have N9 := Lib.hid (N8.out.kp k9 (fun h => h))
  clear k9
  go_simp
  refine hK _ _ ?_
  clear hK K
  refine wpList_step (fun K hK => ?_)
  go_simp
  refine hK _ _ ?_
  clear hK K
  refine wpList_step (fun K hK => ?_)
  go_simp
  refine hK _ _ ?_
  clear hK K
  refine wpList_step (fun K hK => ?_)
  go_simp
  refine hK _ _ ?_
  clear hK K
  refine wpList_step (fun K hK => ?_)
  rw [if_pos (by rfl)]
  refine wp_load_mid 27 (.tmp 1) rfl (gm) 0 rfl (mcs nof 3) _ (Mp.range M9.out) Tryd.underlying27 rfl (infoMcs _ _) ?_
  refine hK _ _ ?_
  clear hK K
  refine wpList_step (fun K hK => ?_)
  go_simp
  refine (U2.out w9).mono ?_
  rintro e w10 ⟨rfl, k10⟩
  have K10 := Lib.hid (K9.out.trans k10)
  have M10 := Lib.hid (M9.out.kp k10 (fun h => h))
  have N10 := Lib.hid (N9.out.kp k10 (fun h => h))
  clear k10
  go_simp
  refine hK _ _ ?_
  clear hK K
  refine wpList_step (fun K hK => ?_)
  go_simp
  refine hK _ _ ?_
  clear hK K
  refine wpList_step (fun K hK => ?_)
  go_simp
  refine hK _ _ ?_
  clear hK K
  refine wpList_step (fun K hK => ?_)
  go_simp
  refine hK _ _ ?_
  clear hK K
  refine wpList_step (fun K hK => ?_)
  rw [if_pos (by rfl)]
  refine wp_load_mid 27 (.tmp 3) rfl (gn) 0 rfl (mcs f3 3) _ (Mp.range N10.out) Tryd.underlying27 rfl (infoMcs _ _) ?_
  refine hK _ _ ?_
  clear hK K
  refine wpList_step (fun K hK => ?_)
  go_simp
  refine (A2.out w10).mono ?_
  rintro e w11 ⟨rfl, k11⟩
  have K11 := Lib.hid (K10.out.trans k11)
  have M11 := Lib.hid (M10.out.kp k11 (fun h => h))
  have N11 := Lib.hid (N10.out.kp k11 (fun h => h))
  clear k11
  go_simp
  refine hK _ _ ?_
  clear hK K
  refine wpList_step (fun K hK => ?_)
  go_simp
  refine hK _ _ ?_
  clear hK K
  refine wpList_step (fun K hK => ?_)
  go_simp
  refine hK _ _ ?_
  clear hK K
  refine wpList_step (fun K hK => ?_)
  rw [if_pos (by rfl)]
  refine wp_load_mid 27 (.tmp 3) rfl (gn) 0 rfl (mcs f3 3) _ (Mp.range N11.out) Tryd.underlying27 rfl (infoMcs _ _) ?_
  refine hK _ _ ?_
  clear hK K
  refine wpList_step (fun K hK => ?_)
  go_simp
  refine (A1.out w11).mono ?_
  rintro e w12 ⟨rfl, k12⟩
  have K12 := Lib.hid (K11.out.trans k12)
  have M12 := Lib.hid (M11.out.kp k12 (fun h => h))
  have N12 := Lib.hid (N11.out.kp k12 (fun h => h))
  clear k12
  go_simp
  refine hK _ _ ?_
  clear hK K
  refine wpList_step (fun K hK => ?_)
  go_simp
  refine hK _ _ ?_
  clear hK K
  refine wpList_step (fun K hK => ?_)
  go_simp
  refine hK _ _ ?_
  clear hK K
  refine wpList_step (fun K hK => ?_)
  go_simp
  refine hK _ _ ?_
  clear hK K
  refine wpList_step (fun K hK => ?_)
  rw [if_pos (by rfl)]
  refine wp_load_mid 27 (.tmp 3) rfl (gn) 0 rfl (mcs f3 3) _ (Mp.range N12.out) Tryd.underlying27 rfl (infoMcs _ _) ?_
  refine hK _ _ ?_
  clear hK K
  refine wpList_step (fun K hK => ?_)
  go_simp
  refine (A9.out w12).mono ?_
  rintro e w13 ⟨rfl, k13⟩
  have K13 := Lib.hid (K12.out.trans k13)
  have M13 := Lib.hid (M12.out.kp k13 (fun h => h))
  have N13 := Lib.hid (N12.out.kp k13 (fun h => h))
  clear k13
  go_simp
  refine hK _ _ ?_
  clear hK K
  refine wpList_step (fun K hK => ?_)
  go_simp
  refine hK _ _ ?_
  clear hK K
  refine wpList_step (fun K hK => ?_)
  go_simp
  refine hK _ _ ?_
  clear hK K
  refine wpList_step (fun K hK => ?_)
  rw [if_pos (by rfl)]
  refine wp_load_mid 27 (.tmp 3) rfl (gn) 0 rfl (mcs f3 3) _ (Mp.range N13.out) Tryd.underlying27 rfl (infoMcs _ _) ?_
  refine hK _ _ ?_
  clear hK K
  refine wpList_step (fun K hK => ?_)
  go_simp
  refine (len_any f3 3 w13).mono ?_
  rintro e w14 ⟨rfl, k14⟩
  have K14 := Lib.hid (K13.out.trans k14)
  have M14 := Lib.hid (M13.out.kp k14 (fun h => h))
  have N14 := Lib.hid (N13.out.kp k14 (fun h => h))
  clear k14
  go_simp
  refine hK _ _ ?_
  clear hK K
  refine wpList_step (fun K hK => ?_)
  go_simp
  refine hK _ _ ?_
  clear hK K
  refine wpList_step (fun K hK => ?_)
  go_simp
  refine hK _ _ ?_
  clear hK K
  refine wpList_step (fun K hK => ?_)
  go_simp
  refine hK _ _ ?_
  clear hK K
  refine wpList_nil ?_
  go_wp2_with fail
  go_ret
  exact ⟨rfl, K14.out⟩
end Go.Proofs.YtlhfdoaknfgemaaDoor
