/- New, Has and Set of a map: what each one answers. Conditions: at most 1024 pages. -/
import Derived.Test.YtlhfdoaknfgemaaDoorBtDefs
import Derived.StillTailTactics
namespace Go.Proofs.YtlhfdoaknfgemaaDoor
open Go.RowKit

theorem zlit : #[.int .u64 0, .int .u64 0, .int .u64 0, .int .u64 0, .int .u64 0, .int .u64 0, .int .u64 0, .int .u64 0, .int .u64 0, .int .u64 0, .int .u64 0, .int .u64 0, .int .u64 0, .int .u64 0, .int .u64 0, .int .u64 0, .int .i64 0] = (mcs nof 0).toArray := by rw [← zcs_eq]; rfl
theorem zlit_n (i : Int) (h : 0 ≤ i) : ([.int .u64 0, .int .u64 0, .int .u64 0, .int .u64 0, .int .u64 0, .int .u64 0, .int .u64 0, .int .u64 0, .int .u64 0, .int .u64 0, .int .u64 0, .int .u64 0, .int .u64 0, .int .u64 0, .int .u64 0, .int .u64 0, .int .i64 i] : List Value) = mcs nof i.toNat := by
  rw [← zcs_eq, zcs, Int.toNat_of_nonneg h]
theorem zone (i : Int) : ∀ v ∈ ([.int .u64 0, .int .u64 0, .int .u64 0, .int .u64 0, .int .u64 0, .int .u64 0, .int .u64 0, .int .u64 0, .int .u64 0, .int .u64 0, .int .u64 0, .int .u64 0, .int .u64 0, .int .u64 0, .int .u64 0, .int .u64 0, .int .i64 i] : List Value), v.oneCell' = true := fun v hv => by
  simp only [List.mem_cons, List.not_mem_nil, or_false] at hv
  rcases hv with rfl | rfl | rfl | rfl | rfl | rfl | rfl | rfl | rfl | rfl | rfl | rfl | rfl | rfl | rfl | rfl | rfl <;> rfl
set_option maxHeartbeats 400000 in
theorem new_any (i : Int) (w : World) :
    Calls Tryd.prog 7 #[.int .i64 i] w fun e w' => e = .returned (.tuple #[.agg (mcs nof (if 1 ≤ i ∧ i ≤ 1024 then i.toNat else 0)).toArray, .int .i64 (if 1 ≤ i ∧ i ≤ 1024 then 0 else 2)]) ∧ Kp (fun _ => False) w w' := by
  have Hr : Hid (Tryd.f7.results = #[.cell 2 27, .tmp 3]) := Lib.hid (by kernel_rfl)
  obtain ⟨W, hW, hb, hk⟩ : ∃ W, W = w.alloc (.cells #[.int .u64 0, .int .u64 0, .int .u64 0, .int .u64 0, .int .u64 0, .int .u64 0, .int .u64 0, .int .u64 0, .int .u64 0, .int .u64 0, .int .u64 0, .int .u64 0, .int .u64 0, .int .u64 0, .int .u64 0, .int .u64 0, .int .i64 0] 27) ∧ Box W w.heap.size 27 #[.int .u64 0, .int .u64 0, .int .u64 0, .int .u64 0, .int .u64 0, .int .u64 0, .int .u64 0, .int .u64 0, .int .u64 0, .int .u64 0, .int .u64 0, .int .u64 0, .int .u64 0, .int .u64 0, .int .u64 0, .int .u64 0, .int .i64 0] ∧ Kp (fun _ => False) w W := ⟨_, rfl, Box.new w _ _, (Kp.refl _ w).alloc _⟩
  have HW := Lib.hid hW
  have HB := Lib.hid hb
  have K := Lib.hid hk
  clear hb hk hW
  by_cases h : 1 ≤ i ∧ i ≤ 1024
  · rw [if_pos h, if_pos h]
    obtain ⟨h0, h1⟩ := h
    have H0 := Lib.hid (show 0 ≤ i by omega)
    go_enter Tryd.func7, Tryd.ntmps7
    go_upto_region 1 with fail
    rw [← HW.out]
    go_wp2_with (refine bstore_box rfl 27 (.tmp 2) (.tmp 12) rfl w.heap.size ([.int .u64 0, .int .u64 0, .int .u64 0, .int .u64 0, .int .u64 0, .int .u64 0, .int .u64 0, .int .u64 0, .int .u64 0, .int .u64 0, .int .u64 0, .int .u64 0, .int .u64 0, .int .u64 0, .int .u64 0, .int .u64 0, .int .i64 i]) rfl rfl HB.out rfl infoMap (zone _) ?_; intro w5 hb5 hk5)
    refine bodyPost_ret (v := .tuple #[.agg ([.int .u64 0, .int .u64 0, .int .u64 0, .int .u64 0, .int .u64 0, .int .u64 0, .int .u64 0, .int .u64 0, .int .u64 0, .int .u64 0, .int .u64 0, .int .u64 0, .int .u64 0, .int .u64 0, .int .u64 0, .int .u64 0, .int .i64 i]).toArray, .int .i64 0]) ?_ rfl ⟨by rw [zlit_n i H0.out], K.out.trans_new hk5 (fun k e => .inl (by omega))⟩
    exact bresults_two Hr.out _ _ w.heap.size 27 _ (0, 0) _ rfl hb5 Tryd.underlying27 rfl infoMap
  · rw [if_neg h, if_neg h]
    by_cases h0 : i < 1
    · skip
      go_enter Tryd.func7, Tryd.ntmps7
      go_upto_region 1 with fail
      rw [← HW.out]
      go_wp2_with (refine bstore_box rfl 27 (.tmp 2) (.tmp 10) rfl w.heap.size ([.int .u64 0, .int .u64 0, .int .u64 0, .int .u64 0, .int .u64 0, .int .u64 0, .int .u64 0, .int .u64 0, .int .u64 0, .int .u64 0, .int .u64 0, .int .u64 0, .int .u64 0, .int .u64 0, .int .u64 0, .int .u64 0, .int .i64 0]) rfl rfl HB.out rfl infoMap (zone _) ?_; intro w5 hb5 hk5)
      refine bodyPost_ret (v := .tuple #[.agg ([.int .u64 0, .int .u64 0, .int .u64 0, .int .u64 0, .int .u64 0, .int .u64 0, .int .u64 0, .int .u64 0, .int .u64 0, .int .u64 0, .int .u64 0, .int .u64 0, .int .u64 0, .int .u64 0, .int .u64 0, .int .u64 0, .int .i64 0]).toArray, .int .i64 2]) ?_ rfl ⟨by rw [← zlit], K.out.trans_new hk5 (fun k e => .inl (by omega))⟩
      exact bresults_two Hr.out _ _ w.heap.size 27 _ (0, 0) _ rfl hb5 Tryd.underlying27 rfl infoMap
    · have h1 : ¬ i ≤ 1024 := fun e => h ⟨by omega, e⟩
      clear h
      go_enter Tryd.func7, Tryd.ntmps7
      go_upto_region 1 with fail
      rw [← HW.out]
      go_wp2_with (refine bstore_box rfl 27 (.tmp 2) (.tmp 10) rfl w.heap.size ([.int .u64 0, .int .u64 0, .int .u64 0, .int .u64 0, .int .u64 0, .int .u64 0, .int .u64 0, .int .u64 0, .int .u64 0, .int .u64 0, .int .u64 0, .int .u64 0, .int .u64 0, .int .u64 0, .int .u64 0, .int .u64 0, .int .i64 0]) rfl rfl HB.out rfl infoMap (zone _) ?_; intro w5 hb5 hk5)
      refine bodyPost_ret (v := .tuple #[.agg ([.int .u64 0, .int .u64 0, .int .u64 0, .int .u64 0, .int .u64 0, .int .u64 0, .int .u64 0, .int .u64 0, .int .u64 0, .int .u64 0, .int .u64 0, .int .u64 0, .int .u64 0, .int .u64 0, .int .u64 0, .int .u64 0, .int .i64 0]).toArray, .int .i64 2]) ?_ rfl ⟨by rw [← zlit], K.out.trans_new hk5 (fun k e => .inl (by omega))⟩
      exact bresults_two Hr.out _ _ w.heap.size 27 _ (0, 0) _ rfl hb5 Tryd.underlying27 rfl infoMap
end Go.Proofs.YtlhfdoaknfgemaaDoor
