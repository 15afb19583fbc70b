/- Whether a node may be: a leaf, an inner node. No condition. -/
import Derived.Test.YtjapnkpicefadaaNdLeaf
import Derived.Test.YtjapnkpicefadaaQTk
namespace Go.Proofs.Ytjapnkpicefadaa
open Go.RowKit

set_option maxRecDepth 100000 in
set_option maxHeartbeats 2000000 in
theorem hasInner_any (kw vw : Int) (n : Nd) (p : Pl) (w : World) (h : NdR w n p) :
    Calls Try.prog 35 #[.agg #[.int .i64 kw, .int .i64 vw], .agg (ncs n p)] w fun e w' => e = .returned (.bool (innerB kw vw n)) ∧ Kp (fun _ => False) w w' := by
  have hwr : (n.kids.length : Int) ≤ 9223372036854775807 := by have := h.lc; unfold maxLen at this; omega
  have hwr1 : IntKind.i64.wrap ((n.kids.length : Int) - 1) = (n.kids.length : Int) - 1 := IntWalk.i64_in _ (by omega)
  obtain ⟨W, hW, b0, b1, k0⟩ : ∃ W, W = (w.alloc (.cells #[.int .i64 kw, .int .i64 vw] 30)).alloc (.cells (ncs n p) 36) ∧ Box W w.heap.size 30 #[.int .i64 kw, .int .i64 vw] ∧ Box W (w.heap.size + 1) 36 (ncs n p) ∧ Kp (fun _ => False) w W := ⟨_, rfl, (Box.new w _ _).alloc _, by simpa using Box.new (w.alloc (.cells #[.int .i64 kw, .int .i64 vw] 30)) 36 (ncs n p), ((Kp.refl _ w).alloc _).alloc _⟩
  have HW := Lib.hid hW
  have K0 := Lib.hid k0
  have HF : Hid (∀ v, Kp (fun _ => False) W v → v.cell? ⟨w.heap.size, 0, none⟩ = some (.int .i64 kw) ∧ v.cell? ⟨w.heap.size, 1, none⟩ = some (.int .i64 vw) ∧ v.cell? ⟨w.heap.size + 1, 0, none⟩ = some (.bool n.leaf) ∧ v.cell? ⟨w.heap.size + 1, 1, none⟩ = some (.slice p.k n.keys.length p.ck) ∧ v.cell? ⟨w.heap.size + 1, 2, none⟩ = some (.slice p.v n.vals.length p.cv) ∧ v.cell? ⟨w.heap.size + 1, 3, none⟩ = some (.slice p.c n.kids.length p.cc)) := Lib.hid fun v hv =>
    ⟨(b0.kp hv (fun h => h)).cell 0, (b0.kp hv (fun h => h)).cell 1, (b1.kp hv (fun h => h)).cell 0, (b1.kp hv (fun h => h)).cell 1, (b1.kp hv (fun h => h)).cell 2, (b1.kp hv (fun h => h)).cell 3⟩
  have HS : Hid (∀ v, Kp (fun _ => False) W v → Box v w.heap.size 30 #[.int .i64 kw, .int .i64 vw]) := Lib.hid fun v hv => b0.kp hv (fun h => h)
  have HR : Hid (∀ v, Kp (fun _ => False) W v → NdR v n p) := Lib.hid fun v hv => h.still (k0.trans hv)
  have HN : Hid (∀ v, Kp (fun _ => False) W v → Box v (w.heap.size + 1) 36 (ncs n p)) := Lib.hid fun v hv => b1.kp hv (fun h => h)
  clear hW b0 b1 k0 h
  rcases h1 : decide (2 ≤ (n.kids.length : Int)) with _ | _
  · have e : innerB kw vw n = false := by simp only [innerB, h1, Bool.false_and]
    rw [e]
    clear e
    go_enter Try.func35, Try.ntmps35
    go_upto_region 1 with fail
    rw [← HW.out]
    unfold ncs
    refine wp_region_quiet (C := fun v => Kp (fun _ => False) (W) v) (by kernel_rfl) (by kernel_rfl) ((Kp.refl _ _).drew) (Wq.out ?_)
    refine qtk (h := ?_)
    refine qtk (hy := fun v hv => by (obtain ⟨y0, y1, y2, y3, y4, y5⟩ := HF.out v hv; unfold Oper.quietAt; go_simp; with_reducible rfl)) (h := ?_)
    refine qtk (h := ?_)
    refine qtk (h := ?_)
    refine qtk (h := ?_)
    refine qsk (h := ?_)
    refine qsk (h := ?_)
    refine qsk (h := ?_)
    refine qsk (h := ?_)
    refine qsk (h := ?_)
    refine qsk (h := ?_)
    refine qtk (h := ?_)
    refine qtk (h := ?_)
    refine qsk (h := ?_)
    refine qsk (h := ?_)
    refine qsk (h := ?_)
    refine qsk (h := ?_)
    refine qsk (h := ?_)
    refine qsk (h := ?_)
    refine qsk (h := ?_)
    refine qsk (h := ?_)
    refine qtk (h := ?_)
    refine qtk (h := ?_)
    refine qsk (h := ?_)
    refine qsk (h := ?_)
    refine qsk (h := ?_)
    refine qsk (h := ?_)
    refine qtk (h := ?_)
    refine qtk (h := ?_)
    refine qsk (h := ?_)
    refine qsk (h := ?_)
    refine qsk (h := ?_)
    refine qtk (h := ?_)
    refine qtk (h := ?_)
    refine Wq.mk (wpQuiet_nil ?_)
    intro w1 hw1
    have K1 := Lib.hid hw1
    clear hw1
    go_wp2_with fail
    go_ret
    exact ⟨rfl, K0.out.trans K1.out⟩
  · rcases h2 : decide ((n.kids.length : Int) ≤ fanZ kw vw) with _ | _
    · have e : innerB kw vw n = false := by simp only [innerB, h1, h2, Bool.true_and, Bool.false_and]
      rw [e]
      clear e
      go_enter Try.func35, Try.ntmps35
      go_upto_region 1 with fail
      rw [← HW.out]
      unfold ncs
      refine wp_region_quiet (C := fun v => Kp (fun _ => False) (W) v) (by kernel_rfl) (by kernel_rfl) ((Kp.refl _ _).drew) (Wq.out ?_)
      refine qtk (h := ?_)
      refine qtk (hy := fun v hv => by (obtain ⟨y0, y1, y2, y3, y4, y5⟩ := HF.out v hv; unfold Oper.quietAt; go_simp; with_reducible rfl)) (h := ?_)
      refine qtk (h := ?_)
      refine qtk (h := ?_)
      refine qtk (h := ?_)
      refine qtk (h := ?_)
      refine qtk (hy := fun v hv => by (obtain ⟨y0, y1, y2, y3, y4, y5⟩ := HF.out v hv; unfold Oper.quietAt; go_simp; with_reducible rfl)) (h := ?_)
      refine qtk (h := ?_)
      refine qld (w.heap.size) 0 ([.int .i64 kw, .int .i64 vw]) (fun v hv => (HS.out v hv).range) Try.underlying30 (h := ?_)
      refine qtk (hy := fun v hv => by (unfold Oper.quietAt; go_simp; exact (fan_any kw vw v).mono (fun e w1 h => ⟨h.1, hv.trans h.2⟩))) (h := ?_)
      refine qtk (h := ?_)
      refine qtk (h := ?_)
      refine qtk (h := ?_)
      refine qsk (h := ?_)
      refine qsk (h := ?_)
      refine qsk (h := ?_)
      refine qsk (h := ?_)
      refine qsk (h := ?_)
      refine qsk (h := ?_)
      refine qsk (h := ?_)
      refine qsk (h := ?_)
      refine qtk (h := ?_)
      refine qtk (h := ?_)
      refine qsk (h := ?_)
      refine qsk (h := ?_)
      refine qsk (h := ?_)
      refine qsk (h := ?_)
      refine qtk (h := ?_)
      refine qtk (h := ?_)
      refine qsk (h := ?_)
      refine qsk (h := ?_)
      refine qsk (h := ?_)
      refine qtk (h := ?_)
      refine qtk (h := ?_)
      refine Wq.mk (wpQuiet_nil ?_)
      intro w1 hw1
      have K1 := Lib.hid hw1
      clear hw1
      go_wp2_with fail
      go_ret
      exact ⟨rfl, K0.out.trans K1.out⟩
    · rcases h3 : ((n.keys.length : Int) == (n.kids.length : Int) - 1) with _ | _
      · have e : innerB kw vw n = false := by simp only [innerB, h1, h2, h3, Bool.true_and, Bool.false_and]
        rw [e]
        clear e
        go_enter Try.func35, Try.ntmps35
        go_upto_region 1 with fail
        rw [← HW.out]
        unfold ncs
        refine wp_region_quiet (C := fun v => Kp (fun _ => False) (W) v) (by kernel_rfl) (by kernel_rfl) ((Kp.refl _ _).drew) (Wq.out ?_)
        refine qtk (h := ?_)
        refine qtk (hy := fun v hv => by (obtain ⟨y0, y1, y2, y3, y4, y5⟩ := HF.out v hv; unfold Oper.quietAt; go_simp; with_reducible rfl)) (h := ?_)
        refine qtk (h := ?_)
        refine qtk (h := ?_)
        refine qtk (h := ?_)
        refine qtk (h := ?_)
        refine qtk (hy := fun v hv => by (obtain ⟨y0, y1, y2, y3, y4, y5⟩ := HF.out v hv; unfold Oper.quietAt; go_simp; with_reducible rfl)) (h := ?_)
        refine qtk (h := ?_)
        refine qld (w.heap.size) 0 ([.int .i64 kw, .int .i64 vw]) (fun v hv => (HS.out v hv).range) Try.underlying30 (h := ?_)
        refine qtk (hy := fun v hv => by (unfold Oper.quietAt; go_simp; exact (fan_any kw vw v).mono (fun e w1 h => ⟨h.1, hv.trans h.2⟩))) (h := ?_)
        refine qtk (h := ?_)
        refine qtk (h := ?_)
        refine qtk (h := ?_)
        refine qtk (h := ?_)
        refine qtk (hy := fun v hv => by (obtain ⟨y0, y1, y2, y3, y4, y5⟩ := HF.out v hv; unfold Oper.quietAt; go_simp; with_reducible rfl)) (h := ?_)
        refine qtk (h := ?_)
        refine qtk (h := ?_)
        refine qtk (hy := fun v hv => by (obtain ⟨y0, y1, y2, y3, y4, y5⟩ := HF.out v hv; unfold Oper.quietAt; go_simp; with_reducible rfl)) (h := ?_)
        refine qtk (h := ?_)
        refine qtk (h := ?_)
        refine qtk (h := ?_)
        refine qtk (h := ?_)
        refine qtk (h := ?_)
        refine qsk (h := ?_)
        refine qsk (h := ?_)
        refine qsk (h := ?_)
        refine qsk (h := ?_)
        refine qtk (h := ?_)
        refine qtk (h := ?_)
        refine qsk (h := ?_)
        refine qsk (h := ?_)
        refine qsk (h := ?_)
        refine qtk (h := ?_)
        refine qtk (h := ?_)
        refine Wq.mk (wpQuiet_nil ?_)
        intro w1 hw1
        have K1 := Lib.hid hw1
        clear hw1
        go_wp2_with fail
        go_ret
        exact ⟨rfl, K0.out.trans K1.out⟩
      · rcases h4 : ((n.vals.length : Int) == 0) with _ | _
        · have e : innerB kw vw n = false := by simp only [innerB, h1, h2, h3, h4, Bool.true_and, Bool.false_and]
          rw [e]
          clear e
          go_enter Try.func35, Try.ntmps35
          go_upto_region 1 with fail
          rw [← HW.out]
          unfold ncs
          refine wp_region_quiet (C := fun v => Kp (fun _ => False) (W) v) (by kernel_rfl) (by kernel_rfl) ((Kp.refl _ _).drew) (Wq.out ?_)
          refine qtk (h := ?_)
          refine qtk (hy := fun v hv => by (obtain ⟨y0, y1, y2, y3, y4, y5⟩ := HF.out v hv; unfold Oper.quietAt; go_simp; with_reducible rfl)) (h := ?_)
          refine qtk (h := ?_)
          refine qtk (h := ?_)
          refine qtk (h := ?_)
          refine qtk (h := ?_)
          refine qtk (hy := fun v hv => by (obtain ⟨y0, y1, y2, y3, y4, y5⟩ := HF.out v hv; unfold Oper.quietAt; go_simp; with_reducible rfl)) (h := ?_)
          refine qtk (h := ?_)
          refine qld (w.heap.size) 0 ([.int .i64 kw, .int .i64 vw]) (fun v hv => (HS.out v hv).range) Try.underlying30 (h := ?_)
          refine qtk (hy := fun v hv => by (unfold Oper.quietAt; go_simp; exact (fan_any kw vw v).mono (fun e w1 h => ⟨h.1, hv.trans h.2⟩))) (h := ?_)
          refine qtk (h := ?_)
          refine qtk (h := ?_)
          refine qtk (h := ?_)
          refine qtk (h := ?_)
          refine qtk (hy := fun v hv => by (obtain ⟨y0, y1, y2, y3, y4, y5⟩ := HF.out v hv; unfold Oper.quietAt; go_simp; with_reducible rfl)) (h := ?_)
          refine qtk (h := ?_)
          refine qtk (h := ?_)
          refine qtk (hy := fun v hv => by (obtain ⟨y0, y1, y2, y3, y4, y5⟩ := HF.out v hv; unfold Oper.quietAt; go_simp; with_reducible rfl)) (h := ?_)
          refine qtk (h := ?_)
          refine qtk (h := ?_)
          refine qtk (h := ?_)
          refine qtk (h := ?_)
          refine qtk (h := ?_)
          refine qtk (h := ?_)
          refine qtk (hy := fun v hv => by (obtain ⟨y0, y1, y2, y3, y4, y5⟩ := HF.out v hv; unfold Oper.quietAt; go_simp; with_reducible rfl)) (h := ?_)
          refine qtk (h := ?_)
          refine qtk (h := ?_)
          refine qtk (h := ?_)
          refine qtk (h := ?_)
          refine qsk (h := ?_)
          refine qsk (h := ?_)
          refine qsk (h := ?_)
          refine qtk (h := ?_)
          refine qtk (h := ?_)
          refine Wq.mk (wpQuiet_nil ?_)
          intro w1 hw1
          have K1 := Lib.hid hw1
          clear hw1
          go_wp2_with fail
          go_ret
          exact ⟨rfl, K0.out.trans K1.out⟩
        · have e : innerB kw vw n = kidsB n.kids := by simp only [innerB, h1, h2, h3, h4, Bool.true_and]
          rw [e]
          clear e
          go_enter Try.func35, Try.ntmps35
          go_upto_region 1 with fail
          rw [← HW.out]
          unfold ncs
          refine wp_region_quiet (C := fun v => Kp (fun _ => False) (W) v) (by kernel_rfl) (by kernel_rfl) ((Kp.refl _ _).drew) (Wq.out ?_)
          refine qtk (h := ?_)
          refine qtk (hy := fun v hv => by (obtain ⟨y0, y1, y2, y3, y4, y5⟩ := HF.out v hv; unfold Oper.quietAt; go_simp; with_reducible rfl)) (h := ?_)
          refine qtk (h := ?_)
          refine qtk (h := ?_)
          refine qtk (h := ?_)
          refine qtk (h := ?_)
          refine qtk (hy := fun v hv => by (obtain ⟨y0, y1, y2, y3, y4, y5⟩ := HF.out v hv; unfold Oper.quietAt; go_simp; with_reducible rfl)) (h := ?_)
          refine qtk (h := ?_)
          refine qld (w.heap.size) 0 ([.int .i64 kw, .int .i64 vw]) (fun v hv => (HS.out v hv).range) Try.underlying30 (h := ?_)
          refine qtk (hy := fun v hv => by (unfold Oper.quietAt; go_simp; exact (fan_any kw vw v).mono (fun e w1 h => ⟨h.1, hv.trans h.2⟩))) (h := ?_)
          refine qtk (h := ?_)
          refine qtk (h := ?_)
          refine qtk (h := ?_)
          refine qtk (h := ?_)
          refine qtk (hy := fun v hv => by (obtain ⟨y0, y1, y2, y3, y4, y5⟩ := HF.out v hv; unfold Oper.quietAt; go_simp; with_reducible rfl)) (h := ?_)
          refine qtk (h := ?_)
          refine qtk (h := ?_)
          refine qtk (hy := fun v hv => by (obtain ⟨y0, y1, y2, y3, y4, y5⟩ := HF.out v hv; unfold Oper.quietAt; go_simp; with_reducible rfl)) (h := ?_)
          refine qtk (h := ?_)
          refine qtk (h := ?_)
          refine qtk (h := ?_)
          refine qtk (h := ?_)
          refine qtk (h := ?_)
          refine qtk (h := ?_)
          refine qtk (hy := fun v hv => by (obtain ⟨y0, y1, y2, y3, y4, y5⟩ := HF.out v hv; unfold Oper.quietAt; go_simp; with_reducible rfl)) (h := ?_)
          refine qtk (h := ?_)
          refine qtk (h := ?_)
          refine qtk (h := ?_)
          refine qtk (h := ?_)
          refine qtk (h := ?_)
          refine qtk (hy := fun v hv => by (obtain ⟨y0, y1, y2, y3, y4, y5⟩ := HF.out v hv; unfold Oper.quietAt; go_simp; with_reducible rfl)) (h := ?_)
          refine qtk (hy := fun v hv => by (unfold Oper.quietAt; go_simp; exact (every_kids p.c p.cc n.kids v (HR.out v hv).c (Nat.le_trans (HR.out v hv).lc.1 (HR.out v hv).lc.2)).mono (fun e w1 h => ⟨h.1, h.2 ▸ hv⟩))) (h := ?_)
          refine qtk (h := ?_)
          refine qtk (h := ?_)
          refine Wq.mk (wpQuiet_nil ?_)
          intro w1 hw1
          have K1 := Lib.hid hw1
          clear hw1
          go_wp2_with fail
          go_ret
          exact ⟨rfl, K0.out.trans K1.out⟩
end Go.Proofs.Ytjapnkpicefadaa
