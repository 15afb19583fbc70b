/- Whether a node may be: a leaf, an inner node. No condition. -/
import Derived.Test.YtjapnkpicefadaaNdInner
import Derived.Test.YtjapnkpicefadaaQTk
namespace Go.Proofs.Ytjapnkpicefadaa
open Go.RowKit

set_option maxRecDepth 100000 in
set_option maxHeartbeats 2000000 in
theorem has_any (kw vw : Int) (n : Nd) (p : Pl) (w : World) (h : NdR w n p) :
    Calls Try.prog 21 #[.agg #[.int .i64 kw, .int .i64 vw], .agg (ncs n p)] w fun e w' => e = .returned (.bool (hasB kw vw n)) ∧ Kp (fun _ => False) w w' := by
  obtain ⟨W, hW, b0, b1, k0⟩ : ∃ W, W = (w.alloc (.cells #[.int .i64 kw, .int .i64 vw] 30)).alloc (.cells (ncs n p) 36) ∧ Box W w.heap.size 30 #[.int .i64 kw, .int .i64 vw] ∧ Box W (w.heap.size + 1) 36 (ncs n p) ∧ Kp (fun _ => False) w W := ⟨_, rfl, (Box.new w _ _).alloc _, by simpa using Box.new (w.alloc (.cells #[.int .i64 kw, .int .i64 vw] 30)) 36 (ncs n p), ((Kp.refl _ w).alloc _).alloc _⟩
  have HW := Lib.hid hW
  have K0 := Lib.hid k0
  have HF : Hid (∀ v, Kp (fun _ => False) W v → v.cell? ⟨w.heap.size, 0, none⟩ = some (.int .i64 kw) ∧ v.cell? ⟨w.heap.size, 1, none⟩ = some (.int .i64 vw) ∧ v.cell? ⟨w.heap.size + 1, 0, none⟩ = some (.bool n.leaf) ∧ v.cell? ⟨w.heap.size + 1, 1, none⟩ = some (.slice p.k n.keys.length p.ck) ∧ v.cell? ⟨w.heap.size + 1, 2, none⟩ = some (.slice p.v n.vals.length p.cv) ∧ v.cell? ⟨w.heap.size + 1, 3, none⟩ = some (.slice p.c n.kids.length p.cc)) := Lib.hid fun v hv =>
    ⟨(b0.kp hv (fun h => h)).cell 0, (b0.kp hv (fun h => h)).cell 1, (b1.kp hv (fun h => h)).cell 0, (b1.kp hv (fun h => h)).cell 1, (b1.kp hv (fun h => h)).cell 2, (b1.kp hv (fun h => h)).cell 3⟩
  have HS : Hid (∀ v, Kp (fun _ => False) W v → Box v w.heap.size 30 #[.int .i64 kw, .int .i64 vw]) := Lib.hid fun v hv => b0.kp hv (fun h => h)
  have HR : Hid (∀ v, Kp (fun _ => False) W v → NdR v n p) := Lib.hid fun v hv => h.still (k0.trans hv)
  have HN : Hid (∀ v, Kp (fun _ => False) W v → Box v (w.heap.size + 1) 36 (ncs n p)) := Lib.hid fun v hv => b1.kp hv (fun h => h)
  clear hW b0 b1 k0 h
  rcases hl : n.leaf with _ | _
  · rcases h1 : innerB kw vw n with _ | _
    · have e : hasB kw vw n = false := by simp only [hasB, hl, Bool.false_eq_true, if_false, h1, Bool.false_and]
      rw [e]
      clear e
      go_enter Try.func21, Try.ntmps21
      go_upto_region 1 with fail
      rw [← HW.out]
      obtain ⟨y0, y1, y2, y3, y4, y5⟩ := HF.out W (Kp.refl _ _)
      rw [hl] at y2
      have HL := Lib.hid hl
      have H1 := Lib.hid h1
      clear hl h1
      go_upto_region 3 with fail
      clear y0 y1 y2 y3 y4 y5
      have k1 := Lib.hid (Kp.refl (fun _ => False) W)
      go_wp2_with (first | (refine wpList_load_mid rfl 30 (.tmp 2) rfl w.heap.size 0 rfl [.int .i64 kw, .int .i64 vw] _ (HS.out _ (Kp.refl _ _)).range Try.underlying30 rfl (by kernel_rfl) ?_) | (refine wpList_load_mid rfl 36 (.tmp 3) rfl (w.heap.size + 1) 0 rfl (ncs n p).toList _ (HN.out _ (Kp.refl _ _)).range Try.underlying36 rfl (by kernel_rfl) ?_) | fail)
      refine (hasInner_any kw vw n p _ (HR.out _ (Kp.refl _ _))).mono ?_
      rintro e w1 ⟨rfl, kk⟩
      have K1 := Lib.hid kk
      clear kk
      rw [H1.out]
      go_wp2_with fail
      go_ret
      exact ⟨rfl, K0.out.trans K1.out⟩
    · have e : hasB kw vw n = keysB kw ⟨#[]⟩ n.keys := by simp only [hasB, hl, Bool.false_eq_true, if_false, h1, Bool.true_and]
      rw [e]
      clear e
      go_enter Try.func21, Try.ntmps21
      go_upto_region 1 with fail
      rw [← HW.out]
      obtain ⟨y0, y1, y2, y3, y4, y5⟩ := HF.out W (Kp.refl _ _)
      rw [hl] at y2
      have HL := Lib.hid hl
      have H1 := Lib.hid h1
      clear hl h1
      go_upto_region 3 with fail
      clear y0 y1 y2 y3 y4 y5
      have k1 := Lib.hid (Kp.refl (fun _ => False) W)
      go_wp2_with (first | (refine wpList_load_mid rfl 30 (.tmp 2) rfl w.heap.size 0 rfl [.int .i64 kw, .int .i64 vw] _ (HS.out _ (Kp.refl _ _)).range Try.underlying30 rfl (by kernel_rfl) ?_) | (refine wpList_load_mid rfl 36 (.tmp 3) rfl (w.heap.size + 1) 0 rfl (ncs n p).toList _ (HN.out _ (Kp.refl _ _)).range Try.underlying36 rfl (by kernel_rfl) ?_) | fail)
      refine (hasInner_any kw vw n p _ (HR.out _ (Kp.refl _ _))).mono ?_
      rintro e w1 ⟨rfl, kk⟩
      have K1 := Lib.hid kk
      clear kk
      rw [H1.out]
      obtain ⟨y0, y1, y2, y3, y4, y5⟩ := HF.out w1 K1.out
      go_wp2_with (first | (refine wpList_load_mid rfl 30 (.tmp 2) rfl w.heap.size 0 rfl [.int .i64 kw, .int .i64 vw] _ (HS.out _ K1.out).range Try.underlying30 rfl (by kernel_rfl) ?_) | (refine wpList_load_mid rfl 36 (.tmp 3) rfl (w.heap.size + 1) 0 rfl (ncs n p).toList _ (HN.out _ K1.out).range Try.underlying36 rfl (by kernel_rfl) ?_) | fail)
      refine (hasKeys_any p.k p.ck kw vw n.keys _ (HR.out w1 K1.out).k (Nat.le_trans (HR.out w1 K1.out).lk.1 (HR.out w1 K1.out).lk.2)).mono ?_
      rintro e w2 ⟨rfl, kk⟩
      have K2 := Lib.hid kk
      clear kk
      go_wp2_with fail
      go_ret
      exact ⟨rfl, K0.out.trans (K1.out.trans K2.out)⟩
  · rcases h1 : leafB kw vw n with _ | _
    · have e : hasB kw vw n = false := by simp only [hasB, hl, if_true, h1, Bool.false_and]
      rw [e]
      clear e
      go_enter Try.func21, Try.ntmps21
      go_upto_region 1 with fail
      rw [← HW.out]
      obtain ⟨y0, y1, y2, y3, y4, y5⟩ := HF.out W (Kp.refl _ _)
      rw [hl] at y2
      have HL := Lib.hid hl
      have H1 := Lib.hid h1
      clear hl h1
      go_upto_region 2 with fail
      clear y0 y1 y2 y3 y4 y5
      have k1 := Lib.hid (Kp.refl (fun _ => False) W)
      go_wp2_with (first | (refine wpList_load_mid rfl 30 (.tmp 2) rfl w.heap.size 0 rfl [.int .i64 kw, .int .i64 vw] _ (HS.out _ (Kp.refl _ _)).range Try.underlying30 rfl (by kernel_rfl) ?_) | (refine wpList_load_mid rfl 36 (.tmp 3) rfl (w.heap.size + 1) 0 rfl (ncs n p).toList _ (HN.out _ (Kp.refl _ _)).range Try.underlying36 rfl (by kernel_rfl) ?_) | fail)
      refine (hasLeaf_any kw vw n p _ (HR.out _ (Kp.refl _ _))).mono ?_
      rintro e w1 ⟨rfl, kk⟩
      have K1 := Lib.hid kk
      clear kk
      rw [H1.out]
      go_wp2_with fail
      go_ret
      exact ⟨rfl, K0.out.trans K1.out⟩
    · have e : hasB kw vw n = keysB kw ⟨#[]⟩ n.keys := by simp only [hasB, hl, if_true, h1, Bool.true_and]
      rw [e]
      clear e
      go_enter Try.func21, Try.ntmps21
      go_upto_region 1 with fail
      rw [← HW.out]
      obtain ⟨y0, y1, y2, y3, y4, y5⟩ := HF.out W (Kp.refl _ _)
      rw [hl] at y2
      have HL := Lib.hid hl
      have H1 := Lib.hid h1
      clear hl h1
      go_upto_region 2 with fail
      clear y0 y1 y2 y3 y4 y5
      have k1 := Lib.hid (Kp.refl (fun _ => False) W)
      go_wp2_with (first | (refine wpList_load_mid rfl 30 (.tmp 2) rfl w.heap.size 0 rfl [.int .i64 kw, .int .i64 vw] _ (HS.out _ (Kp.refl _ _)).range Try.underlying30 rfl (by kernel_rfl) ?_) | (refine wpList_load_mid rfl 36 (.tmp 3) rfl (w.heap.size + 1) 0 rfl (ncs n p).toList _ (HN.out _ (Kp.refl _ _)).range Try.underlying36 rfl (by kernel_rfl) ?_) | fail)
      refine (hasLeaf_any kw vw n p _ (HR.out _ (Kp.refl _ _))).mono ?_
      rintro e w1 ⟨rfl, kk⟩
      have K1 := Lib.hid kk
      clear kk
      rw [H1.out]
      obtain ⟨y0, y1, y2, y3, y4, y5⟩ := HF.out w1 K1.out
      go_wp2_with (first | (refine wpList_load_mid rfl 30 (.tmp 2) rfl w.heap.size 0 rfl [.int .i64 kw, .int .i64 vw] _ (HS.out _ K1.out).range Try.underlying30 rfl (by kernel_rfl) ?_) | (refine wpList_load_mid rfl 36 (.tmp 3) rfl (w.heap.size + 1) 0 rfl (ncs n p).toList _ (HN.out _ K1.out).range Try.underlying36 rfl (by kernel_rfl) ?_) | fail)
      refine (hasKeys_any p.k p.ck kw vw n.keys _ (HR.out w1 K1.out).k (Nat.le_trans (HR.out w1 K1.out).lk.1 (HR.out w1 K1.out).lk.2)).mono ?_
      rintro e w2 ⟨rfl, kk⟩
      have K2 := Lib.hid kk
      clear kk
      go_wp2_with fail
      go_ret
      exact ⟨rfl, K0.out.trans (K1.out.trans K2.out)⟩
end Go.Proofs.Ytjapnkpicefadaa
