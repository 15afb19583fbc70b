/- The document's own sector of a head. Condition: numbers that go into their bytes. -/
import Derived.Test.YtcgfnfejacgaeaaDoorRcNum
import Derived.Test.YtcgfnfejacgaeaaDoorRcSec
import Derived.OwnWalk
namespace Go.Proofs.YtcgfnfejacgaeaaDoor
open Go.RowKit

theorem made_zeros (n : Nat) : (madeCells (Value.int .u8 0).cells n).toList = bcs (List.replicate n 0) := by
  refine List.ext_getElem? fun i => ?_
  rw [bcs_get]
  rcases Nat.lt_or_ge i n with h | h
  · rw [List.getElem?_replicate, if_pos h, Array.getElem?_toList, Array.getElem?_eq_getElem (by rw [size_madeCells]; exact h)]
    simp only [madeCells, Array.getElem_map, Array.getElem_range, Value.cells]
    have : i % (#[Value.int .u8 0] : Array Value).size = 0 := Nat.mod_one _
    rw [this]
    rfl
  · rw [List.getElem?_replicate, if_neg (by omega), Array.getElem?_toList, Array.getElem?_eq_none (by rw [size_madeCells]; exact h)]
    rfl
theorem info_bz : (Tryd.prog.info? 5).map (fun i => (i.zero, i.size, i.bytes)) = some (some (.int .u8 0), 1, 1) := by kernel_rfl
theorem str_size (l : List UInt8) : (⟨l.toArray⟩ : ByteArray).size = l.length := by
  show l.toArray.size = _
  simp
set_option maxRecDepth 100000 in
set_option maxHeartbeats 4000000 in
theorem rhput_any (h : Hd) (w : World) (ho : h.Ok) :
    Calls Tryd.prog 8 #[.agg (hcs h).toArray] w fun e w' => e = .returned (.string ⟨(secR h).toArray⟩) ∧ Kp (fun _ => False) w w' := by
  obtain ⟨i0, hi, hz0, hz1, hz2⟩ := info_parts info_bz
  obtain ⟨b, u, s⟩ := h
  obtain ⟨hb, hu, hs⟩ := ho
  simp only at hb hu hs
  have w1b : IntKind.u64.wrap (b : Int) = (b : Int) := IntWalk.u64_in _ (by omega)
  have w1u : IntKind.u64.wrap (u : Int) = (u : Int) := IntWalk.u64_in _ (by omega)
  have w1s : IntKind.u64.wrap (s : Int) = (s : Int) := IntWalk.u64_in _ (by omega)
  obtain ⟨W, hW, b0, k0⟩ : ∃ W, W = w.alloc (.cells (hcs ⟨b, u, s⟩).toArray 30) ∧ Box W w.heap.size 30 (hcs ⟨b, u, s⟩).toArray ∧ Kp (fun _ => False) w W := ⟨_, rfl, Box.new w _ _, (Kp.refl _ w).alloc _⟩
  have HW := Lib.hid hW
  have K0 := Lib.hid k0
  have HZ : Hid (∀ v, Kp (fun _ => False) W v → v.cell? ⟨w.heap.size, 0, none⟩ = some (.int .i64 b) ∧ v.cell? ⟨w.heap.size, 1, none⟩ = some (.int .i64 u) ∧ v.cell? ⟨w.heap.size, 2, none⟩ = some (.int .u32 s)) := Lib.hid fun v hv => ⟨(b0.kp hv (fun e => e)).cell 0, (b0.kp hv (fun e => e)).cell 1, (b0.kp hv (fun e => e)).cell 2⟩
  obtain ⟨X1, hX1⟩ : ∃ X, X = beN 2 b := ⟨_, rfl⟩
  obtain ⟨X2, hX2⟩ : ∃ X, X = beN 2 u := ⟨_, rfl⟩
  obtain ⟨X3, hX3⟩ : ∃ X, X = beN 4 s := ⟨_, rfl⟩
  have HN1 : Hid (∀ v, Calls Tryd.prog 17 #[.int .i64 2, .int .u64 b] v fun e v' => e = .returned (.string ⟨X1.toArray⟩) ∧ Kp (fun _ => False) v v') := Lib.hid fun v => by rw [hX1]; exact numS_any 2 b v (.inl rfl) (by omega)
  have HN2 : Hid (∀ v, Calls Tryd.prog 17 #[.int .i64 2, .int .u64 u] v fun e v' => e = .returned (.string ⟨X2.toArray⟩) ∧ Kp (fun _ => False) v v') := Lib.hid fun v => by rw [hX2]; exact numS_any 2 u v (.inl rfl) (by omega)
  have HN3 : Hid (∀ v, Calls Tryd.prog 17 #[.int .i64 4, .int .u64 s] v fun e v' => e = .returned (.string ⟨X3.toArray⟩) ∧ Kp (fun _ => False) v v') := Lib.hid fun v => by rw [hX3]; exact numS_any 4 s v (.inr rfl) (by omega)
  have l1 : X1.length = 2 := by rw [hX1]; exact beN_length _ _
  have l2 : X2.length = 2 := by rw [hX2]; exact beN_length _ _
  have l3 : X3.length = 4 := by rw [hX3]; exact beN_length _ _
  obtain ⟨Y1, hY1⟩ : ∃ Y, Y = box1 ++ X1 := ⟨_, rfl⟩
  obtain ⟨Y2, hY2⟩ : ∃ Y, Y = Y1 ++ X2 := ⟨_, rfl⟩
  obtain ⟨Y3, hY3⟩ : ∃ Y, Y = Y2 ++ X3 := ⟨_, rfl⟩
  have m1 : Y1.length = 6 := by rw [hY1, List.length_append, l1]; rfl
  have m2 : Y2.length = 8 := by rw [hY2, List.length_append, m1, l2]
  have m3 : Y3.length = 12 := by rw [hY3, List.length_append, m2, l3]
  have HA1 : Hid (∀ v, (Op.stringOp .add ⟨#[66, 79, 88, 49]⟩ ⟨X1.toArray⟩).run Tryd.prog v = .ok (.string ⟨Y1.toArray⟩) v) := Lib.hid fun v => add_str box1 X1 Y1 v hY1.symm (by rw [l1]; decide)
  have HA2 : Hid (∀ v, (Op.stringOp .add ⟨Y1.toArray⟩ ⟨X2.toArray⟩).run Tryd.prog v = .ok (.string ⟨Y2.toArray⟩) v) := Lib.hid fun v => add_str Y1 X2 Y2 v hY2.symm (by omega)
  have HA3 : Hid (∀ v, (Op.stringOp .add ⟨Y2.toArray⟩ ⟨X3.toArray⟩).run Tryd.prog v = .ok (.string ⟨Y3.toArray⟩) v) := Lib.hid fun v => add_str Y2 X3 Y3 v hY3.symm (by omega)
  have HYW : Hid (Y3 = hdW ⟨b, u, s⟩) := Lib.hid (by rw [hY3, hY2, hY1, hX1, hX2, hX3]; rfl)
  have M3 := Lib.hid m3
  clear hW b0 k0 hX1 hX2 hX3 l1 l2 l3 hY1 hY2 hY3 m1 m2 m3 hb hu hs
  go_enter Tryd.func8, Tryd.ntmps8
  go_upto_region 1 with fail
  rw [← HW.out]
  refine wp_region_quiet (C := fun v => Kp (fun _ => False) W v) (by kernel_rfl) (by kernel_rfl) ((Kp.refl _ _).drew) (Wq.out ?_)
  refine qtk (h := ?_)
  refine qtk (hy := fun v hv => by (obtain ⟨u0, u1, u2⟩ := HZ.out v hv; unfold Oper.quietAt; go_simp; with_reducible rfl)) (h := ?_)
  refine qtk (h := ?_)
  refine qtk (hy := fun v hv => by (unfold Oper.quietAt; go_simp; exact (HN1.out v).mono (fun e w1 h => ⟨h.1, hv.trans h.2⟩))) (h := ?_)
  refine qtk (hy := fun v hv => by (have ha := HA1.out v; unfold Oper.quietAt; go_simp; with_reducible rfl)) (h := ?_)
  refine qtk (h := ?_)
  refine qtk (hy := fun v hv => by (obtain ⟨u0, u1, u2⟩ := HZ.out v hv; unfold Oper.quietAt; go_simp; with_reducible rfl)) (h := ?_)
  refine qtk (h := ?_)
  refine qtk (hy := fun v hv => by (unfold Oper.quietAt; go_simp; exact (HN2.out v).mono (fun e w1 h => ⟨h.1, hv.trans h.2⟩))) (h := ?_)
  refine qtk (hy := fun v hv => by (have ha := HA2.out v; unfold Oper.quietAt; go_simp; with_reducible rfl)) (h := ?_)
  refine qtk (h := ?_)
  refine qtk (hy := fun v hv => by (obtain ⟨u0, u1, u2⟩ := HZ.out v hv; unfold Oper.quietAt; go_simp; with_reducible rfl)) (h := ?_)
  refine qtk (h := ?_)
  refine qtk (hy := fun v hv => by (unfold Oper.quietAt; go_simp; exact (HN3.out v).mono (fun e w1 h => ⟨h.1, hv.trans h.2⟩))) (h := ?_)
  refine qtk (hy := fun v hv => by (have ha := HA3.out v; unfold Oper.quietAt; go_simp; with_reducible rfl)) (h := ?_)
  refine qtk (h := ?_)
  refine Wq.mk (wpQuiet_nil ?_)
  intro wq hwq
  have KQ := Lib.hid hwq
  clear hwq
  clear w1b w1u w1s
  have hsz : (⟨Y3.toArray⟩ : ByteArray).size = 12 := by rw [str_size]; exact M3.out
  obtain ⟨Z, hZ⟩ : ∃ Z : List UInt8, Z = List.replicate 496 0 := ⟨_, rfl⟩
  have hZl : Z.length = 496 := by rw [hZ]; exact List.length_replicate
  have HZE := Lib.hid hZ
  have HZL := Lib.hid hZl
  obtain ⟨Y4, hY4⟩ : ∃ Y, Y = Y3 ++ Z := ⟨_, rfl⟩
  have m4 : Y4.length = 508 := by rw [hY4, List.length_append, M3.out, hZl]
  have hadd4 : ∀ v, (Op.stringOp .add ⟨Y3.toArray⟩ ⟨Z.toArray⟩).run Tryd.prog v = .ok (.string ⟨Y4.toArray⟩) v := fun v => add_str Y3 Z Y4 v hY4.symm (by rw [M3.out, hZl]; decide)
  have HYB : Hid (Y4 = hdB ⟨b, u, s⟩) := Lib.hid (by rw [hY4, HYW.out, hZ]; rfl)
  have M4 := Lib.hid m4
  clear hZ hZl hY4 m4
  go_wp2_with (first | (refine wpList_make_full _ rfl (.tmp 22) (.tmp 22) 23 rfl 0 5 i0 _ 1 Tryd.underlying23 hi hz0 hz1 .i64 .i64 496 496 496 rfl rfl rfl rfl (by rw [hz2]; decide) (by decide) (Nat.zero_le _) ?_; intro w3 hown3 hgrow3; rw [Nat.mul_one, made_zeros, ← HZE.out] at hown3; have HC3 := Lib.hid (Rd.text (P := Tryd.prog) (w := w3) (Rd.of_own hown3) 23 9 5 496 Tryd.underlying23 Tryd.underlying5 Tryd.underlying9); have hcv := HC3.out; rw [HZL.out] at hcv; have K3 := Lib.hid (KQ.out.trans ((Kp.refl (fun _ => False) _).grown hgrow3 (fun k e => by cases e))); clear hown3 hgrow3) | fail)
  have hsum := ref_any ⟨Y4.toArray⟩ w3 (by rw [str_size, M4.out]; decide)
  rw [show (⟨Y4.toArray⟩ : ByteArray).data.toList = Y4 from by simp] at hsum
  obtain ⟨cr, hcr⟩ : ∃ cr, cr = crcN Y4 := ⟨_, rfl⟩
  have hcrl : cr < 4294967296 := by rw [hcr]; exact crcN_lt _
  rw [← hcr] at hsum
  have HSUM := Lib.hid hsum
  have HCR := Lib.hid hcr
  have w1c : IntKind.u64.wrap (cr : Int) = (cr : Int) := IntWalk.u64_in _ (by omega)
  clear hsum hcr hadd4 hcv hsz
  refine HSUM.out.mono ?_
  rintro e w4 ⟨rfl, rfl⟩
  go_wp2_with fail
  refine (numS_any 4 cr w3 (.inr rfl) (by omega)).mono ?_
  rintro e w5 ⟨rfl, hk5⟩
  have K5 := Lib.hid (K3.out.trans hk5)
  obtain ⟨X5, hX5⟩ : ∃ X, X = beN 4 cr := ⟨_, rfl⟩
  rw [← hX5]
  obtain ⟨Y5, hY5⟩ : ∃ Y, Y = Y4 ++ X5 := ⟨_, rfl⟩
  have hadd5 : ∀ v, (Op.stringOp .add ⟨Y4.toArray⟩ ⟨X5.toArray⟩).run Tryd.prog v = .ok (.string ⟨Y5.toArray⟩) v := fun v => add_str Y4 X5 Y5 v hY5.symm (by rw [M4.out, hX5, beN_length]; decide)
  have HY5 : Hid (Y5 = secR ⟨b, u, s⟩) := Lib.hid (by rw [hY5, hX5, HCR.out, HYB.out]; rfl)
  clear hk5 hX5 hY5 w1c hcrl
  go_wp2_with fail
  go_ret
  exact ⟨by rw [HY5.out]; rfl, K0.out.trans K5.out⟩
end Go.Proofs.YtcgfnfejacgaeaaDoor
