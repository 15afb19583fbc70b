/- What record.Put answers: a record's bytes. Condition: at most 2014 bytes of data. -/
import Derived.Test.YtcgfnfejacgaeaaDoorRcPk
namespace Go.Proofs.YtcgfnfejacgaeaaDoor
open Go.RowKit

theorem mayData_any (n : Nat) (w : World) : Calls Tryd.prog 23 #[.int .i64 n] w fun e w' => e = .returned (.bool (decide (n ≤ 2014))) ∧ w = w' := by
  have hd : decide ((n : Int) ≤ 2014) = decide (n ≤ 2014) := by rw [Bool.eq_iff_iff]; simp; omega
  go_enter Tryd.func23, Tryd.ntmps23
  go_wp2_with fail
  go_ret
  exact ⟨by first | rw [hd] | rfl, rfl⟩
theorem mayUsed_any (n : Nat) (w : World) : Calls Tryd.prog 15 #[.int .i64 n] w fun e w' => e = .returned (.bool (decide (n ≤ 2048))) ∧ w = w' := by
  have hd : decide ((n : Int) ≤ 2048) = decide (n ≤ 2048) := by rw [Bool.eq_iff_iff]; simp; omega
  go_enter Tryd.func15, Tryd.ntmps15
  go_wp2_with fail
  go_ret
  exact ⟨by first | rw [hd] | rfl, rfl⟩
def PutEnd (r : Rc) (w : World) (e : Ending) (w' : World) : Prop := ∃ A c, e = .returned (.tuple #[.slice A (34 + r.data.length : Nat) c, .int .i64 0]) ∧ 34 + r.data.length ≤ c ∧ c ≤ maxLen ∧ Rd w' A (rcL r) ∧ (∀ a, A = some a → w.heap.size ≤ a.block) ∧ Kp (fun _ => False) w w'
set_option maxRecDepth 100000 in
set_option maxHeartbeats 2000000 in
theorem rput_any (hs : List UInt8) (s : ByteArray) (w : World) (hh : hs.length = 32) (hd : s.size ≤ 2014) :
    Calls Tryd.prog 11 #[.agg (bcs hs).toArray, .string s] w (PutEnd ⟨hs, byt s⟩ w) := by
  have HH := Lib.hid hh
  have HE : Hid (∀ e w', (∃ A c, e = .returned (.tuple #[.slice A (34 + s.size : Nat) c, .int .i64 0]) ∧ 34 + s.size ≤ c ∧ c ≤ maxLen ∧ Rd w' A ((([] ++ hs) ++ beN 2 s.size) ++ byt s) ∧ (∀ a, A = some a → w.heap.size ≤ a.block) ∧ Kp (fun _ => False) w w') → PutEnd ⟨hs, byt s⟩ w e w') := Lib.hid (by
    rintro e w' ⟨A, c, h1, h2, h3, h4, h5, h6⟩
    refine ⟨A, c, ?_, ?_, h3, ?_, h5, h6⟩
    · simpa only [byt_len] using h1
    · simpa only [byt_len] using h2
    · simpa only [rcL, byt_len, List.nil_append, List.append_assoc] using h4)
  obtain ⟨W, hW, b0, k0⟩ : ∃ W, W = w.alloc (.cells (bcs hs).toArray 44) ∧ Box W w.heap.size 44 (bcs hs).toArray ∧ Kp (fun _ => False) w W := ⟨_, rfl, Box.new w _ _, (Kp.refl _ w).alloc _⟩
  have HW := Lib.hid hW
  have B0 := Lib.hid b0
  have K0 := Lib.hid k0
  have hwc : IntKind.u64.wrap (s.size : Int) = (s.size : Int) := IntWalk.u64_in _ (by omega)
  have hmay := fun v => mayData_any s.size v
  rw [show decide (s.size ≤ 2014) = true by simpa using hd] at hmay
  have HM := Lib.hid hmay
  clear hW b0 k0 hmay hh
  go_enter Tryd.func11, Tryd.ntmps11
  go_upto_region 1 with fail
  rw [← HW.out]
  go_wp2_with fail
  refine (HM.out W).mono ?_
  rintro e w1 ⟨rfl, rfl⟩
  go_upto_region 3 with fail
  refine wp_region_held_drew (S := fun v => Box v w.heap.size 44 (bcs hs).toArray) (by kernel_rfl) (B0.out) (fun hHeld => ?_)
  refine tk 3 (h := ?_)
  refine tk 4 (h := ?_)
  refine tk 5 (h := ?_)
  refine tk 7 (h := ?_)
  refine tk 1 (hy := fun v hv => nexec_load 44 (.tmp 2) rfl w.heap.size 0 rfl (bcs hs) _ (Box.range' hv) Tryd.underlying44 rfl (by rw [bcs_length, HH.out]; kernel_rfl)) (h := ?_)
  refine rd 0 (h := fun K hK => ?_)
  go_simp
  refine (pu_new (w := w) (v := W.drew) B0.out.drew K0.out.drew).mono ?_
  rintro e w2 ⟨p, rfl, hu⟩
  have U2 := Lib.hid hu
  clear hu
  go_wp2_with fail
  refine hK.out _ _ (U2.out.box) (fun hHeld1 => ?_)
  clear hK K
  try simp only [Act.put, List.setIfInBounds_toArray, List.set_cons_zero, List.set_cons_succ]
  refine rd 2 (h := fun K hK => ?_)
  go_simp
  refine (U2.out.hash hs HH.out (by decide)).mono ?_
  rintro e w3 ⟨rfl, hu⟩
  have U3 := Lib.hid hu
  clear hu
  go_wp2_with fail
  refine hK.out _ _ (U3.out.box) (fun hHeld2 => ?_)
  clear hK K
  try simp only [Act.put, List.setIfInBounds_toArray, List.set_cons_zero, List.set_cons_succ]
  refine rd 6 (h := fun K hK => ?_)
  go_simp
  refine (U3.out.put2 s.size (by omega) (by have := HH.out; simp; omega)).mono ?_
  rintro e w4 ⟨rfl, hu⟩
  have U4 := Lib.hid hu
  clear hu
  go_wp2_with fail
  refine hK.out _ _ (U4.out.box) (fun hHeld3 => ?_)
  clear hK K
  try simp only [Act.put, List.setIfInBounds_toArray, List.set_cons_zero, List.set_cons_succ]
  refine rd 8 (h := fun K hK => ?_)
  go_simp
  refine (U4.out.text s (by omega) (by have := HH.out; simp [beN_length]; omega)).mono ?_
  rintro e w5 ⟨rfl, hu⟩
  have U5 := Lib.hid hu
  clear hu
  go_wp2_with fail
  refine hK.out _ _ (U5.out.box) (fun hHeld4 => ?_)
  clear hK K
  try simp only [Act.put, List.setIfInBounds_toArray, List.set_cons_zero, List.set_cons_succ]
  refine rd 9 (h := fun K hK => ?_)
  go_simp
  refine (U5.out.bytes (34 + s.size) (by have := HH.out; simp [beN_length, byt_len]; omega) (by omega)).mono ?_
  rintro e w6 ⟨A6, c6, rfl, h61, h62, hr, ha, hu, hk⟩
  have U6 := Lib.hid hu
  have HR6 := Lib.hid hr
  have HA6 : Hid (∀ a, A6 = some a → w.heap.size ≤ a.block) := Lib.hid fun a e => Nat.le_trans U5.out.kp.size (ha a e)
  clear hu hr ha hk
  go_wp2_with fail
  refine hK.out _ _ (U6.out.box) (fun hHeld5 => ?_)
  clear hK K
  try simp only [Act.put, List.setIfInBounds_toArray, List.set_cons_zero, List.set_cons_succ]
  refine tk 10 (h := ?_)
  refine tk 11 (h := ?_)
  refine tk 12 (h := ?_)
  refine tk 13 (h := ?_)
  refine wpAnyH_done (by kernel_rfl) ?_ _
  go_wp2_with fail
  go_ret2
  exact HE.out _ _ ⟨A6, c6, rfl, h61, h62, HR6.out, HA6.out, U6.out.kp⟩
end Go.Proofs.YtcgfnfejacgaeaaDoor
