/- The document's own bytes of a number. No condition. -/
import Derived.Test.YtoonihhjdmkflaaGen
import Derived.Test.YtoonihhjdmkflaaNdMath
namespace Go.Proofs.Ytoonihhjdmkflaa
open Go.RowKit

theorem beN_cons : ∀ k n, beN (k + 1) n = UInt8.ofNat (n / 256 ^ k % 256) :: beN k n
  | 0, n => by simp [beN]
  | k + 1, n => by
    rw [beN, beN_cons k (n / 256), beN, List.cons_append, Nat.div_div_eq_div_mul, ← Nat.pow_succ']
theorem text_cat (a b : List UInt8) : (⟨a.toArray⟩ ++ ⟨b.toArray⟩ : ByteArray) = ⟨(a ++ b).toArray⟩ := by
  apply ByteArray.ext
  simp
set_option maxRecDepth 100000 in
set_option maxHeartbeats 800000 in
theorem num_fine1 (n : Nat) (w : World) (hn : n < 18446744073709551616) :
    Calls Try.prog 55 #[.int .i64 1, .int .u64 n] w fun e w' => e = .returned (.tuple #[.string ⟨(beN 1 n).toArray⟩, .bool (decide (n < 256 ^ 1))]) ∧ Kp (fun _ => False) w w' := by
  go_enter Try.func55, Try.ntmps55
  go_wp2_with fail
  go_loopw [1, 6, 7] (fun nn ss i wr => ∃ k : Nat, k ≤ 1 ∧ i = .int .i64 k ∧ ss = .string ⟨(beN k n).toArray⟩ ∧ nn = .int .u64 ((n / 256 ^ k : Nat) : Int) ∧ Kp (fun _ => False) w wr) (fun _ _ i _ => 1 - (intOf i).toNat)
  case atStart => exact ⟨0, Nat.zero_le _, rfl, rfl, by simp, Kp.refl _ _⟩
  case round =>
    obtain ⟨k, hk, rfl, rfl, rfl, hw⟩ := hrel
    have Hw := Lib.hid hw
    have hN : n / 256 ^ k < 18446744073709551616 := Nat.lt_of_le_of_lt (Nat.div_le_self _ _) hn
    have hc := beN_cons k n
    have hd : n / 256 ^ (k + 1) = n / 256 ^ k / 256 := by rw [Nat.div_div_eq_div_mul, Nat.pow_succ]
    have hsz : (beN k n).length ≤ 1 := by rw [beN_length]; exact hk
    generalize hN2 : n / 256 ^ k = N at *
    have Hc := Lib.hid hc
    have Hd := Lib.hid hd
    have HN := Lib.hid hN2
    clear hw hc hd hN2
    by_cases hlt : k < 1
    · have hm : N % 256 < 256 := Nat.mod_lt _ (by omega)
      have hrd : Rd (wr.alloc (.cells #[.int .u8 ((N : Int) % 256)] 5)) (some ⟨wr.heap.size, 0, none⟩) [UInt8.ofNat (N % 256)] := by
        refine .inr ⟨_, 0, rfl, fun j u hu => ?_⟩
        rcases j with _ | j
        · rw [(Box.new wr _ _).cell]
          cases hu
          simp
        · simp at hu
      have hcv := hrd.text 29 9 5 1 Try.underlying29 Try.underlying5 Try.underlying9
      simp only [List.length_cons, List.length_nil, Nat.zero_add] at hcv
      have hadd := fun w' => run_string_add_sum (P := Try.prog) w' ⟨#[UInt8.ofNat (N % 256)]⟩ ⟨(beN k n).toArray⟩
      clear hrd
      generalize UInt8.ofNat (N % 256) = u at *
      generalize beN k n = bs at *
      go_wp2_with fail
      go_roundw
      case rel =>
        refine ⟨k + 1, by omega, by go_num, ?_, ?_, Hw.out.alloc _⟩
        · rw [Hc.out]
          exact congrArg Value.string (text_cat [u] bs)
        · rw [Hd.out]
          go_num
      case measure => simp [intOf]; omega
    · obtain rfl : k = 1 := by omega
      have hz : decide (n < 256 ^ 1) = ((N : Int) == 0) := by
        rw [← HN.out, Bool.eq_iff_iff]
        simp only [decide_eq_true_eq, beq_iff_eq]
        omega
      have Hz := Lib.hid hz
      clear hz
      go_wp2_with fail
      go_ret2
      exact ⟨by rw [Hz.out]; rfl, Hw.out⟩
set_option maxRecDepth 100000 in
set_option maxHeartbeats 800000 in
theorem num_fine4 (n : Nat) (w : World) (hn : n < 18446744073709551616) :
    Calls Try.prog 55 #[.int .i64 4, .int .u64 n] w fun e w' => e = .returned (.tuple #[.string ⟨(beN 4 n).toArray⟩, .bool (decide (n < 256 ^ 4))]) ∧ Kp (fun _ => False) w w' := by
  go_enter Try.func55, Try.ntmps55
  go_wp2_with fail
  go_loopw [1, 6, 7] (fun nn ss i wr => ∃ k : Nat, k ≤ 4 ∧ i = .int .i64 k ∧ ss = .string ⟨(beN k n).toArray⟩ ∧ nn = .int .u64 ((n / 256 ^ k : Nat) : Int) ∧ Kp (fun _ => False) w wr) (fun _ _ i _ => 4 - (intOf i).toNat)
  case atStart => exact ⟨0, Nat.zero_le _, rfl, rfl, by simp, Kp.refl _ _⟩
  case round =>
    obtain ⟨k, hk, rfl, rfl, rfl, hw⟩ := hrel
    have Hw := Lib.hid hw
    have hN : n / 256 ^ k < 18446744073709551616 := Nat.lt_of_le_of_lt (Nat.div_le_self _ _) hn
    have hc := beN_cons k n
    have hd : n / 256 ^ (k + 1) = n / 256 ^ k / 256 := by rw [Nat.div_div_eq_div_mul, Nat.pow_succ]
    have hsz : (beN k n).length ≤ 4 := by rw [beN_length]; exact hk
    generalize hN2 : n / 256 ^ k = N at *
    have Hc := Lib.hid hc
    have Hd := Lib.hid hd
    have HN := Lib.hid hN2
    clear hw hc hd hN2
    by_cases hlt : k < 4
    · have hm : N % 256 < 256 := Nat.mod_lt _ (by omega)
      have hrd : Rd (wr.alloc (.cells #[.int .u8 ((N : Int) % 256)] 5)) (some ⟨wr.heap.size, 0, none⟩) [UInt8.ofNat (N % 256)] := by
        refine .inr ⟨_, 0, rfl, fun j u hu => ?_⟩
        rcases j with _ | j
        · rw [(Box.new wr _ _).cell]
          cases hu
          simp
        · simp at hu
      have hcv := hrd.text 29 9 5 1 Try.underlying29 Try.underlying5 Try.underlying9
      simp only [List.length_cons, List.length_nil, Nat.zero_add] at hcv
      have hadd := fun w' => run_string_add_sum (P := Try.prog) w' ⟨#[UInt8.ofNat (N % 256)]⟩ ⟨(beN k n).toArray⟩
      clear hrd
      generalize UInt8.ofNat (N % 256) = u at *
      generalize beN k n = bs at *
      go_wp2_with fail
      go_roundw
      case rel =>
        refine ⟨k + 1, by omega, by go_num, ?_, ?_, Hw.out.alloc _⟩
        · rw [Hc.out]
          exact congrArg Value.string (text_cat [u] bs)
        · rw [Hd.out]
          go_num
      case measure => simp [intOf]; omega
    · obtain rfl : k = 4 := by omega
      have hz : decide (n < 256 ^ 4) = ((N : Int) == 0) := by
        rw [← HN.out, Bool.eq_iff_iff]
        simp only [decide_eq_true_eq, beq_iff_eq]
        omega
      have Hz := Lib.hid hz
      clear hz
      go_wp2_with fail
      go_ret2
      exact ⟨by rw [Hz.out]; rfl, Hw.out⟩
end Go.Proofs.Ytoonihhjdmkflaa
