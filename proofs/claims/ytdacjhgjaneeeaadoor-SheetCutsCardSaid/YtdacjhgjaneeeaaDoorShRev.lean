/- math/bits.ReverseBytes32: a number of 32 bits, its bytes turned round. No condition. -/
import Derived.Test.YtdacjhgjaneeeaaDoorShDefs
import Derived.Test.YtdacjhgjaneeeaaDoorMem
import Derived.Test.YtdacjhgjaneeeaaDoorChecked
import Derived.IntWalk
import Derived.Laws.BitsAllLaws
namespace Go.Proofs.YtdacjhgjaneeeaaDoor
open Go.RowKit

def revG (n : Nat) : Nat := (n / 256 &&& 16711935) ||| ((n &&& 16711935) * 256 % 4294967296)
theorem tb_or (q r k : Nat) (h : r < 2 ^ k) : q * 2 ^ k + r = (q * 2 ^ k) ^^^ r := xor_low q r k h
theorem rev_bits (n : Nat) (h : n < 4294967296) : revG n / 65536 ||| (revG n * 65536 % 4294967296) = rev32 n := by
  apply Nat.eq_of_testBit_eq
  intro i
  have hb (j : Nat) (hj : 32 ≤ j) : n.testBit j = false := Nat.testBit_lt_two_pow (Nat.lt_of_lt_of_le (show n < 2 ^ 32 by simpa using h) (Nat.pow_le_pow_right (by omega) hj))
  have hr : rev32 n = (n % 2 ^ 8 * 2 ^ 24) ^^^ ((n / 2 ^ 8 % 2 ^ 8 * 2 ^ 16) ^^^ ((n / 2 ^ 16 % 2 ^ 8 * 2 ^ 8) ^^^ (n / 2 ^ 24 % 2 ^ 8))) := by
    have l1 : n % 256 < 256 := Nat.mod_lt _ (by decide)
    have l2 : n / 256 % 256 < 256 := Nat.mod_lt _ (by decide)
    have l3 : n / 65536 % 256 < 256 := Nat.mod_lt _ (by decide)
    have l4 : n / 16777216 % 256 < 256 := Nat.mod_lt _ (by decide)
    simp only [Nat.reducePow]
    unfold rev32
    generalize n % 256 = a at *
    generalize n / 256 % 256 = b at *
    generalize n / 65536 % 256 = c at *
    generalize n / 16777216 % 256 = d at *
    have y2 : c * 256 + d < 65536 := by omega
    have y1 : b * 65536 + (c * 256 + d) < 2 ^ 24 := Nat.lt_of_lt_of_le (show _ < (b + 1) * 65536 by rw [Nat.succ_mul]; exact Nat.add_lt_add_left y2 _) (Nat.le_trans (Nat.mul_le_mul_right 65536 (Nat.succ_le_of_lt l2)) (by decide))
    have x1 := xor_low a (b * 65536 + (c * 256 + d)) 24 y1
    have x2 := xor_low b (c * 256 + d) 16 y2
    have x3 := xor_low c d 8 (by simpa using l4)
    simp only [Nat.reducePow] at x1 x2 x3
    rw [← x3, ← x2, ← x1]
    simp only [Nat.add_mul, Nat.mul_assoc, Nat.reduceMul, Nat.add_assoc]
  have m8 : (16711935 : Nat) = (255 * 2 ^ 16) ^^^ 255 := by decide
  have hm (j : Nat) : (16711935 : Nat).testBit j = ((decide (16 ≤ j) && decide (j - 16 < 8)) ^^ decide (j < 8)) := by
    rw [m8, Nat.testBit_xor, Nat.testBit_mul_two_pow, show (255 : Nat) = 2 ^ 8 - 1 by decide, Nat.testBit_two_pow_sub_one, Nat.testBit_two_pow_sub_one]
  rw [hr]
  unfold revG
  rw [show (256 : Nat) = 2 ^ 8 by decide, show (65536 : Nat) = 2 ^ 16 by decide, show (4294967296 : Nat) = 2 ^ 32 by decide]
  simp only [Nat.testBit_or, Nat.testBit_xor, Nat.testBit_and, Nat.testBit_mul_two_pow, Nat.testBit_mod_two_pow, Nat.testBit_div_two_pow, hm]
  rcases Nat.lt_or_ge i 32 with hi | hi
  · have hc : i = 0 ∨ i = 1 ∨ i = 2 ∨ i = 3 ∨ i = 4 ∨ i = 5 ∨ i = 6 ∨ i = 7 ∨ i = 8 ∨ i = 9 ∨ i = 10 ∨ i = 11 ∨ i = 12 ∨ i = 13 ∨ i = 14 ∨ i = 15 ∨ i = 16 ∨ i = 17 ∨ i = 18 ∨ i = 19 ∨ i = 20 ∨ i = 21 ∨ i = 22 ∨ i = 23 ∨ i = 24 ∨ i = 25 ∨ i = 26 ∨ i = 27 ∨ i = 28 ∨ i = 29 ∨ i = 30 ∨ i = 31 := by omega
    clear hm m8 hr hi
    rcases hc with rfl | rfl | rfl | rfl | rfl | rfl | rfl | rfl | rfl | rfl | rfl | rfl | rfl | rfl | rfl | rfl | rfl | rfl | rfl | rfl | rfl | rfl | rfl | rfl | rfl | rfl | rfl | rfl | rfl | rfl | rfl | rfl <;> simp [hb]
  · have e1 : decide (i < 32) = false := by simp; omega
    have e2 : decide (i - 24 < 8) = false := by simp; omega
    have e3 : decide (i - 16 < 8) = false := by simp; omega
    have e4 : decide (i - 8 < 8) = false := by simp; omega
    have e5 : decide (i < 8) = false := by simp; omega
    have e6 : decide (16 + i < 32) = false := by simp; omega
    have e7 : decide (16 + i - 16 < 8) = false := by simp; omega
    have e8 : decide (16 + i < 8) = false := by simp; omega
    simp [e1, e2, e3, e4, e5, e6, e7, e8]
    all_goals omega

theorem revG_lt (n : Nat) (h : n < 4294967296) : revG n < 4294967296 := by
  have e : (4294967296 : Nat) = 2 ^ 32 := by decide
  unfold revG
  rw [e] at *
  exact Nat.or_lt_two_pow (Nat.and_lt_two_pow _ (by decide)) (Nat.mod_lt _ (by decide))
set_option maxHeartbeats 400000 in
theorem rev_any (n : Nat) (w : World) (hn : n < 4294967296) :
    Calls Tryd.prog 21 #[.int .u32 (n : Int)] w fun e w' => e = .returned (.int .u32 ((rev32 n : Nat) : Int)) ∧ w = w' := by
  have hd : n / 256 < 4294967296 := Nat.lt_of_le_of_lt (Nat.div_le_self _ _) hn
  have a1 := u32_and_nat (n / 256) 16711935 hd (by decide)
  have a2 := u32_and_nat n 16711935 hn (by decide)
  have hg := revG_lt n hn
  have g1 := u32_or_nat (n / 256 &&& 16711935) ((n &&& 16711935) * 256 % 4294967296) (Nat.and_lt_two_pow (n := 32) _ (by decide)) (Nat.mod_lt _ (by decide))
  have g2 := u32_or_nat (revG n / 65536) (revG n * 65536 % 4294967296) (Nat.lt_of_le_of_lt (Nat.div_le_self _ _) hg) (Nat.mod_lt _ (by decide))
  rw [rev_bits n hn] at g2
  change _ = ((revG n : Nat) : Int) at g1
  generalize revG n = r at *
  generalize n / 256 &&& 16711935 = x at *
  generalize n &&& 16711935 = y at *
  have A1 := Lib.hid a1
  have A2 := Lib.hid a2
  have G1 := Lib.hid g1
  have G2 := Lib.hid g2
  clear a1 a2 g1 g2 hg hd
  go_enter Tryd.func21, Tryd.ntmps21
  go_wp2_with fail
  go_ret
  have B1 := A1.out
  have B2 := A2.out
  have B3 := G1.out
  have B4 := G2.out
  simp only [Int.natCast_ediv, Int.natCast_emod, Int.natCast_mul, Int.cast_ofNat_Int] at B1 B2 B3 B4
  refine ⟨?_, rfl⟩
  first
    | (rw [B1, B2, B3, B4]; rfl)
    | (simp only [B1, B2, B3, B4])
end Go.Proofs.YtdacjhgjaneeeaaDoor
