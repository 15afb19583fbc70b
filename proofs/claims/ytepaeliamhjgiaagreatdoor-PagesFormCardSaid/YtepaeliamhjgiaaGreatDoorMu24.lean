/- The law of pages, part 24 of 55: BtMath BtDefs. -/
import Derived.Test.YtepaeliamhjgiaaGreatDoorMu1
import Derived.Test.YtepaeliamhjgiaaGreatDoorChecked
import Derived.IntWalk
import Derived.Laws.BitsAllLaws
import Derived.Deep.DeepCutAuto
import Derived.Deep.CutRange
import Derived.Deep.CutBlock
set_option maxHeartbeats 16000000
set_option maxRecDepth 100000
namespace Go.Proofs.YtepaeliamhjgiaaGreatDoor.Bt
def ofB : List Bool -> Nat
 |[] => 0
 |b :: r => (if b then 1 else 0) + 2 * ofB r
theorem ofB_lt : ∀ l : List Bool, ofB l < 2 ^ l.length
 |[] => by decide
 |b :: r => by
  have := ofB_lt r
  rw [ofB, List.length_cons, Nat.pow_succ]
  split <;> omega
theorem ofB_bit : ∀ (l : List Bool) (i : Nat), (ofB l).testBit i = l.getD i false
 |[], i => by simp [ofB]
 |b :: r, 0 => by rw [ofB, Nat.testBit_zero]; cases b <;> simp <;> omega
 |b :: r, i + 1 => by
  have h : ((if b then 1 else 0) + 2 * ofB r) / 2 = ofB r := by split <;> omega
  rw [ofB, Nat.testBit_succ, h, ofB_bit r i]
  simp
def wd (f : Nat -> Bool) (j : Nat) : Nat := ofB ((List.range 64).map fun i => f (64 * j + i))
theorem wd_lt (f : Nat -> Bool) (j : Nat) : wd f j < 18446744073709551616 := by
 have := ofB_lt ((List.range 64).map fun i => f (64 * j + i))
 rw [List.length_map, List.length_range] at this
 exact this
theorem wd_bit (f : Nat -> Bool) (j i : Nat) : (wd f j).testBit i = (decide (i < 64) && f (64 * j + i)) := by
 rw [wd, ofB_bit, List.getD_eq_getElem?_getD, List.getElem?_map]
 by_cases h : i < 64
 ·rw [List.getElem?_range h]; simp [h]
 ·rw [List.getElem?_eq_none (by simpa using h)]; simp [h]
theorem wd_congr (f g : Nat -> Bool) (j : Nat) (h : ∀ i, i < 64 -> f (64 * j + i) = g (64 * j + i)) : wd f j = wd g j := by
 refine Nat.eq_of_testBit_eq fun i => ?_
 rw [wd_bit, wd_bit]
 by_cases hi : i < 64
 ·rw [h i hi]
 ·simp [hi]
theorem wd_zero (j : Nat) : wd (fun _ => false) j = 0 := by
 refine Nat.eq_of_testBit_eq fun i => ?_
 rw [wd_bit]; simp
theorem bit_one (x i : Nat) : (x / 2 ^ i) &&& 1 = if x.testBit i then 1 else 0 := by
 rw [Nat.and_one_is_mod, Nat.testBit_eq_decide_div_mod_eq]
 by_cases h : x / 2 ^ i % 2 = 1 <;> simp [h]; omega
def upd (f : Nat -> Bool) (k : Nat) (v : Bool) : Nat -> Bool := fun i => if i = k then v else f i
theorem not_one (s i : Nat) (hs : s < 64) : (18446744073709551615 - 2 ^ s).testBit i = (decide (i < 64) && !decide (i = s)) := by
 have h1 : 2 ^ s < 2 ^ 64 := Nat.pow_lt_pow_right (by decide) hs
 have e : 18446744073709551615 - 2 ^ s = 2 ^ 64 - (2 ^ s + 1) := by
  have : (2 : Nat) ^ 64 = 18446744073709551616 := by decide
  omega
 rw [e, Nat.testBit_two_pow_sub_succ h1, Nat.testBit_two_pow]
 by_cases h : i = s
 ·simp [h]
 ·have : ¬ s = i := fun e => h e.symm
  simp [h, this]
theorem wd_off (f : Nat -> Bool) (k : Nat) (v : Bool) : wd (upd f k v) (k / 64) &&& (18446744073709551615 - 2 ^ (k % 64)) = wd (upd f k false) (k / 64) := by
 refine Nat.eq_of_testBit_eq fun i => ?_
 rw [Nat.testBit_and, wd_bit, wd_bit, not_one _ _ (Nat.mod_lt _ (by decide))]
 by_cases hi : i < 64
 ·by_cases hk : i = k % 64
  ·have : 64 * (k / 64) + i = k := by omega
   simp [upd, hk]
   omega
  ·have : ¬ 64 * (k / 64) + i = k := by omega
   simp [upd, hi, hk, this]
 ·simp [hi]
theorem upd_self (f : Nat -> Bool) (k : Nat) : upd f k (f k) = f := by
 funext i
 unfold upd
 split
 ·next h => rw [h]
 ·rfl
theorem wd_clear (f : Nat -> Bool) (k : Nat) : wd f (k / 64) &&& (18446744073709551615 - 2 ^ (k % 64)) = wd (upd f k false) (k / 64) := by
 have := wd_off f k (f k)
 rwa [upd_self] at this
theorem wd_on (f : Nat -> Bool) (k : Nat) : wd (upd f k false) (k / 64) ||| 2 ^ (k % 64) = wd (upd f k true) (k / 64) := by
 refine Nat.eq_of_testBit_eq fun i => ?_
 rw [Nat.testBit_or, wd_bit, wd_bit, Nat.testBit_two_pow]
 by_cases hi : i < 64
 ·by_cases hk : k % 64 = i
  ·have : 64 * (k / 64) + i = k := by omega
   simp [upd, hi, hk, this]
  ·have : ¬ 64 * (k / 64) + i = k := by omega
   simp [upd, hi, hk, this]
 ·have : ¬ k % 64 = i := by omega
  simp [hi, this]
theorem wd_other (f : Nat -> Bool) (k : Nat) (v : Bool) (j : Nat) (hj : j ≠ k / 64) : wd (upd f k v) j = wd f j := by
 refine wd_congr _ _ _ fun i hi => ?_
 have : ¬ 64 * j + i = k := by omega
 simp [upd, this]
def pop1 (b : Nat) : Nat := ((b / 2) &&& 85) + (b &&& 85)
def pop2 (b : Nat) : Nat := ((b / 4) &&& 51) + (b &&& 51)
def pop3 (b : Nat) : Nat := (b / 16 + b) &&& 15
theorem pop_byte (a b c d e f g h : Bool) : pop3 (pop2 (pop1 (ofB [a, b, c, d, e, f, g, h]))) = [a, b, c, d, e, f, g, h].count true /\ pop1 (ofB [a, b, c, d, e, f, g, h]) < 256 /\ pop2 (pop1 (ofB [a, b, c, d, e, f, g, h])) < 256 /\ pop2 (pop1 (ofB [a, b, c, d, e, f, g, h])) % 16 <= 4 /\ pop2 (pop1 (ofB [a, b, c, d, e, f, g, h])) / 16 <= 4 := by
 have key : ∀ a b c d e f g h : Bool, pop3 (pop2 (pop1 (ofB [a, b, c, d, e, f, g, h]))) = [a, b, c, d, e, f, g, h].count true /\ pop1 (ofB [a, b, c, d, e, f, g, h]) < 256 /\ pop2 (pop1 (ofB [a, b, c, d, e, f, g, h])) < 256 /\ pop2 (pop1 (ofB [a, b, c, d, e, f, g, h])) % 16 <= 4 /\ pop2 (pop1 (ofB [a, b, c, d, e, f, g, h])) / 16 <= 4 := by decide +kernel
 exact key a b c d e f g h
def n256 : List Nat -> Nat
 |[] => 0
 |b :: r => b + 256 * n256 r
def mk256 (m : Nat) : Nat -> Nat
 |0 => 0
 |n + 1 => m + 256 * mk256 m n
theorem and_low (b r m n : Nat) (hb : b < 256) (hm : m < 256) : (b + 256 * r) &&& (m + 256 * n) = (b &&& m) + 256 * (r &&& n) := by
 have h1 : b + 256 * r = 2 ^ 8 * r + b := by omega
 have h2 : m + 256 * n = 2 ^ 8 * n + m := by omega
 have h3 : b &&& m < 2 ^ 8 := Nat.and_lt_two_pow _ hm
 have h4 : (b &&& m) + 256 * (r &&& n) = 2 ^ 8 * (r &&& n) + (b &&& m) := by omega
 rw [h1, h2, h4]
 refine Nat.eq_of_testBit_eq fun i => ?_
 rw [Nat.testBit_and, Nat.testBit_two_pow_mul_add _ (show b < 2 ^ 8 by omega), Nat.testBit_two_pow_mul_add _ (show m < 2 ^ 8 by omega), Nat.testBit_two_pow_mul_add _ h3]
 split
 ·rw [Nat.testBit_and]
 ·rw [Nat.testBit_and]
theorem and_shift (x q m e : Nat) (hm : m < 2 ^ e) (hx : x < 2 ^ e) : (x + 2 ^ e * q) &&& m = x &&& m := by
 refine Nat.eq_of_testBit_eq fun i => ?_
 rw [Nat.testBit_and, Nat.testBit_and, Nat.add_comm, Nat.testBit_two_pow_mul_add _ hx]
 split
 ·rfl
 ·rw [Nat.testBit_lt_two_pow (Nat.lt_of_lt_of_le hm (Nat.pow_le_pow_right (by decide) (by omega))), Bool.and_false, Bool.and_false]
theorem step1 : ∀ l : List Nat, (∀ b ∈ l, b < 256) -> ((n256 l / 2) &&& mk256 85 l.length) + (n256 l &&& mk256 85 l.length) = n256 (l.map pop1)
 |[], _ => rfl
 |b :: r, h => by
  have hb := h b (by simp)
  have ih := step1 r fun x hx => h x (by simp [hx])
  have e : n256 (b :: r) / 2 = (b / 2 + 2 ^ 7 * (n256 r % 2)) + 256 * (n256 r / 2) := by rw [n256]; omega
  rw [e, n256, List.length_cons, mk256, and_low _ _ _ _ (by omega) (by decide), and_low _ _ _ _ hb (by decide), and_shift _ _ _ _ (by decide) (by omega), List.map_cons, n256, <- ih, pop1]
  omega
theorem step2 : ∀ l : List Nat, (∀ b ∈ l, b < 256) -> ((n256 l / 4) &&& mk256 51 l.length) + (n256 l &&& mk256 51 l.length) = n256 (l.map pop2)
 |[], _ => rfl
 |b :: r, h => by
  have hb := h b (by simp)
  have ih := step2 r fun x hx => h x (by simp [hx])
  have e : n256 (b :: r) / 4 = (b / 4 + 2 ^ 6 * (n256 r % 4)) + 256 * (n256 r / 4) := by rw [n256]; omega
  rw [e, n256, List.length_cons, mk256, and_low _ _ _ _ (by omega) (by decide), and_low _ _ _ _ hb (by decide), and_shift _ _ _ _ (by decide) (by omega), List.map_cons, n256, <- ih, pop2]
  omega
theorem step3 : ∀ l : List Nat, (∀ b ∈ l, b % 16 <= 4 /\ b / 16 <= 4) -> (n256 l / 16 + n256 l) &&& mk256 15 l.length = n256 (l.map pop3)
 |[], _ => rfl
 |b :: r, h => by
  have hb := h b (by simp)
  have ih := step3 r fun x hx => h x (by simp [hx])
  have hr : n256 r % 16 <= 4 := by
   cases r with
   |nil => simp [n256]
   |cons c s => have := h c (by simp); rw [n256]; omega
  have e : n256 (b :: r) / 16 + n256 (b :: r) = (b / 16 + b + 16 * (n256 r % 16)) + 256 * (n256 r / 16 + n256 r) := by rw [n256]; omega
  rw [e, List.length_cons, mk256, and_low _ _ _ _ (by omega) (by decide), List.map_cons, n256, <- ih, pop3]
  have h1 : (b / 16 + b + 16 * (n256 r % 16)) &&& 15 = (b / 16 + b) &&& 15 := by
   have a1 := Nat.and_two_pow_sub_one_eq_mod (b / 16 + b + 16 * (n256 r % 16)) 4
   have a2 := Nat.and_two_pow_sub_one_eq_mod (b / 16 + b) 4
   rw [show 2 ^ 4 - 1 = 15 by decide] at a1 a2
   rw [a1, a2]
   omega
  rw [h1]
theorem ofB_eight (a b c d e f g h : Bool) (r : List Bool) : ofB (a :: b :: c :: d :: e :: f :: g :: h :: r) = ofB [a, b, c, d, e, f, g, h] + 256 * ofB r := by
 simp only [ofB]
 omega
theorem ofB_eight_lt (a b c d e f g h : Bool) : ofB [a, b, c, d, e, f, g, h] < 256 := by
 have := ofB_lt [a, b, c, d, e, f, g, h]
 simpa using this
theorem eights : ∀ (n : Nat) (l : List Bool), l.length = 8 * n -> ∃ ls : List Nat, ls.length = n /\ ofB l = n256 ls /\ (∀ b ∈ ls, b < 256) /\ (∀ b ∈ ls.map pop1, b < 256) /\ (∀ b ∈ (ls.map pop1).map pop2, b % 16 <= 4 /\ b / 16 <= 4) /\ (((ls.map pop1).map pop2).map pop3).sum = l.count true /\ ∀ b ∈ ((ls.map pop1).map pop2).map pop3, b <= 8
 |0, l, h => by
  obtain rfl : l = [] := List.eq_nil_of_length_eq_zero h
  exact ⟨[], rfl, rfl, by simp, by simp, by simp, rfl, by simp⟩
 |n + 1, l, h => by
  match l, h with
  |a :: b :: c :: d :: e :: f :: g :: i :: r, h =>
   obtain ⟨ls, h1, h2, h3, h4, h5, h6, h7⟩ := eights n r (by simp at h; omega)
   obtain ⟨p1, p2, p3, p4, p5⟩ := pop_byte a b c d e f g i
   have hc : (a :: b :: c :: d :: e :: f :: g :: i :: r).count true = [a, b, c, d, e, f, g, i].count true + r.count true := by
    rw [<- List.count_append]; rfl
   refine ⟨ofB [a, b, c, d, e, f, g, i] :: ls, by simp [h1], by rw [ofB_eight, n256, h2], ?_, ?_, ?_, ?_, ?_⟩
   ·intro x hx; rcases List.mem_cons.1 hx with rfl | hx
    ·exact ofB_eight_lt ..
    ·exact h3 x hx
   ·intro x hx; rw [List.map_cons] at hx; rcases List.mem_cons.1 hx with rfl | hx
    ·exact p2
    ·exact h4 x hx
   ·intro x hx; rw [List.map_cons, List.map_cons] at hx; rcases List.mem_cons.1 hx with rfl | hx
    ·exact ⟨p4, p5⟩
    ·exact h5 x hx
   ·rw [List.map_cons, List.map_cons, List.map_cons, List.sum_cons, h6, p1, hc]
   ·intro x hx; rw [List.map_cons, List.map_cons, List.map_cons] at hx; rcases List.mem_cons.1 hx with rfl | hx
    ·rw [p1]; exact List.count_le_length
    ·exact h7 x hx
structure Pop (x n : Nat) : Prop where
 ex : ∃ x1 x2 x3 x4 x5 x6 : Nat, x1 = ((x / 2) &&& 6148914691236517205) + (x &&& 6148914691236517205) /\ x1 < 18446744073709551616 /\ x2 = ((x1 / 4) &&& 3689348814741910323) + (x1 &&& 3689348814741910323) /\ x2 < 1229782938247303441 * 5 /\
  x3 = (x2 / 16 + x2) &&& 1085102592571150095 /\ x3 < 651061555542690057 /\ x4 = x3 + x3 / 256 /\ x4 < 651061555542690057 * 2 /\ x5 = x4 + x4 / 65536 /\ x5 < 651061555542690057 * 3 /\ x6 = x5 + x5 / 4294967296 /\ x6 < 651061555542690057 * 4 /\ x6 % 128 = n
theorem n256_lt8 (l : List Nat) (h : l.length = 8) (hb : ∀ b ∈ l, b < 256) : n256 l < 18446744073709551616 := by
 match l, h with
 |[a, b, c, d, e, f, g, i], _ =>
  simp at hb
  simp only [n256]
  omega
theorem dv (s X d : Nat) (h : s < d) : (s + d * X) / d = X := by
 rw [Nat.add_mul_div_left _ _ (by omega), Nat.div_eq_of_lt h, Nat.zero_add]
theorem z_eq (a b c d e f g P R T : Nat) (c1 : P = (c + d) + 256 * (d + e) + 65536 * R) (c2 : R = (e + f) + 256 * (f + g) + 65536 * T) :
  ((a + b) + 256 * (b + c)) + 65536 * P + P = ((a + b + c + d) + 256 * (b + c + d + e) + 65536 * (c + d + e + f) + 16777216 * (d + e + f + g)) + 4294967296 * (R + T) := by
 subst c2
 subst c1
 omega
theorem e_eq (a b c d e f g i R T : Nat) (c1 : R = (e + f) + 256 * (f + g) + 65536 * T) (c2 : T = g + i + 256 * i) :
  ((a + b + c + d) + 256 * (b + c + d + e) + 65536 * (c + d + e + f) + 16777216 * (d + e + f + g)) + 4294967296 * (R + T) + (R + T) = (a + b + c + d + e + f + g + i) + 128 * (2 * (b + c + d + e + f + g) + 512 * (c + d + e + f) + 131072 * (d + e + f + g) + 33554432 * (R + T) + 512 * T + 2 * i) := by
 subst c2
 subst c1
 omega
theorem gi_eq (g i G : Nat) (h : G = g + 256 * i) : G + i = g + i + 256 * i := by omega
theorem lt_eq (a b c d e f g : Nat) (ha : a <= 8) (hb : b <= 8) (hc : c <= 8) (hd : d <= 8) (he : e <= 8) (hf : f <= 8) (hg : g <= 8) : (a + b + c + d) + 256 * (b + c + d + e) + 65536 * (c + d + e + f) + 16777216 * (d + e + f + g) < 4294967296 := by omega
theorem ls_eq (a b c d e f g i : Nat) (ha : a <= 8) (hb : b <= 8) (hc : c <= 8) (hd : d <= 8) (he : e <= 8) (hf : f <= 8) (hg : g <= 8) (hi : i <= 8) : a + b + c + d + e + f + g + i < 128 := by omega
theorem lz_eq (X B C D E F G i : Nat) (lG : G <= 2056) (lF : F <= 526344) (lE : E <= 134744072) (lD : D <= 34494482440) (lC : C <= 8830587504648) (lB : B <= 2260630401189896) (lX : X <= 578721382704613384) (hi : i <= 8) :
  X < 651061555542690057 /\ X + B < 651061555542690057 * 2 /\ X + B + (C + D) < 651061555542690057 * 3 /\ X + B + (C + D) + (E + F + (G + i)) < 651061555542690057 * 4 := by omega
theorem pop_end (q : List Nat) (hl : q.length = 8) (h7 : ∀ b ∈ q, b <= 8) : n256 q < 651061555542690057 /\ ∃ x4 x5 x6 : Nat, x4 = n256 q + n256 q / 256 /\ x4 < 651061555542690057 * 2 /\ x5 = x4 + x4 / 65536 /\ x5 < 651061555542690057 * 3 /\ x6 = x5 + x5 / 4294967296 /\ x6 < 651061555542690057 * 4 /\ x6 % 128 = q.sum := by
 match q, hl with
 |[a, b, c, d, e, f, g, i], _ =>
  simp at h7
  obtain ⟨ha, hb, hc, hd, he, hf, hg, hi⟩ := h7
  have hs : [a, b, c, d, e, f, g, i].sum = a + b + c + d + e + f + g + i := by simp only [List.sum_cons, List.sum_nil]; omega
  have hx : n256 [a, b, c, d, e, f, g, i] = a + 256 * (b + 256 * (c + 256 * (d + 256 * (e + 256 * (f + 256 * (g + 256 * i)))))) := by simp only [n256, Nat.mul_zero, Nat.add_zero]
  rw [hx, hs]
  clear hx hs
  obtain ⟨G, hG⟩ : ∃ G, G = g + 256 * i := ⟨_, rfl⟩
  obtain ⟨F, hF⟩ : ∃ F, F = f + 256 * G := ⟨_, rfl⟩
  obtain ⟨E, hE⟩ : ∃ E, E = e + 256 * F := ⟨_, rfl⟩
  obtain ⟨D, hD⟩ : ∃ D, D = d + 256 * E := ⟨_, rfl⟩
  obtain ⟨C, hC⟩ : ∃ C, C = c + 256 * D := ⟨_, rfl⟩
  obtain ⟨B, hB⟩ : ∃ B, B = b + 256 * C := ⟨_, rfl⟩
  obtain ⟨X, hX⟩ : ∃ X, X = a + 256 * B := ⟨_, rfl⟩
  rw [<- hG, <- hF, <- hE, <- hD, <- hC, <- hB, <- hX]
  have lG : G <= 2056 := by omega
  have lF : F <= 526344 := by omega
  have lE : E <= 134744072 := by omega
  have lD : D <= 34494482440 := by omega
  have lC : C <= 8830587504648 := by omega
  have lB : B <= 2260630401189896 := by omega
  have lX : X <= 578721382704613384 := by omega
  have q1 : X / 256 = B := by rw [hX]; exact dv _ _ _ (by omega)
  have y1 : X + B = ((a + b) + 256 * (b + c)) + 65536 * (C + D) := by omega
  have q2 : (X + B) / 65536 = C + D := by rw [y1]; exact dv _ _ _ (by omega)
  have c1 : C + D = (c + d) + 256 * (d + e) + 65536 * (E + F) := by omega
  have c2 : E + F = (e + f) + 256 * (f + g) + 65536 * (G + i) := by omega
  have z1 : X + B + (C + D) = ((a + b + c + d) + 256 * (b + c + d + e) + 65536 * (c + d + e + f) + 16777216 * (d + e + f + g)) + 4294967296 * (E + F + (G + i)) := by
   rw [y1]
   exact z_eq _ _ _ _ _ _ _ _ _ _ c1 c2
  have q3 : (X + B + (C + D)) / 4294967296 = E + F + (G + i) := by rw [z1]; exact dv _ _ _ (lt_eq _ _ _ _ _ _ _ ha hb hc hd he hf hg)
  have e3 : X + B + (C + D) + (E + F + (G + i)) = (a + b + c + d + e + f + g + i) + 128 * (2 * (b + c + d + e + f + g) + 512 * (c + d + e + f) + 131072 * (d + e + f + g) + 33554432 * (E + F + (G + i)) + 512 * (G + i) + 2 * i) := by
   rw [z1]
   exact e_eq _ _ _ _ _ _ _ _ _ _ c2 (gi_eq _ _ _ hG)
  obtain ⟨m1, m2, m3, m4⟩ := lz_eq X B C D E F G i lG lF lE lD lC lB lX hi
  refine ⟨m1, X + B, X + B + (C + D), _, by rw [q1], m2, by rw [q2], m3, rfl, by rw [q3]; exact m4, ?_⟩
  rw [q3, e3, Nat.add_mul_mod_self_left]
  exact Nat.mod_eq_of_lt (ls_eq _ _ _ _ _ _ _ _ ha hb hc hd he hf hg hi)
theorem pop_of (l : List Bool) (h : l.length = 64) : Pop (ofB l) (l.count true) := by
 obtain ⟨ls, h1, h2, h3, h4, h5, h6, h7⟩ := eights 8 l h
 have s1 := step1 ls h3
 have s2 := step2 (ls.map pop1) h4
 have s3 := step3 ((ls.map pop1).map pop2) h5
 rw [List.length_map, h1] at s2
 rw [List.length_map, List.length_map, h1] at s3
 rw [h1] at s1
 have m1 : mk256 85 8 = 6148914691236517205 := by decide
 have m2 : mk256 51 8 = 3689348814741910323 := by decide
 have m3 : mk256 15 8 = 1085102592571150095 := by decide
 rw [m1] at s1
 rw [m2] at s2
 rw [m3] at s3
 rw [h2]
 have l1 := n256_lt8 (ls.map pop1) (by simp [h1]) h4
 have l2 : n256 ((ls.map pop1).map pop2) < 1229782938247303441 * 5 := by
  have hl : ((ls.map pop1).map pop2).length = 8 := by simp [h1]
  generalize (ls.map pop1).map pop2 = q at *
  match q, hl with
  |[a, b, c, d, e, f, g, i], _ =>
   simp at h5
   simp only [n256]
   omega
 have hl : (((ls.map pop1).map pop2).map pop3).length = 8 := by simp [h1]
 obtain ⟨z1, x4, x5, x6, e4, k4, e5, k5, e6, k6, z⟩ := pop_end (((ls.map pop1).map pop2).map pop3) hl h7
 rw [h6] at z
 exact ⟨⟨_, _, _, x4, x5, x6, s1.symm, l1, s2.symm, l2, s3.symm, z1, e4, k4, e5, k5, e6, k6, z⟩⟩
theorem wd_pop (f : Nat -> Bool) (j : Nat) : Pop (wd f j) (((List.range 64).map fun i => f (64 * j + i)).count true) := pop_of _ (by simp)
theorem low_split : ∀ (n x : Nat), 0 < x -> x < 2 ^ n -> ∃ t q, x = 2 ^ t * (2 * q + 1) /\ t < n
 |0, x, h, hx => by simp at hx; omega
 |n + 1, x, h, hx => by
  rcases Nat.mod_two_eq_zero_or_one x with he | ho
  ·obtain ⟨t, q, e, ht⟩ := low_split n (x / 2) (by omega) (by rw [Nat.pow_succ] at hx; omega)
   refine ⟨t + 1, q, ?_, by omega⟩
   rw [Nat.pow_succ, Nat.mul_assoc, Nat.mul_comm 2, <- Nat.mul_assoc, <- e]
   omega
  ·exact ⟨0, x / 2, by rw [Nat.pow_zero]; omega, by omega⟩
theorem mul_and (t a b : Nat) : (2 ^ t * a) &&& (2 ^ t * b) = 2 ^ t * (a &&& b) := by
 refine Nat.eq_of_testBit_eq fun i => ?_
 have h0 : (0 : Nat) < 2 ^ t := Nat.pow_pos (by decide)
 have e : ∀ c : Nat, 2 ^ t * c = 2 ^ t * c + 0 := fun _ => rfl
 rw [Nat.testBit_and, e a, e b, e (a &&& b), Nat.testBit_two_pow_mul_add _ h0, Nat.testBit_two_pow_mul_add _ h0, Nat.testBit_two_pow_mul_add _ h0]
 split
 ·simp
 ·rw [Nat.testBit_and]
theorem low_bit (t q : Nat) (ht : t < 64) (hx : 2 ^ t * (2 * q + 1) < 18446744073709551616) : (2 ^ t * (2 * q + 1)) &&& (18446744073709551616 - 2 ^ t * (2 * q + 1)) = 2 ^ t := by
 have hp : (18446744073709551616 : Nat) = 2 ^ t * (2 * 2 ^ (63 - t)) := by
  rw [<- Nat.pow_succ', <- Nat.pow_add, show t + (63 - t).succ = 64 by omega]
 have hq : q < 2 ^ (63 - t) := by
  rw [hp] at hx
  have := Nat.lt_of_mul_lt_mul_left hx
  omega
 rw [hp, <- Nat.mul_sub, mul_and]
 have e1 : 2 * 2 ^ (63 - t) - (2 * q + 1) = 2 * (2 ^ (63 - t) - (q + 1)) + 1 := by omega
 have e2 : (2 * q + 1) &&& (2 * (2 ^ (63 - t) - (q + 1)) + 1) = 1 := by
  refine Nat.eq_of_testBit_eq fun i => ?_
  rw [Nat.testBit_and]
  cases i with
  |zero => simp [Nat.testBit_zero]
  |succ i =>
   rw [Nat.testBit_succ, Nat.testBit_succ, Nat.testBit_succ, show (2 * q + 1) / 2 = q by omega, show (2 * (2 ^ (63 - t) - (q + 1)) + 1) / 2 = 2 ^ (63 - t) - (q + 1) by omega, Nat.testBit_two_pow_sub_succ hq, show (1 : Nat) / 2 = 0 by decide, Nat.zero_testBit]
   cases q.testBit i <;> simp
 rw [e1, e2, Nat.mul_one]
theorem low_is (t q i : Nat) : (2 ^ t * (2 * q + 1)).testBit i = if i < t then false else if i = t then true else q.testBit (i - t - 1) := by
 have e : 2 ^ t * (2 * q + 1) = 2 ^ t * (2 * q + 1) + 0 := rfl
 rw [e, Nat.testBit_two_pow_mul_add _ (Nat.pow_pos (by decide))]
 split
 ·simp
 ·next h =>
  split
  ·next h2 => subst h2; simp [Nat.testBit_zero]
  ·next h2 =>
   obtain ⟨d, hd⟩ : ∃ d, i - t = d + 1 := ⟨i - t - 1, by omega⟩
   rw [hd, Nat.testBit_succ, show (2 * q + 1) / 2 = q by omega, Nat.add_sub_cancel]
def bruijn : List Nat := [0, 1, 56, 2, 57, 49, 28, 3, 61, 58, 42, 50, 38, 29, 17, 4, 62, 47, 59, 36, 45, 43, 51, 22, 53, 39, 33, 30, 24, 18, 12, 5, 63, 55, 48, 27, 60, 41, 37, 16, 46, 35, 44, 21, 52, 32, 23, 11, 54, 26, 40, 15, 34, 20, 31, 10, 25, 14, 19, 9, 13, 8, 7, 6]
theorem bruijn_at (t : Nat) (ht : t < 64) : bruijn.getD (2 ^ t * 285870213051353865 % 18446744073709551616 / 288230376151711744) 0 = t := by
 have h : ∀ t : Fin 64, bruijn.getD (2 ^ t.val * 285870213051353865 % 18446744073709551616 / 288230376151711744) 0 = t.val := by decide +kernel
 exact h ⟨t, ht⟩
end Go.Proofs.YtepaeliamhjgiaaGreatDoor.Bt
namespace Go.Proofs.YtepaeliamhjgiaaGreatDoor.Bt
open Go.RowKit
def mcs (f : Nat -> Bool) (n : Nat) : List Value := ((List.range 16).map fun j => Value.int .u64 ((wd f j : Nat) : Int)) ++ [.int .i64 (n : Int)]
theorem mcs_length (f : Nat -> Bool) (n : Nat) : (mcs f n).length = 17 := by simp [mcs]
theorem mcs_word (f : Nat -> Bool) (n j : Nat) (hj : j < 16) : (mcs f n)[j]? = some (.int .u64 ((wd f j : Nat) : Int)) := by
 rw [mcs, List.getElem?_append_left (by simpa using hj), List.getElem?_map, List.getElem?_range hj]; rfl
theorem mcs_pages (f : Nat -> Bool) (n : Nat) : (mcs f n)[16]? = some (.int .i64 (n : Int)) := by
 rw [mcs, List.getElem?_append_right (by simp)]; simp
theorem mcs_one (f : Nat -> Bool) (n : Nat) : ∀ v ∈ mcs f n, v.oneCell' = true := fun v hv => by
 rcases List.mem_append.1 hv with hv | hv
 ·obtain ⟨j, _, rfl⟩ := List.mem_map.1 hv; rfl
 ·obtain rfl : v = .int .i64 (n : Int) := by simpa using hv
  rfl
theorem mcs_set (f g : Nat -> Bool) (n k : Nat) (hk : k < 16) (h : ∀ j, j ≠ k -> wd g j = wd f j) : (mcs f n).set k (.int .u64 ((wd g k : Nat) : Int)) = mcs g n := by
 refine List.ext_getElem? fun j => ?_
 rw [List.getElem?_set]
 by_cases hj : k = j
 ·subst hj
  rw [if_pos rfl, if_pos (by rw [mcs_length]; omega), mcs_word _ _ _ hk]
 ·rw [if_neg hj]
  rcases Nat.lt_or_ge j 16 with h16 | h16
  ·rw [mcs_word _ _ _ h16, mcs_word _ _ _ h16, h j (fun e => hj e.symm)]
  ·rcases Nat.eq_or_lt_of_le h16 with rfl | h17
   ·rw [mcs_pages, mcs_pages]
   ·rw [List.getElem?_eq_none (by rw [mcs_length]; omega), List.getElem?_eq_none (by rw [mcs_length]; omega)]
def zcs (n : Nat) : List Value := [.int .u64 0, .int .u64 0, .int .u64 0, .int .u64 0, .int .u64 0, .int .u64 0, .int .u64 0, .int .u64 0, .int .u64 0, .int .u64 0, .int .u64 0, .int .u64 0, .int .u64 0, .int .u64 0, .int .u64 0, .int .u64 0, .int .i64 n]
def nof : Nat -> Bool := fun _ => false
theorem wd_nof (j : Nat) : wd nof j = 0 := wd_zero j
theorem zcs_eq (n : Nat) : zcs n = mcs nof n := by
 simp [mcs, zcs, List.range_succ, wd_nof]
theorem infoMap : (Tryz.prog.info? 82).map (·.size) = some 17 := by kernel_rfl
theorem infoMcs (f : Nat -> Bool) (n : Nat) : (Tryz.prog.info? 82).map (·.size) = some (mcs f n).length := by rw [mcs_length]; exact infoMap
theorem infoMca (f : Nat -> Bool) (n : Nat) : (Tryz.prog.info? 82).map (·.size) = some (mcs f n).toArray.size := by rw [List.size_toArray]; exact infoMcs f n
def Mp (w : World) (g : Nat) (f : Nat -> Bool) (n : Nat) : Prop := Box w g 82 (mcs f n).toArray
section
variable {S : Nat -> Prop} {w w' : World} {g : Nat} {f f' : Nat -> Bool} {n : Nat}
theorem Mp.word (h : Mp w g f n) (j : Nat) (hj : j < 16) : w.cell? ⟨g, j, none⟩ = some (.int .u64 ((wd f j : Nat) : Int)) := by
 have e : (mcs f n).toArray[j]? = (mcs f n)[j]? := List.getElem?_toArray
 exact (Box.cell (cs := (mcs f n).toArray) h j).trans (e.trans (mcs_word f n j hj))
theorem Mp.pages (h : Mp w g f n) : w.cell? ⟨g, 16, none⟩ = some (.int .i64 (n : Int)) := by
 have e : (mcs f n).toArray[16]? = (mcs f n)[16]? := List.getElem?_toArray
 exact (Box.cell (cs := (mcs f n).toArray) h 16).trans (e.trans (mcs_pages f n))
theorem Mp.free (h : Mp w g f n) (j : Nat) : w.frozen? ⟨g, j, none⟩ = false := Box.free h j
theorem Mp.kp (h : Mp w g f n) (hk : Kp S w w') (hn : ¬ S g) : Mp w' g f n := Box.kp h hk hn
theorem Mp.drew (h : Mp w g f n) : Mp w.drew g f n := h
theorem Mp.new (w : World) (f : Nat -> Bool) (n : Nat) : Mp (w.alloc (.cells (mcs f n).toArray 82)) w.heap.size f n := Box.new w _ _
theorem Mp.alloc (h : Mp w g f n) (o : Obj) : Mp (w.alloc o) g f n := Box.alloc h o
theorem Mp.far (h : Mp w g f n) {p : Addr} (hp : g ≠ p.block) (u : Value) : Mp (w.setCell p u) g f n := Box.far h hp u
theorem Mp.put (h : Mp w g f n) (k : Nat) (hk : k < 16) (u : Value) (hu : u = .int .u64 ((wd f' k : Nat) : Int)) (ho : ∀ j, j ≠ k -> wd f' j = wd f j) : Mp (w.setCell ⟨g, k, none⟩ u) g f' n := by
 have h1 : Box (w.setCell ⟨g, k, none⟩ u) g 82 ((mcs f n).toArray.setIfInBounds k u) := Box.put h k u
 have h2 : (mcs f n).toArray.setIfInBounds k u = (mcs f' n).toArray := by rw [List.setIfInBounds_toArray, hu, mcs_set f f' n k hk ho]
 rw [h2] at h1
 exact h1
theorem Mp.range (h : Mp w g f n) : w.rangeAt g 0 (mcs f n) := Box.range' (L := mcs f n) h
end
theorem bstore_box {P : Program} {ops : Array Oper} {rest : List Oper} {op : Oper} {a : Act} {w : World} {Q : Exit -> Act -> World -> Prop} (hgd : op.guard = none) (ty : TypeId) (x y : Operand) (ho : op.op = .store ty x y)
  (g : Nat) (cs : List Value) (hx : a.eval x = .pointer (some ⟨g, 0, none⟩)) (hy : a.eval y = .agg cs.toArray) {t : TypeId} {old : Array Value} (hb : Box w g t old) (hs : old.size = cs.length)
  (hi : (P.info? ty).map (·.size) = some cs.length) (h1 : ∀ v ∈ cs, v.oneCell' = true)
  (h : ∀ W, Box W g t cs.toArray -> Kp (fun k => k = g) w W -> wpList P ops Q rest (a.put op.dst undef) W) : wpList P ops Q (op :: rest) a w := by
 have hb' : Box w g t old.toList.toArray := hb
 refine wpList_store_mid hgd ty x y ho g 0 cs.toArray hx hy ?_ (by simpa using hi) (all_oneCell_toArray h1) ?_
 ·have := hb'.there
  simp only [List.size_toArray, Array.length_toList] at this ⊢
  rw [<- hs]
  exact this
 ·refine h _ ?_ (Kp.setCells _ 0 w (Kp.refl _ w) (.inr rfl))
  exact hb'.write (by simpa using hs.symm)
theorem bresults_two {P : Program} {fn : Func} {p u : Tmp} {ty : TypeId} (h : fn.results = #[.cell p ty, .tmp u]) (tmps : Array Value) (w : World) (g : Nat) (t : TypeId) (cs : Array Value) (fr : Nat × Nat) (d : TypeDesc)
  (hp : tmps.getD p undef = .pointer (some ⟨g, 0, none⟩)) (hg : w.heap[g]? = some (.cells cs t fr))
  (hu : P.underlying ty = some d) (hd : (match d with | .struct _ | .array _ _ => true | _ => false) = true) (hi : (P.info? ty).map (·.size) = some cs.size) :
  (results fn tmps).run P w = .ok (.tuple #[.agg cs, tmps.getD u undef]) w := by
 have hp' : tmps[p]?.getD undef = .pointer (some ⟨g, 0, none⟩) := by simpa using hp
 rw [results_cell_tmp h]
 simp [hp', asAddr, run_loadVar_row w g t ty cs fr d hg hu hd hi, Result.andThen]
def pgB (n : Nat) (i : Int) : Bool := decide (0 <= i) && decide (i < n)
theorem pgB_true {n : Nat} {i : Int} (h0 : 0 <= i) (h1 : i < n) : pgB n i = true := by simp [pgB, h0, h1]
theorem pgB_false {n : Nat} {i : Int} (h : i < 0 \/ (n : Int) <= i) : pgB n i = false := by
 unfold pgB
 rcases h with h | h
 ·simp; omega
 ·simp; omega
theorem ispage_any (f : Nat -> Bool) (n : Nat) (i : Int) (w : World) :
  Calls Tryz.prog 122 #[.agg (mcs f n).toArray, .int .i64 i] w fun e w' => e = .returned (.bool (pgB n i)) /\ Kp (fun _ => False) w w' := by
 obtain ⟨W, hW, hb, hk⟩ : ∃ W, W = w.alloc (.cells (mcs f n).toArray 82) /\ Mp W w.heap.size f n /\ Kp (fun _ => False) w W := ⟨_, rfl, Mp.new w f n, (Kp.refl _ w).alloc _⟩
 have HW := hHd hW
 have K := hHd hk
 have y := hb.pages
 clear hW hb hk
 by_cases h0 : 0 <= i
 ·by_cases h1 : i < n
  ·rw [pgB_true h0 h1]
   go_enter Tryz.func122, Tryz.ntmps122
   go_upto_region 1 with fail
   rw [<- HW.out]
   go_wp2_with fail
   go_ret
   exact ⟨by simp, K.out⟩
  ·rw [pgB_false (.inr (by omega))]
   go_enter Tryz.func122, Tryz.ntmps122
   go_upto_region 1 with fail
   rw [<- HW.out]
   go_wp2_with fail
   go_ret
   exact ⟨by simp, K.out⟩
 ·rw [pgB_false (.inl (by omega))]
  go_enter Tryz.func122, Tryz.ntmps122
  go_upto_region 1 with fail
  rw [<- HW.out]
  go_wp2_with fail
  go_ret
  exact ⟨rfl, K.out⟩
theorem place_any (k : Nat) (w : World) (hk : k < 1048576) :
  Calls Tryz.prog 147 #[.int .i64 k] w fun e w' => e = .returned (.tuple #[.int .i64 ((k / 64 : Nat) : Int), .int .i64 ((k % 64 : Nat) : Int)]) /\ w = w' := by
 go_enter Tryz.func147, Tryz.ntmps147
 go_wp2_with fail
 go_ret2
 exact ⟨by simp, rfl⟩
theorem len_any (f : Nat -> Bool) (n : Nat) (w : World) :
  Calls Tryz.prog 60 #[.agg (mcs f n).toArray] w fun e w' => e = .returned (.int .i64 (n : Int)) /\ Kp (fun _ => False) w w' := by
 obtain ⟨W, hW, hb, hk⟩ : ∃ W, W = w.alloc (.cells (mcs f n).toArray 82) /\ Mp W w.heap.size f n /\ Kp (fun _ => False) w W := ⟨_, rfl, Mp.new w f n, (Kp.refl _ w).alloc _⟩
 have HW := hHd hW
 have K := hHd hk
 have y := hb.pages
 clear hW hb hk
 go_enter Tryz.func60, Tryz.ntmps60
 go_upto_region 1 with fail
 rw [<- HW.out]
 go_wp2_with fail
 go_ret
 exact ⟨rfl, K.out⟩
end Go.Proofs.YtepaeliamhjgiaaGreatDoor.Bt
