/- The least page of a map that is not used. Condition: the table of the lowest bit is laid. -/
import Derived.Test.YtlhfdoaknfgemaaDoorBtUsed
namespace Go.Proofs.YtlhfdoaknfgemaaDoor
open Go.RowKit

/-- The least number that is not set, below n; or n. -/
structure Least (f : Nat → Bool) (n k : Nat) : Prop where
  le : k ≤ n
  below : ∀ j, j < k → f j = true
  at_ : k < n → f k = false
theorem least_is (f : Nat → Bool) : ∀ n, ∃ k, Least f n k
  | 0 => ⟨0, by omega, by intro j hj; omega, by intro h; omega⟩
  | n + 1 => by
    obtain ⟨k, h⟩ := least_is f n
    have hle := h.le
    by_cases hk : k < n
    · exact ⟨k, by omega, h.below, fun _ => h.at_ hk⟩
    · obtain rfl : k = n := by omega
      rcases hf : f k with _ | _
      · exact ⟨k, by omega, h.below, fun _ => hf⟩
      · refine ⟨k + 1, by omega, fun j hj => ?_, fun h => by omega⟩
        rcases Nat.lt_or_eq_of_le (Nat.le_of_lt_succ hj) with h1 | h1
        · exact h.below j h1
        · rw [h1]; exact hf
theorem Least.one {f : Nat → Bool} {n k l : Nat} (h : Least f n k) (h' : Least f n l) : k = l := by
  have a := h.le
  have b := h'.le
  rcases Nat.lt_trichotomy k l with h1 | h1 | h1
  · have e1 := h.at_ (by omega)
    have e2 := h'.below k h1
    rw [e1] at e2; cases e2
  · exact h1
  · have e1 := h'.at_ (by omega)
    have e2 := h.below l h1
    rw [e1] at e2; cases e2
/-- A word with all bits set. -/
theorem wd_full (f : Nat → Bool) (j : Nat) : wd f j = 18446744073709551615 ↔ ∀ i, i < 64 → f (64 * j + i) = true := by
  have e : (18446744073709551615 : Nat) = 2 ^ 64 - 1 := by decide
  constructor
  · intro h i hi
    have h1 := wd_bit f j i
    rw [h, e, Nat.testBit_two_pow_sub_one] at h1
    simpa [hi] using h1
  · intro h
    refine Nat.eq_of_testBit_eq fun i => ?_
    rw [wd_bit, e, Nat.testBit_two_pow_sub_one]
    by_cases hi : i < 64
    · simp [hi, h i hi]
    · simp [hi]
/-- A word with a bit that is not set. -/
theorem wd_hole (f : Nat → Bool) (j : Nat) (h : wd f j ≠ 18446744073709551615) : ∃ t q, t < 64 ∧ 18446744073709551615 - wd f j = 2 ^ t * (2 * q + 1) ∧ f (64 * j + t) = false ∧ ∀ i, i < t → f (64 * j + i) = true := by
  have hl := wd_lt f j
  obtain ⟨t, q, e, ht⟩ := low_split 64 (18446744073709551615 - wd f j) (by omega) (by
    have : (2 : Nat) ^ 64 = 18446744073709551616 := by decide
    omega)
  have hb : ∀ i, (2 ^ t * (2 * q + 1)).testBit i = (decide (i < 64) && !f (64 * j + i)) := by
    intro i
    rw [← e, show 18446744073709551615 - wd f j = 2 ^ 64 - (wd f j + 1) by
      have : (2 : Nat) ^ 64 = 18446744073709551616 := by decide
      omega, Nat.testBit_two_pow_sub_succ (by
      have : (2 : Nat) ^ 64 = 18446744073709551616 := by decide
      omega), wd_bit]
    by_cases hi : i < 64 <;> simp [hi]
  refine ⟨t, q, ht, e, ?_, fun i hi => ?_⟩
  · have := hb t
    rw [low_is, if_neg (by omega), if_pos rfl] at this
    simpa [ht] using this.symm
  · have := hb i
    rw [low_is, if_pos hi] at this
    have h64 : i < 64 := by omega
    simpa [h64] using this.symm
/-- The first word that has one. -/
structure Hole (f : Nat → Bool) (j : Nat) : Prop where
  le : j ≤ 16
  below : ∀ i, i < j → wd f i = 18446744073709551615
  at_ : j < 16 → wd f j ≠ 18446744073709551615
theorem hole_least (f : Nat → Bool) (n : Nat) (h : Wf f n) (j : Nat) (hj : Hole f j) :
    (j = 16 ∧ Least f n n) ∨ (j < 16 ∧ ∃ t q, t < 64 ∧ 18446744073709551615 - wd f j = 2 ^ t * (2 * q + 1) ∧ ((64 * j + t < n ∧ Least f n (64 * j + t)) ∨ (n ≤ 64 * j + t ∧ Least f n n))) := by
  have hbel : ∀ i, i < 64 * j → f i = true := fun i hi => by
    have := (wd_full f (i / 64)).1 (hj.below (i / 64) (by omega)) (i % 64) (Nat.mod_lt _ (by decide))
    rwa [show 64 * (i / 64) + i % 64 = i by omega] at this
  have hle := hj.le
  have hf := h.few
  by_cases h16 : j < 16
  · refine .inr ⟨h16, ?_⟩
    obtain ⟨t, q, ht, e, h0, h1⟩ := wd_hole f j (hj.at_ h16)
    have hall : ∀ i, i < 64 * j + t → f i = true := fun i hi => by
      by_cases hi' : i < 64 * j
      · exact hbel i hi'
      · have := h1 (i - 64 * j) (by omega)
        rwa [show 64 * j + (i - 64 * j) = i by omega] at this
    refine ⟨t, q, ht, e, ?_⟩
    by_cases hn : 64 * j + t < n
    · exact .inl ⟨hn, by omega, hall, fun _ => h0⟩
    · exact .inr ⟨by omega, Nat.le_refl _, fun i hi => hall i (by omega), fun h => by omega⟩
  · refine .inl ⟨by omega, Nat.le_refl _, fun i hi => hbel i (by omega), fun h => by omega⟩
theorem not_nat (x : Nat) (hx : x < 18446744073709551616) : bits .xor .u64 IntKind.u64.max (x : Int) = ((18446744073709551615 - x : Nat) : Int) := by
  have h1 : IntKind.u64.max = ((18446744073709551615 : Nat) : Int) := by decide
  have e : (18446744073709551616 : Nat) = 2 ^ 64 := by decide
  rw [h1, u64_xor_nat 18446744073709551615 x (by decide) hx]
  refine congrArg _ (Nat.eq_of_testBit_eq fun i => ?_)
  rw [Nat.testBit_xor, show 18446744073709551615 - x = 2 ^ 64 - (x + 1) by omega, Nat.testBit_two_pow_sub_succ (by omega), show (18446744073709551615 : Nat) = 2 ^ 64 - 1 by decide, Nat.testBit_two_pow_sub_one]
  by_cases hi : i < 64
  · simp [hi]
  · have : x.testBit i = false := Nat.testBit_lt_two_pow (Nat.lt_of_lt_of_le (by omega : x < 2 ^ 64) (Nat.pow_le_pow_right (by decide) (by omega)))
    simp [hi, this]
set_option maxHeartbeats 400000 in
theorem full_any (x : Nat) (w : World) (b : Bool) (hx : x < 18446744073709551616) (hb : b = decide (x ≠ 18446744073709551615)) :
    Calls Tryd.prog 24 #[.int .u64 (x : Int)] w fun e w' => e = .returned (.bool b) ∧ w = w' := by
  have hd : (bits .xor .u64 IntKind.u64.max (x : Int) != 0) = b := by
    rw [not_nat x hx, hb]
    by_cases h : x = 18446744073709551615
    · subst h; rfl
    · have : (((18446744073709551615 - x : Nat) : Int) != 0) = true := by simp; omega
      rw [this]; simp [h]
  generalize (x : Int) = X at *
  clear hb hx
  go_enter Tryd.func24, Tryd.ntmps24
  go_wp2_with fail
  go_ret
  exact ⟨rfl, rfl⟩
set_option maxHeartbeats 400000 in
theorem index_any (f : Nat → Bool) (n j g : Nat) (w : World) (hj : Hole f j) (hm : Mp w g f n) :
    Calls Tryd.prog 23 #[.slice (some ⟨g, 0, none⟩) 16 16, .func (.func 24) #[] #[]] w fun e w' => e = .returned (.int .i64 (if j < 16 then (j : Int) else -1)) ∧ w = w' := by
  have Hm := Lib.hid hm
  have Hj := Lib.hid hj
  have Hl := Lib.hid (wd_lt f)
  have hle := hj.le
  obtain ⟨z, hz⟩ : ∃ z : Int, (if j < 16 then (j : Int) else -1) = z := ⟨_, rfl⟩
  rw [hz]
  have Hz := Lib.hid hz
  clear hm hj hz
  go_enter Tryd.func23, Tryd.ntmps23
  go_wp2_with fail
  go_loop [8] (fun i => ∃ k : Nat, k ≤ j ∧ i = .int .i64 k) (fun i => 16 - (intOf i).toNat)
  case atStart => exact ⟨0, by omega, rfl⟩
  case round =>
    obtain ⟨k, hk, rfl⟩ := hrel
    by_cases hlt : k < 16
    · have hkk : (k : Int) < 16 := by omega
      have y := Hm.out.word k hlt
      rcases Nat.lt_or_eq_of_le hk with hkj | hkj
      · have hf := Lib.hid (full_any (wd f k) w false (Hl.out k) (by rw [Hj.out.below k hkj]; rfl))
        generalize wd f k = x at *
        go_wp2_with fail
        refine (hf.out).mono ?_
        rintro e w' ⟨rfl, rfl⟩
        go_wp2_with fail
        go_round
        case rel => exact ⟨k + 1, by omega, by go_num⟩
        case measure => simp [intOf]; omega
      · have hf := Lib.hid (full_any (wd f k) w true (Hl.out k) (by
          have := Hj.out.at_ (by omega)
          rw [hkj]
          simp [this]))
        have hzk : Hid ((k : Int) = z) := Lib.hid (by rw [← Hz.out, if_pos (by omega), hkj])
        generalize wd f k = x at *
        clear hkj
        go_wp2_with fail
        refine (hf.out).mono ?_
        rintro e w' ⟨rfl, rfl⟩
        go_wp2_with fail
        go_ret
        exact ⟨by rw [← hzk.out]; rfl, rfl⟩
    · obtain rfl : k = 16 := by omega
      have hzk : Hid (-1 = z) := Lib.hid (by rw [← Hz.out, if_neg (by omega)])
      go_wp2_with fail
      go_ret
      exact ⟨by rw [← hzk.out]; rfl, rfl⟩
set_option maxHeartbeats 400000 in
theorem find_any (f : Nat → Bool) (n k : Nat) (w : World) (h : Wf f n) (hk : Least f n k) (tb : Tbl w) :
    Calls Tryd.prog 16 #[.agg (mcs f n).toArray] w fun e w' => e = .returned (.tuple #[.int .i64 (if k < n then (k : Int) else 0), .bool (decide (k < n))]) ∧ Kp (fun _ => False) w w' := by
  obtain ⟨W, hW, hb, hkw⟩ : ∃ W, W = w.alloc (.cells (mcs f n).toArray 27) ∧ Mp W w.heap.size f n ∧ Kp (fun _ => False) w W := ⟨_, rfl, Mp.new w f n, (Kp.refl _ w).alloc _⟩
  obtain ⟨j, hj⟩ : ∃ j, Hole f j := by
    obtain ⟨j, hj⟩ := least_is (fun i => decide (wd f i = 18446744073709551615)) 16
    exact ⟨j, hj.le, fun i hi => by simpa using hj.below i hi, fun hlt => by simpa using hj.at_ hlt⟩
  have HI := Lib.hid (index_any f n j w.heap.size W hj hb)
  have HW := Lib.hid hW
  have K := Lib.hid hkw
  have HB := Lib.hid hb
  have HT := Lib.hid (tb.kp hkw (fun h => h))
  have hl := hole_least f n h j hj
  clear hW hb hkw
  rcases hl with ⟨rfl, hn⟩ | ⟨h16, t, q, ht, he, hl⟩
  · obtain rfl := hk.one hn
    rw [if_neg (Nat.lt_irrefl _), decide_eq_false (Nat.lt_irrefl _)]
    rw [if_neg (Nat.lt_irrefl _)] at HI
    clear h hk hn hj
    go_enter Tryd.func16, Tryd.ntmps16
    go_upto_region 1 with fail
    rw [← HW.out]
    go_wp2_with fail
    refine (HI.out).mono ?_
    rintro e w' ⟨rfl, rfl⟩
    go_wp2_with fail
    go_ret2
    exact ⟨rfl, K.out⟩
  · rw [if_pos h16] at HI
    have y := HB.out.word j h16
    have hlt := wd_lt f j
    have hnot := not_nat (wd f j) hlt
    rw [he] at hnot
    have HZ := Lib.hid (tz_any t q W ht (by rw [← he]; omega) HT.out)
    have hp := Lib.hid (ispage_any f n ((64 * j + t : Nat) : Int) W)
    have hji : (j : Int) < 16 := by omega
    have hti : (t : Int) < 64 := by omega
    have hadd : (j : Int) * 64 + t = ((64 * j + t : Nat) : Int) := by omega
    have Hadd := Lib.hid hadd
    obtain ⟨Z, hZ⟩ : ∃ Z, ((2 ^ t * (2 * q + 1) : Nat) : Int) = Z := ⟨_, rfl⟩
    rw [hZ] at hnot HZ
    obtain ⟨X, hX⟩ : ∃ X, ((wd f j : Nat) : Int) = X := ⟨_, rfl⟩
    rw [hX] at hnot y
    clear hX hZ he hlt hadd
    have go : ∀ b : Bool, pgB n ((64 * j + t : Nat) : Int) = b → Calls Tryd.prog 16 #[.agg (mcs f n).toArray] w fun e w' => e = .returned (.tuple #[.int .i64 (if b then ((64 * j + t : Nat) : Int) else 0), .bool b]) ∧ Kp (fun _ => False) w w' := by
      intro b hb
      rw [hb] at hp
      clear hb hl hk h hj
      rcases b with _ | _
      · go_enter Tryd.func16, Tryd.ntmps16
        go_upto_region 1 with fail
        rw [← HW.out]
        go_wp2_with fail
        refine (HI.out).mono ?_
        rintro e w' ⟨rfl, rfl⟩
        go_wp2_with fail
        refine (HZ.out).mono ?_
        rintro e w' ⟨rfl, rfl⟩
        go_wp2_with (first | (refine wpList_load_mid rfl 27 (.tmp 1) rfl w.heap.size 0 rfl (mcs f n) _ (Mp.range HB.out) Tryd.underlying27 rfl (infoMca _ _) ?_) | fail)
        rw [Hadd.out]
        refine (hp.out).mono ?_
        rintro e w1 ⟨rfl, k1⟩
        have K1 := Lib.hid (K.out.trans k1)
        clear k1
        go_wp2_with fail
        go_ret2
        exact ⟨rfl, K1.out⟩
      · go_enter Tryd.func16, Tryd.ntmps16
        go_upto_region 1 with fail
        rw [← HW.out]
        go_wp2_with fail
        refine (HI.out).mono ?_
        rintro e w' ⟨rfl, rfl⟩
        go_wp2_with fail
        refine (HZ.out).mono ?_
        rintro e w' ⟨rfl, rfl⟩
        go_wp2_with (first | (refine wpList_load_mid rfl 27 (.tmp 1) rfl w.heap.size 0 rfl (mcs f n) _ (Mp.range HB.out) Tryd.underlying27 rfl (infoMca _ _) ?_) | fail)
        rw [Hadd.out]
        refine (hp.out).mono ?_
        rintro e w1 ⟨rfl, k1⟩
        have K1 := Lib.hid (K.out.trans k1)
        clear k1
        go_wp2_with fail
        go_ret2
        exact ⟨rfl, K1.out⟩
    rcases hl with ⟨h1, hl⟩ | ⟨h1, hl⟩
    · obtain rfl := hk.one hl
      have := go true (pgB_true (by omega) (by omega))
      rw [if_pos h1, decide_eq_true h1]
      simpa using this
    · obtain rfl := hk.one hl
      have := go false (pgB_false (.inr (by omega)))
      rw [if_neg (Nat.lt_irrefl _), decide_eq_false (Nat.lt_irrefl _)]
      simpa using this
end Go.Proofs.YtlhfdoaknfgemaaDoor
