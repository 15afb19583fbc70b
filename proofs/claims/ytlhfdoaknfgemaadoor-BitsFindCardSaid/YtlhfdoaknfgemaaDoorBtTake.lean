/- The map of a page. Conditions: the slice has its bytes. -/
import Derived.Test.YtlhfdoaknfgemaaDoorBtEnd
import Derived.Test.YtlhfdoaknfgemaaDoorBtBytes
import Derived.Test.YtlhfdoaknfgemaaDoorBtSetB
namespace Go.Proofs.YtlhfdoaknfgemaaDoor
open Go.RowKit

/-- The bits of the first k bytes. -/
def upto (l : List UInt8) (k : Nat) : Nat → Bool := fun i => decide (i < 8 * k) && bitL l i
theorem upto_zero (l : List UInt8) : upto l 0 = nof := by funext i; simp [upto, nof]
theorem bitL_byte (l : List UInt8) (k j : Nat) (hj : j < 8) : bitL l (8 * k + j) = (l.getD k 0).toNat.testBit j := by
  unfold bitL
  rw [show (8 * k + j) / 8 = k by omega, show (8 * k + j) % 8 = j by omega]
theorem upto_or (l : List UInt8) (k : Nat) : wd (upto l k) (k * 8 / 64) ||| ((l.getD k 0).toNat * 2 ^ (k * 8 % 64)) = wd (upto l (k + 1)) (k * 8 / 64) := by
  have hx := (l.getD k 0).toNat_lt
  refine Nat.eq_of_testBit_eq fun i => ?_
  rw [Nat.testBit_or, wd_bit, wd_bit, Nat.mul_comm (l.getD k 0).toNat, Nat.testBit_two_pow_mul]
  by_cases hi : i < 64
  · by_cases h1 : i < k * 8 % 64
    · have a1 : 64 * (k * 8 / 64) + i < 8 * k := by omega
      have a2 : 64 * (k * 8 / 64) + i < 8 * (k + 1) := by omega
      have a3 : ¬ k * 8 % 64 ≤ i := by omega
      simp [upto, hi, a1, a2, a3]
    · have a3 : k * 8 % 64 ≤ i := by omega
      have a1 : ¬ 64 * (k * 8 / 64) + i < 8 * k := by omega
      by_cases h2 : i < k * 8 % 64 + 8
      · have a2 : 64 * (k * 8 / 64) + i < 8 * (k + 1) := by omega
        have a4 : 64 * (k * 8 / 64) + i = 8 * k + (i - k * 8 % 64) := by omega
        have a5 := bitL_byte l k (i - k * 8 % 64) (by omega)
        rw [← a4] at a5
        simp [upto, hi, a1, a2, a3, a5]
      · have a2 : ¬ 64 * (k * 8 / 64) + i < 8 * (k + 1) := by omega
        have a5 : (l.getD k 0).toNat.testBit (i - k * 8 % 64) = false := Nat.testBit_lt_two_pow (Nat.lt_of_lt_of_le hx (show 2 ^ 8 ≤ 2 ^ (i - k * 8 % 64) from Nat.pow_le_pow_right (by decide) (by omega)))
        rw [List.getD_eq_getElem?_getD] at a5
        simp [upto, hi, a1, a2, a5]
  · have a5 : (l.getD k 0).toNat.testBit (i - k * 8 % 64) = false := Nat.testBit_lt_two_pow (Nat.lt_of_lt_of_le hx (show 2 ^ 8 ≤ 2 ^ (i - k * 8 % 64) from Nat.pow_le_pow_right (by decide) (by omega)))
    rw [List.getD_eq_getElem?_getD] at a5
    simp [hi, a5]
theorem upto_other (l : List UInt8) (k j : Nat) (hj : j ≠ k * 8 / 64) : wd (upto l (k + 1)) j = wd (upto l k) j := by
  refine wd_congr _ _ _ fun i hi => ?_
  unfold upto
  have : (64 * j + i < 8 * (k + 1)) ↔ (64 * j + i < 8 * k) := by omega
  simp [this]
theorem upto_end (l : List UInt8) (n : Nat) (hn : n ≤ 1024) (h : ∀ i, n ≤ i → bitL l i = false) : upto l 128 = bitL l := by
  funext i
  unfold upto
  by_cases hi : i < 8 * 128
  · simp [hi]
  · rw [h i (by omega)]; simp
theorem byte_shift (x s : Nat) (hx : x < 256) (hs : s ≤ 56) : x * 2 ^ s < 18446744073709551616 := by
  have h1 : (2 : Nat) ^ s ≤ 2 ^ 56 := Nat.pow_le_pow_right (by decide) hs
  have h2 : x * 2 ^ s ≤ 255 * 2 ^ 56 := Nat.mul_le_mul (by omega) h1
  have h3 : 255 * 2 ^ 56 < 18446744073709551616 := by decide
  omega
set_option maxHeartbeats 1000000 in
theorem take_arg (A : Option Addr) (m c : Nat) (i : Int) (w : World) (h : ¬ (1 ≤ i ∧ i ≤ 1024)) :
    Calls Tryd.prog 14 #[.slice A m c, .int .i64 i] w fun e w' => e = .returned (.tuple #[.agg (mcs nof 0).toArray, .int .i64 2]) ∧ Kp (fun _ => False) w w' := by
  have Hr : Hid (Tryd.f14.results = #[.cell 4 27, .tmp 5]) := Lib.hid (by kernel_rfl)
  obtain ⟨W, hW, hz, hk⟩ : ∃ W, W = w.alloc (.cells #[.int .u64 0, .int .u64 0, .int .u64 0, .int .u64 0, .int .u64 0, .int .u64 0, .int .u64 0, .int .u64 0, .int .u64 0, .int .u64 0, .int .u64 0, .int .u64 0, .int .u64 0, .int .u64 0, .int .u64 0, .int .u64 0, .int .i64 0] 27) ∧ Box W w.heap.size 27 #[.int .u64 0, .int .u64 0, .int .u64 0, .int .u64 0, .int .u64 0, .int .u64 0, .int .u64 0, .int .u64 0, .int .u64 0, .int .u64 0, .int .u64 0, .int .u64 0, .int .u64 0, .int .u64 0, .int .u64 0, .int .u64 0, .int .i64 0] ∧ Kp (fun _ => False) w W := ⟨_, rfl, Box.new w _ _, (Kp.refl _ w).alloc _⟩
  have HW := Lib.hid hW
  have HZ := Lib.hid hz
  have K := Lib.hid hk
  have hnew := new_any i W
  rw [if_neg h, if_neg h] at hnew
  have HN := Lib.hid hnew
  clear hW hz hk hnew h
  go_enter Tryd.func14, Tryd.ntmps14
  go_upto_region 1 with fail
  rw [← HW.out]
  go_wp2_with fail
  refine HN.out.mono ?_
  rintro e w1 ⟨rfl, k1⟩
  have K1 := Lib.hid (K.out.trans k1)
  have HZ1 := Lib.hid (HZ.out.kp k1 (fun h => h))
  have hlt1 := Lib.hid HZ1.out.lt
  clear k1
  go_upto_region 2 with (first | (refine bstore_box rfl 27 (.tmp 6) (.tmp 14) rfl (w1.heap.size) (mcs nof 0) rfl rfl (Box.new w1 _ _) (by rw [mcs_length]; rfl) (infoMcs _ _) (mcs_one _ _) ?_; intro w2 hb2 hk2) | fail)
  have K2 := Lib.hid ((K1.out.alloc (.cells #[.int .u64 0, .int .u64 0, .int .u64 0, .int .u64 0, .int .u64 0, .int .u64 0, .int .u64 0, .int .u64 0, .int .u64 0, .int .u64 0, .int .u64 0, .int .u64 0, .int .u64 0, .int .u64 0, .int .u64 0, .int .u64 0, .int .i64 0] 27)).trans_new hk2 (fun k e => .inl (by have := hlt1.out; omega)))
  have HZ2 := Lib.hid ((HZ1.out.alloc (.cells #[.int .u64 0, .int .u64 0, .int .u64 0, .int .u64 0, .int .u64 0, .int .u64 0, .int .u64 0, .int .u64 0, .int .u64 0, .int .u64 0, .int .u64 0, .int .u64 0, .int .u64 0, .int .u64 0, .int .u64 0, .int .u64 0, .int .i64 0] 27)).kp hk2 (fun e => by have := hlt1.out; omega))
  have HM2 : Mp w2 w1.heap.size nof 0 := hb2
  clear hk2
  go_wp2_with (first | (refine bstore_box rfl 27 (.tmp 4) (.tmp 18) rfl (w.heap.size) ([.int .u64 0, .int .u64 0, .int .u64 0, .int .u64 0, .int .u64 0, .int .u64 0, .int .u64 0, .int .u64 0, .int .u64 0, .int .u64 0, .int .u64 0, .int .u64 0, .int .u64 0, .int .u64 0, .int .u64 0, .int .u64 0, .int .i64 0]) rfl rfl HZ2.out rfl infoMap (zone 0) ?_; intro w5 hb5 hk5) | fail)
  refine bodyPost_ret (v := .tuple #[.agg (mcs nof 0).toArray, .int .i64 2]) ?_ rfl ⟨rfl, K2.out.trans_new hk5 (fun k e => .inl (by omega))⟩
  have hb6 : Box w5 w.heap.size 27 (mcs nof 0).toArray := by rw [← zlit]; exact hb5
  exact bresults_two Hr.out _ _ w.heap.size 27 _ (0, 0) _ rfl hb6 Tryd.underlying27 rfl (infoMca _ _)
set_option maxRecDepth 100000 in
set_option maxHeartbeats 1000000 in
theorem take_short (A : Option Addr) (m c : Nat) (n : Nat) (w : World) (h1 : 1 ≤ n) (h2 : n ≤ 1024) (h : m ≠ 512) :
    Calls Tryd.prog 14 #[.slice A m c, .int .i64 (n : Int)] w fun e w' => e = .returned (.tuple #[.agg (mcs nof 0).toArray, .int .i64 3]) ∧ Kp (fun _ => False) w w' := by
  have Hr : Hid (Tryd.f14.results = #[.cell 4 27, .tmp 5]) := Lib.hid (by kernel_rfl)
  obtain ⟨W, hW, hz, hk⟩ : ∃ W, W = w.alloc (.cells #[.int .u64 0, .int .u64 0, .int .u64 0, .int .u64 0, .int .u64 0, .int .u64 0, .int .u64 0, .int .u64 0, .int .u64 0, .int .u64 0, .int .u64 0, .int .u64 0, .int .u64 0, .int .u64 0, .int .u64 0, .int .u64 0, .int .i64 0] 27) ∧ Box W w.heap.size 27 #[.int .u64 0, .int .u64 0, .int .u64 0, .int .u64 0, .int .u64 0, .int .u64 0, .int .u64 0, .int .u64 0, .int .u64 0, .int .u64 0, .int .u64 0, .int .u64 0, .int .u64 0, .int .u64 0, .int .u64 0, .int .u64 0, .int .i64 0] ∧ Kp (fun _ => False) w W := ⟨_, rfl, Box.new w _ _, (Kp.refl _ w).alloc _⟩
  have HW := Lib.hid hW
  have HZ := Lib.hid hz
  have K := Lib.hid hk
  have hnew := new_any (n : Int) W
  rw [if_pos ⟨by omega, by omega⟩, if_pos ⟨by omega, by omega⟩, Int.toNat_natCast] at hnew
  have HN := Lib.hid hnew
  clear hW hz hk hnew
  have hne : ((m : Int) != 512) = true := by simp; omega
  go_enter Tryd.func14, Tryd.ntmps14
  go_upto_region 1 with fail
  rw [← HW.out]
  go_wp2_with fail
  refine HN.out.mono ?_
  rintro e w1 ⟨rfl, k1⟩
  have K1 := Lib.hid (K.out.trans k1)
  have HZ1 := Lib.hid (HZ.out.kp k1 (fun h => h))
  have hlt1 := Lib.hid HZ1.out.lt
  clear k1
  go_upto_region 2 with (first | (refine bstore_box rfl 27 (.tmp 6) (.tmp 14) rfl (w1.heap.size) (mcs nof n) rfl rfl (Box.new w1 _ _) (by rw [mcs_length]; rfl) (infoMcs _ _) (mcs_one _ _) ?_; intro w2 hb2 hk2) | fail)
  have K2 := Lib.hid ((K1.out.alloc (.cells #[.int .u64 0, .int .u64 0, .int .u64 0, .int .u64 0, .int .u64 0, .int .u64 0, .int .u64 0, .int .u64 0, .int .u64 0, .int .u64 0, .int .u64 0, .int .u64 0, .int .u64 0, .int .u64 0, .int .u64 0, .int .u64 0, .int .i64 0] 27)).trans_new hk2 (fun k e => .inl (by have := hlt1.out; omega)))
  have HZ2 := Lib.hid ((HZ1.out.alloc (.cells #[.int .u64 0, .int .u64 0, .int .u64 0, .int .u64 0, .int .u64 0, .int .u64 0, .int .u64 0, .int .u64 0, .int .u64 0, .int .u64 0, .int .u64 0, .int .u64 0, .int .u64 0, .int .u64 0, .int .u64 0, .int .u64 0, .int .i64 0] 27)).kp hk2 (fun e => by have := hlt1.out; omega))
  have HM2 : Mp w2 w1.heap.size nof n := hb2
  clear hk2
  go_wp2_with (first | (refine bstore_box rfl 27 (.tmp 4) (.tmp 29) rfl (w.heap.size) ([.int .u64 0, .int .u64 0, .int .u64 0, .int .u64 0, .int .u64 0, .int .u64 0, .int .u64 0, .int .u64 0, .int .u64 0, .int .u64 0, .int .u64 0, .int .u64 0, .int .u64 0, .int .u64 0, .int .u64 0, .int .u64 0, .int .i64 0]) rfl rfl HZ2.out rfl infoMap (zone 0) ?_; intro w5 hb5 hk5) | fail)
  refine bodyPost_ret (v := .tuple #[.agg (mcs nof 0).toArray, .int .i64 3]) ?_ rfl ⟨rfl, K2.out.trans_new hk5 (fun k e => .inl (by omega))⟩
  have hb6 : Box w5 w.heap.size 27 (mcs nof 0).toArray := by rw [← zlit]; exact hb5
  exact bresults_two Hr.out _ _ w.heap.size 27 _ (0, 0) _ rfl hb6 Tryd.underlying27 rfl (infoMca _ _)
set_option maxRecDepth 100000 in
set_option maxHeartbeats 1000000 in
theorem take_bit (b o c : Nat) (l : List UInt8) (n : Nat) (w : World) (h1 : 1 ≤ n) (h2 : n ≤ 1024) (hl : l.length = 512) (jb : Nat) (hj : n ≤ jb) (hbj : bitL l jb = true) (hcn : ∀ j u, l[j]? = some u → w.cell? ⟨b, o + j, none⟩ = some (.int .u8 u.toNat)) :
    Calls Tryd.prog 14 #[.slice (some ⟨b, o, none⟩) 512 c, .int .i64 (n : Int)] w fun e w' => e = .returned (.tuple #[.agg (mcs nof 0).toArray, .int .i64 3]) ∧ Kp (fun _ => False) w w' := by
  have Hr : Hid (Tryd.f14.results = #[.cell 4 27, .tmp 5]) := Lib.hid (by kernel_rfl)
  obtain ⟨W, hW, hz, hk⟩ : ∃ W, W = w.alloc (.cells #[.int .u64 0, .int .u64 0, .int .u64 0, .int .u64 0, .int .u64 0, .int .u64 0, .int .u64 0, .int .u64 0, .int .u64 0, .int .u64 0, .int .u64 0, .int .u64 0, .int .u64 0, .int .u64 0, .int .u64 0, .int .u64 0, .int .i64 0] 27) ∧ Box W w.heap.size 27 #[.int .u64 0, .int .u64 0, .int .u64 0, .int .u64 0, .int .u64 0, .int .u64 0, .int .u64 0, .int .u64 0, .int .u64 0, .int .u64 0, .int .u64 0, .int .u64 0, .int .u64 0, .int .u64 0, .int .u64 0, .int .u64 0, .int .i64 0] ∧ Kp (fun _ => False) w W := ⟨_, rfl, Box.new w _ _, (Kp.refl _ w).alloc _⟩
  have HW := Lib.hid hW
  have HZ := Lib.hid hz
  have K := Lib.hid hk
  have hnew := new_any (n : Int) W
  rw [if_pos ⟨by omega, by omega⟩, if_pos ⟨by omega, by omega⟩, Int.toNat_natCast] at hnew
  have HN := Lib.hid hnew
  clear hW hz hk hnew
  have HCN := Lib.hid hcn
  have HJ := Lib.hid hbj
  clear hbj
  have HL := Lib.hid hl
  clear hcn hl
  go_enter Tryd.func14, Tryd.ntmps14
  go_upto_region 1 with fail
  rw [← HW.out]
  go_wp2_with fail
  refine HN.out.mono ?_
  rintro e w1 ⟨rfl, k1⟩
  have K1 := Lib.hid (K.out.trans k1)
  have HZ1 := Lib.hid (HZ.out.kp k1 (fun h => h))
  have hlt1 := Lib.hid HZ1.out.lt
  clear k1
  go_upto_region 2 with (first | (refine bstore_box rfl 27 (.tmp 6) (.tmp 14) rfl (w1.heap.size) (mcs nof n) rfl rfl (Box.new w1 _ _) (by rw [mcs_length]; rfl) (infoMcs _ _) (mcs_one _ _) ?_; intro w2 hb2 hk2) | fail)
  have K2 := Lib.hid ((K1.out.alloc (.cells #[.int .u64 0, .int .u64 0, .int .u64 0, .int .u64 0, .int .u64 0, .int .u64 0, .int .u64 0, .int .u64 0, .int .u64 0, .int .u64 0, .int .u64 0, .int .u64 0, .int .u64 0, .int .u64 0, .int .u64 0, .int .u64 0, .int .i64 0] 27)).trans_new hk2 (fun k e => .inl (by have := hlt1.out; omega)))
  have HZ2 := Lib.hid ((HZ1.out.alloc (.cells #[.int .u64 0, .int .u64 0, .int .u64 0, .int .u64 0, .int .u64 0, .int .u64 0, .int .u64 0, .int .u64 0, .int .u64 0, .int .u64 0, .int .u64 0, .int .u64 0, .int .u64 0, .int .u64 0, .int .u64 0, .int .u64 0, .int .i64 0] 27)).kp hk2 (fun e => by have := hlt1.out; omega))
  have HM2 : Mp w2 w1.heap.size nof n := hb2
  clear hk2
  have hend := end_any b o c l w2 (by rw [HL.out]; decide) (by rw [HL.out]; decide) (fun j u hu => (K2.out.cell (p := ⟨b, o + j, none⟩) (World.block_lt_of_cell? w _ (HCN.out j u hu)) (fun h => h)).trans (HCN.out j u hu))
  rw [HL.out] at hend
  have HE := Lib.hid hend
  clear hend
  go_wp2_with fail
  refine HE.out.mono ?_
  rintro e w3 ⟨z, rfl, hz, k3⟩
  have K3 := Lib.hid (K2.out.trans k3)
  have HZ3 := Lib.hid (HZ2.out.kp k3 (fun h => h))
  have HM3 := Lib.hid (Mp.kp HM2 k3 (fun h => h))
  have Hz := Lib.hid hz
  clear k3 hz HM2
  have hzn : (n : Int) < z := by
    rcases Nat.lt_or_ge n z with h | h
    · omega
    · have := Hz.out.off jb (by omega)
      rw [HJ.out] at this; cases this
  go_wp2_with (first | (refine bstore_box rfl 27 (.tmp 4) (.tmp 29) rfl (w.heap.size) ([.int .u64 0, .int .u64 0, .int .u64 0, .int .u64 0, .int .u64 0, .int .u64 0, .int .u64 0, .int .u64 0, .int .u64 0, .int .u64 0, .int .u64 0, .int .u64 0, .int .u64 0, .int .u64 0, .int .u64 0, .int .u64 0, .int .i64 0]) rfl rfl HZ3.out rfl infoMap (zone 0) ?_; intro w5 hb5 hk5) | fail)
  refine bodyPost_ret (v := .tuple #[.agg (mcs nof 0).toArray, .int .i64 3]) ?_ rfl ⟨rfl, K3.out.trans_new hk5 (fun k e => .inl (by omega))⟩
  have hb6 : Box w5 w.heap.size 27 (mcs nof 0).toArray := by rw [← zlit]; exact hb5
  exact bresults_two Hr.out _ _ w.heap.size 27 _ (0, 0) _ rfl hb6 Tryd.underlying27 rfl (infoMca _ _)
set_option maxRecDepth 100000 in
set_option maxHeartbeats 1000000 in
theorem take_ok (b o c : Nat) (l : List UInt8) (n : Nat) (w : World) (h1 : 1 ≤ n) (h2 : n ≤ 1024) (hl : l.length = 512) (hoff : ∀ i, n ≤ i → bitL l i = false) (hcn : ∀ j u, l[j]? = some u → w.cell? ⟨b, o + j, none⟩ = some (.int .u8 u.toNat)) :
    Calls Tryd.prog 14 #[.slice (some ⟨b, o, none⟩) 512 c, .int .i64 (n : Int)] w fun e w' => e = .returned (.tuple #[.agg (mcs (bitL l) n).toArray, .int .i64 0]) ∧ Kp (fun _ => False) w w' := by
  have Hr : Hid (Tryd.f14.results = #[.cell 4 27, .tmp 5]) := Lib.hid (by kernel_rfl)
  obtain ⟨W, hW, hz, hk⟩ : ∃ W, W = w.alloc (.cells #[.int .u64 0, .int .u64 0, .int .u64 0, .int .u64 0, .int .u64 0, .int .u64 0, .int .u64 0, .int .u64 0, .int .u64 0, .int .u64 0, .int .u64 0, .int .u64 0, .int .u64 0, .int .u64 0, .int .u64 0, .int .u64 0, .int .i64 0] 27) ∧ Box W w.heap.size 27 #[.int .u64 0, .int .u64 0, .int .u64 0, .int .u64 0, .int .u64 0, .int .u64 0, .int .u64 0, .int .u64 0, .int .u64 0, .int .u64 0, .int .u64 0, .int .u64 0, .int .u64 0, .int .u64 0, .int .u64 0, .int .u64 0, .int .i64 0] ∧ Kp (fun _ => False) w W := ⟨_, rfl, Box.new w _ _, (Kp.refl _ w).alloc _⟩
  have HW := Lib.hid hW
  have HZ := Lib.hid hz
  have K := Lib.hid hk
  have hnew := new_any (n : Int) W
  rw [if_pos ⟨by omega, by omega⟩, if_pos ⟨by omega, by omega⟩, Int.toNat_natCast] at hnew
  have HN := Lib.hid hnew
  clear hW hz hk hnew
  have HCN := Lib.hid hcn
  have HOFF := Lib.hid hoff
  clear hoff
  have HL := Lib.hid hl
  clear hcn hl
  go_enter Tryd.func14, Tryd.ntmps14
  go_upto_region 1 with fail
  rw [← HW.out]
  go_wp2_with fail
  refine HN.out.mono ?_
  rintro e w1 ⟨rfl, k1⟩
  have K1 := Lib.hid (K.out.trans k1)
  have HZ1 := Lib.hid (HZ.out.kp k1 (fun h => h))
  have hlt1 := Lib.hid HZ1.out.lt
  clear k1
  go_upto_region 2 with (first | (refine bstore_box rfl 27 (.tmp 6) (.tmp 14) rfl (w1.heap.size) (mcs nof n) rfl rfl (Box.new w1 _ _) (by rw [mcs_length]; rfl) (infoMcs _ _) (mcs_one _ _) ?_; intro w2 hb2 hk2) | fail)
  have K2 := Lib.hid ((K1.out.alloc (.cells #[.int .u64 0, .int .u64 0, .int .u64 0, .int .u64 0, .int .u64 0, .int .u64 0, .int .u64 0, .int .u64 0, .int .u64 0, .int .u64 0, .int .u64 0, .int .u64 0, .int .u64 0, .int .u64 0, .int .u64 0, .int .u64 0, .int .i64 0] 27)).trans_new hk2 (fun k e => .inl (by have := hlt1.out; omega)))
  have HZ2 := Lib.hid ((HZ1.out.alloc (.cells #[.int .u64 0, .int .u64 0, .int .u64 0, .int .u64 0, .int .u64 0, .int .u64 0, .int .u64 0, .int .u64 0, .int .u64 0, .int .u64 0, .int .u64 0, .int .u64 0, .int .u64 0, .int .u64 0, .int .u64 0, .int .u64 0, .int .i64 0] 27)).kp hk2 (fun e => by have := hlt1.out; omega))
  have HM2 : Mp w2 w1.heap.size nof n := hb2
  clear hk2
  have hend := end_any b o c l w2 (by rw [HL.out]; decide) (by rw [HL.out]; decide) (fun j u hu => (K2.out.cell (p := ⟨b, o + j, none⟩) (World.block_lt_of_cell? w _ (HCN.out j u hu)) (fun h => h)).trans (HCN.out j u hu))
  rw [HL.out] at hend
  have HE := Lib.hid hend
  clear hend
  go_wp2_with fail
  refine HE.out.mono ?_
  rintro e w3 ⟨z, rfl, hz, k3⟩
  have K3 := Lib.hid (K2.out.trans k3)
  have HZ3 := Lib.hid (HZ2.out.kp k3 (fun h => h))
  have HM3 := Lib.hid (Mp.kp HM2 k3 (fun h => h))
  have Hz := Lib.hid hz
  clear k3 hz HM2
  have hzn : ¬ (n : Int) < z := by
    intro h
    have h1 := Hz.out.on (by omega)
    rw [HOFF.out (z - 1) (by omega)] at h1; cases h1
  have hdz : decide (n < z) = false := by simp; omega
  have HC3 : Hid (∀ j u, l[j]? = some u → w3.cell? ⟨b, o + j, none⟩ = some (.int .u8 u.toNat)) := Lib.hid fun j u hu =>
    (K3.out.cell (p := ⟨b, o + j, none⟩) (World.block_lt_of_cell? w _ (HCN.out j u hu)) (fun h => h)).trans (HCN.out j u hu)
  have HB1 := Lib.hid (World.block_lt_of_cell? w ⟨b, o + 0, none⟩ (HCN.out 0 (l.getD 0 0) (by
    have : 0 < l.length := by rw [HL.out]; decide
    rw [List.getD_eq_getElem?_getD, List.getElem?_eq_getElem this]; rfl)))
  have HNW := Lib.hid (show w.heap.size < w1.heap.size from hlt1.out)
  have HM4 : Hid (Mp w3 w1.heap.size (upto l 0) n) := Lib.hid (by rw [upto_zero]; exact HM3.out)
  obtain ⟨g, hg⟩ : ∃ g, w1.heap.size = g := ⟨_, rfl⟩
  rw [hg] at HM4 HNW
  have HG := Lib.hid hg
  clear hg HM3
  have Hor := Lib.hid (upto_or l)
  have Hoth := Lib.hid (upto_other l)
  have Hend := Lib.hid (upto_end l n h2 HOFF.out)
  go_wp2_with fail
  rw [HG.out]
  go_loopw [30] (fun i wr => ∃ k : Nat, k ≤ 128 ∧ i = .int .i64 k ∧ Mp wr g (upto l k) n ∧ Kp (fun k => k = g) w3 wr)
    (fun i _ => 128 - (intOf i).toNat)
  case atStart => exact ⟨0, Nat.zero_le _, rfl, HM4.out, Kp.refl _ _⟩
  case round =>
    obtain ⟨k, hk, rfl, hm, hkw⟩ := hrel
    have HM := Lib.hid hm
    have HK := Lib.hid hkw
    clear hm hkw
    by_cases hlt : k < 128
    · have hpl := Lib.hid (place_any (k * 8) wr (by omega))
      have hgl : l[k]? = some (l.getD k 0) := by
        have : k < l.length := by rw [HL.out]; omega
        rw [List.getD_eq_getElem?_getD, List.getElem?_eq_getElem this]; rfl
      have hor := Hor.out k
      have hoth := Lib.hid (Hoth.out k)
      have hm8 : (k : Int) * 8 = ((k * 8 : Nat) : Int) := by omega
      have Hm8 := Lib.hid hm8
      have hq : k * 8 / 64 < 16 := by omega
      have hs : k * 8 % 64 ≤ 56 := by omega
      have y := HM.out.word (k * 8 / 64) hq
      have yf := HM.out.free (k * 8 / 64)
      obtain ⟨q, hqe⟩ : ∃ q, k * 8 / 64 = q := ⟨_, rfl⟩
      obtain ⟨s, hse⟩ : ∃ s, k * 8 % 64 = s := ⟨_, rfl⟩
      rw [hqe] at hq y yf hoth
      rw [hse] at hs
      rw [hqe, hse] at hpl hor
      have hxl := wd_lt (upto l k) q
      obtain ⟨v, hv⟩ : ∃ v, l.getD k 0 = v := ⟨_, rfl⟩
      rw [hv] at hor hgl
      have hc := HC3.out k v hgl
      have hcl := World.block_lt_of_cell? w3 _ hc
      have hgb : b ≠ g := by
        have h1 := HB1.out
        have h2 := HNW.out
        intro e
        have : b < w.heap.size := h1
        omega
      have c2 : wr.cell? ⟨b, o + k, none⟩ = some (.int .u8 v.toNat) := (HK.out.cell (p := ⟨b, o + k, none⟩) hcl hgb).trans hc
      have hqi : (q : Int) < 16 := by omega
      have hk5 : (k : Int) < 512 := by omega
      have hsi : (s : Int) < 64 := by omega
      have hsh := byte_shift v.toNat s v.toNat_lt hs
      have hwr : IntKind.u64.wrap ((v.toNat : Int) * 2 ^ s) = ((v.toNat * 2 ^ s : Nat) : Int) := by
        have e : (v.toNat : Int) * 2 ^ s = ((v.toNat * 2 ^ s : Nat) : Int) := by simp
        rw [e]; exact wrap64_of _ hsh
      have hob := u64_or_nat (wd (upto l k) q) (v.toNat * 2 ^ s) hxl hsh
      rw [hor, ← hwr] at hob
      have Hob := Lib.hid hob
      have Hcv := Lib.hid (wrap64_of v.toNat (Nat.lt_trans v.toNat_lt (by decide)))
      have HQ := Lib.hid hq
      clear hor hqe hse hxl hv hc hcl hgb hgl hm8 hsh hwr hob
      obtain ⟨x, hxe⟩ : ∃ x, wd (upto l k) q = x := ⟨_, rfl⟩
      rw [hxe] at y Hob
      clear hxe
      go_wp2_with fail
      rw [Hm8.out]
      refine (hpl.out).mono ?_
      rintro e w' ⟨rfl, rfl⟩
      go_wp2_with fail
      go_still_tail 14, (by kernel_rfl)
      change wpList _ _ _ _ _ wr.drew
      go_wp2_with fail
      go_roundw
      case rel =>
        refine ⟨k + 1, by omega, by go_num, ?_, (HK.out.setCell (p := ⟨g, q, none⟩) (.inr rfl) _).drew⟩
        exact (HM.out.put q HQ.out _ (by rw [Hcv.out, Hob.out]) hoth.out).drew
      case measure => simp [intOf]; omega
    · obtain rfl : k = 128 := by omega
      rw [Hend.out] at HM
      have hgw : w.heap.size ≠ g := by have := HNW.out; omega
      have HZ4 := Lib.hid (HZ3.out.kp HK.out hgw)
      have K4 : Hid (Kp (fun _ => False) w wr) := Lib.hid (K3.out.trans_new HK.out (fun k e => .inl (by have := HNW.out; omega)))
      go_wp2_with (first | (refine wpList_load_mid rfl 27 (.tmp 6) rfl g 0 rfl (mcs (bitL l) n) _ (Mp.range HM.out) Tryd.underlying27 rfl (infoMca _ _) ?_) | (refine bstore_box rfl 27 (.tmp 4) (.tmp 54) rfl (w.heap.size) (mcs (bitL l) n) rfl rfl HZ4.out (by rw [mcs_length]; rfl) (infoMcs _ _) (mcs_one _ _) ?_; intro w5 hb5 hk5) | fail)
      refine bodyPost_ret (v := .tuple #[.agg (mcs (bitL l) n).toArray, .int .i64 0]) ?_ rfl ⟨rfl, K4.out.trans_new hk5 (fun k e => .inl (by omega))⟩
      exact bresults_two Hr.out _ _ w.heap.size 27 _ (0, 0) _ rfl hb5 Tryd.underlying27 rfl (infoMca _ _)
end Go.Proofs.YtlhfdoaknfgemaaDoor
