/- The law of pages, part 27 of 55: BtTake BtFind BtLaid. -/
import Derived.Test.YtepaeliamhjgiaaGreatDoorMu1
import Derived.Test.YtepaeliamhjgiaaGreatDoorMu25
import Derived.Test.YtepaeliamhjgiaaGreatDoorMu26
import Derived.Test.YtepaeliamhjgiaaGreatDoorMu23
import Derived.Test.YtepaeliamhjgiaaGreatDoorRows
import Derived.Test.YtepaeliamhjgiaaGreatDoorCards
import Derived.Test.YtepaeliamhjgiaaGreatDoorTie
import Derived.SevenTiedAt
import Derived.Stop.Joined
set_option maxHeartbeats 16000000
set_option maxRecDepth 100000
namespace Go.Proofs.YtepaeliamhjgiaaGreatDoor.Bt
open Go.RowKit
def upto (l : List UInt8) (k : Nat) : Nat -> Bool := fun i => decide (i < 8 * k) && bitL l i
theorem upto_zero (l : List UInt8) : upto l 0 = nof := by funext i; simp [upto, nof]
theorem bitL_byte (l : List UInt8) (k j : Nat) (hj : j < 8) : bitL l (8 * k + j) = (l.getD k 0).toNat.testBit j := by
 unfold bitL
 rw [show (8 * k + j) / 8 = k by omega, show (8 * k + j) % 8 = j by omega]
theorem upto_or (l : List UInt8) (k : Nat) : wd (upto l k) (k * 8 / 64) ||| ((l.getD k 0).toNat * 2 ^ (k * 8 % 64)) = wd (upto l (k + 1)) (k * 8 / 64) := by
 have hx := (l.getD k 0).toNat_lt
 refine Nat.eq_of_testBit_eq fun i => ?_
 rw [Nat.testBit_or, wd_bit, wd_bit, Nat.mul_comm (l.getD k 0).toNat, Nat.testBit_two_pow_mul]
 by_cases hi : i < 64
 ·by_cases h1 : i < k * 8 % 64
  ·have a1 : 64 * (k * 8 / 64) + i < 8 * k := by omega
   have a2 : 64 * (k * 8 / 64) + i < 8 * (k + 1) := by omega
   have a3 : ¬ k * 8 % 64 <= i := by omega
   simp [upto, hi, a1, a2, a3]
  ·have a3 : k * 8 % 64 <= i := by omega
   have a1 : ¬ 64 * (k * 8 / 64) + i < 8 * k := by omega
   by_cases h2 : i < k * 8 % 64 + 8
   ·have a2 : 64 * (k * 8 / 64) + i < 8 * (k + 1) := by omega
    have a4 : 64 * (k * 8 / 64) + i = 8 * k + (i - k * 8 % 64) := by omega
    have a5 := bitL_byte l k (i - k * 8 % 64) (by omega)
    rw [<- a4] at a5
    simp [upto, hi, a1, a2, a3, a5]
   ·have a2 : ¬ 64 * (k * 8 / 64) + i < 8 * (k + 1) := by omega
    have a5 : (l.getD k 0).toNat.testBit (i - k * 8 % 64) = false := Nat.testBit_lt_two_pow (Nat.lt_of_lt_of_le hx (show 2 ^ 8 <= 2 ^ (i - k * 8 % 64) from Nat.pow_le_pow_right (by decide) (by omega)))
    rw [List.getD_eq_getElem?_getD] at a5
    simp [upto, hi, a1, a2, a5]
 ·have a5 : (l.getD k 0).toNat.testBit (i - k * 8 % 64) = false := Nat.testBit_lt_two_pow (Nat.lt_of_lt_of_le hx (show 2 ^ 8 <= 2 ^ (i - k * 8 % 64) from Nat.pow_le_pow_right (by decide) (by omega)))
  rw [List.getD_eq_getElem?_getD] at a5
  simp [hi, a5]
theorem upto_other (l : List UInt8) (k j : Nat) (hj : j ≠ k * 8 / 64) : wd (upto l (k + 1)) j = wd (upto l k) j := by
 refine wd_congr _ _ _ fun i hi => ?_
 unfold upto
 have : (64 * j + i < 8 * (k + 1)) ↔ (64 * j + i < 8 * k) := by omega
 simp [this]
theorem upto_end (l : List UInt8) (n : Nat) (hn : n <= 1024) (h : ∀ i, n <= i -> bitL l i = false) : upto l 128 = bitL l := by
 funext i
 unfold upto
 by_cases hi : i < 8 * 128
 ·simp [hi]
 ·rw [h i (by omega)]; simp
theorem byte_shift (x s : Nat) (hx : x < 256) (hs : s <= 56) : x * 2 ^ s < 18446744073709551616 := by
 have h1 : (2 : Nat) ^ s <= 2 ^ 56 := Nat.pow_le_pow_right (by decide) hs
 have h2 : x * 2 ^ s <= 255 * 2 ^ 56 := Nat.mul_le_mul (by omega) h1
 have h3 : 255 * 2 ^ 56 < 18446744073709551616 := by decide
 omega
theorem take_short (A : Option Addr) (m c : Nat) (n : Nat) (w : World) (h1 : 1 <= n) (h2 : n <= 1024) (h : m ≠ 512) :
  Calls Tryz.prog 96 #[.slice A m c, .int .i64 (n : Int)] w fun e w' => e = .returned (.tuple #[.agg (mcs nof 0).toArray, .int .i64 3]) /\ Kp (fun _ => False) w w' := by
 have Hr : Hid (Tryz.f96.results = #[.cell 4 82, .tmp 5]) := hHd (by kernel_rfl)
 obtain ⟨W, hW, hz, hk⟩ : ∃ W, W = w.alloc (.cells #[.int .u64 0, .int .u64 0, .int .u64 0, .int .u64 0, .int .u64 0, .int .u64 0, .int .u64 0, .int .u64 0, .int .u64 0, .int .u64 0, .int .u64 0, .int .u64 0, .int .u64 0, .int .u64 0, .int .u64 0, .int .u64 0, .int .i64 0] 82) /\ Box W w.heap.size 82 #[.int .u64 0, .int .u64 0, .int .u64 0, .int .u64 0, .int .u64 0, .int .u64 0, .int .u64 0, .int .u64 0, .int .u64 0, .int .u64 0, .int .u64 0, .int .u64 0, .int .u64 0, .int .u64 0, .int .u64 0, .int .u64 0, .int .i64 0] /\ Kp (fun _ => False) w W := ⟨_, rfl, Box.new w _ _, (Kp.refl _ w).alloc _⟩
 have HW := hHd hW
 have HZ := hHd hz
 have K := hHd hk
 have hnew := new_any (n : Int) W
 rw [if_pos ⟨by omega, by omega⟩, if_pos ⟨by omega, by omega⟩, Int.toNat_natCast] at hnew
 have HN := hHd hnew
 clear hW hz hk hnew
 have hne : ((m : Int) != 512) = true := by simp; omega
 go_enter Tryz.func96, Tryz.ntmps96
 go_upto_region 1 with fail
 rw [<- HW.out]
 go_wp2_with fail
 refine HN.out.mono ?_
 rintro e w1 ⟨rfl, k1⟩
 have K1 := hHd (K.out.trans k1)
 have HZ1 := hHd (HZ.out.kp k1 (fun h => h))
 have hlt1 := hHd HZ1.out.lt
 clear k1
 go_upto_region 2 with (first | (refine bstore_box rfl 82 (.tmp 6) (.tmp 14) rfl (w1.heap.size) (mcs nof n) rfl rfl (Box.new w1 _ _) (by rw [mcs_length]; rfl) (infoMcs _ _) (mcs_one _ _) ?_; intro w2 hb2 hk2) | fail)
 have K2 := hHd ((K1.out.alloc (.cells #[.int .u64 0, .int .u64 0, .int .u64 0, .int .u64 0, .int .u64 0, .int .u64 0, .int .u64 0, .int .u64 0, .int .u64 0, .int .u64 0, .int .u64 0, .int .u64 0, .int .u64 0, .int .u64 0, .int .u64 0, .int .u64 0, .int .i64 0] 82)).trans_new hk2 (fun k e => .inl (by have := hlt1.out; omega)))
 have HZ2 := hHd ((HZ1.out.alloc (.cells #[.int .u64 0, .int .u64 0, .int .u64 0, .int .u64 0, .int .u64 0, .int .u64 0, .int .u64 0, .int .u64 0, .int .u64 0, .int .u64 0, .int .u64 0, .int .u64 0, .int .u64 0, .int .u64 0, .int .u64 0, .int .u64 0, .int .i64 0] 82)).kp hk2 (fun e => by have := hlt1.out; omega))
 have HM2 : Mp w2 w1.heap.size nof n := hb2
 clear hk2
 go_wp2_with (first | (refine bstore_box rfl 82 (.tmp 4) (.tmp 29) rfl (w.heap.size) ([.int .u64 0, .int .u64 0, .int .u64 0, .int .u64 0, .int .u64 0, .int .u64 0, .int .u64 0, .int .u64 0, .int .u64 0, .int .u64 0, .int .u64 0, .int .u64 0, .int .u64 0, .int .u64 0, .int .u64 0, .int .u64 0, .int .i64 0]) rfl rfl HZ2.out rfl infoMap (zone 0) ?_; intro w5 hb5 hk5) | fail)
 refine bodyPost_ret (v := .tuple #[.agg (mcs nof 0).toArray, .int .i64 3]) ?_ rfl ⟨rfl, K2.out.trans_new hk5 (fun k e => .inl (by omega))⟩
 have hb6 : Box w5 w.heap.size 82 (mcs nof 0).toArray := by rw [<- zlit]; exact hb5
 exact bresults_two Hr.out _ _ w.heap.size 82 _ (0, 0) _ rfl hb6 Tryz.underlying82 rfl (infoMca _ _)
theorem take_ok (b o c : Nat) (l : List UInt8) (n : Nat) (w : World) (h1 : 1 <= n) (h2 : n <= 1024) (hl : l.length = 512) (hoff : ∀ i, n <= i -> bitL l i = false) (hcn : ∀ j u, l[j]? = some u -> w.cell? ⟨b, o + j, none⟩ = some (.int .u8 u.toNat)) :
  Calls Tryz.prog 96 #[.slice (some ⟨b, o, none⟩) 512 c, .int .i64 (n : Int)] w fun e w' => e = .returned (.tuple #[.agg (mcs (bitL l) n).toArray, .int .i64 0]) /\ Kp (fun _ => False) w w' := by
 have Hr : Hid (Tryz.f96.results = #[.cell 4 82, .tmp 5]) := hHd (by kernel_rfl)
 obtain ⟨W, hW, hz, hk⟩ : ∃ W, W = w.alloc (.cells #[.int .u64 0, .int .u64 0, .int .u64 0, .int .u64 0, .int .u64 0, .int .u64 0, .int .u64 0, .int .u64 0, .int .u64 0, .int .u64 0, .int .u64 0, .int .u64 0, .int .u64 0, .int .u64 0, .int .u64 0, .int .u64 0, .int .i64 0] 82) /\ Box W w.heap.size 82 #[.int .u64 0, .int .u64 0, .int .u64 0, .int .u64 0, .int .u64 0, .int .u64 0, .int .u64 0, .int .u64 0, .int .u64 0, .int .u64 0, .int .u64 0, .int .u64 0, .int .u64 0, .int .u64 0, .int .u64 0, .int .u64 0, .int .i64 0] /\ Kp (fun _ => False) w W := ⟨_, rfl, Box.new w _ _, (Kp.refl _ w).alloc _⟩
 have HW := hHd hW
 have HZ := hHd hz
 have K := hHd hk
 have hnew := new_any (n : Int) W
 rw [if_pos ⟨by omega, by omega⟩, if_pos ⟨by omega, by omega⟩, Int.toNat_natCast] at hnew
 have HN := hHd hnew
 clear hW hz hk hnew
 have HCN := hHd hcn
 have HOFF := hHd hoff
 clear hoff
 have HL := hHd hl
 clear hcn hl
 go_enter Tryz.func96, Tryz.ntmps96
 go_upto_region 1 with fail
 rw [<- HW.out]
 go_wp2_with fail
 refine HN.out.mono ?_
 rintro e w1 ⟨rfl, k1⟩
 have K1 := hHd (K.out.trans k1)
 have HZ1 := hHd (HZ.out.kp k1 (fun h => h))
 have hlt1 := hHd HZ1.out.lt
 clear k1
 go_upto_region 2 with (first | (refine bstore_box rfl 82 (.tmp 6) (.tmp 14) rfl (w1.heap.size) (mcs nof n) rfl rfl (Box.new w1 _ _) (by rw [mcs_length]; rfl) (infoMcs _ _) (mcs_one _ _) ?_; intro w2 hb2 hk2) | fail)
 have K2 := hHd ((K1.out.alloc (.cells #[.int .u64 0, .int .u64 0, .int .u64 0, .int .u64 0, .int .u64 0, .int .u64 0, .int .u64 0, .int .u64 0, .int .u64 0, .int .u64 0, .int .u64 0, .int .u64 0, .int .u64 0, .int .u64 0, .int .u64 0, .int .u64 0, .int .i64 0] 82)).trans_new hk2 (fun k e => .inl (by have := hlt1.out; omega)))
 have HZ2 := hHd ((HZ1.out.alloc (.cells #[.int .u64 0, .int .u64 0, .int .u64 0, .int .u64 0, .int .u64 0, .int .u64 0, .int .u64 0, .int .u64 0, .int .u64 0, .int .u64 0, .int .u64 0, .int .u64 0, .int .u64 0, .int .u64 0, .int .u64 0, .int .u64 0, .int .i64 0] 82)).kp hk2 (fun e => by have := hlt1.out; omega))
 have HM2 : Mp w2 w1.heap.size nof n := hb2
 clear hk2
 have hend := end_any b o c l w2 (by rw [HL.out]; decide) (by rw [HL.out]; decide) (fun j u hu => (K2.out.cell (p := ⟨b, o + j, none⟩) (World.block_lt_of_cell? w _ (HCN.out j u hu)) (fun h => h)).trans (HCN.out j u hu))
 rw [HL.out] at hend
 have HE := hHd hend
 clear hend
 go_wp2_with fail
 refine HE.out.mono ?_
 rintro e w3 ⟨z, rfl, hz, k3⟩
 have K3 := hHd (K2.out.trans k3)
 have HZ3 := hHd (HZ2.out.kp k3 (fun h => h))
 have HM3 := hHd (Mp.kp HM2 k3 (fun h => h))
 have Hz := hHd hz
 clear k3 hz HM2
 have hzn : ¬ (n : Int) < z := by
  intro h
  have h1 := Hz.out.on (by omega)
  rw [HOFF.out (z - 1) (by omega)] at h1; cases h1
 have hdz : decide (n < z) = false := by simp; omega
 have HC3 : Hid (∀ j u, l[j]? = some u -> w3.cell? ⟨b, o + j, none⟩ = some (.int .u8 u.toNat)) := hHd fun j u hu =>
  (K3.out.cell (p := ⟨b, o + j, none⟩) (World.block_lt_of_cell? w _ (HCN.out j u hu)) (fun h => h)).trans (HCN.out j u hu)
 have HB1 := hHd (World.block_lt_of_cell? w ⟨b, o + 0, none⟩ (HCN.out 0 (l.getD 0 0) (by
  have : 0 < l.length := by rw [HL.out]; decide
  rw [List.getD_eq_getElem?_getD, List.getElem?_eq_getElem this]; rfl)))
 have HNW := hHd (show w.heap.size < w1.heap.size from hlt1.out)
 have HM4 : Hid (Mp w3 w1.heap.size (upto l 0) n) := hHd (by rw [upto_zero]; exact HM3.out)
 obtain ⟨g, hg⟩ : ∃ g, w1.heap.size = g := ⟨_, rfl⟩
 rw [hg] at HM4 HNW
 have HG := hHd hg
 clear hg HM3
 have Hor := hHd (upto_or l)
 have Hoth := hHd (upto_other l)
 have Hend := hHd (upto_end l n h2 HOFF.out)
 go_wp2_with fail
 rw [HG.out]
 go_loopw [30] (fun i wr => ∃ k : Nat, k <= 128 /\ i = .int .i64 k /\ Mp wr g (upto l k) n /\ Kp (fun k => k = g) w3 wr)
  (fun i _ => 128 - (intOf i).toNat)
 case atStart => exact ⟨0, Nat.zero_le _, rfl, HM4.out, Kp.refl _ _⟩
 case round =>
  obtain ⟨k, hk, rfl, hm, hkw⟩ := hrel
  have HM := hHd hm
  have HK := hHd hkw
  clear hm hkw
  by_cases hlt : k < 128
  ·have hpl := hHd (place_any (k * 8) wr (by omega))
   have hgl : l[k]? = some (l.getD k 0) := by
    have : k < l.length := by rw [HL.out]; omega
    rw [List.getD_eq_getElem?_getD, List.getElem?_eq_getElem this]; rfl
   have hor := Hor.out k
   have hoth := hHd (Hoth.out k)
   have hm8 : (k : Int) * 8 = ((k * 8 : Nat) : Int) := by omega
   have Hm8 := hHd hm8
   have hq : k * 8 / 64 < 16 := by omega
   have hs : k * 8 % 64 <= 56 := by omega
   have y := HM.out.word (k * 8 / 64) hq
   have yf := HM.out.free (k * 8 / 64)
   obtain ⟨q, hqe⟩ : ∃ q, k * 8 / 64 = q := ⟨_, rfl⟩
   obtain ⟨s, hse⟩ : ∃ s, k * 8 % 64 = s := ⟨_, rfl⟩
   rw [hqe] at hq y yf hoth
   rw [hse] at hs
   rw [hqe, hse] at hpl hor
   have hxl := wd_lt (upto l k) q
   obtain ⟨v, hv⟩ : ∃ v, l.getD k 0 = v := ⟨_, rfl⟩
   rw [hv] at hor hgl
   have hc := HC3.out k v hgl
   have hcl := World.block_lt_of_cell? w3 _ hc
   have hgb : b ≠ g := by
    have h1 := HB1.out
    have h2 := HNW.out
    intro e
    have : b < w.heap.size := h1
    omega
   have c2 : wr.cell? ⟨b, o + k, none⟩ = some (.int .u8 v.toNat) := (HK.out.cell (p := ⟨b, o + k, none⟩) hcl hgb).trans hc
   have hqi : (q : Int) < 16 := by omega
   have hk5 : (k : Int) < 512 := by omega
   have hsi : (s : Int) < 64 := by omega
   have hsh := byte_shift v.toNat s v.toNat_lt hs
   have hwr : IntKind.u64.wrap ((v.toNat : Int) * 2 ^ s) = ((v.toNat * 2 ^ s : Nat) : Int) := by
    have e : (v.toNat : Int) * 2 ^ s = ((v.toNat * 2 ^ s : Nat) : Int) := by simp
    rw [e]; exact wrap64_of _ hsh
   have hob := u64_or_nat (wd (upto l k) q) (v.toNat * 2 ^ s) hxl hsh
   rw [hor, <- hwr] at hob
   have Hob := hHd hob
   have Hcv := hHd (wrap64_of v.toNat (Nat.lt_trans v.toNat_lt (by decide)))
   have HQ := hHd hq
   clear hor hqe hse hxl hv hc hcl hgb hgl hm8 hsh hwr hob
   obtain ⟨x, hxe⟩ : ∃ x, wd (upto l k) q = x := ⟨_, rfl⟩
   rw [hxe] at y Hob
   clear hxe
   go_wp2_with fail
   rw [Hm8.out]
   refine (hpl.out).mono ?_
   rintro e w' ⟨rfl, rfl⟩
   go_wp2_with fail
   go_still_tail 14, (by kernel_rfl)
   change wpList _ _ _ _ _ wr.drew
   go_wp2_with fail
   go_roundw
   case rel =>
    refine ⟨k + 1, by omega, by go_num, ?_, (HK.out.setCell (p := ⟨g, q, none⟩) (.inr rfl) _).drew⟩
    exact (HM.out.put q HQ.out _ (by rw [Hcv.out, Hob.out]) hoth.out).drew
   case measure => simp [intOf]; omega
  ·obtain rfl : k = 128 := by omega
   rw [Hend.out] at HM
   have hgw : w.heap.size ≠ g := by have := HNW.out; omega
   have HZ4 := hHd (HZ3.out.kp HK.out hgw)
   have K4 : Hid (Kp (fun _ => False) w wr) := hHd (K3.out.trans_new HK.out (fun k e => .inl (by have := HNW.out; omega)))
   go_wp2_with (first | (refine wpList_load_mid rfl 82 (.tmp 6) rfl g 0 rfl (mcs (bitL l) n) _ (Mp.range HM.out) Tryz.underlying82 rfl (infoMca _ _) ?_) | (refine bstore_box rfl 82 (.tmp 4) (.tmp 54) rfl (w.heap.size) (mcs (bitL l) n) rfl rfl HZ4.out (by rw [mcs_length]; rfl) (infoMcs _ _) (mcs_one _ _) ?_; intro w5 hb5 hk5) | fail)
   refine bodyPost_ret (v := .tuple #[.agg (mcs (bitL l) n).toArray, .int .i64 0]) ?_ rfl ⟨rfl, K4.out.trans_new hk5 (fun k e => .inl (by omega))⟩
   exact bresults_two Hr.out _ _ w.heap.size 82 _ (0, 0) _ rfl hb5 Tryz.underlying82 rfl (infoMca _ _)
structure Least (f : Nat -> Bool) (n k : Nat) : Prop where
 le : k <= n
 below : ∀ j, j < k -> f j = true
 at_ : k < n -> f k = false
theorem least_is (f : Nat -> Bool) : ∀ n, ∃ k, Least f n k
 |0 => ⟨0, by omega, by intro j hj; omega, by intro h; omega⟩
 |n + 1 => by
  obtain ⟨k, h⟩ := least_is f n
  have hle := h.le
  by_cases hk : k < n
  ·exact ⟨k, by omega, h.below, fun _ => h.at_ hk⟩
  ·obtain rfl : k = n := by omega
   rcases hf : f k with _ | _
   ·exact ⟨k, by omega, h.below, fun _ => hf⟩
   ·refine ⟨k + 1, by omega, fun j hj => ?_, fun h => by omega⟩
    rcases Nat.lt_or_eq_of_le (Nat.le_of_lt_succ hj) with h1 | h1
    ·exact h.below j h1
    ·rw [h1]; exact hf
theorem Least.one {f : Nat -> Bool} {n k l : Nat} (h : Least f n k) (h' : Least f n l) : k = l := by
 have a := h.le
 have b := h'.le
 rcases Nat.lt_trichotomy k l with h1 | h1 | h1
 ·have e1 := h.at_ (by omega)
  have e2 := h'.below k h1
  rw [e1] at e2; cases e2
 ·exact h1
 ·have e1 := h'.at_ (by omega)
  have e2 := h.below l h1
  rw [e1] at e2; cases e2
theorem wd_full (f : Nat -> Bool) (j : Nat) : wd f j = 18446744073709551615 ↔ ∀ i, i < 64 -> f (64 * j + i) = true := by
 have e : (18446744073709551615 : Nat) = 2 ^ 64 - 1 := by decide
 constructor
 ·intro h i hi
  have h1 := wd_bit f j i
  rw [h, e, Nat.testBit_two_pow_sub_one] at h1
  simpa [hi] using h1
 ·intro h
  refine Nat.eq_of_testBit_eq fun i => ?_
  rw [wd_bit, e, Nat.testBit_two_pow_sub_one]
  by_cases hi : i < 64
  ·simp [hi, h i hi]
  ·simp [hi]
theorem wd_hole (f : Nat -> Bool) (j : Nat) (h : wd f j ≠ 18446744073709551615) : ∃ t q, t < 64 /\ 18446744073709551615 - wd f j = 2 ^ t * (2 * q + 1) /\ f (64 * j + t) = false /\ ∀ i, i < t -> f (64 * j + i) = true := by
 have hl := wd_lt f j
 obtain ⟨t, q, e, ht⟩ := low_split 64 (18446744073709551615 - wd f j) (by omega) (by
  have : (2 : Nat) ^ 64 = 18446744073709551616 := by decide
  omega)
 have hb : ∀ i, (2 ^ t * (2 * q + 1)).testBit i = (decide (i < 64) && !f (64 * j + i)) := by
  intro i
  rw [<- e, show 18446744073709551615 - wd f j = 2 ^ 64 - (wd f j + 1) by
   have : (2 : Nat) ^ 64 = 18446744073709551616 := by decide
   omega, Nat.testBit_two_pow_sub_succ (by
   have : (2 : Nat) ^ 64 = 18446744073709551616 := by decide
   omega), wd_bit]
  by_cases hi : i < 64 <;> simp [hi]
 refine ⟨t, q, ht, e, ?_, fun i hi => ?_⟩
 ·have := hb t
  rw [low_is, if_neg (by omega), if_pos rfl] at this
  simpa [ht] using this.symm
 ·have := hb i
  rw [low_is, if_pos hi] at this
  have h64 : i < 64 := by omega
  simpa [h64] using this.symm
structure Hole (f : Nat -> Bool) (j : Nat) : Prop where
 le : j <= 16
 below : ∀ i, i < j -> wd f i = 18446744073709551615
 at_ : j < 16 -> wd f j ≠ 18446744073709551615
theorem hole_least (f : Nat -> Bool) (n : Nat) (h : Wf f n) (j : Nat) (hj : Hole f j) :
  (j = 16 /\ Least f n n) \/ (j < 16 /\ ∃ t q, t < 64 /\ 18446744073709551615 - wd f j = 2 ^ t * (2 * q + 1) /\ ((64 * j + t < n /\ Least f n (64 * j + t)) \/ (n <= 64 * j + t /\ Least f n n))) := by
 have hbel : ∀ i, i < 64 * j -> f i = true := fun i hi => by
  have := (wd_full f (i / 64)).1 (hj.below (i / 64) (by omega)) (i % 64) (Nat.mod_lt _ (by decide))
  rwa [show 64 * (i / 64) + i % 64 = i by omega] at this
 have hle := hj.le
 have hf := h.few
 by_cases h16 : j < 16
 ·refine .inr ⟨h16, ?_⟩
  obtain ⟨t, q, ht, e, h0, h1⟩ := wd_hole f j (hj.at_ h16)
  have hall : ∀ i, i < 64 * j + t -> f i = true := fun i hi => by
   by_cases hi' : i < 64 * j
   ·exact hbel i hi'
   ·have := h1 (i - 64 * j) (by omega)
    rwa [show 64 * j + (i - 64 * j) = i by omega] at this
  refine ⟨t, q, ht, e, ?_⟩
  by_cases hn : 64 * j + t < n
  ·exact .inl ⟨hn, by omega, hall, fun _ => h0⟩
  ·exact .inr ⟨by omega, Nat.le_refl _, fun i hi => hall i (by omega), fun h => by omega⟩
 ·refine .inl ⟨by omega, Nat.le_refl _, fun i hi => hbel i (by omega), fun h => by omega⟩
theorem not_nat (x : Nat) (hx : x < 18446744073709551616) : bits .xor .u64 IntKind.u64.max (x : Int) = ((18446744073709551615 - x : Nat) : Int) := by
 have h1 : IntKind.u64.max = ((18446744073709551615 : Nat) : Int) := by decide
 have e : (18446744073709551616 : Nat) = 2 ^ 64 := by decide
 rw [h1, u64_xor_nat 18446744073709551615 x (by decide) hx]
 refine congrArg _ (Nat.eq_of_testBit_eq fun i => ?_)
 rw [Nat.testBit_xor, show 18446744073709551615 - x = 2 ^ 64 - (x + 1) by omega, Nat.testBit_two_pow_sub_succ (by omega), show (18446744073709551615 : Nat) = 2 ^ 64 - 1 by decide, Nat.testBit_two_pow_sub_one]
 by_cases hi : i < 64
 ·simp [hi]
 ·have : x.testBit i = false := Nat.testBit_lt_two_pow (Nat.lt_of_lt_of_le (by omega : x < 2 ^ 64) (Nat.pow_le_pow_right (by decide) (by omega)))
  simp [hi, this]
theorem full_any (x : Nat) (w : World) (b : Bool) (hx : x < 18446744073709551616) (hb : b = decide (x ≠ 18446744073709551615)) :
  Calls Tryz.prog 120 #[.int .u64 (x : Int)] w fun e w' => e = .returned (.bool b) /\ w = w' := by
 have hd : (bits .xor .u64 IntKind.u64.max (x : Int) != 0) = b := by
  rw [not_nat x hx, hb]
  by_cases h : x = 18446744073709551615
  ·subst h; rfl
  ·have : (((18446744073709551615 - x : Nat) : Int) != 0) = true := by simp; omega
   rw [this]; simp [h]
 generalize (x : Int) = X at *
 clear hb hx
 go_enter Tryz.func120, Tryz.ntmps120
 go_wp2_with fail
 go_ret
 exact ⟨rfl, rfl⟩
theorem index_any (f : Nat -> Bool) (n j g : Nat) (w : World) (hj : Hole f j) (hm : Mp w g f n) :
  Calls Tryz.prog 119 #[.slice (some ⟨g, 0, none⟩) 16 16, .func (.func 120) #[] #[]] w fun e w' => e = .returned (.int .i64 (if j < 16 then (j : Int) else -1)) /\ w = w' := by
 have Hm := hHd hm
 have Hj := hHd hj
 have Hl := hHd (wd_lt f)
 have hle := hj.le
 obtain ⟨z, hz⟩ : ∃ z : Int, (if j < 16 then (j : Int) else -1) = z := ⟨_, rfl⟩
 rw [hz]
 have Hz := hHd hz
 clear hm hj hz
 go_enter Tryz.func119, Tryz.ntmps119
 go_wp2_with fail
 go_loop [8] (fun i => ∃ k : Nat, k <= j /\ i = .int .i64 k) (fun i => 16 - (intOf i).toNat)
 case atStart => exact ⟨0, by omega, rfl⟩
 case round =>
  obtain ⟨k, hk, rfl⟩ := hrel
  by_cases hlt : k < 16
  ·have hkk : (k : Int) < 16 := by omega
   have y := Hm.out.word k hlt
   rcases Nat.lt_or_eq_of_le hk with hkj | hkj
   ·have hf := hHd (full_any (wd f k) w false (Hl.out k) (by rw [Hj.out.below k hkj]; rfl))
    generalize wd f k = x at *
    go_wp2_with fail
    refine (hf.out).mono ?_
    rintro e w' ⟨rfl, rfl⟩
    go_wp2_with fail
    go_round
    case rel => exact ⟨k + 1, by omega, by go_num⟩
    case measure => simp [intOf]; omega
   ·have hf := hHd (full_any (wd f k) w true (Hl.out k) (by
     have := Hj.out.at_ (by omega)
     rw [hkj]
     simp [this]))
    have hzk : Hid ((k : Int) = z) := hHd (by rw [<- Hz.out, if_pos (by omega), hkj])
    generalize wd f k = x at *
    clear hkj
    go_wp2_with fail
    refine (hf.out).mono ?_
    rintro e w' ⟨rfl, rfl⟩
    go_wp2_with fail
    go_ret
    exact ⟨by rw [<- hzk.out]; rfl, rfl⟩
  ·obtain rfl : k = 16 := by omega
   have hzk : Hid (-1 = z) := hHd (by rw [<- Hz.out, if_neg (by omega)])
   go_wp2_with fail
   go_ret
   exact ⟨by rw [<- hzk.out]; rfl, rfl⟩
theorem find_any (f : Nat -> Bool) (n k : Nat) (w : World) (h : Wf f n) (hk : Least f n k) (tb : Tbl w) :
  Calls Tryz.prog 68 #[.agg (mcs f n).toArray] w fun e w' => e = .returned (.tuple #[.int .i64 (if k < n then (k : Int) else 0), .bool (decide (k < n))]) /\ Kp (fun _ => False) w w' := by
 obtain ⟨W, hW, hb, hkw⟩ : ∃ W, W = w.alloc (.cells (mcs f n).toArray 82) /\ Mp W w.heap.size f n /\ Kp (fun _ => False) w W := ⟨_, rfl, Mp.new w f n, (Kp.refl _ w).alloc _⟩
 obtain ⟨j, hj⟩ : ∃ j, Hole f j := by
  obtain ⟨j, hj⟩ := least_is (fun i => decide (wd f i = 18446744073709551615)) 16
  exact ⟨j, hj.le, fun i hi => by simpa using hj.below i hi, fun hlt => by simpa using hj.at_ hlt⟩
 have HI := hHd (index_any f n j w.heap.size W hj hb)
 have HW := hHd hW
 have K := hHd hkw
 have HB := hHd hb
 have HT := hHd (tb.kp hkw (fun h => h))
 have hl := hole_least f n h j hj
 clear hW hb hkw
 rcases hl with ⟨rfl, hn⟩ | ⟨h16, t, q, ht, he, hl⟩
 ·obtain rfl := hk.one hn
  rw [if_neg (Nat.lt_irrefl _), decide_eq_false (Nat.lt_irrefl _)]
  rw [if_neg (Nat.lt_irrefl _)] at HI
  clear h hk hn hj
  go_enter Tryz.func68, Tryz.ntmps68
  go_upto_region 1 with fail
  rw [<- HW.out]
  go_wp2_with fail
  refine (HI.out).mono ?_
  rintro e w' ⟨rfl, rfl⟩
  go_wp2_with fail
  go_ret2
  exact ⟨rfl, K.out⟩
 ·rw [if_pos h16] at HI
  have y := HB.out.word j h16
  have hlt := wd_lt f j
  have hnot := not_nat (wd f j) hlt
  rw [he] at hnot
  have HZ := hHd (tz_any t q W ht (by rw [<- he]; omega) HT.out)
  have hp := hHd (ispage_any f n ((64 * j + t : Nat) : Int) W)
  have hji : (j : Int) < 16 := by omega
  have hti : (t : Int) < 64 := by omega
  have hadd : (j : Int) * 64 + t = ((64 * j + t : Nat) : Int) := by omega
  have Hadd := hHd hadd
  obtain ⟨Z, hZ⟩ : ∃ Z, ((2 ^ t * (2 * q + 1) : Nat) : Int) = Z := ⟨_, rfl⟩
  rw [hZ] at hnot HZ
  obtain ⟨X, hX⟩ : ∃ X, ((wd f j : Nat) : Int) = X := ⟨_, rfl⟩
  rw [hX] at hnot y
  clear hX hZ he hlt hadd
  have go : ∀ b : Bool, pgB n ((64 * j + t : Nat) : Int) = b -> Calls Tryz.prog 68 #[.agg (mcs f n).toArray] w fun e w' => e = .returned (.tuple #[.int .i64 (if b then ((64 * j + t : Nat) : Int) else 0), .bool b]) /\ Kp (fun _ => False) w w' := by
   intro b hb
   rw [hb] at hp
   clear hb hl hk h hj
   rcases b with _ | _
   ·go_enter Tryz.func68, Tryz.ntmps68
    go_upto_region 1 with fail
    rw [<- HW.out]
    go_wp2_with fail
    refine (HI.out).mono ?_
    rintro e w' ⟨rfl, rfl⟩
    go_wp2_with fail
    refine (HZ.out).mono ?_
    rintro e w' ⟨rfl, rfl⟩
    go_wp2_with (first | (refine wpList_load_mid rfl 82 (.tmp 1) rfl w.heap.size 0 rfl (mcs f n) _ (Mp.range HB.out) Tryz.underlying82 rfl (infoMca _ _) ?_) | fail)
    rw [Hadd.out]
    refine (hp.out).mono ?_
    rintro e w1 ⟨rfl, k1⟩
    have K1 := hHd (K.out.trans k1)
    clear k1
    go_wp2_with fail
    go_ret2
    exact ⟨rfl, K1.out⟩
   ·go_enter Tryz.func68, Tryz.ntmps68
    go_upto_region 1 with fail
    rw [<- HW.out]
    go_wp2_with fail
    refine (HI.out).mono ?_
    rintro e w' ⟨rfl, rfl⟩
    go_wp2_with fail
    refine (HZ.out).mono ?_
    rintro e w' ⟨rfl, rfl⟩
    go_wp2_with (first | (refine wpList_load_mid rfl 82 (.tmp 1) rfl w.heap.size 0 rfl (mcs f n) _ (Mp.range HB.out) Tryz.underlying82 rfl (infoMca _ _) ?_) | fail)
    rw [Hadd.out]
    refine (hp.out).mono ?_
    rintro e w1 ⟨rfl, k1⟩
    have K1 := hHd (K.out.trans k1)
    clear k1
    go_wp2_with fail
    go_ret2
    exact ⟨rfl, K1.out⟩
  rcases hl with ⟨h1, hl⟩ | ⟨h1, hl⟩
  ·obtain rfl := hk.one hl
   have := go true (pgB_true (by omega) (by omega))
   rw [if_pos h1, decide_eq_true h1]
   simpa using this
  ·obtain rfl := hk.one hl
   have := go false (pgB_false (.inr (by omega)))
   rw [if_neg (Nat.lt_irrefl _), decide_eq_false (Nat.lt_irrefl _)]
   simpa using this
end Go.Proofs.YtepaeliamhjgiaaGreatDoor.Bt
namespace Go.Proofs.YtepaeliamhjgiaaGreatDoor.Bt
open Go.ChangeShapes Go.WideShapes Go.ChangeAt Go.RowKit
def laidL : List (String × DataW Unit) := [("math/bits.deBruijn64tab", Rows.laid_math_bits_deBruijn64tab)]
theorem gTab : Tryz.prog.globalNamed "math/bits.deBruijn64tab" = some 0 := by kernel_rfl
theorem tTab : (Tryz.prog.globals[0]?).map (·.type) = some 205 := by kernel_rfl
theorem cU8 : Tryz.prog.cellsOf 5 = 1 := by kernel_rfl
def tabZ : List Int := bruijn.map Int.ofNat
theorem tabZ_get (i : Nat) (hi : i < 64) : tabZ[i]? = some ((bruijn.getD i 0 : Nat) : Int) := by
 have h : ∀ i : Fin 64, tabZ[i.val]? = some ((bruijn.getD i.val 0 : Nat) : Int) := by decide +kernel
 exact h ⟨i, hi⟩
theorem door_met (os : Os) (args : Array Value) : laidMetH Tryz.prog laidL ((World.doorLaid Tryz.prog 400 os).forCall (fun _ _ => 0) ⟨#[], args, []⟩).memory :=
 laidMetH_of_parts3 (fuel := 8) (laidMet_of_run' 8 (by kernel_rfl) (by kernel_rfl)) (by kernel_rfl) (by kernel_rfl)
theorem tbl_of_laid {W : World} (h : laidMetH Tryz.prog laidL W) : Tbl W := by
 rw [MakeChecks.laidMetH_plain _ _ _ (by kernel_rfl)] at h
 obtain ⟨ps, ⟨g0, t0, cs0, f0, p0, q0, hg0, ht0, hv0, hd0, _, _⟩, _, _⟩ := h
 obtain rfl := Option.some.inj (gTab.symm.trans hg0)
 obtain rfl := Option.some.inj (tTab.symm.trans ht0)
 intro i hi
 have hc := laid_array (zs := tabZ) Tryz.underlying205 Tryz.underlying5 cU8 hd0 i ((bruijn.getD i 0 : Nat) : Int) hi (tabZ_get i hi)
 rw [World.var?_cell hg0 hv0 i, <- hc, Array.getElem?_toList]
theorem own : ownKnob Tryz.prog.godebug = none := by kernel_rfl
theorem laidOut : laidOutB Tryz.prog = true := by kernel_rfl
end Go.Proofs.YtepaeliamhjgiaaGreatDoor.Bt
