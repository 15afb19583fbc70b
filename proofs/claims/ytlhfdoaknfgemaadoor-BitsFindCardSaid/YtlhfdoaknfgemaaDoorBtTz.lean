/- The package of bits: the lowest bit of a word that is not 0; how many bits are set; how long a byte's number is. Condition: the table of the lowest bit reads as the program's text lays it. -/
import Derived.Test.YtlhfdoaknfgemaaDoorBtDefs
namespace Go.Proofs.YtlhfdoaknfgemaaDoor
open Go.RowKit

/-- The table of the lowest bit. -/
def Tbl (w : World) : Prop := ∀ i, i < 64 → w.cell? ⟨0, i, none⟩ = some (.int .u8 ((bruijn.getD i 0 : Nat) : Int))
theorem Tbl.kp {w w' : World} {S : Nat → Prop} (h : Tbl w) (hk : Kp S w w') (hn : ¬ S 0) : Tbl w' := fun i hi =>
  (hk.cell (p := ⟨0, i, none⟩) (World.block_lt_of_cell? w ⟨0, i, none⟩ (h i hi)) hn).trans (h i hi)
/-- The steps to the lowest bit, as the walk spells them. -/
theorem tz_facts (t q : Nat) (ht : t < 64) (hx : 2 ^ t * (2 * q + 1) < 18446744073709551616) : ∃ (i : Nat) (Y P M : Int), bruijn.getD i 0 = t ∧ i < 64 ∧ (((2 ^ t * (2 * q + 1) : Nat) : Int) == 0) = false ∧ IntKind.u64.wrap (-((2 ^ t * (2 * q + 1) : Nat) : Int)) = Y ∧
    bits .and .u64 ((2 ^ t * (2 * q + 1) : Nat) : Int) Y = P ∧ IntKind.u64.wrap (P * 285870213051353865) = M ∧ M / 288230376151711744 = (i : Int) := by
  have hpos : 0 < 2 ^ t * (2 * q + 1) := Nat.mul_pos (Nat.pow_pos (by decide)) (by omega)
  have hlow := low_bit t q ht hx
  have hb := bruijn_at t ht
  have hp : 2 ^ t < 18446744073709551616 := Nat.pow_lt_pow_right (a := 2) (n := 64) (by decide) ht
  generalize 2 ^ t * (2 * q + 1) = x at *
  generalize 2 ^ t = p at *
  refine ⟨p * 285870213051353865 % 18446744073709551616 / 288230376151711744, ((18446744073709551616 - x : Nat) : Int), (p : Int), ((p * 285870213051353865 % 18446744073709551616 : Nat) : Int), hb, by omega, ?_, ?_, ?_, ?_, ?_⟩
  · simp; omega
  · rw [IntKind.wrap_u64]; omega
  · rw [u64_and_nat x (18446744073709551616 - x) hx (by omega), hlow]
  · rw [IntKind.wrap_u64]; omega
  · omega
set_option maxHeartbeats 400000 in
theorem tz_any (t q : Nat) (w : World) (ht : t < 64) (hx : 2 ^ t * (2 * q + 1) < 18446744073709551616) (tb : Tbl w) :
    Calls Tryd.prog 25 #[.int .u64 ((2 ^ t * (2 * q + 1) : Nat) : Int)] w fun e w' => e = .returned (.int .i64 (t : Int)) ∧ w = w' := by
  obtain ⟨i, Y, P, M, hb, hi, h0, h1, h2, h3, h4⟩ := tz_facts t q ht hx
  have hc := tb i hi
  rw [hb] at hc
  have hii : (i : Int) < 64 := by omega
  have htu : (t : Int) < 256 := by omega
  generalize ((2 ^ t * (2 * q + 1) : Nat) : Int) = X at *
  clear hb hx
  go_enter Tryd.func25, Tryd.ntmps25
  go_wp2_with fail
  go_ret
  exact ⟨rfl, rfl⟩
theorem i64_and_nat (a b : Nat) (ha : a < 9223372036854775808) (hb : b < 9223372036854775808) : bits .and .i64 (a : Int) (b : Int) = ((a &&& b : Nat) : Int) := by
  have hx : a &&& b < 2 ^ 63 := Nat.and_lt_two_pow _ (by omega)
  show IntKind.i64.wrap ((BitVec.ofInt 64 (a : Int) &&& BitVec.ofInt 64 (b : Int)).toNat : Int) = _
  rw [BitVec.toNat_and, ofInt_u64 a (by omega), ofInt_u64 b (by omega)]
  exact IntWalk.i64_in _ (by omega)
/-- The count's steps, as the walk spells them. -/
theorem pop_facts (x n : Nat) (hx : x < 18446744073709551616) (h : Pop x n) : ∃ a1 b1 z1 a2 b2 z2 y3 z3 z4 z5 z6 : Int,
    bits .and .u64 ((x : Int) / 2) 6148914691236517205 = a1 ∧ bits .and .u64 (x : Int) 6148914691236517205 = b1 ∧ IntKind.u64.wrap (a1 + b1) = z1 ∧
    bits .and .u64 (z1 / 4) 3689348814741910323 = a2 ∧ bits .and .u64 z1 3689348814741910323 = b2 ∧ IntKind.u64.wrap (a2 + b2) = z2 ∧
    IntKind.u64.wrap (z2 / 16 + z2) = y3 ∧ bits .and .u64 y3 1085102592571150095 = z3 ∧ IntKind.u64.wrap (z3 + z3 / 256) = z4 ∧ IntKind.u64.wrap (z4 + z4 / 65536) = z5 ∧ IntKind.u64.wrap (z5 + z5 / 4294967296) = z6 ∧
    IntKind.i64.wrap z6 = z6 ∧ bits .and .i64 z6 127 = (n : Int) := by
  obtain ⟨x1, x2, x3, x4, x5, x6, e1, l1, e2, l2, e3, l3, e4, l4, e5, l5, e6, l6, hn⟩ := h.ex
  have hw : ∀ m : Nat, m < 18446744073709551616 → IntKind.u64.wrap (m : Int) = (m : Int) := fun m hm => by rw [IntKind.wrap_u64]; omega
  have hd : ∀ a b : Nat, (a : Int) / (b : Int) = ((a / b : Nat) : Int) := fun a b => (Int.natCast_ediv a b).symm
  refine ⟨((x / 2 &&& 6148914691236517205 : Nat) : Int), ((x &&& 6148914691236517205 : Nat) : Int), (x1 : Int), ((x1 / 4 &&& 3689348814741910323 : Nat) : Int), ((x1 &&& 3689348814741910323 : Nat) : Int), (x2 : Int), ((x2 / 16 + x2 : Nat) : Int), (x3 : Int), (x4 : Int), (x5 : Int), (x6 : Int), ?_, ?_, ?_, ?_, ?_, ?_, ?_, ?_, ?_, ?_, ?_, ?_, ?_⟩
  · exact u64_and_nat (x / 2) 6148914691236517205 (Nat.lt_of_le_of_lt (Nat.div_le_self _ _) hx) (by decide)
  · exact u64_and_nat x 6148914691236517205 hx (by decide)
  · rw [← hw x1 l1, e1, Int.natCast_add]
  · exact u64_and_nat (x1 / 4) 3689348814741910323 (Nat.lt_of_le_of_lt (Nat.div_le_self _ _) l1) (by decide)
  · exact u64_and_nat x1 3689348814741910323 l1 (by decide)
  · rw [← hw x2 (by omega), e2, Int.natCast_add]
  · rw [← hw (x2 / 16 + x2) (by omega), Int.natCast_add]; rfl
  · rw [e3]; exact u64_and_nat (x2 / 16 + x2) 1085102592571150095 (by omega) (by decide)
  · rw [← hw x4 (by omega), e4, Int.natCast_add]; rfl
  · rw [← hw x5 (by omega), e5, Int.natCast_add]; rfl
  · rw [← hw x6 (by omega), e6, Int.natCast_add]; rfl
  · exact IntWalk.i64_in _ (by omega)
  · rw [← hn, ← Nat.and_two_pow_sub_one_eq_mod x6 7]
    exact i64_and_nat x6 127 (by omega) (by decide)
set_option maxHeartbeats 400000 in
theorem pop_any (x n : Nat) (w : World) (hx : x < 18446744073709551616) (h : Pop x n) :
    Calls Tryd.prog 26 #[.int .u64 (x : Int)] w fun e w' => e = .returned (.int .i64 (n : Int)) ∧ w = w' := by
  obtain ⟨a1, b1, z1, a2, b2, z2, y3, z3, z4, z5, z6, f1, f2, f3, f4, f5, f6, f7, f8, f9, f10, f11, f12, f13⟩ := pop_facts x n hx h
  generalize (x : Int) = X at *
  clear hx h
  go_enter Tryd.func26, Tryd.ntmps26
  go_wp2_with fail
  go_ret
  exact ⟨rfl, rfl⟩
theorem bytes_getD (D : Array UInt8) (k : Nat) (h : k < (ByteArray.mk D).size) : (ByteArray.mk D)[k] = D.getD k 0 := by
  have h' : k < D.size := h
  simp [Array.getD, h']
  rfl
/-- How many bits a byte's number has. -/
def len8 (x : Nat) : Nat := if x = 0 then 0 else Nat.log2 x + 1
def lenTab : List UInt8 := (List.range 256).map fun x => UInt8.ofNat (len8 x)
set_option maxRecDepth 100000 in
set_option maxHeartbeats 400000 in
theorem len8_any (x : UInt8) (w : World) :
    Calls Tryd.prog 28 #[.int .u8 x.toNat] w fun e w' => e = .returned (.int .i64 ((len8 x.toNat : Nat) : Int)) ∧ w = w' := by
  have hx : x.toNat < 256 := x.toNat_lt
  have hxi : (x.toNat : Int) < 256 := by omega
  go_enter Tryd.func28, Tryd.ntmps28
  go_upto_region 1 with fail
  go_wp2_with fail
  go_ret
  refine ⟨congrArg (fun z => Ending.returned (.int .i64 z)) ?_, rfl⟩
  rw [bytes_getD]
  clear hxi
  generalize x.toNat = k at *
  revert hx
  revert k
  decide +kernel
end Go.Proofs.YtlhfdoaknfgemaaDoor
