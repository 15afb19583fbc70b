/- What stands behind the last whole block: the bytes left, a byte 128, bytes 0, the length in bits. No condition but the size. -/
import Derived.Test.YtbchfpcdmkldeaaDoorShaDefs
import Derived.Test.YtbchfpcdmkldeaaDoorMem2
import Derived.Test.YtbchfpcdmkldeaaDoorRow
import Derived.IntWalk
import Derived.Laws.ShiftsVarLaws
namespace Go.Proofs.YtbchfpcdmkldeaaDoor
open Go.RowKit

/-- A number's 8 bytes, the highest one first. -/
def be8 (n : Nat) : List UInt8 := (List.range 8).map fun i => UInt8.ofNat (n / 2 ^ (56 - 8 * i))
/-- How many bytes 0 stand behind n bytes. -/
def zerosN (n : Nat) : Nat := (119 - n % 64) % 64
/-- The last bytes, with what stands behind them. -/
def tailL (l : List UInt8) (size : Nat) : List UInt8 := l ++ [128] ++ List.replicate (zerosN l.length) 0 ++ be8 (size * 8)
theorem tailL_length (l : List UInt8) (size : Nat) (h : l.length < 64) : (tailL l size).length = 64 ∨ (tailL l size).length = 128 := by
  simp only [tailL, be8, zerosN, List.length_append, List.length_replicate, List.length_map, List.length_range, List.length_singleton]
  omega
theorem byte_at (n s : Nat) : ((n : Int) / 2 ^ s) % 256 = ((UInt8.ofNat (n / 2 ^ s)).toNat : Int) := by
  rw [UInt8.toNat_ofNat', Int.natCast_emod, Int.natCast_ediv, Int.natCast_pow]
  rfl
theorem be8_take (n i : Nat) (h : i < 8) : (be8 n).take (i + 1) = (be8 n).take i ++ [UInt8.ofNat (n / 2 ^ (56 - 8 * i))] := by
  rw [List.take_succ_eq_append_getElem (by simp [be8, h])]
  simp [be8]

def lenS : Value → Nat
  | .slice _ n _ => n
  | _ => 0
def made128 : Array Value := Array.replicate 128 (.int .u8 0)
theorem one_cell (x : UInt8) : #[Value.int .u8 ((x.toNat : Nat) : Int)] = (bcs [x]).toArray := rfl

set_option maxHeartbeats 4000000 in
set_option maxRecDepth 100000 in
theorem tail_any (A : Option Addr) (c size : Nat) (l : List UInt8) (w : World) (hl : l.length < 64) (hs : size ≤ 4294967296) (hr : Rd w A l) :
    Calls Tryd.prog 13 #[.slice A l.length c, .int .i64 size] w fun e w' => ∃ v, e = .returned v ∧ w'.ownsRow w.heap.size 5 1 v (tailL l size).length (bcs (tailL l size)) ∧ Kp (fun _ => False) w w' := by
  obtain ⟨i0, hi, hz0, hz1, hz2⟩ := info_parts info_byt
  have hmade := World.ownsRow_made (e := 5) (size := 1) w made128 128 (Nat.le_refl _) (by simp [maxLen]) (by simp [made128])
  have Hmade := Lib.hid hmade
  have hr1 := Lib.hid (hr.alloc (.cells made128 5))
  have hk1 := Lib.hid ((Kp.refl (fun _ => False) w).alloc (.cells made128 5))
  clear hmade hr
  have hmk : ∀ w : World, (Instr.makeSlice 22 (.int .i64 0) (.int .i64 128)).run Tryd.prog w = .ok (.slice (some ⟨w.heap.size, 0, none⟩) 0 128) (w.alloc (.cells made128 5)) := fun _ => by kernel_rfl
  go_enter Tryd.func13, Tryd.ntmps13
  go_wp2_with (first | (at_builtin; refine wpList_putB _ w.heap.size ?c0 rfl (.tmp 9) (.tmp 10) 22 rfl 5 i0 Tryd.underlying22 hi hz0 hz1 hz2 _ rfl [] l Hmade.out A _ c rfl rfl hr1.out ?c1 ?_))
  case c0 => simp
  case c1 => simp only [List.length_nil, Nat.zero_add]; omega
  intro v1 w1 hown1 hg1 hat1
  have hk2 := Lib.hid (hk1.out.grown hg1 (fun k h => .inl (by cases h; exact Nat.le_refl _)))
  have Hown1 : Hid (w1.ownsRow w.heap.size 5 1 v1 l.length (bcs l)) := Lib.hid hown1
  clear hown1 hg1 hat1 hmk Hmade hr1 hk1
  have e128 := one_cell 128
  have HrA := Lib.hid (rd_mark w1 5 [128] (0, 0) w1.heap.size rfl)
  rw [← e128] at HrA
  have Hown1a := Lib.hid (Hown1.out.alloc (.cells #[Value.int .u8 (((128 : UInt8).toNat : Nat) : Int)] 5))
  have hk2a := Lib.hid (hk2.out.alloc (.cells #[Value.int .u8 (((128 : UInt8).toNat : Nat) : Int)] 5))
  clear e128
  go_wp2_with (first | (at_builtin; refine wpList_putB _ w.heap.size ?c2 rfl (.tmp 12) (.tmp 13) 22 rfl 5 i0 Tryd.underlying22 hi hz0 hz1 hz2 _ rfl l [128] Hown1a.out _ 1 1 rfl rfl HrA.out ?c3 ?_))
  case c2 => exact hk2a.out.size
  case c3 => simp only [List.length_singleton]; omega
  intro v2 w2 hown2 hg2 hat2
  have hk3 := Lib.hid (hk2a.out.grown hg2 (fun k h => .inl (Hown1a.out.lt k h).1))
  have Hown2 := Lib.hid hown2
  clear hown2 hg2 hat2 Hown1 Hown1a HrA hk2 hk2a
  go_wp2_with fail
  obtain ⟨A2, c2, rfl⟩ := own_shape' Hown2.out
  have Hl := Lib.hid hl
  clear hl
  go_loopw [5] (fun b wr => ∃ (bl : List UInt8) (j : Nat) (A' : Option Addr) (c' : Nat), b = .slice A' bl.length c' ∧ bl = l ++ [128] ++ List.replicate j 0 ∧ j ≤ zerosN l.length ∧ wr.ownsRow w.heap.size 5 1 (.slice A' bl.length c') bl.length (bcs bl) ∧ Kp (fun _ => False) w wr) (fun b _ => 200 - lenS b)
  case atStart => exact ⟨l ++ [128], 0, A2, c2, by simp, by simp, Nat.zero_le _, by simpa using Hown2.out, hk3.out⟩
  case round =>
    obtain ⟨bl, j, A3, c3, rfl, hbl, hj, hown, hkp⟩ := hrel
    have Hown := Lib.hid hown
    have Hkp := Lib.hid hkp
    have Hj := Lib.hid hj
    have Hbl := Lib.hid hbl
    have hn : Hid (bl.length = l.length + 1 + j) := Lib.hid (by rw [hbl]; simp; omega)
    clear hown hkp hj hbl
    have ht : ((bl.length : Int)).tmod 64 = ((bl.length % 64 : Nat) : Int) := (Int.ofNat_tmod bl.length 64).symm
    have hn64 : bl.length < 200 := by have := Hl.out; have := Hj.out; have := hn.out; unfold zerosN at *; omega
    by_cases h56 : bl.length % 64 = 56
    · rw [h56] at ht
      have hjz : Hid (j = zerosN l.length) := Lib.hid (by have := Hl.out; have := Hj.out; have := hn.out; unfold zerosN at *; omega)
      go_wp2_with fail
      clear ht h56
      go_loopw [5, 7] (fun b s wr => ∃ (b2 : List UInt8) (i : Nat) (z : Int) (A' : Option Addr) (c' : Nat), b = .slice A' b2.length c' ∧ s = .int .i64 z ∧ z = 56 - 8 * (i : Int) ∧ i ≤ 8 ∧ b2 = bl ++ (be8 (size * 8)).take i ∧ wr.ownsRow w.heap.size 5 1 (.slice A' b2.length c') b2.length (bcs b2) ∧ Kp (fun _ => False) w wr) (fun _ s _ => (intOf s + 8).toNat)
      case atStart => exact ⟨bl, 0, 56, A3, c3, rfl, rfl, rfl, by omega, by simp, Hown.out, Hkp.out⟩
      case round =>
        obtain ⟨b2, i, z, A5, c5, rfl, rfl, hz, hi8, hb2, hown, hkp⟩ := hrel
        have Hown := Lib.hid hown
        have Hkp := Lib.hid hkp
        have Hz := Lib.hid hz
        have Hb2 := Lib.hid hb2
        have hn2 : b2.length < 300 := by rw [hb2, List.length_append, List.length_take]; omega
        clear hown hkp hz hb2
        by_cases hi8' : i < 8
        · obtain ⟨m, hm⟩ : ∃ m : Nat, z = m := ⟨56 - 8 * i, by have := Hz.out; omega⟩
          subst hm
          have hm56 : Hid (m = 56 - 8 * i) := Lib.hid (by have := Hz.out; omega)
          have hm57 : m < 57 := by have := hm56.out; omega
          have hx := byte_at (size * 8) m
          rw [Int.natCast_mul] at hx
          have Hx := Lib.hid hx
          have htk := be8_take (size * 8) i hi8'
          rw [← hm56.out] at htk
          have Htk := Lib.hid htk
          clear hx htk
          generalize UInt8.ofNat (size * 8 / 2 ^ m) = x at *
          have e0 := one_cell x
          have HrA := Lib.hid (rd_mark wr 5 [x] (0, 0) wr.heap.size rfl)
          rw [← e0, ← Hx.out] at HrA
          have Howna := Lib.hid (Hown.out.alloc (.cells #[Value.int .u8 ((((x.toNat : Nat) : Int)))] 5))
          have hka := Lib.hid (Hkp.out.alloc (.cells #[Value.int .u8 (((x.toNat : Nat) : Int))] 5))
          rw [← Hx.out] at Howna hka
          clear e0
          go_wp2_with (first | (at_builtin; refine wpList_putB _ w.heap.size ?c4 rfl (.tmp 29) (.tmp 34) 22 rfl 5 i0 Tryd.underlying22 hi hz0 hz1 hz2 _ rfl b2 [x] Howna.out _ 1 1 rfl rfl HrA.out ?c5 ?_))
          case c4 => exact hka.out.size
          case c5 => simp only [List.length_singleton]; omega
          intro v4 w4 hown4 hg4 hat4
          have hk4 := Lib.hid (hka.out.grown hg4 (fun k h => .inl (Howna.out.lt k h).1))
          obtain ⟨A4, c4, rfl⟩ := own_shape' hown4
          have Hown4 := Lib.hid hown4
          clear hown4 hg4 hat4
          go_wp2_with fail
          go_roundw
          case rel => exact ⟨b2 ++ [x], i + 1, _, A4, c4, by simp, rfl, by have := Hz.out; omega, by omega, by rw [Htk.out, Hb2.out, List.append_assoc], by simpa using Hown4.out, hk4.out⟩
          case measure => simp [intOf]; omega
        · obtain rfl : i = 8 := by omega
          have hzneg : z < 0 := by have := Hz.out; omega
          have Hfin : Hid (b2 = tailL l size) := Lib.hid (by
            rw [Hb2.out, Hbl.out, hjz.out, List.take_of_length_le (by simp [be8])]
            rfl)
          go_wp2_with fail
          go_ret
          refine ⟨_, rfl, ?_, Hkp.out⟩
          rw [← Hfin.out]
          exact Hown.out
    · have hne : ((bl.length % 64 : Nat) : Int) ≠ 56 := by omega
      have hjz : Hid (j + 1 ≤ zerosN l.length) := Lib.hid (by have := Hl.out; have := Hj.out; have := hn.out; unfold zerosN at *; omega)
      generalize ((bl.length % 64 : Nat) : Int) = r at *
      clear h56
      have e0 := one_cell 0
      have HrA := Lib.hid (rd_mark wr 5 [0] (0, 0) wr.heap.size rfl)
      rw [← e0] at HrA
      have Howna := Lib.hid (Hown.out.alloc (.cells #[Value.int .u8 (((0 : UInt8).toNat : Nat) : Int)] 5))
      have hka := Lib.hid (Hkp.out.alloc (.cells #[Value.int .u8 (((0 : UInt8).toNat : Nat) : Int)] 5))
      clear e0
      go_wp2_with (first | (at_builtin; refine wpList_putB _ w.heap.size ?c4 rfl (.tmp 19) (.tmp 20) 22 rfl 5 i0 Tryd.underlying22 hi hz0 hz1 hz2 _ rfl bl [0] Howna.out _ 1 1 rfl rfl HrA.out ?c5 ?_))
      case c4 => exact hka.out.size
      case c5 => simp only [List.length_singleton]; omega
      intro v4 w4 hown4 hg4 hat4
      have hk4 := Lib.hid (hka.out.grown hg4 (fun k h => .inl (Howna.out.lt k h).1))
      obtain ⟨A4, c4, rfl⟩ := own_shape' hown4
      have Hown4 := Lib.hid hown4
      clear hown4 hg4 hat4
      go_wp2_with fail
      go_roundw
      case rel => exact ⟨bl ++ [0], j + 1, A4, c4, by simp, by rw [Hbl.out, List.replicate_succ', List.append_assoc], hjz.out, by simpa using Hown4.out, hk4.out⟩
      case measure => simp [lenS]; omega
end Go.Proofs.YtbchfpcdmkldeaaDoor
