/- A text's bit. No condition. -/
import Derived.Test.YtfcljcikajaedaaDoorMg13
namespace Go.Proofs.YtfcljcikajaedaaDoor
open Go.RowKit Go.Maps

set_option maxHeartbeats 2000000 in
theorem bit_any (l : List UInt8) (i : Nat) (hi : i < 1073741824) (_hl : l.length ≤ maxLen) (w : World) :
    Calls Tryd.prog 86 #[.string ⟨l.toArray⟩, .int .i64 i] w fun r w' => r = .returned (.bool (bitOf l i)) ∧ w = w' := by
  unfold maxLen at _hl
  obtain ⟨q, hqe⟩ : ∃ q, q = i / 8 := ⟨_, rfl⟩
  obtain ⟨r, hre⟩ : ∃ r, r = i % 8 := ⟨_, rfl⟩
  have hb : bitOf l i = (decide (q < l.length) && ((l.getD q 0).toNat / 2 ^ r % 2 == 1)) := by rw [bitOf, ← hqe, ← hre]
  have hq : ((i : Int)).tdiv 8 = (q : Int) := by rw [hqe]; exact (Int.ofNat_tdiv i 8).symm
  have hr : ((i : Int)).tmod 8 = (r : Int) := by rw [hre]; exact (Int.ofNat_tmod i 8).symm
  have hr8 : r < 8 := by omega
  have hq8 : q < 1073741824 := by omega
  have HB := Lib.hid hb
  clear hb hqe hre
  by_cases hlt : q < l.length
  · have hget : l.getD q 0 = l[q] := by simp [hlt]
    have HG := Lib.hid hget
    clear hget
    go_enter Tryd.func86, Tryd.ntmps86
    go_wp2
    go_ret
    refine ⟨?_, rfl⟩
    rw [HB.out, HG.out]
    rw [decide_eq_true hlt]
    have hx : l[q].toNat < 256 := l[q].toNat_lt
    have hand : bits .and .u8 ((l[q].toNat : Int) / 2 ^ r) 1 = ((l[q].toNat / 2 ^ r % 2 : Nat) : Int) := by
      have := u8_and_nat (l[q].toNat / 2 ^ r) 1 (Nat.lt_of_le_of_lt (Nat.div_le_self _ _) hx) (by decide)
      rw [Nat.and_one_is_mod] at this
      rw [← this]
      simp
    have hbr : ∀ x : Nat, (((x : Nat) : Int) == 1) = (x == 1) := fun x => by
      rw [Bool.eq_iff_iff]; simp; omega
    show Ending.returned (.bool (bits .and .u8 ((l[q].toNat : Int) / 2 ^ r) 1 == 1)) = _
    rw [hand, hbr]
    simp
  · have hd : decide (q < l.length) = false := by simpa using hlt
    go_enter Tryd.func86, Tryd.ntmps86
    go_wp2
    go_ret
    refine ⟨?_, rfl⟩
    rw [HB.out]
    simp [hd]
theorem lose1_any (l : List UInt8) (i : Nat) (hi : i < 1073741824) (hl : l.length ≤ maxLen) (w : World) (p : Nat) (hp : w.cell? ⟨p, 0, none⟩ = some (.string ⟨l.toArray⟩)) :
    Calls Tryd.prog 85 #[.int .i64 i, .pointer (some ⟨p, 0, none⟩)] w fun r w' => r = .returned (.bool (bitOf l i)) ∧ w = w' := by
  go_enter Tryd.func85, Tryd.ntmps85
  go_wp2_with fail
  refine (bit_any l i hi hl _).mono ?_
  rintro e w' ⟨rfl, rfl⟩
  go_wp2_with fail
  go_ret
  exact ⟨rfl, rfl⟩
theorem flush1_any (i : Nat) (w : World) :
    Calls Tryd.prog 58 #[.int .i64 i] w fun r w' => r = .returned (.bool true) ∧ w = w' := by
  go_enter Tryd.func58, Tryd.ntmps58
  go_wp2_with fail
  go_ret
  exact ⟨rfl, rfl⟩
end Go.Proofs.YtfcljcikajaedaaDoor
