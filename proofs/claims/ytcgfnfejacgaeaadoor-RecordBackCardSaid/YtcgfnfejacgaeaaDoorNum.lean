/- Numbers as bytes, the highest one first, and back: plain arithmetic, no program. -/
import Derived.Test.YtcgfnfejacgaeaaDoorMem
import Derived.IntWalk
namespace Go.Proofs.YtcgfnfejacgaeaaDoor
open Go.RowKit

/-- The number that bytes say. -/
def numN (l : List UInt8) : Nat := l.foldl (fun n b => n * 256 + b.toNat) 0
/-- The lowest w bytes of a number. -/
def beN : Nat → Nat → List UInt8
  | 0, _ => []
  | w + 1, n => beN w (n / 256) ++ [UInt8.ofNat (n % 256)]

theorem numN_snoc (l : List UInt8) (b : UInt8) : numN (l ++ [b]) = numN l * 256 + b.toNat := by simp [numN]
theorem numN_lt_aux (m : List UInt8) : ∀ l : List UInt8, numN l < 256 ^ l.length → numN (l ++ m) < 256 ^ (l ++ m).length := by
  induction m with
  | nil => intro l h; simpa using h
  | cons b m ih =>
    intro l h
    have e : l ++ b :: m = (l ++ [b]) ++ m := by simp
    rw [e]
    refine ih _ ?_
    rw [numN_snoc]
    simp only [List.length_append, List.length_cons, List.length_nil, Nat.zero_add, Nat.pow_succ]
    have := b.toNat_lt
    omega
theorem numN_lt (l : List UInt8) : numN l < 256 ^ l.length := by simpa using numN_lt_aux l [] (by simp [numN])
theorem numN_lt8 (l : List UInt8) (h : l.length ≤ 8) : numN l < 18446744073709551616 := by
  have h1 := numN_lt l
  have h2 : 256 ^ l.length ≤ 256 ^ 8 := Nat.pow_le_pow_right (by omega) h
  have h3 : 256 ^ 8 = 18446744073709551616 := by decide
  omega
theorem take_snoc {α : Type} (l : List α) (k : Nat) (h : k < l.length) : l.take (k + 1) = l.take k ++ [l[k]] := by
  rw [List.take_succ_eq_append_getElem h]
theorem numN_take (l : List UInt8) (k : Nat) (h : k < l.length) : numN (l.take (k + 1)) = numN (l.take k) * 256 + l[k].toNat := by
  rw [take_snoc l k h, numN_snoc]
theorem beN_length : ∀ w n, (beN w n).length = w
  | 0, _ => rfl
  | w + 1, n => by simp [beN, beN_length w]
theorem beN_get : ∀ w n j, j < w → (beN w n)[j]? = some (UInt8.ofNat (n / 256 ^ (w - 1 - j) % 256))
  | 0, _, j, h => by omega
  | w + 1, n, j, h => by
    rw [beN]
    rcases Nat.lt_or_ge j w with hj | hj
    · rw [List.getElem?_append_left (by rw [beN_length]; exact hj), beN_get w (n / 256) j hj, Nat.div_div_eq_div_mul]
      have e : 256 * 256 ^ (w - 1 - j) = 256 ^ (w + 1 - 1 - j) := by
        rw [← Nat.pow_succ']
        exact congrArg (fun k => 256 ^ k) (by omega)
      rw [e]
    · obtain rfl : j = w := by omega
      rw [List.getElem?_append_right (by rw [beN_length]; omega), beN_length]
      simp
theorem numN_beN : ∀ w n, n < 256 ^ w → numN (beN w n) = n
  | 0, n, h => by simp at h; simp [beN, numN, h]
  | w + 1, n, h => by
    rw [Nat.pow_succ] at h
    have hm : n % 256 < 256 := Nat.mod_lt _ (by omega)
    have e : (UInt8.ofNat (n % 256)).toNat = n % 256 := by simp
    rw [beN, numN_snoc, numN_beN w (n / 256) (by omega), e]
    omega

/-- One step of the loop, in the walk's words. -/
theorem or_step (n b : Nat) (h : n * 256 + 256 ≤ 18446744073709551616) (hb : b < 256) : bits .or .u64 (IntKind.u64.wrap ((n : Int) * 256)) (IntKind.u64.wrap (b : Int)) = ((n * 256 + b : Nat) : Int) := by
  have e1 : IntKind.u64.wrap ((n : Int) * 256) = ((n * 256 : Nat) : Int) := by rw [IntWalk.u64_in _ (by omega)]; omega
  have e2 : IntKind.u64.wrap (b : Int) = ((b : Nat) : Int) := IntWalk.u64_in _ (by omega)
  rw [e1, e2, u64_or_nat _ _ (by omega) (by omega)]
  have := Nat.shiftLeft_add_eq_or_of_lt (i := 8) (b := b) (by omega) n
  rw [Nat.shiftLeft_eq] at this
  simp only [Nat.reducePow] at this
  rw [this]

end Go.Proofs.YtcgfnfejacgaeaaDoor
