/- The reference's tables: the same constants and first words as the program's. No condition. -/
import Derived.Test.YtbchfpcdmkldeaaDoorRefPrime
import Derived.Test.YtbchfpcdmkldeaaDoorShaSum
namespace Go.Proofs.YtbchfpcdmkldeaaDoor
open Go.RowKit

def t72 (f : Nat → Nat) : List Value := (List.range 72).map fun j => .int .u32 ((f j : Nat) : Int)
theorem t72_length (f : Nat → Nat) : (t72 f).length = 72 := by simp [t72]
theorem t72_one (f : Nat → Nat) : ∀ v ∈ t72 f, v.oneCell' = true := fun v hv => by
  obtain ⟨_, _, rfl⟩ := List.mem_map.1 hv
  rfl
theorem t72_set (f : Nat → Nat) (r v : Nat) : (t72 f).toArray.setIfInBounds r (.int .u32 ((v : Nat) : Int)) = (t72 (fun q => if q = r then v else f q)).toArray := by
  rw [List.setIfInBounds_toArray]
  congr 1
  apply List.ext_getElem?
  intro j
  rw [List.getElem?_set]
  simp only [t72, List.length_map, List.length_range, List.getElem?_map]
  rcases Nat.lt_or_ge j 72 with hj | hj
  · rw [List.getElem?_range hj]
    by_cases e : r = j
    · rw [if_pos e, if_pos (by omega)]
      simp [e]
    · rw [if_neg e]
      simp [Ne.symm e]
  · rw [List.getElem?_eq_none (l := List.range 72) (by simpa using hj)]
    by_cases e : r = j
    · rw [if_pos e, if_neg (by omega)]; rfl
    · rw [if_neg e]; rfl
theorem t72_cell {w : World} {g : Nat} {t : TypeId} {f : Nat → Nat} (h : Box w g t (t72 f).toArray) (j : Nat) (hj : j < 72) : w.cell? ⟨g, j, none⟩ = some (.int .u32 ((f j : Nat) : Int)) := by
  rw [h.cell]
  simp [t72, hj]
/-- The tables while they are made. -/
def tst (k j : Nat) : Nat := if j < 64 then (if j < k then rootOf (primesL.getD j 0) 3 else 0) else (if j - 64 < k then rootOf (primesL.getD (j - 64) 0) 2 else 0)
theorem tst_start : tst 0 = fun _ => 0 := by
  funext j; simp [tst]
theorem tst_both (k : Nat) (h : k < 8) : (fun q => if q = 64 + k then rootOf (primesL.getD k 0) 2 else (if q = k then rootOf (primesL.getD k 0) 3 else tst k q)) = tst (k + 1) := by
  funext q
  unfold tst
  by_cases h1 : q = 64 + k
  · subst h1
    rw [if_pos rfl, if_neg (by omega), if_pos (by omega), show 64 + k - 64 = k by omega]
  · rw [if_neg h1]
    by_cases h2 : q = k
    · subst h2
      rw [if_pos rfl, if_pos (by omega), if_pos (by omega)]
    · rw [if_neg h2]
      by_cases h3 : q < 64
      · rw [if_pos h3, if_pos h3]
        by_cases h4 : q < k
        · rw [if_pos h4, if_pos (by omega)]
        · rw [if_neg h4, if_neg (by omega)]
      · rw [if_neg h3, if_neg h3]
        by_cases h4 : q - 64 < k
        · rw [if_pos h4, if_pos (by omega)]
        · rw [if_neg h4, if_neg (by omega)]
theorem tst_one (k : Nat) (h : 8 ≤ k) (h64 : k < 64) (q : Nat) (hq : q < 72) : (if q = k then rootOf (primesL.getD k 0) 3 else tst k q) = tst (k + 1) q := by
  unfold tst
  by_cases h2 : q = k
  · subst h2
    rw [if_pos rfl, if_pos (by omega), if_pos (by omega)]
  · rw [if_neg h2]
    by_cases h3 : q < 64
    · rw [if_pos h3, if_pos h3]
      by_cases h4 : q < k
      · rw [if_pos h4, if_pos (by omega)]
      · rw [if_neg h4, if_neg (by omega)]
    · rw [if_neg h3, if_neg h3, if_pos (by omega), if_pos (by omega)]
theorem t72_congr (f g : Nat → Nat) (h : ∀ q, q < 72 → f q = g q) : t72 f = t72 g := by
  unfold t72
  refine List.map_congr_left fun q hq => ?_
  rw [h q (List.mem_range.1 hq)]
/-- The constants and the first words. -/
def tabN (j : Nat) : Nat := if j < 64 then (kList.getD j 0).toNat else (h0Z.list.getD (j - 64) 0).toNat
theorem primes_small : ∀ i : Fin 64, primesL.getD i.val 0 < 65536 := by decide +kernel
theorem roots3 : ∀ i : Fin 64, Nat.mod (rootK (valL (zero9.set (2 * 3) (primesL.getD i.val 0))) 3 37 0 0) 4294967296 = (kList.getD i.val 0).toNat := by decide +kernel
theorem roots2 : ∀ i : Fin 8, Nat.mod (rootK (valL (zero9.set (2 * 2) (primesL.getD i.val 0))) 2 37 0 0) 4294967296 = (h0Z.list.getD i.val 0).toNat := by decide +kernel
theorem tst_last (q : Nat) (hq : q < 72) : tst 64 q = tabN q := by
  unfold tst tabN
  by_cases h : q < 64
  · rw [if_pos h, if_pos h, if_pos h]
    exact root_of _ 3 _ (primes_small ⟨q, h⟩) (roots3 ⟨q, h⟩)
  · rw [if_neg h, if_neg h, if_pos (by omega)]
    exact root_of _ 2 _ (primes_small ⟨q - 64, by omega⟩) (roots2 ⟨q - 64, by omega⟩)
theorem infoT : (Tryd.prog.info? 44).map (·.size) = some 72 := by kernel_rfl
theorem infoT' (f : Nat → Nat) : (Tryd.prog.info? 44).map (·.size) = some (t72 f).length := by rw [t72_length]; exact infoT

end Go.Proofs.YtbchfpcdmkldeaaDoor
