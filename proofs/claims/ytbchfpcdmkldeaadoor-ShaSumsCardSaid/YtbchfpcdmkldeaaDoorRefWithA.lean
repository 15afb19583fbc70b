/- The reference's hash: the words for its walk. No condition. -/
import Derived.Test.YtbchfpcdmkldeaaDoorRefTabs
import Derived.Test.YtbchfpcdmkldeaaDoorShaSum
namespace Go.Proofs.YtbchfpcdmkldeaaDoor
open Go.RowKit

/-- The reference's table while it is worked on: the constants, and the eight words. -/
def tcells (f : Nat → Int) : List Value := (List.range 72).map fun j => .int .u32 (if j < 64 then kZ j else f (j - 64))
theorem tcells_start : t72 tabN = tcells (fun q => h0Z.list.getD q 0) := by
  have h : ∀ j : Fin 72, ((tabN j.val : Nat) : Int) = if j.val < 64 then kZ j.val else h0Z.list.getD (j.val - 64) 0 := by decide +kernel
  unfold t72 tcells
  refine List.map_congr_left fun j hj => ?_
  have := h ⟨j, List.mem_range.1 hj⟩
  simp only at this
  rw [this]
theorem tcells_k {w : World} {g : Nat} {t : TypeId} {f : Nat → Int} (h : Box w g t (tcells f).toArray) (j : Nat) (hj : j < 64) : w.cell? ⟨g, j, none⟩ = some (.int .u32 (kZ j)) := by
  rw [h.cell]
  simp [tcells, show j < 72 by omega, hj]
theorem tcells_h {w : World} {g : Nat} {t : TypeId} {f : Nat → Int} (h : Box w g t (tcells f).toArray) (j : Nat) (hj : j < 8) : w.cell? ⟨g, 64 + j, none⟩ = some (.int .u32 (f j)) := by
  rw [h.cell]
  simp [tcells, show 64 + j < 72 by omega]
  intro h; omega
theorem tcells_set (f : Nat → Int) (r : Nat) (v : Int) : (tcells f).toArray.setIfInBounds (64 + r) (.int .u32 v) = (tcells (fun q => if q = r then v else f q)).toArray := by
  rw [List.setIfInBounds_toArray]
  congr 1
  apply List.ext_getElem?
  intro j
  rw [List.getElem?_set]
  simp only [tcells, List.length_map, List.length_range, List.getElem?_map]
  rcases Nat.lt_or_ge j 72 with hj | hj
  · rw [List.getElem?_range hj]
    by_cases e : 64 + r = j
    · rw [if_pos e, if_pos (by omega)]
      simp only [Option.map_some]
      rw [if_neg (by omega), if_pos (by omega)]
    · rw [if_neg e]
      simp only [Option.map_some]
      by_cases h64 : j < 64
      · rw [if_pos h64, if_pos h64]
      · rw [if_neg h64, if_neg h64, if_neg (by omega)]
  · rw [List.getElem?_eq_none (l := List.range 72) (by simpa using hj)]
    by_cases e : 64 + r = j
    · rw [if_pos e, if_neg (by omega)]; rfl
    · rw [if_neg e]; rfl
theorem tcells_congr (f g : Nat → Int) (h : ∀ q, q < 8 → f q = g q) : tcells f = tcells g := by
  unfold tcells
  refine List.map_congr_left fun j hj => ?_
  have := List.mem_range.1 hj
  by_cases h64 : j < 64
  · rw [if_pos h64, if_pos h64]
  · rw [if_neg h64, if_neg h64, h (j - 64) (by omega)]
/-- 64 words, a cell each. -/
def w64 (f : Nat → Int) : List Value := (List.range 64).map fun j => .int .u32 (f j)
theorem w64_cell {w : World} {g : Nat} {t : TypeId} {f : Nat → Int} (h : Box w g t (w64 f).toArray) (j : Nat) (hj : j < 64) : w.cell? ⟨g, j, none⟩ = some (.int .u32 (f j)) := by
  rw [h.cell]
  simp [w64, hj]
theorem w64_set (f : Nat → Int) (r : Nat) (v : Int) : (w64 f).toArray.setIfInBounds r (.int .u32 v) = (w64 (fun q => if q = r then v else f q)).toArray := by
  rw [List.setIfInBounds_toArray]
  congr 1
  apply List.ext_getElem?
  intro j
  rw [List.getElem?_set]
  simp only [w64, List.length_map, List.length_range, List.getElem?_map]
  rcases Nat.lt_or_ge j 64 with hj | hj
  · rw [List.getElem?_range hj]
    by_cases e : r = j
    · rw [if_pos e, if_pos (by omega)]
      simp [e]
    · rw [if_neg e]
      simp [Ne.symm e]
  · rw [List.getElem?_eq_none (l := List.range 64) (by simpa using hj)]
    by_cases e : r = j
    · rw [if_pos e, if_neg (by omega)]; rfl
    · rw [if_neg e]; rfl
/-- The first i words are there. -/
def wpart (b : Nat → Int) (i q : Nat) : Int := if q < i then wZ b q else 0
theorem wpart_start (b : Nat → Int) : wpart b 0 = fun _ => 0 := by
  funext q; simp [wpart]
theorem wpart_step (b : Nat → Int) (i : Nat) : (fun q => if q = i then wZ b i else wpart b i q) = wpart b (i + 1) := by
  funext q
  unfold wpart
  by_cases h : q = i
  · subst h; simp
  · rw [if_neg h]
    by_cases h2 : q < i
    · rw [if_pos h2, if_pos (by omega)]
    · rw [if_neg h2, if_neg (by omega)]
theorem wpart_get (b : Nat → Int) (i q : Nat) (h : q < i) : wpart b i q = wZ b q := if_pos h
/-- The reference adds in another order. -/
theorem wZ_ref (b : Nat → Int) (n : Nat) : wZ b (n + 16) = (wZ b n + s0Z (wZ b (n + 1)) + wZ b (n + 9) + s1Z (wZ b (n + 14))) % 4294967296 := by
  rw [wZ_big]
  unfold addZ
  omega
theorem word_blk (P : List UInt8) (m i : Nat) (_h : 64 * m + 64 ≤ P.length) (hi : i < 16) : wordZ (blkAt P m) i = ((wf P (4 * (16 * m + i)) 4 : Nat) : Int) := by
  have hg : ∀ j, j < 64 → (blkAt P m).getD j 0 = P.getD (64 * m + j) 0 := fun j hj => by
    rw [List.getD_eq_getElem?_getD, List.getD_eq_getElem?_getD, blkAt, List.getElem?_take_of_lt hj, List.getElem?_drop]
  have hw : ∀ k, k ≤ 4 → wf (blkAt P m) (4 * i) k = wf P (4 * (16 * m + i)) k := by
    intro k
    induction k with
    | zero => exact fun _ => rfl
    | succ k ih =>
      intro hk
      rw [wf, wf, ih (by omega), hg _ (by omega), show 64 * m + (4 * i + k) = 4 * (16 * m + i) + k by omega]
  rw [wordZ_eq, hw 4 (by omega)]

theorem foldB_range' (s : St) (L : List UInt8) (m : Nat) : foldB s L m = (List.range m).foldl (fun s k => s.block kZ (blkAt L k)) s := by
  have h : (List.finRange m).map (fun k => k.1) = List.range m := List.ext_getElem (by simp) (fun i h1 h2 => by simp)
  rw [foldB, ← h, List.foldl_map]
theorem foldB_succ' (s : St) (L : List UInt8) (m : Nat) : foldB s L (m + 1) = (foldB s L m).block kZ (blkAt L m) := by
  rw [foldB_range', foldB_range', List.range_succ, List.foldl_append]
  rfl
/-- The whole padded row, block by block, is what the program works in. -/
theorem foldB_append (s : St) (X Y : List UInt8) (m n : Nat) (hX : X.length = 64 * m) : foldB s (X ++ Y) (m + n) = foldB (foldB s X m) Y n := by
  have hb1 : ∀ k, k < m → blkAt (X ++ Y) k = blkAt X k := fun k hk => by
    rw [blkAt, blkAt, List.drop_append_of_le_length (by omega), List.take_append_of_le_length (by rw [List.length_drop]; omega)]
  have hb2 : ∀ k, blkAt (X ++ Y) (m + k) = blkAt Y k := fun k => by
    rw [blkAt, blkAt, List.drop_append, List.drop_of_length_le (by omega), List.nil_append, hX, show 64 * (m + k) - 64 * m = 64 * k by omega]
  have h1 : ∀ k, k ≤ m → foldB s (X ++ Y) k = foldB s X k := by
    intro k
    induction k with
    | zero => exact fun _ => by rw [foldB_range', foldB_range', List.range_zero, List.foldl_nil, List.foldl_nil]
    | succ k ih => intro hk; rw [foldB_succ', foldB_succ', ih (by omega), hb1 k (by omega)]
  induction n with
  | zero => exact h1 m (Nat.le_refl _)
  | succ n ih => rw [show m + (n + 1) = m + n + 1 by omega, foldB_succ', foldB_succ', ih, hb2]
theorem sha_whole (l : List UInt8) : shaZ l = foldB h0Z (tailL l l.length) ((tailL l l.length).length / 64) := by
  have e : tailL l l.length = l.take (64 * (l.length / 64)) ++ endL l := by
    have h1 : zerosN (l.drop (64 * (l.length / 64))).length = zerosN l.length := by
      rw [List.length_drop]
      unfold zerosN
      omega
    rw [endL, tailL, tailL, h1]
    simp only [← List.append_assoc, List.take_append_drop]
  have hl : (l.take (64 * (l.length / 64))).length = 64 * (l.length / 64) := by rw [List.length_take]; omega
  have hd : (l.take (64 * (l.length / 64)) ++ endL l).length / 64 = l.length / 64 + (endL l).length / 64 := by
    rw [List.length_append, hl]
    omega
  have hf : foldB h0Z (l.take (64 * (l.length / 64))) (l.length / 64) = foldB h0Z l (l.length / 64) := by
    have hb : ∀ k, k < l.length / 64 → blkAt (l.take (64 * (l.length / 64))) k = blkAt l k := fun k hk => by
      rw [blkAt, blkAt, List.drop_take, List.take_take]
      congr 1
      omega
    have h1 : ∀ k, k ≤ l.length / 64 → foldB h0Z (l.take (64 * (l.length / 64))) k = foldB h0Z l k := by
      intro k
      induction k with
      | zero => exact fun _ => by rw [foldB_range', foldB_range', List.range_zero, List.foldl_nil, List.foldl_nil]
      | succ k ih => intro hk; rw [foldB_succ', foldB_succ', ih (by omega), hb k (by omega)]
    exact h1 _ (Nat.le_refl _)
  rw [shaZ, e, hd, foldB_append _ _ _ _ _ hl, hf]
end Go.Proofs.YtbchfpcdmkldeaaDoor
