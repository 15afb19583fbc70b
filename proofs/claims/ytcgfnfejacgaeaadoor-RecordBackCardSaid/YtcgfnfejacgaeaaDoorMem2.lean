/- More plain words for memory: a block written whole, read whole. No condition. -/
import Derived.Test.YtcgfnfejacgaeaaDoorMem
import Derived.Deep.MidRow
import Derived.Deep.WholeRow
namespace Go.Proofs.YtcgfnfejacgaeaaDoor
open Go.RowKit

section
variable {S : Nat → Prop} {w w' : World} {g : Nat} {t : TypeId}
theorem Box.writes (vs : List Value) : ∀ (o : Nat) (w : World) (L : List Value), Box w g t L.toArray → o + vs.length ≤ L.length → Box (w.setCells g o vs) g t (L.take o ++ vs ++ L.drop (o + vs.length)).toArray := by
  induction vs with
  | nil => intro o w L h _; simpa [World.setCells] using h
  | cons v r ih =>
    intro o w L h hl
    simp only [List.length_cons] at hl
    have h1 := h.put o v
    rw [List.setIfInBounds_toArray] at h1
    have h2 := ih (o + 1) _ _ h1 (by simp; omega)
    rw [World.setCells]
    have e : (L.set o v).take (o + 1) ++ r ++ (L.set o v).drop (o + 1 + r.length) = L.take o ++ v :: r ++ L.drop (o + (v :: r).length) := by
      rw [List.drop_set_of_lt (by omega), List.take_set, List.length_cons, show o + 1 + r.length = o + (r.length + 1) by omega]
      have : (L.take (o + 1)).set o v = L.take o ++ [v] := by
        rw [List.take_succ_eq_append_getElem (by omega), List.set_append_right _ _ (by simp; omega)]
        simp [Nat.min_eq_left (show o ≤ L.length by omega)]
      rw [this]
      simp
    rw [e] at h2
    exact h2
/-- A block, written whole. -/
theorem Box.write {L vs : List Value} (h : Box w g t L.toArray) (hl : vs.length = L.length) : Box (w.setCells g 0 vs) g t vs.toArray := by
  have := Box.writes vs 0 w L h (by omega)
  simpa [hl] using this
theorem Kp.setCells (vs : List Value) : ∀ (o : Nat) (w1 : World), Kp S w w1 → (w.heap.size ≤ g ∨ S g) → Kp S w (w1.setCells g o vs) := by
  induction vs with
  | nil => intro o w1 h _; exact h
  | cons v r ih => intro o w1 h hg; exact ih (o + 1) _ (h.setCell (p := ⟨g, o, none⟩) hg v) hg
theorem Box.range' {L : List Value} (h : Box w g t L.toArray) : w.rangeAt g 0 L := fun j v hj => by
  rw [h.cell, Nat.zero_add]
  simpa using hj
theorem Box.there {L : List Value} (h : Box w g t L.toArray) : w.there g 0 L.toArray.size := fun j hj => by
  rw [h.cell, h.free, Nat.zero_add]
  exact ⟨by simpa using hj, rfl⟩
end
/-- An element of an array that is a value. -/
theorem run_index_agg {P : Program} (w : World) (t e : TypeId) (n : Nat) (k : IntKind) (q : IntKind) (cs : Array Value) (i : Nat) (v : Value) (inf : TypeInfo) (ht : P.underlying t = some (.array n e)) (he : P.underlying e = some (.int q)) (hi : P.info? e = some inf) (hs : inf.size = 1) (hl : i < n) (hc : cs[i]? = some v) :
    (Instr.index t (.agg cs) (.int k (i : Int))).run P w = .ok v w := by
  have h1 : (0 : Int) ≤ i := by omega
  simp [Instr.index, run_underlying ht, asIntOf, part, isAgg, run_underlying he, sizeOf, typeInfo, hi, hs, hc]
  intro; omega
end Go.Proofs.YtcgfnfejacgaeaaDoor
