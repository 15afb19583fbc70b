/- The acts of the laws of layer 4: how they lie in memory, and whether they are more, or greater, than a law looks at. No condition. -/
import Derived.Test.YtfcljcikajaedaaDoorMg25
namespace Go.Proofs.YtfcljcikajaedaaDoor
open Go.RowKit Go.Maps

/-- An act. -/
structure Ac where
  d : Int
  n : Int
  keep : List UInt8
  c : UInt8
  short : Bool
structure Ac.Ok (x : Ac) : Prop where
  d0 : 0 ≤ x.d
  d1 : x.d < 256
  n0 : -9223372036854775808 ≤ x.n
  n1 : x.n ≤ 9223372036854775807
  k1 : x.keep.length ≤ maxLen
def Ac.cells (x : Ac) : Array Value := #[.int .u8 x.d, .int .i64 x.n, .string ⟨x.keep.toArray⟩, .int .u8 x.c.toNat, .bool x.short]
/-- A slice at A reads as these acts, in blocks below B. -/
def Acs (w : World) (B : Nat) (A : Option Addr) (l : List Ac) : Prop :=
  (∀ x ∈ l, x.Ok) ∧ (l = [] ∨ ∃ b o, A = some ⟨b, o, none⟩ ∧ b < B ∧ ∀ i x, l[i]? = some x → ∀ j v, x.cells[j]? = some v → w.cell? ⟨b, o + i * 5 + j, none⟩ = some v)
theorem Acs.keep {w w' : World} {B : Nat} {A : Option Addr} {l : List Ac} (h : Acs w B A l) (hk : ∀ k, k < B → w'.heap[k]? = w.heap[k]?) : Acs w' B A l := by
  refine ⟨h.1, ?_⟩
  rcases h.2 with h0 | ⟨b, o, rfl, hb, hc⟩
  · exact .inl h0
  · exact .inr ⟨b, o, rfl, hb, fun i x hx j v hv => (World.cell?_of_block (hk b hb)).trans (hc i x hx j v hv)⟩
/-- More than 80 acts, or a text of more than 40 bytes. -/
def greatA (l : List Ac) : Bool := decide (80 < l.length) || l.any fun x => decide (40 < x.keep.length)
theorem not_great {l : List Ac} (h : greatA l = false) : l.length ≤ 80 ∧ ∀ x ∈ l, x.keep.length ≤ 40 := by
  simp [greatA] at h
  exact ⟨h.1, fun x hx => h.2 x hx⟩
theorem dtake_snoc {α : Type} (l : List α) (k : Nat) (h : k < l.length) : l.take (k + 1) = l.take k ++ [l[k]] := by
  rw [List.take_succ_eq_append_getElem h]
section
variable {B : Nat} {A : Option Addr} {l : List Ac} {w : World}

end
end Go.Proofs.YtfcljcikajaedaaDoor
