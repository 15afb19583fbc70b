/- The things of the laws of layer 1: how they lie in memory, what is put of them, and whether they are more, or greater, than a law looks at. No condition. -/
import Derived.Test.YtjapnkpicefadaaPkB
import Derived.Deep.RegionLaw
namespace Go.Proofs.Ytjapnkpicefadaa
open Go.RowKit

/-- A thing. -/
structure It where
  d : Int
  wd : Int
  n : Nat
  s : ByteArray

/-- It fits its kinds. -/
structure It.Ok (x : It) : Prop where
  d0 : 0 ≤ x.d
  d1 : x.d < 256
  w0 : -9223372036854775808 ≤ x.wd
  w1 : x.wd ≤ 9223372036854775807
  n1 : x.n < 18446744073709551616
  s1 : x.s.size ≤ maxLen

/-- Its four cells. -/
def It.cells (x : It) : Array Value := #[.int .u8 x.d, .int .i64 x.wd, .int .u64 x.n, .string x.s]

/-- A slice at A reads as these things, in blocks below B. -/
def Its (w : World) (B : Nat) (A : Option Addr) (l : List It) : Prop :=
  (∀ x ∈ l, x.Ok) ∧ (l = [] ∨ ∃ b o, A = some ⟨b, o, none⟩ ∧ b < B ∧ ∀ i x, l[i]? = some x → ∀ j v, x.cells[j]? = some v → w.cell? ⟨b, o + i * 4 + j, none⟩ = some v)

theorem Its.keep {w w' : World} {B : Nat} {A : Option Addr} {l : List It} (h : Its w B A l) (hk : ∀ k, k < B → w'.heap[k]? = w.heap[k]?) : Its w' B A l := by
  refine ⟨h.1, ?_⟩
  rcases h.2 with h0 | ⟨b, o, rfl, hb, hc⟩
  · exact .inl h0
  · exact .inr ⟨b, o, rfl, hb, fun i x hx j v hv => (World.cell?_of_block (hk b hb)).trans (hc i x hx j v hv)⟩

/-- The bytes of a thing's hash. -/
def hb (s : ByteArray) : List UInt8 := (tb s).take 32 ++ List.replicate (32 - (tb s).length) 0
theorem hb_length (s : ByteArray) : (hb s).length = 32 := by
  unfold hb
  simp
  omega

/-- A number that goes in. -/
def fitB (wd : Int) (n : Nat) : Bool := wdB wd && decide (n < 256 ^ wd.toNat)
/-- What is put of a thing, if it may be. -/
def enc1 (x : It) : Option (List UInt8) :=
  if x.d = 0 then (if fitB x.wd x.n then some (beN x.wd.toNat x.n) else none)
  else if x.d = 1 then some (hb x.s)
  else if x.d = 2 then some (tb x.s)
  else if x.s.size < 256 then some (UInt8.ofNat x.s.size :: tb x.s) else none

theorem enc1_le (x : It) (b : List UInt8) (h : enc1 x = some b) (hs : x.s.size ≤ 400) : b.length ≤ 401 := by
  have ht : (tb x.s).length = x.s.size := Array.length_toList
  unfold enc1 at h
  split at h
  · split at h
    · cases h
      rw [beN_length]
      rename_i hf
      simp [fitB, wdB] at hf
      omega
    · cases h
  · split at h
    · cases h
      rw [hb_length]
      omega
    · split at h
      · cases h
        omega
      · split at h
        · cases h
          simp only [List.length_cons]
          omega
        · cases h

/-- A packer behind one thing more. -/
def put1 (st : List UInt8 × Int) (x : It) : List UInt8 × Int :=
  match enc1 x with
  | some b => (putS st.1 st.2 b, st.2)
  | none => ([], errS st.2 6)
def putAll (l : List It) : List UInt8 × Int := l.foldl put1 ([], 0)
theorem putAll_snoc (l : List It) (x : It) : putAll (l ++ [x]) = put1 (putAll l) x := by simp [putAll]
theorem putAll_take (l : List It) (k : Nat) (h : k < l.length) : putAll (l.take (k + 1)) = put1 (putAll (l.take k)) l[k] := by
  rw [take_snoc l k h, putAll_snoc]
theorem put1_le (st : List UInt8 × Int) (x : It) (hs : x.s.size ≤ 400) : (put1 st x).1.length ≤ st.1.length + 401 := by
  unfold put1
  split
  · next b hb =>
    have := enc1_le x b hb hs
    have := putS_le st.1 st.2 b
    simp only
    omega
  · simp
theorem putAll_le (l : List It) (hl : ∀ x ∈ l, x.s.size ≤ 400) : ∀ k, k ≤ l.length → (putAll (l.take k)).1.length ≤ k * 401
  | 0, _ => by simp [putAll]
  | k + 1, h => by
    rw [putAll_take l k h]
    have h1 := putAll_le l hl k (by omega)
    have h2 := put1_le (putAll (l.take k)) l[k] (hl _ (List.getElem_mem _))
    omega

/-- More than 60 things, or a text of more than 400 bytes. -/
def greatB (l : List It) : Bool := decide (60 < l.length) || l.any fun x => decide (400 < x.s.size)
theorem not_great {l : List It} (h : greatB l = false) : l.length ≤ 60 ∧ ∀ x ∈ l, x.s.size ≤ 400 := by
  simp [greatB] at h
  exact ⟨h.1, fun x hx => h.2 x hx⟩

section
variable {B : Nat} {A : Option Addr} {l : List It} {w : World}

end

end Go.Proofs.Ytjapnkpicefadaa
