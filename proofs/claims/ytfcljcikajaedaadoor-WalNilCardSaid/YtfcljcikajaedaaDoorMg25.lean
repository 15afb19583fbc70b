/- A sector of one byte, and what an act hands to a write. No condition. -/
import Derived.Test.YtfcljcikajaedaaDoorMg24
namespace Go.Proofs.YtfcljcikajaedaaDoor
open Go.RowKit Go.Maps

def fullL (c : UInt8) : List UInt8 := List.replicate 512 c
theorem fullL_length (c : UInt8) : (fullL c).length = 512 := List.length_replicate
def fullAt (c : UInt8) (k : Nat) : List UInt8 := List.replicate k c ++ List.replicate (512 - k) 0
theorem fullAt_length (c : UInt8) (k : Nat) (h : k ≤ 512) : (fullAt c k).length = 512 := by simp only [fullAt, List.length_append, List.length_replicate]; omega
theorem fullAt_get (c : UInt8) (k : Nat) (h : k < 512) : (fullAt c k)[k]? = some 0 := by
  rw [fullAt, List.getElem?_append_right (by simp), List.length_replicate, Nat.sub_self, List.getElem?_replicate_of_lt (by omega)]
theorem fullAt_set (c : UInt8) (k : Nat) (h : k < 512) : (fullAt c k).set k c = fullAt c (k + 1) := by
  rw [fullAt, fullAt, List.set_append_right _ _ (by simp), List.length_replicate, Nat.sub_self]
  obtain ⟨m, hm⟩ : ∃ m, 512 - k = m + 1 := ⟨511 - k, by omega⟩
  rw [hm, show 512 - (k + 1) = m by omega, List.replicate_succ, List.replicate_succ']
  simp
theorem fullAt_end (c : UInt8) : fullAt c 512 = fullL c := by
  rw [fullAt, fullL, Nat.sub_self, List.replicate_zero, List.append_nil]
theorem bcs_set (l : List UInt8) (k : Nat) (c : UInt8) : (bcs l).toArray.setIfInBounds k (.int .u8 c.toNat) = (bcs (l.set k c)).toArray := by
  rw [List.setIfInBounds_toArray]
  congr 1
  simp [bcs, List.map_set]
theorem u8Info : ∃ i, Tryd.prog.info? 5 = some i ∧ i.zero = some (.int .u8 0) ∧ i.size = 1 ∧ i.bytes = 1 := by
  have h : (Tryd.prog.info? 5).map (fun i => (i.zero, i.size, i.bytes)) = some (some (.int .u8 0), 1, 1) := by kernel_rfl
  obtain ⟨i, h1, h2, h3, h4⟩ := info_parts h
  exact ⟨i, h1, h2, h3, h4⟩

/-- Bytes that are new. -/
def NewB (w w' : World) (A : Option Addr) (l : List UInt8) : Prop := ∃ g o cs, A = some ⟨g, o, none⟩ ∧ w.heap.size ≤ g ∧ Box w' g 5 cs ∧ Rd w' A l
theorem NewB.rd {w w' : World} {A : Option Addr} {l : List UInt8} (h : NewB w w' A l) : Rd w' A l := by
  obtain ⟨g, o, cs, _, _, _, hr⟩ := h
  exact hr
theorem NewB.off {w w' : World} {A : Option Addr} {l : List UInt8} (h : NewB w w' A l) : ∀ ad, A = some ad → ∀ cs fr, w'.heap[ad.block]? ≠ some (.cells cs 94 fr) := by
  obtain ⟨g, o, cs, rfl, _, hb, _⟩ := h
  rintro ad e cs fr hh
  cases e
  unfold Box at hb
  rw [hb] at hh
  injection hh with hh
  injection hh with _ h2
  exact absurd h2 (by decide)
theorem NewB.of_box {w w' : World} {g : Nat} {l : List UInt8} (hb : Box w' g 5 (bcs l).toArray) (hg : w.heap.size ≤ g) : NewB w w' (some ⟨g, 0, none⟩) l :=
  ⟨g, 0, _, rfl, hg, hb, .inr ⟨g, 0, rfl, fun j u hj => by rw [hb.cell, Nat.zero_add]; simp [bcs_get, hj]⟩⟩
/-- What an act hands to a write. -/
def dataL (c : UInt8) (short : Bool) : List UInt8 := if short then List.replicate 511 c else fullL c
theorem dataL_true (c : UInt8) : dataL c true = List.replicate 511 c := rfl
theorem dataL_false (c : UInt8) : dataL c false = fullL c := rfl
end Go.Proofs.YtfcljcikajaedaaDoor
