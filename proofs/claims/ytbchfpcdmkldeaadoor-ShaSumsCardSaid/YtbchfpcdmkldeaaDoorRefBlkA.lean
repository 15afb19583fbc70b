/- The reference's blocks: words for their walk. No condition. -/
import Derived.Test.YtbchfpcdmkldeaaDoorRefTabs
import Derived.StillTailTactics
import Derived.Deep.AppendLies
import Derived.Deep.RegionLaw
import Derived.BigRegion
namespace Go.Proofs.YtbchfpcdmkldeaaDoor
open Go.RowKit

theorem str_add (a b : List UInt8) : (⟨a.toArray⟩ : ByteArray) ++ (⟨b.toArray⟩ : ByteArray) = ⟨(a ++ b).toArray⟩ := by
  apply ByteArray.ext
  simp

def strS : Value → Nat
  | .string s => s.size
  | _ => 0
theorem str_size (a : List UInt8) : (⟨a.toArray⟩ : ByteArray).size = a.length := by show a.toArray.size = _; simp
/-- Numbers of 32 bits, a cell each. -/
def c32 (o : List Nat) : List Value := o.map fun (x : Nat) => Value.int .u32 ((x : Nat) : Int)
theorem c32_append (a b : List Nat) : c32 a ++ c32 b = c32 (a ++ b) := by simp [c32]
/-- The first k words of 32 bits of a row of bytes. -/
def wordsN (p : List UInt8) (k : Nat) : List Nat := (List.range k).map fun i => wf p (4 * i) 4
theorem wordsN_succ (p : List UInt8) (k : Nat) : wordsN p (k + 1) = wordsN p k ++ [wf p (4 * k) 4] := by
  simp [wordsN, List.range_succ]
theorem wordsN_length (p : List UInt8) (k : Nat) : (wordsN p k).length = k := by simp [wordsN]
theorem run_index_text {P : Program} (w : World) (t : TypeId) (s : ByteArray) (l : List UInt8) (a c : Nat) (ht : P.underlying t = some .string) (hs : s = ⟨l.toArray⟩) (hl : a + c < l.length) :
    (Instr.index t (.string s) (.int .i64 ((a : Int) + (c : Int)))).run P w = .ok (.int .u8 ((l.getD (a + c) 0).toNat : Int)) w := by
  subst hs
  have e : ((a : Int) + (c : Int)).toNat = a + c := by omega
  have h0 : (0 : Int) ≤ (a : Int) + (c : Int) := by omega
  have hg : (⟨l.toArray⟩ : ByteArray)[a + c]? = some (l.getD (a + c) 0) := by
    have hsz : a + c < (⟨l.toArray⟩ : ByteArray).size := by rw [str_size]; exact hl
    rw [getElem?_pos (⟨l.toArray⟩ : ByteArray) (a + c) hsz, List.getD_eq_getElem?_getD, List.getElem?_eq_getElem hl]
    rfl
  simp [Instr.index, run_underlying ht, asIntOf, e, h0, hg]
theorem text_get (s : ByteArray) (l : List UInt8) (hs : s = ⟨l.toArray⟩) (i : Nat) (hi : i < s.size) : (s[i]'hi).toNat = (l.getD i 0).toNat := by
  subst hs
  have hl : i < l.length := by rw [str_size] at hi; exact hi
  rw [List.getD_eq_getElem?_getD, List.getElem?_eq_getElem hl]
  rfl
theorem padded_length (l : List UInt8) : (tailL l l.length).length = 64 * ((tailL l l.length).length / 64) := by
  simp only [tailL, be8, zerosN, List.length_append, List.length_replicate, List.length_map, List.length_range, List.length_singleton]
  omega

end Go.Proofs.YtbchfpcdmkldeaaDoor
