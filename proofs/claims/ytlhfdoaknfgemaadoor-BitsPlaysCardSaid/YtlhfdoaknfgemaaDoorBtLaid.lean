/- The table of the lowest bit, as it is laid. No condition. -/
import Derived.Test.YtlhfdoaknfgemaaDoorBtTz
import Derived.Test.YtlhfdoaknfgemaaDoorByt
import Derived.Test.YtlhfdoaknfgemaaDoorRows
import Derived.Test.YtlhfdoaknfgemaaDoorCards
import Derived.Test.YtlhfdoaknfgemaaDoorTie
import Derived.SevenTiedAt
import Derived.Stop.Joined
namespace Go.Proofs.YtlhfdoaknfgemaaDoor
open Go.ChangeShapes Go.WideShapes Go.ChangeAt Go.RowKit

def laidL : List (String × DataW Unit) := [("math/bits.deBruijn64tab", Rows.laid_math_bits_deBruijn64tab)]
theorem gTab : Tryd.prog.globalNamed "math/bits.deBruijn64tab" = some 0 := by kernel_rfl
theorem tTab : (Tryd.prog.globals[0]?).map (·.type) = some 64 := by kernel_rfl
theorem cU8 : Tryd.prog.cellsOf 5 = 1 := by kernel_rfl
theorem cTab : Tryd.prog.cellsOf 64 = 64 := by kernel_rfl
def tabZ : List Int := bruijn.map Int.ofNat
theorem tabZ_get (i : Nat) (hi : i < 64) : tabZ[i]? = some ((bruijn.getD i 0 : Nat) : Int) := by
  have h : ∀ i : Fin 64, tabZ[i.val]? = some ((bruijn.getD i.val 0 : Nat) : Int) := by decide +kernel
  exact h ⟨i, hi⟩
theorem door_met (os : Os) (args : Array Value) : laidMetH Tryd.prog laidL ((World.doorLaid Tryd.prog 400 os).forCall (fun _ _ => 0) ⟨#[], args, []⟩).memory :=
  laidMetH_of_parts3 (fuel := 8) (laidMet_of_run' 8 (by kernel_rfl) (by kernel_rfl)) (by kernel_rfl) (by kernel_rfl)
theorem tbl_of_laid {W : World} (h : laidMetH Tryd.prog laidL W) : Tbl W := by
  rw [MakeChecks.laidMetH_plain _ _ _ (by kernel_rfl)] at h
  obtain ⟨ps, ⟨g0, t0, cs0, f0, p0, q0, hg0, ht0, hv0, hd0, _, _⟩, _, _⟩ := h
  obtain rfl := Option.some.inj (gTab.symm.trans hg0)
  obtain rfl := Option.some.inj (tTab.symm.trans ht0)
  intro i hi
  have hc := laid_array (zs := tabZ) Tryd.underlying64 Tryd.underlying5 cU8 hd0 i ((bruijn.getD i 0 : Nat) : Int) hi (tabZ_get i hi)
  rw [World.var?_cell hg0 hv0 i, ← hc, Array.getElem?_toList]
theorem own : ownKnob Tryd.prog.godebug = none := by kernel_rfl
theorem laidOut : laidOutB Tryd.prog = true := by kernel_rfl
end Go.Proofs.YtlhfdoaknfgemaaDoor
