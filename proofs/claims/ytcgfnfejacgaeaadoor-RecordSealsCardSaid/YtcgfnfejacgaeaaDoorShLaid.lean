/- What the table reads as when the call begins: as the program's text lays it. No condition. -/
import Derived.Test.YtcgfnfejacgaeaaDoorByt
import Derived.Test.YtcgfnfejacgaeaaDoorCrcSum
import Derived.Test.YtcgfnfejacgaeaaDoorByt
import Derived.Test.YtcgfnfejacgaeaaDoorRows
import Derived.Test.YtcgfnfejacgaeaaDoorCards
import Derived.Test.YtcgfnfejacgaeaaDoorTie
import Derived.SevenTiedAt
import Derived.Stop.Joined
namespace Go.Proofs.YtcgfnfejacgaeaaDoor
open Go.ChangeShapes Go.WideShapes Go.ChangeAt Go.RowKit

def laidL : List (String × DataW Unit) := [("armarium/crc.halves", Rows.laid_armarium_crc_halves)]
theorem gHalves : Tryd.prog.globalNamed "armarium/crc.halves" = some 0 := by kernel_rfl
theorem tHalves : (Tryd.prog.globals[0]?).map (·.type) = some 95 := by kernel_rfl
theorem cU32 : Tryd.prog.cellsOf 27 = 1 := by kernel_rfl
theorem cHalves : Tryd.prog.cellsOf 95 = 16 := by kernel_rfl
def tabZ : List Int := [0, 274646895, 549293790, 820201905, 1098587580, 1361435347, 1640403810, 1905808397, 2197175160, 2460548119, 2722870694, 2987750089, 3280807620, 3553878443, 3811616794, 4084100981]
theorem tabZ_get (i : Nat) (hi : i < 16) : tabZ[i]? = some ((tab i : Nat) : Int) := by
  have h : ∀ i : Fin 16, tabZ[i.val]? = some ((tab i.val : Nat) : Int) := by decide +kernel
  exact h ⟨i, hi⟩
theorem door_met (os : Os) (args : Array Value) : laidMetH Tryd.prog laidL ((World.doorLaid Tryd.prog 400 os).forCall (fun _ _ => 0) ⟨#[], args, []⟩).memory :=
  laidMetH_of_parts3 (fuel := 8) (laidMet_of_run' 8 (by kernel_rfl) (by kernel_rfl)) (by kernel_rfl) (by kernel_rfl)
theorem tbl_of_laid {W : World} (h : laidMetH Tryd.prog laidL W) : Tbl W := by
  rw [MakeChecks.laidMetH_plain _ _ _ (by kernel_rfl)] at h
  obtain ⟨ps, ⟨g0, t0, cs0, f0, p0, q0, hg0, ht0, hv0, hd0, _, _⟩, _, _⟩ := h
  obtain rfl := Option.some.inj (gHalves.symm.trans hg0)
  obtain rfl := Option.some.inj (tHalves.symm.trans ht0)
  intro i hi
  have hc := laid_array (zs := tabZ) Tryd.underlying95 Tryd.underlying27 cU32 hd0 i ((tab i : Nat) : Int) hi (tabZ_get i hi)
  rw [World.var?_cell hg0 hv0 i, ← hc, Array.getElem?_toList]
theorem own : ownKnob Tryd.prog.godebug = none := by kernel_rfl
theorem laidOut : laidOutB Tryd.prog = true := by kernel_rfl
end Go.Proofs.YtcgfnfejacgaeaaDoor
