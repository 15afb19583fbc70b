/- What the table reads as when the call begins: as the program's text lays it. No condition. -/
import Derived.Test.YtfcljcikajaedaaGreatDoorMg49
import Derived.Test.YtfcljcikajaedaaGreatDoorMg2
import Derived.Test.YtfcljcikajaedaaGreatDoorRows
import Derived.Test.YtfcljcikajaedaaGreatDoorCards
import Derived.Test.YtfcljcikajaedaaGreatDoorTie
import Derived.SevenTiedAt
import Derived.Stop.Joined
namespace Go.Proofs.YtfcljcikajaedaaGreatDoor
open Go.ChangeShapes Go.WideShapes Go.ChangeAt Go.RowKit

def laidL : List (String × DataW Unit) := [("armarium/crc.halves", Rows.laid_armarium_crc_halves)]
theorem gHalves : Tryz.prog.globalNamed "armarium/crc.halves" = some 0 := by kernel_rfl
theorem tHalves : (Tryz.prog.globals[0]?).map (·.type) = some 210 := by kernel_rfl
theorem cU32 : Tryz.prog.cellsOf 144 = 1 := by kernel_rfl
theorem cHalves : Tryz.prog.cellsOf 210 = 16 := by kernel_rfl
def tabZ : List Int := [0, 274646895, 549293790, 820201905, 1098587580, 1361435347, 1640403810, 1905808397, 2197175160, 2460548119, 2722870694, 2987750089, 3280807620, 3553878443, 3811616794, 4084100981]
theorem tabZ_get (i : Nat) (hi : i < 16) : tabZ[i]? = some ((tab i : Nat) : Int) := by
  have h : ∀ i : Fin 16, tabZ[i.val]? = some ((tab i.val : Nat) : Int) := by decide +kernel
  exact h ⟨i, hi⟩
theorem door_met (os : Os) (args : Array Value) : laidMetH Tryz.prog laidL ((World.doorLaid Tryz.prog 400 os).forCall (fun _ _ => 0) ⟨#[], args, []⟩).memory :=
  laidMetH_of_parts3 (fuel := 8) (laidMet_of_run' 8 (by kernel_rfl) (by kernel_rfl)) (by kernel_rfl) (by kernel_rfl)
theorem tbl_of_laid {W : World} (h : laidMetH Tryz.prog laidL W) : Tbl W := by
  rw [MakeChecks.laidMetH_plain _ _ _ (by kernel_rfl)] at h
  obtain ⟨ps, ⟨g0, t0, cs0, f0, p0, q0, hg0, ht0, hv0, hd0, _, _⟩, _, _⟩ := h
  obtain rfl := Option.some.inj (gHalves.symm.trans hg0)
  obtain rfl := Option.some.inj (tHalves.symm.trans ht0)
  intro i hi
  have hc := laid_array (zs := tabZ) Tryz.underlying210 Tryz.underlying144 cU32 hd0 i ((tab i : Nat) : Int) hi (tabZ_get i hi)
  rw [World.var?_cell hg0 hv0 i, ← hc, Array.getElem?_toList]
theorem own : ownKnob Tryz.prog.godebug = none := by kernel_rfl
theorem laidOut : laidOutB Tryz.prog = true := by kernel_rfl
end Go.Proofs.YtfcljcikajaedaaGreatDoor
