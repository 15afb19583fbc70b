/- What the two tables read as when the call begins: as the program's text lays them. No condition. -/
import Derived.Test.YtbchfpcdmkldeaaDoorShaSum
import Derived.Test.YtbchfpcdmkldeaaDoorByt
import Derived.Test.YtbchfpcdmkldeaaDoorRows
import Derived.Test.YtbchfpcdmkldeaaDoorCards
import Derived.Test.YtbchfpcdmkldeaaDoorTie
import Derived.SevenTiedAt
import Derived.Stop.Joined
namespace Go.Proofs.YtbchfpcdmkldeaaDoor
open Go.ChangeShapes Go.WideShapes Go.ChangeAt Go.RowKit

def laidL : List (String × DataW Unit) := [("armarium/sha.first", Rows.laid_armarium_sha_first), ("armarium/sha.constants", Rows.laid_armarium_sha_constants)]
theorem gFirst : Tryd.prog.globalNamed "armarium/sha.first" = some 0 := by kernel_rfl
theorem gConst : Tryd.prog.globalNamed "armarium/sha.constants" = some 1 := by kernel_rfl
theorem tFirst : (Tryd.prog.globals[0]?).map (·.type) = some 31 := by kernel_rfl
theorem tConst : (Tryd.prog.globals[1]?).map (·.type) = some 42 := by kernel_rfl
theorem cU32 : Tryd.prog.cellsOf 30 = 1 := by kernel_rfl
theorem door_met (os : Os) (args : Array Value) : laidMetH Tryd.prog laidL ((World.doorLaid Tryd.prog 400 os).forCall (fun _ _ => 0) ⟨#[], args, []⟩).memory :=
  laidMetH_of_parts3 (fuel := 8) (laidMet_of_run' 8 (by kernel_rfl) (by kernel_rfl)) (by kernel_rfl) (by kernel_rfl)
theorem range_of {W : World} {g : Nat} {zs : List Int} (h : ∀ i z, zs[i]? = some z → W.cell? ⟨g, i, none⟩ = some (.int .u32 z)) : W.rangeAt g 0 (zs.map (.int .u32)) := fun j v hj => by
  rw [List.getElem?_map] at hj
  obtain ⟨z, hz, rfl⟩ := Option.map_eq_some_iff.1 hj
  rw [Nat.zero_add]
  exact h j z hz
theorem tbls_of_laid {W : World} (h : laidMetH Tryd.prog laidL W) : Tbls W := by
  rw [MakeChecks.laidMetH_plain _ _ _ (by kernel_rfl)] at h
  obtain ⟨ps, ⟨g0, t0, cs0, f0, p0, q0, hg0, ht0, hv0, hd0, hrest, _⟩, _, _⟩ := h
  obtain ⟨g1, t1, cs1, f1, p1, q1, hg1, ht1, hv1, hd1, _, _⟩ := hrest
  obtain rfl := Option.some.inj (gFirst.symm.trans hg0)
  obtain rfl := Option.some.inj (tFirst.symm.trans ht0)
  obtain rfl := Option.some.inj (gConst.symm.trans hg1)
  obtain rfl := Option.some.inj (tConst.symm.trans ht1)
  refine ⟨range_of (zs := kList) fun i z hz => ?_, range_of (zs := h0Z.list) fun i z hz => ?_⟩
  · have hi : i < 64 := (List.getElem?_eq_some_iff.1 hz).1
    have hc := laid_array (zs := kList) Tryd.underlying42 Tryd.underlying30 cU32 hd1 i z hi hz
    rw [World.var?_cell hg1 hv1 i, ← hc, Array.getElem?_toList]
  · have hi : i < 8 := (List.getElem?_eq_some_iff.1 hz).1
    have hc := laid_array (zs := h0Z.list) Tryd.underlying31 Tryd.underlying30 cU32 hd0 i z hi hz
    rw [World.var?_cell hg0 hv0 i, ← hc, Array.getElem?_toList]
theorem own : ownKnob Tryd.prog.godebug = none := by kernel_rfl
theorem laidOut : laidOutB Tryd.prog = true := by kernel_rfl
end Go.Proofs.YtbchfpcdmkldeaaDoor
