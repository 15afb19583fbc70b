/-
  DERIVED. GIVEN WITH THE SEED: THE CARDS: each row of YtdacjhgjaneeeaaDoorRows.lean that lists a variable, with what it lists TIED to the program's text (the seventh form; the later family's looks); each row that meets fmt, with fmt's text TOLD by the authors' own Lean function (tested against real Go, not proved from fmt's source: count such statements apart). THE CARD IS WHAT COUNTS. Prove the row's statement (the work); the ties are given (YtdacjhgjaneeeaaDoorTie.lean); close each card by the builder's one call (the guide's Derived/Test/ToyasCard.lean, 'card_holds'). Laid BY PROGRAM, IN A SANDBOX (cutbox-door.mjs). By AI agents, Wed Nov 11 2026. No macro, syntax, notation, axiom, sorry.
-/
import Derived.Test.YtdacjhgjaneeeaaDoorRows
import GoSem.ClaimSeven
namespace Go.Proofs.YtdacjhgjaneeeaaDoor
namespace Rows

/-- THE TIED CARD OF 'armariumlaw05.SheetPuts'. -/
def sheetPutsCard : Claim7 := { stood := { row := sheetPutsRow, standIns := [], harness := (true, "30739a850edfe92c2ce713690ec02d1ac0abe96d94e1028d15c5fcfc9a05dc33"), looks := false }, kinds := [], alts := [], laidByText := true, laidKinds := [.data], laidTests := true, laidLooks := .later }
def SheetPutsCardSaid : Prop := Claim7.holds Tryd.pinned (.plain (OpenSpec.ofChange sheetPutsSpec)) sheetPutsCard

/-- THE TIED CARD OF 'armariumlaw05.SheetCuts'. -/
def sheetCutsCard : Claim7 := { stood := { row := sheetCutsRow, standIns := [], harness := (true, "30739a850edfe92c2ce713690ec02d1ac0abe96d94e1028d15c5fcfc9a05dc33"), looks := false }, kinds := [], alts := [], laidByText := true, laidKinds := [.data], laidTests := true, laidLooks := .later }
def SheetCutsCardSaid : Prop := Claim7.holds Tryd.pinned (.plain (OpenSpec.ofChange sheetCutsSpec)) sheetCutsCard

/-- THE TIED CARD OF 'armariumlaw05.SheetBack'. -/
def sheetBackCard : Claim7 := { stood := { row := sheetBackRow, standIns := [], harness := (true, "30739a850edfe92c2ce713690ec02d1ac0abe96d94e1028d15c5fcfc9a05dc33"), looks := false }, kinds := [], alts := [], laidByText := true, laidKinds := [.data], laidTests := true, laidLooks := .later }
def SheetBackCardSaid : Prop := Claim7.holds Tryd.pinned (.plain (OpenSpec.ofChange sheetBackSpec)) sheetBackCard

/-- THE SECOND FORM's CARD OF 'armariumlaw05.SheetPuts'. -/
def sheetPutsUptoCard : Claim7 := { stood := { row := sheetPutsUptoRow, standIns := [], harness := (true, "30739a850edfe92c2ce713690ec02d1ac0abe96d94e1028d15c5fcfc9a05dc33"), looks := false }, kinds := [], alts := [], laidByText := true, laidKinds := [.data], laidTests := true, laidLooks := .later }
def SheetPutsUptoCardSaid : Prop := Claim7.holds Tryd.pinned (.plain (OpenSpec.upto sheetPutsSpec)) sheetPutsUptoCard

/-- THE SECOND FORM's CARD OF 'armariumlaw05.SheetCuts'. -/
def sheetCutsUptoCard : Claim7 := { stood := { row := sheetCutsUptoRow, standIns := [], harness := (true, "30739a850edfe92c2ce713690ec02d1ac0abe96d94e1028d15c5fcfc9a05dc33"), looks := false }, kinds := [], alts := [], laidByText := true, laidKinds := [.data], laidTests := true, laidLooks := .later }
def SheetCutsUptoCardSaid : Prop := Claim7.holds Tryd.pinned (.plain (OpenSpec.upto sheetCutsSpec)) sheetCutsUptoCard

/-- THE SECOND FORM's CARD OF 'armariumlaw05.SheetBack'. -/
def sheetBackUptoCard : Claim7 := { stood := { row := sheetBackUptoRow, standIns := [], harness := (true, "30739a850edfe92c2ce713690ec02d1ac0abe96d94e1028d15c5fcfc9a05dc33"), looks := false }, kinds := [], alts := [], laidByText := true, laidKinds := [.data], laidTests := true, laidLooks := .later }
def SheetBackUptoCardSaid : Prop := Claim7.holds Tryd.pinned (.plain (OpenSpec.upto sheetBackSpec)) sheetBackUptoCard
end Rows
end Go.Proofs.YtdacjhgjaneeeaaDoor
