/-
  DERIVED. GIVEN WITH THE SEED: THE CARDS: each row of YtieehjkmfmkfjaaGreatDoorRows.lean that lists a variable, with what it lists TIED to the program's text (the seventh form; the later family's looks); each row that meets fmt, with fmt's text TOLD by the authors' own Lean function (tested against real Go, not proved from fmt's source: count such statements apart). THE CARD IS WHAT COUNTS. Prove the row's statement (the work); the ties are given (YtieehjkmfmkfjaaGreatDoorTie.lean); close each card by the builder's one call (the guide's Derived/Test/ToyasCard.lean, 'card_holds'). Laid BY PROGRAM, IN A SANDBOX (cutbox-door.mjs). By AI agents, Wed Nov 11 2026. No macro, syntax, notation, axiom, sorry.
-/
import Derived.Test.YtieehjkmfmkfjaaGreatDoorRows
import GoSem.ClaimSeven
namespace Go.Proofs.YtieehjkmfmkfjaaGreatDoor
namespace Rows

/-- THE TIED CARD OF 'solderlaw05.ObjPrints'. -/
def objPrintsCard : Claim7 := { stood := { row := objPrintsRow, standIns := [], harness := (true, "f47e59bba5d4e81b86e5abca758a72436c6b1d522b96ac7af0e12a0401a6414f"), looks := true }, kinds := [], alts := [], laidByText := true, laidKinds := [.data, .data, .data, .data, .sentinel, .sentinel, .pinned], laidTests := true, laidLooks := .later }
def ObjPrintsCardSaid : Prop := Claim7.holds Tryz.pinned (.plain (OpenSpec.ofChange objPrintsSpec)) objPrintsCard

/-- THE TIED CARD OF 'solderlaw05.ObjParses'. -/
def objParsesCard : Claim7 := { stood := { row := objParsesRow, standIns := [], harness := (true, "f47e59bba5d4e81b86e5abca758a72436c6b1d522b96ac7af0e12a0401a6414f"), looks := true }, kinds := [], alts := [], laidByText := true, laidKinds := [.data, .data, .data, .data, .sentinel, .sentinel, .pinned], laidTests := true, laidLooks := .later }
def ObjParsesCardSaid : Prop := Claim7.holds Tryz.pinned (.plain (OpenSpec.ofChange objParsesSpec)) objParsesCard

/-- THE TIED CARD OF 'solderlaw05.ObjOne'. -/
def objOneCard : Claim7 := { stood := { row := objOneRow, standIns := [], harness := (true, "f47e59bba5d4e81b86e5abca758a72436c6b1d522b96ac7af0e12a0401a6414f"), looks := true }, kinds := [], alts := [], laidByText := true, laidKinds := [.data, .data, .data, .data, .sentinel, .sentinel, .pinned], laidTests := true, laidLooks := .later }
def ObjOneCardSaid : Prop := Claim7.holds Tryz.pinned (.plain (OpenSpec.ofChange objOneSpec)) objOneCard

/-- THE TIED CARD OF 'solderlaw05.ObjTurned'. -/
def objTurnedCard : Claim7 := { stood := { row := objTurnedRow, standIns := [], harness := (true, "f47e59bba5d4e81b86e5abca758a72436c6b1d522b96ac7af0e12a0401a6414f"), looks := true }, kinds := [], alts := [], laidByText := true, laidKinds := [.data, .data, .data, .data, .sentinel, .sentinel, .pinned], laidTests := true, laidLooks := .later }
def ObjTurnedCardSaid : Prop := Claim7.holds Tryz.pinned (.plain (OpenSpec.ofChange objTurnedSpec)) objTurnedCard

/-- THE TIED CARD OF 'solderlaw05.ObjMore'. -/
def objMoreCard : Claim7 := { stood := { row := objMoreRow, standIns := [], harness := (true, "f47e59bba5d4e81b86e5abca758a72436c6b1d522b96ac7af0e12a0401a6414f"), looks := true }, kinds := [], alts := [], laidByText := true, laidKinds := [.data, .data, .data, .data, .sentinel, .sentinel, .pinned], laidTests := true, laidLooks := .later }
def ObjMoreCardSaid : Prop := Claim7.holds Tryz.pinned (.plain (OpenSpec.ofChange objMoreSpec)) objMoreCard

/-- THE SECOND FORM's CARD OF 'solderlaw05.ObjPrints'. -/
def objPrintsUptoCard : Claim7 := { stood := { row := objPrintsUptoRow, standIns := [], harness := (true, "f47e59bba5d4e81b86e5abca758a72436c6b1d522b96ac7af0e12a0401a6414f"), looks := true }, kinds := [], alts := [], laidByText := true, laidKinds := [.data, .data, .data, .data, .sentinel, .sentinel, .pinned], laidTests := true, laidLooks := .later }
def ObjPrintsUptoCardSaid : Prop := Claim7.holds Tryz.pinned (.plain (OpenSpec.upto objPrintsSpec)) objPrintsUptoCard

/-- THE SECOND FORM's CARD OF 'solderlaw05.ObjParses'. -/
def objParsesUptoCard : Claim7 := { stood := { row := objParsesUptoRow, standIns := [], harness := (true, "f47e59bba5d4e81b86e5abca758a72436c6b1d522b96ac7af0e12a0401a6414f"), looks := true }, kinds := [], alts := [], laidByText := true, laidKinds := [.data, .data, .data, .data, .sentinel, .sentinel, .pinned], laidTests := true, laidLooks := .later }
def ObjParsesUptoCardSaid : Prop := Claim7.holds Tryz.pinned (.plain (OpenSpec.upto objParsesSpec)) objParsesUptoCard

/-- THE SECOND FORM's CARD OF 'solderlaw05.ObjOne'. -/
def objOneUptoCard : Claim7 := { stood := { row := objOneUptoRow, standIns := [], harness := (true, "f47e59bba5d4e81b86e5abca758a72436c6b1d522b96ac7af0e12a0401a6414f"), looks := true }, kinds := [], alts := [], laidByText := true, laidKinds := [.data, .data, .data, .data, .sentinel, .sentinel, .pinned], laidTests := true, laidLooks := .later }
def ObjOneUptoCardSaid : Prop := Claim7.holds Tryz.pinned (.plain (OpenSpec.upto objOneSpec)) objOneUptoCard

/-- THE SECOND FORM's CARD OF 'solderlaw05.ObjTurned'. -/
def objTurnedUptoCard : Claim7 := { stood := { row := objTurnedUptoRow, standIns := [], harness := (true, "f47e59bba5d4e81b86e5abca758a72436c6b1d522b96ac7af0e12a0401a6414f"), looks := true }, kinds := [], alts := [], laidByText := true, laidKinds := [.data, .data, .data, .data, .sentinel, .sentinel, .pinned], laidTests := true, laidLooks := .later }
def ObjTurnedUptoCardSaid : Prop := Claim7.holds Tryz.pinned (.plain (OpenSpec.upto objTurnedSpec)) objTurnedUptoCard

/-- THE SECOND FORM's CARD OF 'solderlaw05.ObjMore'. -/
def objMoreUptoCard : Claim7 := { stood := { row := objMoreUptoRow, standIns := [], harness := (true, "f47e59bba5d4e81b86e5abca758a72436c6b1d522b96ac7af0e12a0401a6414f"), looks := true }, kinds := [], alts := [], laidByText := true, laidKinds := [.data, .data, .data, .data, .sentinel, .sentinel, .pinned], laidTests := true, laidLooks := .later }
def ObjMoreUptoCardSaid : Prop := Claim7.holds Tryz.pinned (.plain (OpenSpec.upto objMoreSpec)) objMoreUptoCard
end Rows
end Go.Proofs.YtieehjkmfmkfjaaGreatDoor
