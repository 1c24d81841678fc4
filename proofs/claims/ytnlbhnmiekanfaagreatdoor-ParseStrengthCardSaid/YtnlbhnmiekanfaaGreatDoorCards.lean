/-
  DERIVED. GIVEN WITH THE SEED: THE CARDS: each row of YtnlbhnmiekanfaaGreatDoorRows.lean that lists a variable, with what it lists TIED to the program's text (the seventh form; the later family's looks); each row that meets fmt, with fmt's text TOLD by the authors' own Lean function (tested against real Go, not proved from fmt's source: count such statements apart). THE CARD IS WHAT COUNTS. Prove the row's statement (the work); the ties are given (YtnlbhnmiekanfaaGreatDoorTie.lean); close each card by the builder's one call (the guide's Derived/Test/ToyasCard.lean, 'card_holds'). Laid BY PROGRAM, IN A SANDBOX (cutbox-door.mjs). By AI agents, Wed Nov 11 2026. No macro, syntax, notation, axiom, sorry.
-/
import Derived.Test.YtnlbhnmiekanfaaGreatDoorRows
import GoSem.ClaimSeven
namespace Go.Proofs.YtnlbhnmiekanfaaGreatDoor
namespace Rows

/-- THE TIED CARD OF 'solderlaw11.ParseStrength'. -/
def parseStrengthCard : Claim7 := { stood := { row := parseStrengthRow, standIns := [], harness := (true, "70da844b5890a45653a0f96ac1991c99313a3b20df355ff4cb06f6c2dca7c9e4"), looks := true }, kinds := [], alts := [], laidByText := true, laidKinds := [.data, .data, .widerDeep, .widerDeep, .data, .data, .data, .data, .data, .sentinel, .sentinel, .pinned, .pinned], laidTests := true, laidLooks := .later }
def ParseStrengthCardSaid : Prop := Claim7.holds Tryz.pinned (.plain (OpenSpec.ofChange parseStrengthSpec)) parseStrengthCard

/-- THE TIED CARD OF 'solderlaw13.FoldOperators'. -/
def foldOperatorsCard : Claim7 := { stood := { row := foldOperatorsRow, standIns := [], harness := (true, "70da844b5890a45653a0f96ac1991c99313a3b20df355ff4cb06f6c2dca7c9e4"), looks := true }, kinds := [], alts := [], laidByText := true, laidKinds := [.data, .data, .widerDeep, .widerDeep, .data, .data, .data, .data, .data, .sentinel, .sentinel, .pinned, .pinned], laidTests := true, laidLooks := .later }
def FoldOperatorsCardSaid : Prop := Claim7.holds Tryz.pinned (.plain (OpenSpec.ofChange foldOperatorsSpec)) foldOperatorsCard

/-- THE TIED CARD OF 'solderlaw13.FoldEdges'. -/
def foldEdgesCard : Claim7 := { stood := { row := foldEdgesRow, standIns := [], harness := (true, "70da844b5890a45653a0f96ac1991c99313a3b20df355ff4cb06f6c2dca7c9e4"), looks := true }, kinds := [], alts := [], laidByText := true, laidKinds := [.data, .data, .widerDeep, .widerDeep, .data, .data, .data, .data, .data, .sentinel, .sentinel, .pinned, .pinned], laidTests := true, laidLooks := .later }
def FoldEdgesCardSaid : Prop := Claim7.holds Tryz.pinned (.plain (OpenSpec.ofChange foldEdgesSpec)) foldEdgesCard

/-- THE TIED CARD OF 'solderlaw13.FoldWords'. -/
def foldWordsCard : Claim7 := { stood := { row := foldWordsRow, standIns := [], harness := (true, "70da844b5890a45653a0f96ac1991c99313a3b20df355ff4cb06f6c2dca7c9e4"), looks := true }, kinds := [], alts := [], laidByText := true, laidKinds := [.data, .data, .widerDeep, .widerDeep, .data, .data, .data, .data, .data, .sentinel, .sentinel, .pinned, .pinned], laidTests := true, laidLooks := .later }
def FoldWordsCardSaid : Prop := Claim7.holds Tryz.pinned (.plain (OpenSpec.ofChange foldWordsSpec)) foldWordsCard

/-- THE SECOND FORM's CARD OF 'solderlaw11.ParseStrength'. -/
def parseStrengthUptoCard : Claim7 := { stood := { row := parseStrengthUptoRow, standIns := [], harness := (true, "70da844b5890a45653a0f96ac1991c99313a3b20df355ff4cb06f6c2dca7c9e4"), looks := true }, kinds := [], alts := [], laidByText := true, laidKinds := [.data, .data, .widerDeep, .widerDeep, .data, .data, .data, .data, .data, .sentinel, .sentinel, .pinned, .pinned], laidTests := true, laidLooks := .later }
def ParseStrengthUptoCardSaid : Prop := Claim7.holds Tryz.pinned (.plain (OpenSpec.upto parseStrengthSpec)) parseStrengthUptoCard

/-- THE SECOND FORM's CARD OF 'solderlaw13.FoldOperators'. -/
def foldOperatorsUptoCard : Claim7 := { stood := { row := foldOperatorsUptoRow, standIns := [], harness := (true, "70da844b5890a45653a0f96ac1991c99313a3b20df355ff4cb06f6c2dca7c9e4"), looks := true }, kinds := [], alts := [], laidByText := true, laidKinds := [.data, .data, .widerDeep, .widerDeep, .data, .data, .data, .data, .data, .sentinel, .sentinel, .pinned, .pinned], laidTests := true, laidLooks := .later }
def FoldOperatorsUptoCardSaid : Prop := Claim7.holds Tryz.pinned (.plain (OpenSpec.upto foldOperatorsSpec)) foldOperatorsUptoCard

/-- THE SECOND FORM's CARD OF 'solderlaw13.FoldEdges'. -/
def foldEdgesUptoCard : Claim7 := { stood := { row := foldEdgesUptoRow, standIns := [], harness := (true, "70da844b5890a45653a0f96ac1991c99313a3b20df355ff4cb06f6c2dca7c9e4"), looks := true }, kinds := [], alts := [], laidByText := true, laidKinds := [.data, .data, .widerDeep, .widerDeep, .data, .data, .data, .data, .data, .sentinel, .sentinel, .pinned, .pinned], laidTests := true, laidLooks := .later }
def FoldEdgesUptoCardSaid : Prop := Claim7.holds Tryz.pinned (.plain (OpenSpec.upto foldEdgesSpec)) foldEdgesUptoCard

/-- THE SECOND FORM's CARD OF 'solderlaw13.FoldWords'. -/
def foldWordsUptoCard : Claim7 := { stood := { row := foldWordsUptoRow, standIns := [], harness := (true, "70da844b5890a45653a0f96ac1991c99313a3b20df355ff4cb06f6c2dca7c9e4"), looks := true }, kinds := [], alts := [], laidByText := true, laidKinds := [.data, .data, .widerDeep, .widerDeep, .data, .data, .data, .data, .data, .sentinel, .sentinel, .pinned, .pinned], laidTests := true, laidLooks := .later }
def FoldWordsUptoCardSaid : Prop := Claim7.holds Tryz.pinned (.plain (OpenSpec.upto foldWordsSpec)) foldWordsUptoCard
end Rows
end Go.Proofs.YtnlbhnmiekanfaaGreatDoor
