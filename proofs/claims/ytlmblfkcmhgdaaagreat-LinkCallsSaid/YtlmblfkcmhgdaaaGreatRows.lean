/-
  No cell of these rows narrows 'for every input' (looked for: loops, veiled, ifaces, maps, wideKeys, modest, calm, conditions, laid).
  DERIVED. THE GIVEN ROWS OF THIS SEAT. 7 by the template 'for every input the law returns true; each argument reads behind the call as it read before'; 0 by the template 'total and deterministic' (their statements: YtlmblfkcmhgdaaaGreatTotals.lean).
  GIVEN WITH THE SEED: the statements are not yours to turn. If you find one false, say at which input.
  Laid BY PROGRAM, IN A SANDBOX (cutbox-rows.mjs): the forced cells as the released guide's own fill.sh prints them over the translation 8b067a995efaf765… (all of the seat's roots in one cut). By AI agents, Wed Nov 11 2026. No macro, syntax, notation, axiom, sorry.
-/
import Derived.Test.YtlmblfkcmhgdaaaGreatChecked
import GoSem.Claim
import GoSem.ClaimJoined
import GoSem.ClaimMapViews
import Derived.JoinedTies
import Derived.KernelRfl
namespace Go.Proofs.YtlmblfkcmhgdaaaGreat
/- THE CELL 'sum', in the pinned program and in every row, IS THE sha256 OF THE DUMP (.gsa) THAT YtlmblfkcmhgdaaaGreatProg.lean LOADS. Nothing in Lean hashes anything: it is a label: what it is worth is what the hold of that sum in a sandbox is worth. -/
noncomputable def Tryz.pinned : Pinned := { name := "ytlmblfkcmhgdaaagreat", sum := "8b067a995efaf765b274b52bef9a8a67b8fdc64b767340cfd177bbe0ebcc86bd", checked := Tryz.checked }
namespace Rows
def none {H : Type} : Left H := { results := [], args := [] }

/-- 'solderlaw09.LinkImages': WHATEVER THE INPUT: true; the input reads as it did. -/
def linkImagesSpec : ChangeSpec := { name := "linkImages", fn := fun _ => fun
  | [d] => { results := [.lit (.bool true)], args := [d] }
  | _ => none }
def linkImagesRow : OpenClaim := { program := "ytlmblfkcmhgdaaagreat", sum := "8b067a995efaf765b274b52bef9a8a67b8fdc64b767340cfd177bbe0ebcc86bd", func := "solder/solderlaw09.LinkImages", spec := "linkImages", inPlace := ["math.Float64frombits", "math.Float64bits"], unfollowed := true, recurses := true, apart := false }
def LinkImagesSaid : Prop := linkImagesRow.holds Tryz.pinned (OpenSpec.ofChange linkImagesSpec)

/-- ITS FALSE NEIGHBOUR: 'it returns false'. Refute it at one input. -/
def linkImagesWrong : ChangeSpec := { name := "linkImages", fn := fun _ => fun
  | [d] => { results := [.lit (.bool false)], args := [d] }
  | _ => none }
def LinkImagesWrongFalsely : Prop := linkImagesRow.holds Tryz.pinned (OpenSpec.ofChange linkImagesWrong)

/-- 'solderlaw09.LinkSymbols': WHATEVER THE INPUT: true; the input reads as it did. -/
def linkSymbolsSpec : ChangeSpec := { name := "linkSymbols", fn := fun _ => fun
  | [d] => { results := [.lit (.bool true)], args := [d] }
  | _ => none }
def linkSymbolsRow : OpenClaim := { program := "ytlmblfkcmhgdaaagreat", sum := "8b067a995efaf765b274b52bef9a8a67b8fdc64b767340cfd177bbe0ebcc86bd", func := "solder/solderlaw09.LinkSymbols", spec := "linkSymbols", inPlace := ["math.Float64frombits", "math.Float64bits", "internal/bytealg.abigen_runtime_cmpstring"], unfollowed := true, recurses := true, apart := false }
def LinkSymbolsSaid : Prop := linkSymbolsRow.holds Tryz.pinned (OpenSpec.ofChange linkSymbolsSpec)

/-- ITS FALSE NEIGHBOUR: 'it returns false'. Refute it at one input. -/
def linkSymbolsWrong : ChangeSpec := { name := "linkSymbols", fn := fun _ => fun
  | [d] => { results := [.lit (.bool false)], args := [d] }
  | _ => none }
def LinkSymbolsWrongFalsely : Prop := linkSymbolsRow.holds Tryz.pinned (OpenSpec.ofChange linkSymbolsWrong)

/-- 'solderlaw09.LinkOrder': WHATEVER THE INPUT: true; the input reads as it did. -/
def linkOrderSpec : ChangeSpec := { name := "linkOrder", fn := fun _ => fun
  | [d1, d2] => { results := [.lit (.bool true)], args := [d1, d2] }
  | _ => none }
def linkOrderRow : OpenClaim := { program := "ytlmblfkcmhgdaaagreat", sum := "8b067a995efaf765b274b52bef9a8a67b8fdc64b767340cfd177bbe0ebcc86bd", func := "solder/solderlaw09.LinkOrder", spec := "linkOrder", inPlace := ["math.Float64frombits", "math.Float64bits"], unfollowed := true, recurses := true, apart := false }
def LinkOrderSaid : Prop := linkOrderRow.holds Tryz.pinned (OpenSpec.ofChange linkOrderSpec)

/-- ITS FALSE NEIGHBOUR: 'it returns false'. Refute it at one input. -/
def linkOrderWrong : ChangeSpec := { name := "linkOrder", fn := fun _ => fun
  | [d1, d2] => { results := [.lit (.bool false)], args := [d1, d2] }
  | _ => none }
def LinkOrderWrongFalsely : Prop := linkOrderRow.holds Tryz.pinned (OpenSpec.ofChange linkOrderWrong)

/-- 'solderlaw09.LinkCalls': WHATEVER THE INPUT: true; the input reads as it did. -/
def linkCallsSpec : ChangeSpec := { name := "linkCalls", fn := fun _ => fun
  | [d1, d2] => { results := [.lit (.bool true)], args := [d1, d2] }
  | _ => none }
def linkCallsRow : OpenClaim := { program := "ytlmblfkcmhgdaaagreat", sum := "8b067a995efaf765b274b52bef9a8a67b8fdc64b767340cfd177bbe0ebcc86bd", func := "solder/solderlaw09.LinkCalls", spec := "linkCalls", inPlace := ["math.Float64frombits", "math.Float64bits"], unfollowed := true, recurses := true, apart := false }
def LinkCallsSaid : Prop := linkCallsRow.holds Tryz.pinned (OpenSpec.ofChange linkCallsSpec)

/-- ITS FALSE NEIGHBOUR: 'it returns false'. Refute it at one input. -/
def linkCallsWrong : ChangeSpec := { name := "linkCalls", fn := fun _ => fun
  | [d1, d2] => { results := [.lit (.bool false)], args := [d1, d2] }
  | _ => none }
def LinkCallsWrongFalsely : Prop := linkCallsRow.holds Tryz.pinned (OpenSpec.ofChange linkCallsWrong)

/-- 'solderlaw09.LinkData': WHATEVER THE INPUT: true; the input reads as it did. -/
def linkDataSpec : ChangeSpec := { name := "linkData", fn := fun _ => fun
  | [d1, d2, d3] => { results := [.lit (.bool true)], args := [d1, d2, d3] }
  | _ => none }
def linkDataRow : OpenClaim := { program := "ytlmblfkcmhgdaaagreat", sum := "8b067a995efaf765b274b52bef9a8a67b8fdc64b767340cfd177bbe0ebcc86bd", func := "solder/solderlaw09.LinkData", spec := "linkData", inPlace := ["math.Float64frombits", "math.Float64bits"], unfollowed := true, recurses := true, apart := false }
def LinkDataSaid : Prop := linkDataRow.holds Tryz.pinned (OpenSpec.ofChange linkDataSpec)

/-- ITS FALSE NEIGHBOUR: 'it returns false'. Refute it at one input. -/
def linkDataWrong : ChangeSpec := { name := "linkData", fn := fun _ => fun
  | [d1, d2, d3] => { results := [.lit (.bool false)], args := [d1, d2, d3] }
  | _ => none }
def LinkDataWrongFalsely : Prop := linkDataRow.holds Tryz.pinned (OpenSpec.ofChange linkDataWrong)

/-- 'solderlaw09.LinkWords': WHATEVER THE INPUT: true; the input reads as it did. -/
def linkWordsSpec : ChangeSpec := { name := "linkWords", fn := fun _ => fun
  | [d] => { results := [.lit (.bool true)], args := [d] }
  | _ => none }
def linkWordsRow : OpenClaim := { program := "ytlmblfkcmhgdaaagreat", sum := "8b067a995efaf765b274b52bef9a8a67b8fdc64b767340cfd177bbe0ebcc86bd", func := "solder/solderlaw09.LinkWords", spec := "linkWords", inPlace := ["math.Float64frombits", "math.Float64bits"], unfollowed := true, recurses := true, apart := false }
def LinkWordsSaid : Prop := linkWordsRow.holds Tryz.pinned (OpenSpec.ofChange linkWordsSpec)

/-- ITS FALSE NEIGHBOUR: 'it returns false'. Refute it at one input. -/
def linkWordsWrong : ChangeSpec := { name := "linkWords", fn := fun _ => fun
  | [d] => { results := [.lit (.bool false)], args := [d] }
  | _ => none }
def LinkWordsWrongFalsely : Prop := linkWordsRow.holds Tryz.pinned (OpenSpec.ofChange linkWordsWrong)

/-- 'solderlaw09.LinkMore': WHATEVER THE INPUT: true; the input reads as it did. -/
def linkMoreSpec : ChangeSpec := { name := "linkMore", fn := fun _ => fun
  | [d1, d2] => { results := [.lit (.bool true)], args := [d1, d2] }
  | _ => none }
def linkMoreRow : OpenClaim := { program := "ytlmblfkcmhgdaaagreat", sum := "8b067a995efaf765b274b52bef9a8a67b8fdc64b767340cfd177bbe0ebcc86bd", func := "solder/solderlaw09.LinkMore", spec := "linkMore", inPlace := ["math.Float64frombits", "math.Float64bits"], unfollowed := true, recurses := true, apart := false }
def LinkMoreSaid : Prop := linkMoreRow.holds Tryz.pinned (OpenSpec.ofChange linkMoreSpec)

/-- ITS FALSE NEIGHBOUR: 'it returns false'. Refute it at one input. -/
def linkMoreWrong : ChangeSpec := { name := "linkMore", fn := fun _ => fun
  | [d1, d2] => { results := [.lit (.bool false)], args := [d1, d2] }
  | _ => none }
def LinkMoreWrongFalsely : Prop := linkMoreRow.holds Tryz.pinned (OpenSpec.ofChange linkMoreWrong)

/- THE SECOND FORM. 'bulk': how many values and letters a reading holds, each counted each time it is reached (what is shared counts as often as it is met; a slice's spare places count too). A statement '..UptoSaid' is the law's where the arguments, and the package variables that the reading takes, are together of bulk at most 1048576: NARROWER than '..Said'. Prove '..Said' where nothing that the law and all that it calls make is longer than what came in: it says more and counts as full. Else prove '..UptoSaid'. A law counts once. -/
mutual
def uptoBulk {H : Type} : DataW H → Nat
  | .lit (.string bytes) => bytes.length + 1
  | .lit _ => 1
  | .nil => 1
  | .ptr d => uptoBulk d + 1
  | .slice elems spare => uptoBulkAll elems + uptoBulkAll spare + 1
  | .agg parts => uptoBulkAll parts + 1
  | .iface _ d => uptoBulk d + 1
  | .map entries => uptoBulkEntries entries + 1
  | .held _ => 1
def uptoBulkAll {H : Type} : List (DataW H) → Nat
  | [] => 0
  | d :: r => uptoBulk d + uptoBulkAll r
def uptoBulkEntries {H : Type} : List (Lit × DataW H) → Nat
  | [] => 0
  | x :: r => uptoBulkEntry x + uptoBulkEntries r
def uptoBulkEntry {H : Type} : Lit × DataW H → Nat
  | (.string bytes, d) => bytes.length + uptoBulk d + 1
  | (_, d) => uptoBulk d + 1
 end
def uptoSmall : (H : Type) → List (DataW H) → Bool := fun _ ds => decide (uptoBulkAll ds ≤ 1048576)
def OpenSpec.upto (s : _root_.Go.ChangeSpec) : _root_.Go.OpenSpec := { _root_.Go.OpenSpec.ofChange s with cond := some uptoSmall }

/-- 'solderlaw09.LinkImages', WHERE WHAT IT READS IS OF BULK AT MOST 1048576: true; the input reads as it did. -/
def linkImagesUptoRow : OpenClaim := { program := "ytlmblfkcmhgdaaagreat", sum := "8b067a995efaf765b274b52bef9a8a67b8fdc64b767340cfd177bbe0ebcc86bd", func := "solder/solderlaw09.LinkImages", spec := "linkImages", inPlace := ["math.Float64frombits", "math.Float64bits"], unfollowed := true, recurses := true, apart := false, narrowed := true }
def LinkImagesUptoSaid : Prop := linkImagesUptoRow.holds Tryz.pinned (OpenSpec.upto linkImagesSpec)

/-- 'solderlaw09.LinkSymbols', WHERE WHAT IT READS IS OF BULK AT MOST 1048576: true; the input reads as it did. -/
def linkSymbolsUptoRow : OpenClaim := { program := "ytlmblfkcmhgdaaagreat", sum := "8b067a995efaf765b274b52bef9a8a67b8fdc64b767340cfd177bbe0ebcc86bd", func := "solder/solderlaw09.LinkSymbols", spec := "linkSymbols", inPlace := ["math.Float64frombits", "math.Float64bits", "internal/bytealg.abigen_runtime_cmpstring"], unfollowed := true, recurses := true, apart := false, narrowed := true }
def LinkSymbolsUptoSaid : Prop := linkSymbolsUptoRow.holds Tryz.pinned (OpenSpec.upto linkSymbolsSpec)

/-- 'solderlaw09.LinkOrder', WHERE WHAT IT READS IS OF BULK AT MOST 1048576: true; the input reads as it did. -/
def linkOrderUptoRow : OpenClaim := { program := "ytlmblfkcmhgdaaagreat", sum := "8b067a995efaf765b274b52bef9a8a67b8fdc64b767340cfd177bbe0ebcc86bd", func := "solder/solderlaw09.LinkOrder", spec := "linkOrder", inPlace := ["math.Float64frombits", "math.Float64bits"], unfollowed := true, recurses := true, apart := false, narrowed := true }
def LinkOrderUptoSaid : Prop := linkOrderUptoRow.holds Tryz.pinned (OpenSpec.upto linkOrderSpec)

/-- 'solderlaw09.LinkCalls', WHERE WHAT IT READS IS OF BULK AT MOST 1048576: true; the input reads as it did. -/
def linkCallsUptoRow : OpenClaim := { program := "ytlmblfkcmhgdaaagreat", sum := "8b067a995efaf765b274b52bef9a8a67b8fdc64b767340cfd177bbe0ebcc86bd", func := "solder/solderlaw09.LinkCalls", spec := "linkCalls", inPlace := ["math.Float64frombits", "math.Float64bits"], unfollowed := true, recurses := true, apart := false, narrowed := true }
def LinkCallsUptoSaid : Prop := linkCallsUptoRow.holds Tryz.pinned (OpenSpec.upto linkCallsSpec)

/-- 'solderlaw09.LinkData', WHERE WHAT IT READS IS OF BULK AT MOST 1048576: true; the input reads as it did. -/
def linkDataUptoRow : OpenClaim := { program := "ytlmblfkcmhgdaaagreat", sum := "8b067a995efaf765b274b52bef9a8a67b8fdc64b767340cfd177bbe0ebcc86bd", func := "solder/solderlaw09.LinkData", spec := "linkData", inPlace := ["math.Float64frombits", "math.Float64bits"], unfollowed := true, recurses := true, apart := false, narrowed := true }
def LinkDataUptoSaid : Prop := linkDataUptoRow.holds Tryz.pinned (OpenSpec.upto linkDataSpec)

/-- 'solderlaw09.LinkWords', WHERE WHAT IT READS IS OF BULK AT MOST 1048576: true; the input reads as it did. -/
def linkWordsUptoRow : OpenClaim := { program := "ytlmblfkcmhgdaaagreat", sum := "8b067a995efaf765b274b52bef9a8a67b8fdc64b767340cfd177bbe0ebcc86bd", func := "solder/solderlaw09.LinkWords", spec := "linkWords", inPlace := ["math.Float64frombits", "math.Float64bits"], unfollowed := true, recurses := true, apart := false, narrowed := true }
def LinkWordsUptoSaid : Prop := linkWordsUptoRow.holds Tryz.pinned (OpenSpec.upto linkWordsSpec)

/-- 'solderlaw09.LinkMore', WHERE WHAT IT READS IS OF BULK AT MOST 1048576: true; the input reads as it did. -/
def linkMoreUptoRow : OpenClaim := { program := "ytlmblfkcmhgdaaagreat", sum := "8b067a995efaf765b274b52bef9a8a67b8fdc64b767340cfd177bbe0ebcc86bd", func := "solder/solderlaw09.LinkMore", spec := "linkMore", inPlace := ["math.Float64frombits", "math.Float64bits"], unfollowed := true, recurses := true, apart := false, narrowed := true }
def LinkMoreUptoSaid : Prop := linkMoreUptoRow.holds Tryz.pinned (OpenSpec.upto linkMoreSpec)

end Rows
end Go.Proofs.YtlmblfkcmhgdaaaGreat
