/-
  No cell of these rows narrows 'for every input' (looked for: loops, veiled, ifaces, maps, wideKeys, modest, calm, conditions, laid).
  DERIVED. THE GIVEN ROWS OF THIS SEAT. 10 by the template 'for every input the law returns true; each argument reads behind the call as it read before'; 0 by the template 'total and deterministic' (their statements: YtaocclgnpphjfaaTotals.lean).
  GIVEN WITH THE SEED: the statements are not yours to turn. If you find one false, say at which input.
  Laid BY PROGRAM, IN A SANDBOX (cutbox-rows.mjs): the forced cells as the released guide's own fill.sh prints them over the translation 4a313de90cefce54… (all of the seat's roots in one cut). By AI agents, Wed Nov 11 2026. No macro, syntax, notation, axiom, sorry.
-/
import Derived.Test.YtaocclgnpphjfaaChecked
import GoSem.Claim
import GoSem.ClaimJoined
import GoSem.ClaimMapViews
import Derived.JoinedTies
import Derived.KernelRfl
namespace Go.Proofs.Ytaocclgnpphjfaa
/- THE CELL 'sum', in the pinned program and in every row, IS THE sha256 OF THE DUMP (.gsa) THAT YtaocclgnpphjfaaProg.lean LOADS. Nothing in Lean hashes anything: it is a label: what it is worth is what the hold of that sum in a sandbox is worth. -/
noncomputable def Try.pinned : Pinned := { name := "ytaocclgnpphjfaa", sum := "4a313de90cefce544067588683f218dce75f3c411149a137b66a5fc367a645ce", checked := Try.checked }
namespace Rows
def none {H : Type} : Left H := { results := [], args := [] }

/-- 'solderlaw06.ResolveTargets': WHATEVER THE INPUT: true; the input reads as it did. -/
def resolveTargetsSpec : ChangeSpec := { name := "resolveTargets", fn := fun _ => fun
  | [d] => { results := [.lit (.bool true)], args := [d] }
  | _ => none }
def resolveTargetsRow : OpenClaim := { program := "ytaocclgnpphjfaa", sum := "4a313de90cefce544067588683f218dce75f3c411149a137b66a5fc367a645ce", func := "solder/solderlaw06.ResolveTargets", spec := "resolveTargets", unfollowed := true, recurses := true, apart := false }
def ResolveTargetsSaid : Prop := resolveTargetsRow.holds Try.pinned (OpenSpec.ofChange resolveTargetsSpec)

/-- ITS FALSE NEIGHBOUR: 'it returns false'. Refute it at one input. -/
def resolveTargetsWrong : ChangeSpec := { name := "resolveTargets", fn := fun _ => fun
  | [d] => { results := [.lit (.bool false)], args := [d] }
  | _ => none }
def ResolveTargetsWrongFalsely : Prop := resolveTargetsRow.holds Try.pinned (OpenSpec.ofChange resolveTargetsWrong)

/-- 'solderlaw06.ResolveMain': WHATEVER THE INPUT: true; the input reads as it did. -/
def resolveMainSpec : ChangeSpec := { name := "resolveMain", fn := fun _ => fun
  | [d] => { results := [.lit (.bool true)], args := [d] }
  | _ => none }
def resolveMainRow : OpenClaim := { program := "ytaocclgnpphjfaa", sum := "4a313de90cefce544067588683f218dce75f3c411149a137b66a5fc367a645ce", func := "solder/solderlaw06.ResolveMain", spec := "resolveMain", unfollowed := true, recurses := true, apart := false }
def ResolveMainSaid : Prop := resolveMainRow.holds Try.pinned (OpenSpec.ofChange resolveMainSpec)

/-- ITS FALSE NEIGHBOUR: 'it returns false'. Refute it at one input. -/
def resolveMainWrong : ChangeSpec := { name := "resolveMain", fn := fun _ => fun
  | [d] => { results := [.lit (.bool false)], args := [d] }
  | _ => none }
def ResolveMainWrongFalsely : Prop := resolveMainRow.holds Try.pinned (OpenSpec.ofChange resolveMainWrong)

/-- 'solderlaw06.ResolveMeets': WHATEVER THE INPUT: true; the input reads as it did. -/
def resolveMeetsSpec : ChangeSpec := { name := "resolveMeets", fn := fun _ => fun
  | [d] => { results := [.lit (.bool true)], args := [d] }
  | _ => none }
def resolveMeetsRow : OpenClaim := { program := "ytaocclgnpphjfaa", sum := "4a313de90cefce544067588683f218dce75f3c411149a137b66a5fc367a645ce", func := "solder/solderlaw06.ResolveMeets", spec := "resolveMeets", unfollowed := true, recurses := true, apart := false }
def ResolveMeetsSaid : Prop := resolveMeetsRow.holds Try.pinned (OpenSpec.ofChange resolveMeetsSpec)

/-- ITS FALSE NEIGHBOUR: 'it returns false'. Refute it at one input. -/
def resolveMeetsWrong : ChangeSpec := { name := "resolveMeets", fn := fun _ => fun
  | [d] => { results := [.lit (.bool false)], args := [d] }
  | _ => none }
def ResolveMeetsWrongFalsely : Prop := resolveMeetsRow.holds Try.pinned (OpenSpec.ofChange resolveMeetsWrong)

/-- 'solderlaw06.ResolveMore': WHATEVER THE INPUT: true; the input reads as it did. -/
def resolveMoreSpec : ChangeSpec := { name := "resolveMore", fn := fun _ => fun
  | [d] => { results := [.lit (.bool true)], args := [d] }
  | _ => none }
def resolveMoreRow : OpenClaim := { program := "ytaocclgnpphjfaa", sum := "4a313de90cefce544067588683f218dce75f3c411149a137b66a5fc367a645ce", func := "solder/solderlaw06.ResolveMore", spec := "resolveMore", unfollowed := true, recurses := true, apart := false }
def ResolveMoreSaid : Prop := resolveMoreRow.holds Try.pinned (OpenSpec.ofChange resolveMoreSpec)

/-- ITS FALSE NEIGHBOUR: 'it returns false'. Refute it at one input. -/
def resolveMoreWrong : ChangeSpec := { name := "resolveMore", fn := fun _ => fun
  | [d] => { results := [.lit (.bool false)], args := [d] }
  | _ => none }
def ResolveMoreWrongFalsely : Prop := resolveMoreRow.holds Try.pinned (OpenSpec.ofChange resolveMoreWrong)

/-- 'solderlaw06.ResolveOwn': WHATEVER THE INPUT: true; the input reads as it did. -/
def resolveOwnSpec : ChangeSpec := { name := "resolveOwn", fn := fun _ => fun
  | [d] => { results := [.lit (.bool true)], args := [d] }
  | _ => none }
def resolveOwnRow : OpenClaim := { program := "ytaocclgnpphjfaa", sum := "4a313de90cefce544067588683f218dce75f3c411149a137b66a5fc367a645ce", func := "solder/solderlaw06.ResolveOwn", spec := "resolveOwn", unfollowed := true, recurses := true, apart := false }
def ResolveOwnSaid : Prop := resolveOwnRow.holds Try.pinned (OpenSpec.ofChange resolveOwnSpec)

/-- ITS FALSE NEIGHBOUR: 'it returns false'. Refute it at one input. -/
def resolveOwnWrong : ChangeSpec := { name := "resolveOwn", fn := fun _ => fun
  | [d] => { results := [.lit (.bool false)], args := [d] }
  | _ => none }
def ResolveOwnWrongFalsely : Prop := resolveOwnRow.holds Try.pinned (OpenSpec.ofChange resolveOwnWrong)

/-- 'solderlaw07.LayoutPlaces': WHATEVER THE INPUT: true; the input reads as it did. -/
def layoutPlacesSpec : ChangeSpec := { name := "layoutPlaces", fn := fun _ => fun
  | [d] => { results := [.lit (.bool true)], args := [d] }
  | _ => none }
def layoutPlacesRow : OpenClaim := { program := "ytaocclgnpphjfaa", sum := "4a313de90cefce544067588683f218dce75f3c411149a137b66a5fc367a645ce", func := "solder/solderlaw07.LayoutPlaces", spec := "layoutPlaces", apart := false }
def LayoutPlacesSaid : Prop := layoutPlacesRow.holds Try.pinned (OpenSpec.ofChange layoutPlacesSpec)

/-- ITS FALSE NEIGHBOUR: 'it returns false'. Refute it at one input. -/
def layoutPlacesWrong : ChangeSpec := { name := "layoutPlaces", fn := fun _ => fun
  | [d] => { results := [.lit (.bool false)], args := [d] }
  | _ => none }
def LayoutPlacesWrongFalsely : Prop := layoutPlacesRow.holds Try.pinned (OpenSpec.ofChange layoutPlacesWrong)

/-- 'solderlaw07.LayoutApart': WHATEVER THE INPUT: true; the input reads as it did. -/
def layoutApartSpec : ChangeSpec := { name := "layoutApart", fn := fun _ => fun
  | [d] => { results := [.lit (.bool true)], args := [d] }
  | _ => none }
def layoutApartRow : OpenClaim := { program := "ytaocclgnpphjfaa", sum := "4a313de90cefce544067588683f218dce75f3c411149a137b66a5fc367a645ce", func := "solder/solderlaw07.LayoutApart", spec := "layoutApart", apart := false }
def LayoutApartSaid : Prop := layoutApartRow.holds Try.pinned (OpenSpec.ofChange layoutApartSpec)

/-- ITS FALSE NEIGHBOUR: 'it returns false'. Refute it at one input. -/
def layoutApartWrong : ChangeSpec := { name := "layoutApart", fn := fun _ => fun
  | [d] => { results := [.lit (.bool false)], args := [d] }
  | _ => none }
def LayoutApartWrongFalsely : Prop := layoutApartRow.holds Try.pinned (OpenSpec.ofChange layoutApartWrong)

/-- 'solderlaw07.LayoutAddresses': WHATEVER THE INPUT: true; the input reads as it did. -/
def layoutAddressesSpec : ChangeSpec := { name := "layoutAddresses", fn := fun _ => fun
  | [d1, d2, d3] => { results := [.lit (.bool true)], args := [d1, d2, d3] }
  | _ => none }
def layoutAddressesRow : OpenClaim := { program := "ytaocclgnpphjfaa", sum := "4a313de90cefce544067588683f218dce75f3c411149a137b66a5fc367a645ce", func := "solder/solderlaw07.LayoutAddresses", spec := "layoutAddresses", apart := false }
def LayoutAddressesSaid : Prop := layoutAddressesRow.holds Try.pinned (OpenSpec.ofChange layoutAddressesSpec)

/-- ITS FALSE NEIGHBOUR: 'it returns false'. Refute it at one input. -/
def layoutAddressesWrong : ChangeSpec := { name := "layoutAddresses", fn := fun _ => fun
  | [d1, d2, d3] => { results := [.lit (.bool false)], args := [d1, d2, d3] }
  | _ => none }
def LayoutAddressesWrongFalsely : Prop := layoutAddressesRow.holds Try.pinned (OpenSpec.ofChange layoutAddressesWrong)

/-- 'solderlaw07.LayoutMoves': WHATEVER THE INPUT: true; the input reads as it did. -/
def layoutMovesSpec : ChangeSpec := { name := "layoutMoves", fn := fun _ => fun
  | [d1, d2] => { results := [.lit (.bool true)], args := [d1, d2] }
  | _ => none }
def layoutMovesRow : OpenClaim := { program := "ytaocclgnpphjfaa", sum := "4a313de90cefce544067588683f218dce75f3c411149a137b66a5fc367a645ce", func := "solder/solderlaw07.LayoutMoves", spec := "layoutMoves", apart := false }
def LayoutMovesSaid : Prop := layoutMovesRow.holds Try.pinned (OpenSpec.ofChange layoutMovesSpec)

/-- ITS FALSE NEIGHBOUR: 'it returns false'. Refute it at one input. -/
def layoutMovesWrong : ChangeSpec := { name := "layoutMoves", fn := fun _ => fun
  | [d1, d2] => { results := [.lit (.bool false)], args := [d1, d2] }
  | _ => none }
def LayoutMovesWrongFalsely : Prop := layoutMovesRow.holds Try.pinned (OpenSpec.ofChange layoutMovesWrong)

/-- 'solderlaw07.LayoutSums': WHATEVER THE INPUT: true; the input reads as it did. -/
def layoutSumsSpec : ChangeSpec := { name := "layoutSums", fn := fun _ => fun
  | [d] => { results := [.lit (.bool true)], args := [d] }
  | _ => none }
def layoutSumsRow : OpenClaim := { program := "ytaocclgnpphjfaa", sum := "4a313de90cefce544067588683f218dce75f3c411149a137b66a5fc367a645ce", func := "solder/solderlaw07.LayoutSums", spec := "layoutSums", apart := false }
def LayoutSumsSaid : Prop := layoutSumsRow.holds Try.pinned (OpenSpec.ofChange layoutSumsSpec)

/-- ITS FALSE NEIGHBOUR: 'it returns false'. Refute it at one input. -/
def layoutSumsWrong : ChangeSpec := { name := "layoutSums", fn := fun _ => fun
  | [d] => { results := [.lit (.bool false)], args := [d] }
  | _ => none }
def LayoutSumsWrongFalsely : Prop := layoutSumsRow.holds Try.pinned (OpenSpec.ofChange layoutSumsWrong)

/- THE SECOND FORM. 'bulk': how many values and letters a reading holds, each counted each time it is reached (what is shared counts as often as it is met; a slice's spare places count too). A statement '..UptoSaid' is the law's where the arguments, and the package variables that the reading takes, are together of bulk at most 1048576: NARROWER than '..Said'. Prove '..Said' where nothing that the law and all that it calls make is longer than what came in: it says more and counts as full. Else prove '..UptoSaid'. A law counts once. -/
mutual
def uptoBulk {H : Type} : DataW H → Nat
  | .lit (.string bytes) => bytes.length + 1
  | .lit _ => 1
  | .nil => 1
  | .ptr d => uptoBulk d + 1
  | .slice elems spare => uptoBulkAll elems + uptoBulkAll spare + 1
  | .agg parts => uptoBulkAll parts + 1
  | .iface _ d => uptoBulk d + 1
  | .map entries => uptoBulkEntries entries + 1
  | .held _ => 1
def uptoBulkAll {H : Type} : List (DataW H) → Nat
  | [] => 0
  | d :: r => uptoBulk d + uptoBulkAll r
def uptoBulkEntries {H : Type} : List (Lit × DataW H) → Nat
  | [] => 0
  | x :: r => uptoBulkEntry x + uptoBulkEntries r
def uptoBulkEntry {H : Type} : Lit × DataW H → Nat
  | (.string bytes, d) => bytes.length + uptoBulk d + 1
  | (_, d) => uptoBulk d + 1
 end
def uptoSmall : (H : Type) → List (DataW H) → Bool := fun _ ds => decide (uptoBulkAll ds ≤ 1048576)
def OpenSpec.upto (s : _root_.Go.ChangeSpec) : _root_.Go.OpenSpec := { _root_.Go.OpenSpec.ofChange s with cond := some uptoSmall }

/-- 'solderlaw06.ResolveTargets', WHERE WHAT IT READS IS OF BULK AT MOST 1048576: true; the input reads as it did. -/
def resolveTargetsUptoRow : OpenClaim := { program := "ytaocclgnpphjfaa", sum := "4a313de90cefce544067588683f218dce75f3c411149a137b66a5fc367a645ce", func := "solder/solderlaw06.ResolveTargets", spec := "resolveTargets", unfollowed := true, recurses := true, apart := false, narrowed := true }
def ResolveTargetsUptoSaid : Prop := resolveTargetsUptoRow.holds Try.pinned (OpenSpec.upto resolveTargetsSpec)

/-- 'solderlaw06.ResolveMain', WHERE WHAT IT READS IS OF BULK AT MOST 1048576: true; the input reads as it did. -/
def resolveMainUptoRow : OpenClaim := { program := "ytaocclgnpphjfaa", sum := "4a313de90cefce544067588683f218dce75f3c411149a137b66a5fc367a645ce", func := "solder/solderlaw06.ResolveMain", spec := "resolveMain", unfollowed := true, recurses := true, apart := false, narrowed := true }
def ResolveMainUptoSaid : Prop := resolveMainUptoRow.holds Try.pinned (OpenSpec.upto resolveMainSpec)

/-- 'solderlaw06.ResolveMeets', WHERE WHAT IT READS IS OF BULK AT MOST 1048576: true; the input reads as it did. -/
def resolveMeetsUptoRow : OpenClaim := { program := "ytaocclgnpphjfaa", sum := "4a313de90cefce544067588683f218dce75f3c411149a137b66a5fc367a645ce", func := "solder/solderlaw06.ResolveMeets", spec := "resolveMeets", unfollowed := true, recurses := true, apart := false, narrowed := true }
def ResolveMeetsUptoSaid : Prop := resolveMeetsUptoRow.holds Try.pinned (OpenSpec.upto resolveMeetsSpec)

/-- 'solderlaw06.ResolveMore', WHERE WHAT IT READS IS OF BULK AT MOST 1048576: true; the input reads as it did. -/
def resolveMoreUptoRow : OpenClaim := { program := "ytaocclgnpphjfaa", sum := "4a313de90cefce544067588683f218dce75f3c411149a137b66a5fc367a645ce", func := "solder/solderlaw06.ResolveMore", spec := "resolveMore", unfollowed := true, recurses := true, apart := false, narrowed := true }
def ResolveMoreUptoSaid : Prop := resolveMoreUptoRow.holds Try.pinned (OpenSpec.upto resolveMoreSpec)

/-- 'solderlaw06.ResolveOwn', WHERE WHAT IT READS IS OF BULK AT MOST 1048576: true; the input reads as it did. -/
def resolveOwnUptoRow : OpenClaim := { program := "ytaocclgnpphjfaa", sum := "4a313de90cefce544067588683f218dce75f3c411149a137b66a5fc367a645ce", func := "solder/solderlaw06.ResolveOwn", spec := "resolveOwn", unfollowed := true, recurses := true, apart := false, narrowed := true }
def ResolveOwnUptoSaid : Prop := resolveOwnUptoRow.holds Try.pinned (OpenSpec.upto resolveOwnSpec)

/-- 'solderlaw07.LayoutPlaces', WHERE WHAT IT READS IS OF BULK AT MOST 1048576: true; the input reads as it did. -/
def layoutPlacesUptoRow : OpenClaim := { program := "ytaocclgnpphjfaa", sum := "4a313de90cefce544067588683f218dce75f3c411149a137b66a5fc367a645ce", func := "solder/solderlaw07.LayoutPlaces", spec := "layoutPlaces", apart := false, narrowed := true }
def LayoutPlacesUptoSaid : Prop := layoutPlacesUptoRow.holds Try.pinned (OpenSpec.upto layoutPlacesSpec)

/-- 'solderlaw07.LayoutApart', WHERE WHAT IT READS IS OF BULK AT MOST 1048576: true; the input reads as it did. -/
def layoutApartUptoRow : OpenClaim := { program := "ytaocclgnpphjfaa", sum := "4a313de90cefce544067588683f218dce75f3c411149a137b66a5fc367a645ce", func := "solder/solderlaw07.LayoutApart", spec := "layoutApart", apart := false, narrowed := true }
def LayoutApartUptoSaid : Prop := layoutApartUptoRow.holds Try.pinned (OpenSpec.upto layoutApartSpec)

/-- 'solderlaw07.LayoutAddresses', WHERE WHAT IT READS IS OF BULK AT MOST 1048576: true; the input reads as it did. -/
def layoutAddressesUptoRow : OpenClaim := { program := "ytaocclgnpphjfaa", sum := "4a313de90cefce544067588683f218dce75f3c411149a137b66a5fc367a645ce", func := "solder/solderlaw07.LayoutAddresses", spec := "layoutAddresses", apart := false, narrowed := true }
def LayoutAddressesUptoSaid : Prop := layoutAddressesUptoRow.holds Try.pinned (OpenSpec.upto layoutAddressesSpec)

/-- 'solderlaw07.LayoutMoves', WHERE WHAT IT READS IS OF BULK AT MOST 1048576: true; the input reads as it did. -/
def layoutMovesUptoRow : OpenClaim := { program := "ytaocclgnpphjfaa", sum := "4a313de90cefce544067588683f218dce75f3c411149a137b66a5fc367a645ce", func := "solder/solderlaw07.LayoutMoves", spec := "layoutMoves", apart := false, narrowed := true }
def LayoutMovesUptoSaid : Prop := layoutMovesUptoRow.holds Try.pinned (OpenSpec.upto layoutMovesSpec)

/-- 'solderlaw07.LayoutSums', WHERE WHAT IT READS IS OF BULK AT MOST 1048576: true; the input reads as it did. -/
def layoutSumsUptoRow : OpenClaim := { program := "ytaocclgnpphjfaa", sum := "4a313de90cefce544067588683f218dce75f3c411149a137b66a5fc367a645ce", func := "solder/solderlaw07.LayoutSums", spec := "layoutSums", apart := false, narrowed := true }
def LayoutSumsUptoSaid : Prop := layoutSumsUptoRow.holds Try.pinned (OpenSpec.upto layoutSumsSpec)

end Rows
end Go.Proofs.Ytaocclgnpphjfaa
