/-
  No cell of these rows narrows 'for every input' (looked for: loops, veiled, ifaces, maps, wideKeys, modest, calm, conditions, laid).
  DERIVED. THE GIVEN ROWS OF THIS SEAT. 7 by the template 'for every input the law returns true; each argument reads behind the call as it read before'; 0 by the template 'total and deterministic' (their statements: YtieehjkmfmkfjaaTotals.lean).
  GIVEN WITH THE SEED: the statements are not yours to turn. If you find one false, say at which input.
  Laid BY PROGRAM, IN A SANDBOX (cutbox-rows.mjs): the forced cells as the released guide's own fill.sh prints them over the translation 6228a7b9718875c2… (all of the seat's roots in one cut). By AI agents, Wed Nov 11 2026. No macro, syntax, notation, axiom, sorry.
-/
import Derived.Test.YtieehjkmfmkfjaaChecked
import GoSem.Claim
import GoSem.ClaimJoined
import GoSem.ClaimMapViews
import Derived.JoinedTies
import Derived.KernelRfl
namespace Go.Proofs.Ytieehjkmfmkfjaa
/- THE CELL 'sum', in the pinned program and in every row, IS THE sha256 OF THE DUMP (.gsa) THAT YtieehjkmfmkfjaaProg.lean LOADS. Nothing in Lean hashes anything: it is a label: what it is worth is what the hold of that sum in a sandbox is worth. -/
noncomputable def Try.pinned : Pinned := { name := "ytieehjkmfmkfjaa", sum := "6228a7b9718875c21b797989d96cccadabf1e5e11db29eb53ad7d78301f094ba", checked := Try.checked }
namespace Rows
def none {H : Type} : Left H := { results := [], args := [] }

/-- 'solderlaw06.ResolveTargets': WHATEVER THE INPUT: true; the input reads as it did. -/
def resolveTargetsSpec : ChangeSpec := { name := "resolveTargets", fn := fun _ => fun
  | [d] => { results := [.lit (.bool true)], args := [d] }
  | _ => none }
def resolveTargetsRow : OpenClaim := { program := "ytieehjkmfmkfjaa", sum := "6228a7b9718875c21b797989d96cccadabf1e5e11db29eb53ad7d78301f094ba", func := "solder/solderlaw06.ResolveTargets", spec := "resolveTargets", unfollowed := true, recurses := true, apart := false }
def ResolveTargetsSaid : Prop := resolveTargetsRow.holds Try.pinned (OpenSpec.ofChange resolveTargetsSpec)

/-- ITS FALSE NEIGHBOUR: 'it returns false'. Refute it at one input. -/
def resolveTargetsWrong : ChangeSpec := { name := "resolveTargets", fn := fun _ => fun
  | [d] => { results := [.lit (.bool false)], args := [d] }
  | _ => none }
def ResolveTargetsWrongFalsely : Prop := resolveTargetsRow.holds Try.pinned (OpenSpec.ofChange resolveTargetsWrong)

/-- 'solderlaw06.ResolveMain': WHATEVER THE INPUT: true; the input reads as it did. -/
def resolveMainSpec : ChangeSpec := { name := "resolveMain", fn := fun _ => fun
  | [d] => { results := [.lit (.bool true)], args := [d] }
  | _ => none }
def resolveMainRow : OpenClaim := { program := "ytieehjkmfmkfjaa", sum := "6228a7b9718875c21b797989d96cccadabf1e5e11db29eb53ad7d78301f094ba", func := "solder/solderlaw06.ResolveMain", spec := "resolveMain", unfollowed := true, recurses := true, apart := false }
def ResolveMainSaid : Prop := resolveMainRow.holds Try.pinned (OpenSpec.ofChange resolveMainSpec)

/-- ITS FALSE NEIGHBOUR: 'it returns false'. Refute it at one input. -/
def resolveMainWrong : ChangeSpec := { name := "resolveMain", fn := fun _ => fun
  | [d] => { results := [.lit (.bool false)], args := [d] }
  | _ => none }
def ResolveMainWrongFalsely : Prop := resolveMainRow.holds Try.pinned (OpenSpec.ofChange resolveMainWrong)

/-- 'solderlaw06.ResolveOrder': WHATEVER THE INPUT: true; the input reads as it did. -/
def resolveOrderSpec : ChangeSpec := { name := "resolveOrder", fn := fun _ => fun
  | [d] => { results := [.lit (.bool true)], args := [d] }
  | _ => none }
def resolveOrderRow : OpenClaim := { program := "ytieehjkmfmkfjaa", sum := "6228a7b9718875c21b797989d96cccadabf1e5e11db29eb53ad7d78301f094ba", func := "solder/solderlaw06.ResolveOrder", spec := "resolveOrder", unfollowed := true, recurses := true, apart := false }
def ResolveOrderSaid : Prop := resolveOrderRow.holds Try.pinned (OpenSpec.ofChange resolveOrderSpec)

/-- ITS FALSE NEIGHBOUR: 'it returns false'. Refute it at one input. -/
def resolveOrderWrong : ChangeSpec := { name := "resolveOrder", fn := fun _ => fun
  | [d] => { results := [.lit (.bool false)], args := [d] }
  | _ => none }
def ResolveOrderWrongFalsely : Prop := resolveOrderRow.holds Try.pinned (OpenSpec.ofChange resolveOrderWrong)

/-- 'solderlaw06.ResolveMeets': WHATEVER THE INPUT: true; the input reads as it did. -/
def resolveMeetsSpec : ChangeSpec := { name := "resolveMeets", fn := fun _ => fun
  | [d] => { results := [.lit (.bool true)], args := [d] }
  | _ => none }
def resolveMeetsRow : OpenClaim := { program := "ytieehjkmfmkfjaa", sum := "6228a7b9718875c21b797989d96cccadabf1e5e11db29eb53ad7d78301f094ba", func := "solder/solderlaw06.ResolveMeets", spec := "resolveMeets", unfollowed := true, recurses := true, apart := false }
def ResolveMeetsSaid : Prop := resolveMeetsRow.holds Try.pinned (OpenSpec.ofChange resolveMeetsSpec)

/-- ITS FALSE NEIGHBOUR: 'it returns false'. Refute it at one input. -/
def resolveMeetsWrong : ChangeSpec := { name := "resolveMeets", fn := fun _ => fun
  | [d] => { results := [.lit (.bool false)], args := [d] }
  | _ => none }
def ResolveMeetsWrongFalsely : Prop := resolveMeetsRow.holds Try.pinned (OpenSpec.ofChange resolveMeetsWrong)

/-- 'solderlaw06.ResolveMore': WHATEVER THE INPUT: true; the input reads as it did. -/
def resolveMoreSpec : ChangeSpec := { name := "resolveMore", fn := fun _ => fun
  | [d] => { results := [.lit (.bool true)], args := [d] }
  | _ => none }
def resolveMoreRow : OpenClaim := { program := "ytieehjkmfmkfjaa", sum := "6228a7b9718875c21b797989d96cccadabf1e5e11db29eb53ad7d78301f094ba", func := "solder/solderlaw06.ResolveMore", spec := "resolveMore", unfollowed := true, recurses := true, apart := false }
def ResolveMoreSaid : Prop := resolveMoreRow.holds Try.pinned (OpenSpec.ofChange resolveMoreSpec)

/-- ITS FALSE NEIGHBOUR: 'it returns false'. Refute it at one input. -/
def resolveMoreWrong : ChangeSpec := { name := "resolveMore", fn := fun _ => fun
  | [d] => { results := [.lit (.bool false)], args := [d] }
  | _ => none }
def ResolveMoreWrongFalsely : Prop := resolveMoreRow.holds Try.pinned (OpenSpec.ofChange resolveMoreWrong)

/-- 'solderlaw06.ResolveOwn': WHATEVER THE INPUT: true; the input reads as it did. -/
def resolveOwnSpec : ChangeSpec := { name := "resolveOwn", fn := fun _ => fun
  | [d] => { results := [.lit (.bool true)], args := [d] }
  | _ => none }
def resolveOwnRow : OpenClaim := { program := "ytieehjkmfmkfjaa", sum := "6228a7b9718875c21b797989d96cccadabf1e5e11db29eb53ad7d78301f094ba", func := "solder/solderlaw06.ResolveOwn", spec := "resolveOwn", unfollowed := true, recurses := true, apart := false }
def ResolveOwnSaid : Prop := resolveOwnRow.holds Try.pinned (OpenSpec.ofChange resolveOwnSpec)

/-- ITS FALSE NEIGHBOUR: 'it returns false'. Refute it at one input. -/
def resolveOwnWrong : ChangeSpec := { name := "resolveOwn", fn := fun _ => fun
  | [d] => { results := [.lit (.bool false)], args := [d] }
  | _ => none }
def ResolveOwnWrongFalsely : Prop := resolveOwnRow.holds Try.pinned (OpenSpec.ofChange resolveOwnWrong)

/-- 'solderlaw08.PatchWords': WHATEVER THE INPUT: true; the input reads as it did. -/
def patchWordsSpec : ChangeSpec := { name := "patchWords", fn := fun _ => fun
  | [d1, d2, d3] => { results := [.lit (.bool true)], args := [d1, d2, d3] }
  | _ => none }
def patchWordsRow : OpenClaim := { program := "ytieehjkmfmkfjaa", sum := "6228a7b9718875c21b797989d96cccadabf1e5e11db29eb53ad7d78301f094ba", func := "solder/solderlaw08.PatchWords", spec := "patchWords", apart := false }
def PatchWordsSaid : Prop := patchWordsRow.holds Try.pinned (OpenSpec.ofChange patchWordsSpec)

/-- ITS FALSE NEIGHBOUR: 'it returns false'. Refute it at one input. -/
def patchWordsWrong : ChangeSpec := { name := "patchWords", fn := fun _ => fun
  | [d1, d2, d3] => { results := [.lit (.bool false)], args := [d1, d2, d3] }
  | _ => none }
def PatchWordsWrongFalsely : Prop := patchWordsRow.holds Try.pinned (OpenSpec.ofChange patchWordsWrong)

/- THE SECOND FORM. 'bulk': how many values and letters a reading holds, each counted each time it is reached (what is shared counts as often as it is met; a slice's spare places count too). A statement '..UptoSaid' is the law's where the arguments, and the package variables that the reading takes, are together of bulk at most 1048576: NARROWER than '..Said'. Prove '..Said' where nothing that the law and all that it calls make is longer than what came in: it says more and counts as full. Else prove '..UptoSaid'. A law counts once. -/
mutual
def uptoBulk {H : Type} : DataW H → Nat
  | .lit (.string bytes) => bytes.length + 1
  | .lit _ => 1
  | .nil => 1
  | .ptr d => uptoBulk d + 1
  | .slice elems spare => uptoBulkAll elems + uptoBulkAll spare + 1
  | .agg parts => uptoBulkAll parts + 1
  | .iface _ d => uptoBulk d + 1
  | .map entries => uptoBulkEntries entries + 1
  | .held _ => 1
def uptoBulkAll {H : Type} : List (DataW H) → Nat
  | [] => 0
  | d :: r => uptoBulk d + uptoBulkAll r
def uptoBulkEntries {H : Type} : List (Lit × DataW H) → Nat
  | [] => 0
  | x :: r => uptoBulkEntry x + uptoBulkEntries r
def uptoBulkEntry {H : Type} : Lit × DataW H → Nat
  | (.string bytes, d) => bytes.length + uptoBulk d + 1
  | (_, d) => uptoBulk d + 1
 end
def uptoSmall : (H : Type) → List (DataW H) → Bool := fun _ ds => decide (uptoBulkAll ds ≤ 1048576)
def OpenSpec.upto (s : _root_.Go.ChangeSpec) : _root_.Go.OpenSpec := { _root_.Go.OpenSpec.ofChange s with cond := some uptoSmall }

/-- 'solderlaw06.ResolveTargets', WHERE WHAT IT READS IS OF BULK AT MOST 1048576: true; the input reads as it did. -/
def resolveTargetsUptoRow : OpenClaim := { program := "ytieehjkmfmkfjaa", sum := "6228a7b9718875c21b797989d96cccadabf1e5e11db29eb53ad7d78301f094ba", func := "solder/solderlaw06.ResolveTargets", spec := "resolveTargets", unfollowed := true, recurses := true, apart := false, narrowed := true }
def ResolveTargetsUptoSaid : Prop := resolveTargetsUptoRow.holds Try.pinned (OpenSpec.upto resolveTargetsSpec)

/-- 'solderlaw06.ResolveMain', WHERE WHAT IT READS IS OF BULK AT MOST 1048576: true; the input reads as it did. -/
def resolveMainUptoRow : OpenClaim := { program := "ytieehjkmfmkfjaa", sum := "6228a7b9718875c21b797989d96cccadabf1e5e11db29eb53ad7d78301f094ba", func := "solder/solderlaw06.ResolveMain", spec := "resolveMain", unfollowed := true, recurses := true, apart := false, narrowed := true }
def ResolveMainUptoSaid : Prop := resolveMainUptoRow.holds Try.pinned (OpenSpec.upto resolveMainSpec)

/-- 'solderlaw06.ResolveOrder', WHERE WHAT IT READS IS OF BULK AT MOST 1048576: true; the input reads as it did. -/
def resolveOrderUptoRow : OpenClaim := { program := "ytieehjkmfmkfjaa", sum := "6228a7b9718875c21b797989d96cccadabf1e5e11db29eb53ad7d78301f094ba", func := "solder/solderlaw06.ResolveOrder", spec := "resolveOrder", unfollowed := true, recurses := true, apart := false, narrowed := true }
def ResolveOrderUptoSaid : Prop := resolveOrderUptoRow.holds Try.pinned (OpenSpec.upto resolveOrderSpec)

/-- 'solderlaw06.ResolveMeets', WHERE WHAT IT READS IS OF BULK AT MOST 1048576: true; the input reads as it did. -/
def resolveMeetsUptoRow : OpenClaim := { program := "ytieehjkmfmkfjaa", sum := "6228a7b9718875c21b797989d96cccadabf1e5e11db29eb53ad7d78301f094ba", func := "solder/solderlaw06.ResolveMeets", spec := "resolveMeets", unfollowed := true, recurses := true, apart := false, narrowed := true }
def ResolveMeetsUptoSaid : Prop := resolveMeetsUptoRow.holds Try.pinned (OpenSpec.upto resolveMeetsSpec)

/-- 'solderlaw06.ResolveMore', WHERE WHAT IT READS IS OF BULK AT MOST 1048576: true; the input reads as it did. -/
def resolveMoreUptoRow : OpenClaim := { program := "ytieehjkmfmkfjaa", sum := "6228a7b9718875c21b797989d96cccadabf1e5e11db29eb53ad7d78301f094ba", func := "solder/solderlaw06.ResolveMore", spec := "resolveMore", unfollowed := true, recurses := true, apart := false, narrowed := true }
def ResolveMoreUptoSaid : Prop := resolveMoreUptoRow.holds Try.pinned (OpenSpec.upto resolveMoreSpec)

/-- 'solderlaw06.ResolveOwn', WHERE WHAT IT READS IS OF BULK AT MOST 1048576: true; the input reads as it did. -/
def resolveOwnUptoRow : OpenClaim := { program := "ytieehjkmfmkfjaa", sum := "6228a7b9718875c21b797989d96cccadabf1e5e11db29eb53ad7d78301f094ba", func := "solder/solderlaw06.ResolveOwn", spec := "resolveOwn", unfollowed := true, recurses := true, apart := false, narrowed := true }
def ResolveOwnUptoSaid : Prop := resolveOwnUptoRow.holds Try.pinned (OpenSpec.upto resolveOwnSpec)

/-- 'solderlaw08.PatchWords', WHERE WHAT IT READS IS OF BULK AT MOST 1048576: true; the input reads as it did. -/
def patchWordsUptoRow : OpenClaim := { program := "ytieehjkmfmkfjaa", sum := "6228a7b9718875c21b797989d96cccadabf1e5e11db29eb53ad7d78301f094ba", func := "solder/solderlaw08.PatchWords", spec := "patchWords", apart := false, narrowed := true }
def PatchWordsUptoSaid : Prop := patchWordsUptoRow.holds Try.pinned (OpenSpec.upto patchWordsSpec)

end Rows
end Go.Proofs.Ytieehjkmfmkfjaa
