/-
  An array of two words as a parameter: opened and shut. No condition.
-/
import Derived.Test.YtieehjkmfmkfjaaRows
import Derived.ProofKit
import Derived.OpenShut
import Derived.Laws.IdiomArrays
namespace Go.Proofs.Ytieehjkmfmkfjaa
open Go.RowKit Go.ChangeShapes Go.WideShapes Go.ChangeAt
set_option linter.unusedVariables false
namespace PW
theorem cells31 : Try.prog.cellsOf 53 = 1 := by kernel_rfl
theorem cells32 : Try.prog.cellsOf 55 = 2 := by kernel_rfl
theorem list2 {α : Type} (l : List α) (h : (⟨l⟩ : Array α).size = 2) : ∃ a b, l = [a, b] := by
  match l, h with
  | [a, b], _ => exact ⟨a, b, rfl⟩
section
variable {H : Type} {enc : TypeId × Value → H} {w : World} {base b0 : Nat} {spare : Nat → Bool} {held : Bool}
set_option maxRecDepth 100000 in
theorem open_two {v : Value} {d : DataW H} {ps : List MemPlace} (hval : Value.okWide Try.prog w .any b0 55 v) (hd : DataW.Trod enc Try.prog w base spare held 55 v d ps) :
    ∃ a b : Int, v = .agg #[.int .u32 a, .int .u32 b] ∧ d = .agg [.lit (.int .u32 a), .lit (.int .u32 b)] ∧ ps = [] ∧ (Lit.int .u32 a).wf = true ∧ (Lit.int .u32 b).wf = true := by
  obtain ⟨cs, rfl, hsz, _⟩ : ∃ cs, v = .agg cs ∧ cs.size = Try.prog.cellsOf 55 ∧ Row.okWide Try.prog w .any b0 55 cs := by
    simpa [Value.okWide, Try.underlying55] using hval
  rw [cells32] at hsz
  obtain ⟨l⟩ := cs
  obtain ⟨c0, c1, rfl⟩ := list2 l hsz
  obtain ⟨fuel, hf⟩ := hd
  have hf' : DataW.trod enc Try.prog w base spare held fuel 55 [c0, c1] = some (d, ps) := hf
  obtain ⟨xs, m, rfl, hx, hl, hxl, hall⟩ := DataW.trod_array Try.underlying55 hf'
  have h0 := hall 0 (by omega)
  have h1 := hall 1 (by omega)
  rw [cells31] at h0 h1
  obtain ⟨y0, y1, rfl⟩ : ∃ y0 y1, xs = [y0, y1] := by
    match xs, hxl with
    | [a, b], _ => exact ⟨a, b, rfl⟩
  have h0' : DataW.trod enc Try.prog w base spare held m 53 [c0] = some y0 := by simpa using h0
  have h1' : DataW.trod enc Try.prog w base spare held m 53 [c1] = some y1 := by simpa using h1
  obtain ⟨x0, e0, rfl, w0⟩ := DataW.trod_int Try.underlying53 h0'
  obtain ⟨x1, e1, rfl, w1⟩ := DataW.trod_int Try.underlying53 h1'
  simp only [List.cons.injEq, and_true] at e0 e1
  subst e0 e1
  simp only [Prod.mk.injEq] at hx
  obtain ⟨rfl, rfl⟩ := hx
  exact ⟨x0, x1, rfl, rfl, rfl, w0, w1⟩
theorem shut_two {a b : Int} (w0 : (Lit.int .u32 a).wf = true) (w1 : (Lit.int .u32 b).wf = true) :
    DataW.Trod enc Try.prog w base spare held 55 (.agg #[.int .u32 a, .int .u32 b]) (.agg [.lit (.int .u32 a), .lit (.int .u32 b)]) [] :=
  ⟨2, by simp [DataW.trod, Value.cells, Try.underlying55, Try.underlying53, cells32, cells31, w0, w1, show List.range 2 = [0, 1] from rfl]⟩
end
end PW
end Go.Proofs.Ytieehjkmfmkfjaa
