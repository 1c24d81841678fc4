/-
  Two bytes as a parameter: opened and shut. No condition.
-/
import Derived.Test.YtanlccnhkiibeaaCodeP
import Derived.Test.YtanlccnhkiibeaaMachCp
namespace Go.Proofs.Ytanlccnhkiibeaa
open Go.ChangeShapes Go.WideShapes Go.ChangeAt Go.RowKit
set_option linter.unusedVariables false
set_option linter.unusedSimpArgs false
namespace CP
theorem two_ : Try.prog.cellsOf 24 = 2 := by kernel_rfl
theorem list2 {α : Type} (l : List α) (h : l.length = 2) : ∃ a b, l = [a, b] := by
  match l, h with
  | [a, b], _ => exact ⟨a, b, rfl⟩
section
variable {H : Type} {enc : TypeId × Value → H} {w : World} {base b0 : Nat} {spare : Nat → Bool} {held : Bool}
set_option maxRecDepth 100000 in
theorem open_two {v : Value} {d : DataW H} {ps : List MemPlace} (hval : Value.okWide Try.prog w .any b0 24 v) (hd : DataW.Trod enc Try.prog w base spare held 24 v d ps) :
    ∃ a b : Int, v = .agg #[.int .u8 a, .int .u8 b] ∧ d = .agg [.lit (.int .u8 a), .lit (.int .u8 b)] ∧ ps = [] ∧ (Lit.int .u8 a).wf = true ∧ (Lit.int .u8 b).wf = true := by
  obtain ⟨cs, rfl, hsz, _⟩ : ∃ cs, v = .agg cs ∧ cs.size = Try.prog.cellsOf 24 ∧ Row.okWide Try.prog w .any b0 24 cs := by
    simpa [Value.okWide, Try.underlying24] using hval
  rw [two_] at hsz
  obtain ⟨l⟩ := cs
  obtain ⟨c0, c1, rfl⟩ := list2 l (by simpa using hsz)
  obtain ⟨fuel, hf⟩ := hd
  have hf' : DataW.trod enc Try.prog w base spare held fuel 24 [c0, c1] = some (d, ps) := hf
  obtain ⟨xs, m, rfl, hx, hl, hxl, hall⟩ := DataW.trod_array Try.underlying24 hf'
  have h0 := hall 0 (by omega)
  have h1 := hall 1 (by omega)
  rw [one5] at h0 h1
  obtain ⟨y0, y1, rfl⟩ := list2 xs hxl
  have g0 : DataW.trod enc Try.prog w base spare held m 5 [c0] = some y0 := by simpa using h0
  have g1 : DataW.trod enc Try.prog w base spare held m 5 [c1] = some y1 := by simpa using h1
  obtain ⟨x0, e0, rfl, w0⟩ := DataW.trod_int Try.underlying5 g0
  obtain ⟨x1, e1, rfl, w1⟩ := DataW.trod_int Try.underlying5 g1
  simp only [List.cons.injEq, and_true] at e0 e1
  subst e0 e1
  simp only [Prod.mk.injEq] at hx
  obtain ⟨rfl, rfl⟩ := hx
  exact ⟨x0, x1, rfl, rfl, rfl, w0, w1⟩
theorem shut_two {a b : Int} (w0 : (Lit.int .u8 a).wf = true) (w1 : (Lit.int .u8 b).wf = true) :
    DataW.Trod enc Try.prog w base spare held 24 (.agg #[.int .u8 a, .int .u8 b]) (.agg [.lit (.int .u8 a), .lit (.int .u8 b)]) [] :=
  ⟨2, by simp [DataW.trod, Value.cells, Try.underlying24, Try.underlying5, two_, one5, w0, w1, show List.range 2 = [0, 1] from rfl]⟩
end
end CP
end Go.Proofs.Ytanlccnhkiibeaa
