/-
  An instruction, and three bytes, as a parameter: opened and shut. No condition.
-/
import Derived.Test.YtieehjkmfmkfjaaCodeL
import Derived.ProofKit
import Derived.OpenShut
import Derived.ChangeArms
namespace Go.Proofs.Ytieehjkmfmkfjaa
open Go.RowKit Go.ChangeShapes Go.WideShapes Go.ChangeAt
set_option linter.unusedVariables false
namespace CP
theorem one3 : Try.prog.cellsOf 3 = 1 := by kernel_rfl
theorem five : Try.prog.cellsOf 85 = 5 := by kernel_rfl
theorem one5 : Try.prog.cellsOf 5 = 1 := by kernel_rfl
theorem list5 {α : Type} (l : List α) (h : l.length = 5) : ∃ a b c d e, l = [a, b, c, d, e] := by
  match l, h with
  | [a, b, c, d, e], _ => exact ⟨a, b, c, d, e, rfl⟩
theorem list3 {α : Type} (l : List α) (h : l.length = 3) : ∃ a b c, l = [a, b, c] := by
  match l, h with
  | [a, b, c], _ => exact ⟨a, b, c, rfl⟩
section
variable {H : Type} {enc : TypeId × Value → H} {w : World} {base b0 : Nat} {spare : Nat → Bool} {held : Bool}
set_option maxRecDepth 100000 in
theorem open_instr {v : Value} {d : DataW H} {ps : List MemPlace} (hval : Value.okWide Try.prog w .any b0 85 v) (hd : DataW.Trod enc Try.prog w base spare held 85 v d ps) :
    ∃ a b c e f : Int, v = .agg #[.int .i64 a, .int .i64 b, .int .i64 c, .int .i64 e, .int .i64 f] ∧ d = .agg [.lit (.int .i64 a), .lit (.int .i64 b), .lit (.int .i64 c), .lit (.int .i64 e), .lit (.int .i64 f)] ∧ ps = [] ∧
      (Lit.int .i64 a).wf = true ∧ (Lit.int .i64 b).wf = true ∧ (Lit.int .i64 c).wf = true ∧ (Lit.int .i64 e).wf = true ∧ (Lit.int .i64 f).wf = true := by
  obtain ⟨cs, rfl, hsz, _⟩ : ∃ cs, v = .agg cs ∧ cs.size = Try.prog.cellsOf 85 ∧ Row.okWide Try.prog w .any b0 85 cs := by
    simpa [Value.okWide, Try.underlying85] using hval
  rw [five] at hsz
  obtain ⟨l⟩ := cs
  obtain ⟨c0, c1, c2, c3, c4, rfl⟩ := list5 l (by simpa using hsz)
  obtain ⟨fuel, hf⟩ := hd
  have hf' : DataW.trod enc Try.prog w base spare held fuel 85 [c0, c1, c2, c3, c4] = some (d, ps) := hf
  obtain ⟨xs, m, rfl, hx, hl, hxl, hall⟩ := DataW.trod_struct Try.underlying85 hf'
  have h0 := hall 0 _ rfl
  have h1 := hall 1 _ rfl
  have h2 := hall 2 _ rfl
  have h3 := hall 3 _ rfl
  have h4 := hall 4 _ rfl
  obtain ⟨y0, y1, y2, y3, y4, rfl⟩ := list5 xs hxl
  have g0 : DataW.trod enc Try.prog w base spare held m 3 [c0] = some y0 := by simpa [one3] using h0
  have g1 : DataW.trod enc Try.prog w base spare held m 3 [c1] = some y1 := by simpa [one3] using h1
  have g2 : DataW.trod enc Try.prog w base spare held m 3 [c2] = some y2 := by simpa [one3] using h2
  have g3 : DataW.trod enc Try.prog w base spare held m 3 [c3] = some y3 := by simpa [one3] using h3
  have g4 : DataW.trod enc Try.prog w base spare held m 3 [c4] = some y4 := by simpa [one3] using h4
  obtain ⟨x0, e0, rfl, w0⟩ := DataW.trod_int Try.underlying3 g0
  obtain ⟨x1, e1, rfl, w1⟩ := DataW.trod_int Try.underlying3 g1
  obtain ⟨x2, e2, rfl, w2⟩ := DataW.trod_int Try.underlying3 g2
  obtain ⟨x3, e3, rfl, w3⟩ := DataW.trod_int Try.underlying3 g3
  obtain ⟨x4, e4, rfl, w4⟩ := DataW.trod_int Try.underlying3 g4
  simp only [List.cons.injEq, and_true] at e0 e1 e2 e3 e4
  subst e0 e1 e2 e3 e4
  simp only [Prod.mk.injEq] at hx
  obtain ⟨rfl, rfl⟩ := hx
  exact ⟨x0, x1, x2, x3, x4, rfl, rfl, rfl, w0, w1, w2, w3, w4⟩
theorem shut_instr {a b c e f : Int} (w0 : (Lit.int .i64 a).wf = true) (w1 : (Lit.int .i64 b).wf = true) (w2 : (Lit.int .i64 c).wf = true) (w3 : (Lit.int .i64 e).wf = true) (w4 : (Lit.int .i64 f).wf = true) :
    DataW.Trod enc Try.prog w base spare held 85 (.agg #[.int .i64 a, .int .i64 b, .int .i64 c, .int .i64 e, .int .i64 f]) (.agg [.lit (.int .i64 a), .lit (.int .i64 b), .lit (.int .i64 c), .lit (.int .i64 e), .lit (.int .i64 f)]) [] :=
  ⟨2, by simp [DataW.trod, Value.cells, Try.underlying85, Try.underlying3, five, one3, w0, w1, w2, w3, w4]⟩
end
/-- two blocks lie as they were laid -/
structure Tw (w w' : World) (I J : Array Value) : Prop where
  hi : w'.heap[w.heap.size]? = some (.cells I 85 (0, 0))
  hj : w'.heap[w.heap.size + 1]? = some (.cells J 85 (0, 0))
  below : Below w.heap.size w w'
theorem tw {w w' : World} {I J : Array Value} (hb : Below ((w.alloc (.cells I 85)).alloc (.cells J 85)).heap.size ((w.alloc (.cells I 85)).alloc (.cells J 85)) w') : Tw w w' I J := by
  refine ⟨?_, ?_, ((CE.box0 w _).alloc (by simp) _).trans (hb.mono (by simp only [World.size_alloc]; omega))⟩
  · rw [hb.block _ (by simp only [World.size_alloc]; omega), Below.heap_alloc _ _ _ (by simp)]
    exact CW.newAt _ _ _ rfl
  · rw [hb.block _ (by simp only [World.size_alloc]; omega)]
    exact CW.newAt _ _ _ (by simp)
theorem Tw.trans {w w' w'' : World} {I J : Array Value} (g : Tw w w' I J) (hb : Below w'.heap.size w' w'') : Tw w w'' I J :=
  ⟨(hb.block _ (CW.lt_of_get g.hi)).trans g.hi, (hb.block _ (CW.lt_of_get g.hj)).trans g.hj, g.below.trans (hb.mono g.below.size)⟩
theorem cells5 {w : World} {b : Nat} {p q r s t : Int} {T : TypeId} (h : w.heap[b]? = some (.cells #[.int .i64 p, .int .i64 q, .int .i64 r, .int .i64 s, .int .i64 t] T (0, 0))) :
    w.cell? ⟨b, 0, none⟩ = some (.int .i64 p) ∧ w.cell? ⟨b, 1, none⟩ = some (.int .i64 q) ∧ w.cell? ⟨b, 2, none⟩ = some (.int .i64 r) ∧ w.cell? ⟨b, 3, none⟩ = some (.int .i64 s) ∧ w.cell? ⟨b, 4, none⟩ = some (.int .i64 t) :=
  ⟨cell_of_row _ _ _ _ _ _ h, cell_of_row _ _ _ _ _ _ h, cell_of_row _ _ _ _ _ _ h, cell_of_row _ _ _ _ _ _ h, cell_of_row _ _ _ _ _ _ h⟩
end CP
end Go.Proofs.Ytieehjkmfmkfjaa
