/-
  A place, a symbol and a relocation as parameters: opened; and addresses, the program's and the document's: contracts. Condition: none but that the types can be read.
-/
import Derived.Test.YtaocclgnpphjfaaObjB
import Derived.Test.YtaocclgnpphjfaaLayA
namespace Go.Proofs.Ytaocclgnpphjfaa
open Go.RowKit Go.ChangeShapes Go.WideShapes Go.ChangeAt Go.Deep Go.Joins
set_option linter.unusedVariables false
set_option linter.unusedSimpArgs false
namespace LP
open OO OJ OB LM LC
abbrev TP : TypeId := 65
section
variable {H : Type} {enc : TypeId × Value → H}
set_option maxRecDepth 100000 in
theorem place_open {W : World} {sp : Nat → Bool} {n : Nat} {cs : List Value} {x : DataW H × List MemPlace} (h : DataW.trod enc Try.prog W 0 sp true n TP cs = some x) :
    ∃ a b : Int, cs = [.int .i64 a, .int .i64 b] ∧ I64 a ∧ I64 b := by
  obtain ⟨ys, n', hn', hx, hl, hyl, hf⟩ := DataW.trod_struct Try.underlying65 h
  rw [show Try.prog.cellsOf TP = 2 by kernel_rfl] at hl
  obtain ⟨c0, c1, rfl⟩ := LS.list2 cs hl
  obtain ⟨y0, y1, rfl⟩ := LS.list2 ys hyl
  have g0 : DataW.trod enc Try.prog W 0 sp true n' 3 [c0] = some y0 := by simpa [show Try.prog.cellsOf 3 = 1 by kernel_rfl] using hf 0 _ rfl
  have g1 : DataW.trod enc Try.prog W 0 sp true n' 3 [c1] = some y1 := by simpa [show Try.prog.cellsOf 3 = 1 by kernel_rfl] using hf 1 _ rfl
  obtain ⟨x0, e0, -, w0⟩ := DataW.trod_int Try.underlying3 g0
  simp only [List.cons.injEq, and_true] at e0
  subst e0
  obtain ⟨x1, e1, -, w1⟩ := DataW.trod_int Try.underlying3 g1
  simp only [List.cons.injEq, and_true] at e1
  subst e1
  exact ⟨x0, x1, rfl, bounds_i64 w0, bounds_i64 w1⟩
set_option maxRecDepth 100000 in
theorem open_place {W : World} {base : Nat} {v : Value} {d : DataW H} {p : List MemPlace} (hval : Value.okWide Try.prog W .any base TP v) (h : DataW.Trod enc Try.prog W 0 (fun _ => true) true TP v d p) :
    ∃ a b : Int, v = .agg #[.int .i64 a, .int .i64 b] ∧ I64 a ∧ I64 b := by
  obtain ⟨cs, rfl, hsz, _⟩ : ∃ cs, v = .agg cs ∧ cs.size = Try.prog.cellsOf TP ∧ Row.okWide Try.prog W .any base TP cs := by
    simpa [Value.okWide, Try.underlying65] using hval
  obtain ⟨l⟩ := cs
  obtain ⟨n, hn⟩ := h
  obtain ⟨a, b, e, hs⟩ := place_open (show DataW.trod enc Try.prog W 0 (fun _ => true) true n TP l = some (d, p) from hn)
  subst e
  exact ⟨a, b, rfl, hs⟩
set_option maxRecDepth 100000 in
theorem open_sym {W : World} {base : Nat} {v : Value} {d : DataW H} {p : List MemPlace} (hval : Value.okWide Try.prog W .any base 52 v) (h : DataW.Trod enc Try.prog W 0 (fun _ => true) true 52 v d p) :
    ∃ s : SymV, v = .agg #[.string s.name, .int .i64 s.sect, .int .i64 s.val, .int .i64 s.frame, .bool s.glob] ∧ s.Wf := by
  obtain ⟨cs, rfl, hsz, _⟩ : ∃ cs, v = .agg cs ∧ cs.size = Try.prog.cellsOf 52 ∧ Row.okWide Try.prog W .any base 52 cs := by
    simpa [Value.okWide, Try.underlying52] using hval
  obtain ⟨l⟩ := cs
  obtain ⟨n, hn⟩ := h
  obtain ⟨s, e, hs⟩ := sym_open (show DataW.trod enc Try.prog W 0 (fun _ => true) true n 52 l = some (d, p) from hn)
  subst e
  exact ⟨s, rfl, hs⟩
set_option maxRecDepth 100000 in
theorem open_rel {W : World} {base : Nat} {v : Value} {d : DataW H} {p : List MemPlace} (hval : Value.okWide Try.prog W .any base 69 v) (h : DataW.Trod enc Try.prog W 0 (fun _ => true) true 69 v d p) :
    ∃ s : RelV, v = .agg #[.int .i64 s.sect, .int .i64 s.place, .int .i64 s.kind, .int .i64 s.sym, .int .i64 s.add] ∧ s.Wf := by
  obtain ⟨cs, rfl, hsz, _⟩ : ∃ cs, v = .agg cs ∧ cs.size = Try.prog.cellsOf 69 ∧ Row.okWide Try.prog W .any base 69 cs := by
    simpa [Value.okWide, Try.underlying69] using hval
  obtain ⟨l⟩ := cs
  obtain ⟨n, hn⟩ := h
  obtain ⟨s, e, hs⟩ := rel_open (show DataW.trod enc Try.prog W 0 (fun _ => true) true n 69 l = some (d, p) from hn)
  subst e
  exact ⟨s, rfl, hs⟩
end
theorem wrap_mod (n : Int) : wrap64 n % 4294967296 = n % 4294967296 := by unfold wrap64; omega
/-- an address, as a word -/
def adr (t d sect n : Int) : Int := if sect = 1 then (t + 4 * n) % 4294967296 else if sect = 2 then (d + n) % 4294967296 else 0
theorem adr_bd (t d sect n : Int) : 0 ≤ adr t d sect n ∧ adr t d sect n < 4294967296 := by unfold adr; split; omega; split <;> omega
end LP
end Go.Proofs.Ytaocclgnpphjfaa
