/-
  What package code's Encode and Fits answer, each a contract. No condition.
-/
import Derived.Test.YtlmblfkcmhgdaaaCodeX
import Derived.Test.YtlmblfkcmhgdaaaCodeF
import Derived.Deep.DeepCutAuto
namespace Go.Proofs.Ytlmblfkcmhgdaaa
open Go.RowKit
set_option linter.unusedVariables false
set_option linter.unusedSimpArgs false
namespace CE
theorem ret_pair {k : IntKind} {a b : Int} {v : Value} (h : a = b) : Ending.returned (.tuple #[.int k a, v]) = .returned (.tuple #[.int k b, v]) := by rw [h]
open CC CW CI CV CF
/-! ### the forms, looked up -/
theorem forms_eq : forms = .map ((List.range 55).map fun n => ((Lit.int .i64 ((n + 1 : Nat) : Int)), formD (CM.kd ((n + 1 : Nat) : Int)) (CM.o7 ((n + 1 : Nat) : Int)) (CM.f3 ((n + 1 : Nat) : Int)) (CM.f7 ((n + 1 : Nat) : Int)))) := by rfl
theorem has_forms (op : Int) : Maps.has forms (.int .i64 op) = CM.isOp op := by
  rw [forms_eq, Maps.has_eq, List.any_map]
  rw [Bool.eq_iff_iff, List.any_eq_true]
  constructor
  · rintro ⟨n, hn, h⟩
    have hn' := List.mem_range.1 hn
    simp [Lit.sameKey] at h
    simp [CM.isOp]
    omega
  · intro h
    have hb := CM.isOp_yes h
    refine ⟨op.toNat - 1, List.mem_range.2 (by omega), ?_⟩
    simp [Lit.sameKey]
    omega
theorem at_forms (op : Int) (h : CM.isOp op = true) (z : DataW Unit) : forms.atKey (.int .i64 op) z = formD (CM.kd op) (CM.o7 op) (CM.f3 op) (CM.f7 op) := by
  have hb := CM.isOp_yes h
  have e : (List.range 55).find? ((fun p : Lit × DataW Unit => p.1.sameKey (.int .i64 op)) ∘ fun n => ((Lit.int .i64 ((n + 1 : Nat) : Int)), formD (CM.kd ((n + 1 : Nat) : Int)) (CM.o7 ((n + 1 : Nat) : Int)) (CM.f3 ((n + 1 : Nat) : Int)) (CM.f7 ((n + 1 : Nat) : Int)))) = some (op.toNat - 1) := by
    rw [List.find?_range_eq_some]
    refine ⟨?_, List.mem_range.2 (by omega), ?_⟩
    · simp [Lit.sameKey]; omega
    · intro j hj
      simp [Lit.sameKey]; omega
  rw [forms_eq]
  unfold DataW.atKey
  simp only [List.find?_map, e, Option.map]
  rw [show ((op.toNat - 1 + 1 : Nat) : Int) = op by omega]
theorem key_op {op : Int} (h : (Lit.int .i64 op).wf = true) : keyOf Try.prog 3 (.int .i64 op) = some (.int .i64 op) := Maps.keyOf_int_mk Try.underlying3 h
theorem zeroF (w : World) : (zeroValue 82).run Try.prog w = .ok (formV 0 0 0 0) w := by kernel_rfl
theorem formD_inj {a b c d a' b' c' d' : Int} (h : formD a b c d = formD a' b' c' d') : a = a' ∧ b = b' ∧ c = c' ∧ d = d' := by
  simpa [formD] using h
/-- what is there is found -/
theorem look_yes {w0 w : World} {b : Nat} (S : Made w0 w b 55 forms) (op : Int) (hw : (Lit.int .i64 op).wf = true) (h : CM.isOp op = true) :
    (Instr.lookup 79 (.map (some b)) (.int .i64 op) true).run Try.prog w = .ok (.tuple #[.agg #[.int .i64 (CM.kd op), .int .u32 (CM.o7 op), .int .u32 (CM.f3 op), .int .u32 (CM.f7 op)], .bool true]) w := by
  obtain ⟨v, ps, hrun, hv⟩ := S.own.look_ok keyed Try.underlying79 (zeroF w) (formR_mk 0 0 0 0) (key_op hw)
  obtain ⟨a, b', c, d, rfl, hz⟩ := formR_inv hv
  rw [at_forms op h] at hz
  obtain ⟨rfl, rfl, rfl, rfl⟩ := formD_inj (Prod.mk.inj hz).1
  rw [hrun, has_forms, h]; rfl
theorem look_no {w0 w : World} {b : Nat} (S : Made w0 w b 55 forms) (op : Int) (hw : (Lit.int .i64 op).wf = true) (h : CM.isOp op = false) :
    ∃ v, (Instr.lookup 79 (.map (some b)) (.int .i64 op) true).run Try.prog w = .ok (.tuple #[.agg #[.int .i64 v, .int .u32 0, .int .u32 0, .int .u32 0], .bool false]) w := by
  obtain ⟨v, ps, hrun, hv⟩ := S.own.look_ok keyed Try.underlying79 (zeroF w) (formR_mk 0 0 0 0) (key_op hw)
  obtain ⟨a, b', c, d, rfl, hz⟩ := formR_inv hv
  have hat : forms.atKey (.int .i64 op) (formD 0 0 0 0) = formD 0 0 0 0 := Maps.atKey_of_not_has ((has_forms op).trans h) _
  rw [hat] at hz
  obtain ⟨rfl, rfl, rfl, rfl⟩ := formD_inj (Prod.mk.inj hz).1
  refine ⟨0, ?_⟩
  rw [hrun, has_forms, h]; rfl
theorem Made.alloc {w0 w : World} {b n : Nat} {D : DataW Unit} (S : Made w0 w b n D) (o : Obj) : Made w0 (w.alloc o) b n D := ⟨S.own.alloc o, S.below.alloc S.below.size o, S.new⟩
/-! ### Fits -/
theorem index60 {k : Int} (h0 : 0 ≤ k) (h1 : k ≤ 10) (w : World) : (Instr.index 91 (.agg (CM.uA k)) (.int .i64 3)).run Try.prog w = .ok (.agg (cs15 (CM.uv k 45) (CM.uv k 46) (CM.uv k 47) k 3)) w := by
  rcases (show k = 0 ∨ k = 1 ∨ k = 2 ∨ k = 3 ∨ k = 4 ∨ k = 5 ∨ k = 6 ∨ k = 7 ∨ k = 8 ∨ k = 9 ∨ k = 10 by omega) with h | h | h | h | h | h | h | h | h | h | h <;> subst h <;> kernel_rfl
theorem holds_fits {k : Int} (h0 : 0 ≤ k) (h1 : k ≤ 10) (x : Int) : CG.holds (CM.uv k 45) (CM.uv k 46) (CM.uv k 47) x = CM.fits k x := by
  rcases (show k = 0 ∨ k = 1 ∨ k = 2 ∨ k = 3 ∨ k = 4 ∨ k = 5 ∨ k = 6 ∨ k = 7 ∨ k = 8 ∨ k = 9 ∨ k = 10 by omega) with h | h | h | h | h | h | h | h | h | h | h <;> subst h
  · rfl
  · exact CX.holds_imm1 x
  · exact CX.holds_imm2 x
  · exact CX.holds_imm3 x
  · exact CX.holds_imm4 x
  · exact CX.holds_imm5 x
  · exact CX.holds_imm6 x
  · rfl
  · rfl
  · rfl
  · rfl
/-! ### Encode -/
def encE (op rd rs1 rs2 imm : Int) : Int := if CM.isOp op then CM.fault (CM.kd op) rd rs1 rs2 imm else 2
def encW (op rd rs1 rs2 imm : Int) : Int := if CM.isOp op && CM.fault (CM.kd op) rd rs1 rs2 imm == 0 then CM.word (CM.kd op) (CM.o7 op) (CM.f3 op) (CM.f7 op) rd rs1 rs2 imm else 0
theorem box0 (w : World) (o : Obj) : Below w.heap.size w (w.alloc o) := (Below.refl _ _).alloc (Nat.le_refl _) _
/-- behind the lookup: the form in a block, the instruction in another -/
structure Fd (w wx : World) (bf : Nat) (F I : Array Value) : Prop where
  hf : wx.heap[bf]? = some (.cells F 82 (0, 0))
  hi : wx.heap[w.heap.size]? = some (.cells I 73 (0, 0))
  below : Below w.heap.size w wx
theorem bA {w w1 : World} {o : Obj} (h : Below ((w.alloc o).drew).heap.size ((w.alloc o).drew) w1) : Below w.heap.size w w1 := (box0 w o).drew.trans (h.mono (by simp only [World.size_drew, World.size_alloc]; omega))
theorem bB {w w1 : World} {o o' : Obj} (h : Below (((w.alloc o).alloc o').drew).heap.size (((w.alloc o).alloc o').drew) w1) : Below w.heap.size w w1 := ((box0 w o).alloc (by simp) o').drew.trans (h.mono (by simp only [World.size_drew, World.size_alloc]; omega))
theorem iA {w w1 : World} {I : Array Value} (h : Below ((w.alloc (.cells I 73)).drew).heap.size ((w.alloc (.cells I 73)).drew) w1) : w1.heap[w.heap.size]? = some (.cells I 73 (0, 0)) := by
  rw [h.block _ (by simp only [World.size_drew, World.size_alloc]; omega)]
  exact newAt w _ _ rfl
theorem iB {w w1 : World} {I : Array Value} {o : Obj} (h : Below (((w.alloc (.cells I 73)).alloc o).drew).heap.size (((w.alloc (.cells I 73)).alloc o).drew) w1) : w1.heap[w.heap.size]? = some (.cells I 73 (0, 0)) := by
  rw [h.block _ (by simp only [World.size_drew, World.size_alloc]; omega)]
  exact (Below.heap_alloc _ _ _ (by simp)).trans (newAt w _ _ rfl)
theorem zB {w w1 : World} {o z : Obj} (h : Below (((w.alloc o).alloc z).drew).heap.size (((w.alloc o).alloc z).drew) w1) : w1.heap[w.heap.size + 1]? = some z := by
  rw [h.block _ (by simp only [World.size_drew, World.size_alloc]; omega)]
  exact newAt (w.alloc o) _ _ (by simp)
theorem fdA {w w1 : World} {F I : Array Value} (hb : Below w.heap.size w w1) (hi : w1.heap[w.heap.size]? = some (.cells I 73 (0, 0))) : Fd w (w1.alloc (.cells F 82)) w1.heap.size F I :=
  ⟨newAt _ _ _ rfl, (Below.heap_alloc _ _ _ (lt_of_get hi)).trans hi, hb.alloc hb.size _⟩
theorem fdB {w w1 : World} {I : Array Value} (k o a c : Int) (hb : Below w.heap.size w w1) (hi : w1.heap[w.heap.size]? = some (.cells I 73 (0, 0))) (hz : w1.heap[w.heap.size + 1]? = some (.cells #[.int .i64 0, .int .u32 0, .int .u32 0, .int .u32 0] 82 (0, 0))) :
    Fd w ((((w1.setCell ⟨w.heap.size + 1, 0, none⟩ (.int .i64 k)).setCell ⟨w.heap.size + 1, 1, none⟩ (.int .u32 o)).setCell ⟨w.heap.size + 1, 2, none⟩ (.int .u32 a)).setCell ⟨w.heap.size + 1, 3, none⟩ (.int .u32 c)) (w.heap.size + 1) #[.int .i64 k, .int .u32 o, .int .u32 a, .int .u32 c] I := by
  refine ⟨?_, ?_, (((hb.setCell (Nat.le_succ _) _).setCell (Nat.le_succ _) _).setCell (Nat.le_succ _) _).setCell (Nat.le_succ _) _⟩
  · exact heap_setCell_same _ _ _ _ _ _ (heap_setCell_same _ _ _ _ _ _ (heap_setCell_same _ _ _ _ _ _ (heap_setCell_same _ _ _ _ _ _ hz)))
  · have hne : w.heap.size ≠ w.heap.size + 1 := by omega
    rw [heap_setCell_other _ _ _ _ hne, heap_setCell_other _ _ _ _ hne, heap_setCell_other _ _ _ _ hne, heap_setCell_other _ _ _ _ hne]
    exact hi
theorem Fd.trans {w wx wy : World} {bf : Nat} {F I : Array Value} (g : Fd w wx bf F I) (hb : Below wx.heap.size wx wy) : Fd w wy bf F I :=
  ⟨(hb.block _ (lt_of_get g.hf)).trans g.hf, (hb.block _ (lt_of_get g.hi)).trans g.hi, g.below.trans (hb.mono g.below.size)⟩
theorem Fd.drew {w wx : World} {bf : Nat} {F I : Array Value} (g : Fd w wx bf F I) : Fd w wx.drew bf F I := ⟨g.hf, g.hi, g.below.drew⟩
theorem Fd.c {w wx : World} {bf : Nat} {F I : Array Value} (g : Fd w wx bf F I) (j : Nat) : wx.cell? ⟨bf, j, none⟩ = F[j]? := cell_of_row _ _ _ _ _ _ g.hf
theorem Fd.i {w wx : World} {bf : Nat} {F : Array Value} {op rd rs1 rs2 imm : Int} (g : Fd w wx bf F (iv op rd rs1 rs2 imm)) : wx.cell? ⟨w.heap.size, 0, none⟩ = some (.int .i64 op) ∧ wx.cell? ⟨w.heap.size, 1, none⟩ = some (.int .i64 rd) ∧ wx.cell? ⟨w.heap.size, 2, none⟩ = some (.int .i64 rs1) ∧ wx.cell? ⟨w.heap.size, 3, none⟩ = some (.int .i64 rs2) ∧ wx.cell? ⟨w.heap.size, 4, none⟩ = some (.int .i64 imm) :=
  ⟨cell_of_row _ _ _ _ _ _ g.hi, cell_of_row _ _ _ _ _ _ g.hi, cell_of_row _ _ _ _ _ _ g.hi, cell_of_row _ _ _ _ _ _ g.hi, cell_of_row _ _ _ _ _ _ g.hi⟩
theorem Fd.f {w wx : World} {bf : Nat} {k o a c : Int} {I : Array Value} (g : Fd w wx bf #[.int .i64 k, .int .u32 o, .int .u32 a, .int .u32 c] I) : wx.cell? ⟨bf, 0, none⟩ = some (.int .i64 k) ∧ wx.cell? ⟨bf, 1, none⟩ = some (.int .u32 o) ∧ wx.cell? ⟨bf, 2, none⟩ = some (.int .u32 a) ∧ wx.cell? ⟨bf, 3, none⟩ = some (.int .u32 c) :=
  ⟨cell_of_row _ _ _ _ _ _ g.hf, cell_of_row _ _ _ _ _ _ g.hf, cell_of_row _ _ _ _ _ _ g.hf, cell_of_row _ _ _ _ _ _ g.hf⟩
end CE
end Go.Proofs.Ytlmblfkcmhgdaaa
