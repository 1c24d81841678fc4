/-
  Go's own tables of powers of ten, as they lie; the bits of some float. Condition: the row's list of variables.
-/
import Derived.Test.YtnlbhnmiekanfaaGreatDoorLexT
import Derived.Test.YtnlbhnmiekanfaaGreatDoorRows
import Derived.Laws.FloatArith
import Derived.Laws.Externs
import Derived.Laws.NewFold
import Derived.Deep.Draws
import Derived.Control
import Derived.WalkMore
import Derived.LoopN
import Derived.Deep.QuietTactic
import Derived.BigQuiet
import Derived.Laws.Slices
import Derived.Lib.LaidU8
import Derived.ChangeArms
import Derived.FnData
import Derived.LaidMore
import Derived.OpenShut
import Derived.Below
namespace Go.Proofs.YtnlbhnmiekanfaaGreatDoor
open Go.RowKit
set_option linter.unusedVariables false
namespace LxC
open Lx
theorem run_from (a : Int) (w : World) : (callFunc 284 #[.int .u64 a]).run Tryz.prog w = .ok (.value (.float .f64 a.toNat)) w := by
  rw [run_callFunc_extern Tryz.func284 (by kernel_rfl) (by kernel_rfl) (by kernel_rfl) (e := Extern.MathFloatBits.float64frombits) (by kernel_rfl)]
  rfl
theorem run_bits (a : Nat) (w : World) : (callFunc 59 #[.float .f64 a]).run Tryz.prog w = .ok (.value (.int .u64 a)) w := by
  rw [run_callFunc_extern Tryz.func59 (by kernel_rfl) (by kernel_rfl) (by kernel_rfl) (e := Extern.MathFloatBits.float64bits) (by kernel_rfl)]
  rfl
attribute [local go_sem] run_from run_bits
theorem isNaN_ (b : Nat) (w : World) : Calls Tryz.prog 58 #[.float .f64 b] w fun e w' => (∃ r : Bool, e = .returned (.bool r)) ∧ w' = w := by
  go_enter Tryz.func58, Tryz.ntmps58
  go_wp2
  go_ret
  exact ⟨⟨_, rfl⟩, rfl⟩
theorem bits_ (b : Nat) (w : World) : Calls Tryz.prog 29 #[.float .f64 b] w fun e w' => (∃ v : Int, e = .returned (.int .u64 v)) ∧ w' = w := by
  go_enter Tryz.func29, Tryz.ntmps29
  go_upto_if 2 with (go_at_call 58; refine (isNaN_ _ _).mono ?_; rintro e w' ⟨⟨r, rfl⟩, rfl⟩)
  all_goals
    go_wp2
    go_ret
    exact ⟨⟨_, rfl⟩, rfl⟩
/-- an operation on floats leaves some float; the world is the same, but for draws -/
theorem run_fop (op : BinOp) (hop : op = .mul ∨ op = .quo) (t : TypeId) (x y : Nat) (w : World) :
    ∃ n k, (binOp op t (.float .f64 x) (.float .f64 y)).run Tryz.prog w = .ok (.float .f64 n) (w.drewN k) := by
  cases h : floatBits op .f64 x y with
  | some r => exact ⟨r, 0, run_float_arith w op t .f64 x y r h⟩
  | none =>
    refine ⟨(Question.nanBits .f64 x y).cut (w.tape w.drawn (.nanBits .f64 x y)), 1, ?_⟩
    unfold floatBits at h
    rcases hop with rfl | rfl
    all_goals
      simp only at h
      simp [binOp, Op.floatArith, h, Question.forced, World.drew_is_drewN]
theorem trod_f64 {w : World} {H : Type} {enc : TypeId × Value → H} {base fuel : Nat} {spare : Nat → Bool} {held : Bool} {t : TypeId} {cs : List Value} {x : DataW H × List MemPlace} (ht : Tryz.prog.underlying t = some (.float .f64)) (h : DataW.trod enc Tryz.prog w base spare held fuel t cs = some x) : ∃ n, cs = [.float .f64 n] := by
  cases fuel with
  | zero => simp [DataW.trod] at h
  | succ n =>
    unfold DataW.trod at h
    rw [ht] at h
    split at h <;> simp_all
/-- the table of powers of ten lies -/
def Tens (w : World) : Prop := ∃ p o c : Nat, w.cell? ⟨10, 0, none⟩ = some (.slice (some ⟨p, o, none⟩) 23 c) ∧ ∀ i, i < 23 → ∃ x, w.cell? ⟨p, o + i, none⟩ = some (.float .f64 x)
set_option maxRecDepth 100000 in
theorem tens_of {w : World} (h : Lib.VarReads Tryz.prog w "internal/strconv.float64pow10" Rows.laid_internal_strconv_float64pow10) : Tens w := by
  obtain ⟨g', t', cs, fuel, p, hg, hty, hvar, hd⟩ := h
  obtain rfl := Option.some.inj ((show Tryz.prog.globalNamed "internal/strconv.float64pow10" = some 10 by kernel_rfl).symm.trans hg)
  obtain rfl := Option.some.inj ((show (Tryz.prog.globals[10]?).map (·.type) = some 331 by kernel_rfl).symm.trans hty)
  have he : Tryz.prog.underlying 85 = some (.float .f64) := by kernel_rfl
  have hc : Tryz.prog.cellsOf 85 = 1 := by kernel_rfl
  rcases DataW.trod_slice Tryz.underlying331 hd with ⟨_, hx⟩ | ⟨a, len, cap, el, rs, m, rfl, hcs, hx, _, hlc, _, hel, helem, hsp, _⟩
  · cases hx
  have e0 := congrArg Prod.fst hx
  have hlen : len = 23 := by
    have e1 : ∃ l r, (Rows.laid_internal_strconv_float64pow10 : DataW Unit) = .slice l r ∧ l.length = 23 := ⟨_, _, rfl, rfl⟩
    obtain ⟨l, r, el1, hl⟩ := e1
    rw [el1] at e0
    injection e0 with e0 _
    rw [← hel, ← hl, e0, List.length_map]
  have hcell : ∀ i, i < 23 → ∃ x, w.cell? (a.add i) = some (.float .f64 x) := by
    intro i hi
    have h1 := helem i (by omega)
    rw [hc] at h1
    obtain ⟨b, hb⟩ : ∃ b, el[i]? = some b := ⟨el[i]'(by omega), List.getElem?_eq_getElem (by omega)⟩
    rw [hb] at h1
    obtain ⟨ce, hce, hte⟩ := Option.bind_eq_some_iff.1 h1
    obtain ⟨z, hz⟩ := trod_f64 he hte
    obtain ⟨_, _, hcc⟩ := World.cells?_some hce
    have := hcc 0 (by omega)
    rw [hz] at this
    simp only [Nat.mul_one] at this
    have e1 : (a.add i).add 0 = a.add i := by simp [Addr.add]
    rw [e1] at this
    exact ⟨z, this⟩
  obtain ⟨R, o, sR⟩ := a
  obtain rfl : sR = none := by
    obtain ⟨x, h00⟩ := hcell 0 (by omega)
    have : (Addr.add ⟨R, o, sR⟩ 0) = ⟨R, o, sR⟩ := by simp [Addr.add]
    rw [this] at h00
    exact Go.Proofs.cell_spot h00
  refine ⟨R, o, cap, ?_, fun j hj => ?_⟩
  · rw [World.var?_cell hg hvar 0, ← Array.getElem?_toList, hcs, hlen]
    rfl
  · obtain ⟨x, hx⟩ := hcell j hj
    rw [Addr.add_lit] at hx
    exact ⟨x, hx⟩
theorem optimize_cell {w : World} (h : Lib.VarReads Tryz.prog w "internal/strconv.optimize" Rows.laid_internal_strconv_optimize) : w.cell? ⟨5, 0, none⟩ = some (.bool true) := by
  obtain ⟨g, t, cs, fuel, p, hg, ht, hv, hd⟩ := h
  obtain rfl := Option.some.inj ((show Tryz.prog.globalNamed "internal/strconv.optimize" = some 5 by kernel_rfl).symm.trans hg)
  obtain rfl := Option.some.inj ((show (Tryz.prog.globals[5]?).map (·.type) = some 4 by kernel_rfl).symm.trans ht)
  obtain ⟨b, hc, hx⟩ := DataW.trod_bool Tryz.underlying4 hd
  have hb : b = true := by
    have := congrArg Prod.fst hx
    unfold Rows.laid_internal_strconv_optimize at this
    simp only [DataW.lit.injEq, Lit.bool.injEq] at this
    exact this.symm
  rw [World.var?_cell hg hv 0, ← Array.getElem?_toList, hc, hb]
  rfl
theorem info_cell {w : World} (h : Lib.VarReads Tryz.prog w "internal/strconv.float64info" Rows.laid_internal_strconv_float64info) : w.cell? ⟨6, 0, none⟩ = some (.int .u64 52) := by
  obtain ⟨g, t, cs, fuel, p, hg, ht, hv, hd⟩ := h
  obtain rfl := Option.some.inj ((show Tryz.prog.globalNamed "internal/strconv.float64info" = some 6 by kernel_rfl).symm.trans hg)
  obtain rfl := Option.some.inj ((show (Tryz.prog.globals[6]?).map (·.type) = some 298 by kernel_rfl).symm.trans ht)
  obtain ⟨xs, n, rfl, hx, hl, hxl, hall⟩ := DataW.trod_struct Tryz.underlying298 hd
  have hxs : xs.map (·.1) = [.lit (.int .u64 52), .lit (.int .u64 11), .lit (.int .i64 (-1023))] := by
    have := congrArg Prod.fst hx
    simpa [Rows.laid_internal_strconv_float64info] using this.symm
  have h0 := hall 0 _ rfl
  have hc : Tryz.prog.cellsOf 55 = 1 := by kernel_rfl
  simp only [List.getElem_toArray, List.getElem_cons_zero] at h0
  obtain ⟨y, hy⟩ : ∃ y, xs[0]? = some y := ⟨xs[0]'(by rw [hxl]; decide), List.getElem?_eq_getElem _⟩
  rw [hy] at h0
  obtain ⟨z, hcz, hz, _⟩ := DataW.trod_int Tryz.underlying55 h0
  rw [hc] at hcz
  have hy1 : (xs.map (·.1))[0]? = some y.1 := by rw [List.getElem?_map, hy]; rfl
  rw [hxs, hz] at hy1
  have hz2 : z = 52 := by
    simp only [List.getElem?_cons_zero, Option.some.injEq, DataW.lit.injEq, Lit.int.injEq, true_and] at hy1
    exact hy1.symm
  rw [World.var?_cell hg hv 0, ← Array.getElem?_toList]
  have := congrArg (·[0]?) hcz
  rw [hz2] at this
  simpa [List.getElem?_take, List.getElem?_drop] using this
/-- what real.Parse asks of the world -/
structure Laid (w : World) : Prop where
  info : w.cell? ⟨6, 0, none⟩ = some (.int .u64 52)
  opt : w.cell? ⟨5, 0, none⟩ = some (.bool true)
  tens : Tens w
theorem cell_in {w : World} {g i : Nat} {v : Value} (h : w.cell? ⟨g, i, none⟩ = some v) : g < w.heap.size := by
  rcases Nat.lt_or_ge g w.heap.size with c | c
  · exact c
  · unfold World.cell? at h
    simp [Array.getElem?_eq_none c] at h
theorem Laid.below {w w' : World} {B : Nat} (h : Laid w) (hb : Below B w w') (hB : w.heap.size ≤ B) : Laid w' := by
  obtain ⟨h1, h2, p, o, c, h3, h4⟩ := h
  refine ⟨(hb.cell (Nat.lt_of_lt_of_le (cell_in h1) hB)).trans h1, (hb.cell (Nat.lt_of_lt_of_le (cell_in h2) hB)).trans h2, p, o, c, (hb.cell (Nat.lt_of_lt_of_le (cell_in h3) hB)).trans h3, fun i hi => ?_⟩
  obtain ⟨x, hx⟩ := h4 i hi
  exact ⟨x, (hb.cell (Nat.lt_of_lt_of_le (cell_in hx) hB)).trans hx⟩
theorem below_draws {B : Nat} {a w : World} (h : Below B a w) (n : Nat) : Below B a (w.drewN n) := ⟨h.os, h.tape, h.output, h.size, h.block⟩
end LxC
end Go.Proofs.YtnlbhnmiekanfaaGreatDoor
