/-
  What the listed variables of Go's library hold, cell by cell, and the contracts of the law's own do and is. Condition: the row's list of variables.
-/
import Derived.Test.YtcchmnilcmnajaaGreatDoorRealA
import Derived.Lib.LaidU8
import Derived.ChangeArms
import Derived.FnData
import Derived.LaidMore
import Derived.OpenShut
import Derived.Below
namespace Go.Proofs.YtcchmnilcmnajaaGreatDoor
open Go.RowKit
set_option linter.unusedVariables false
namespace RL
open RM RC
/-- what awake asks of the world -/
def Laid2 (w : World) : Prop := w.cell? ⟨7, 0, none⟩ = some (.int .u64 52) ∧ w.cell? ⟨6, 0, none⟩ = some (.bool true)

theorem optimize_cell {w : World} (h : Lib.VarReads Tryz.prog w "internal/strconv.optimize" Rows.laid_internal_strconv_optimize) : w.cell? ⟨6, 0, none⟩ = some (.bool true) := by
  obtain ⟨g, t, cs, fuel, p, hg, ht, hv, hd⟩ := h
  obtain rfl := Option.some.inj ((show Tryz.prog.globalNamed "internal/strconv.optimize" = some 6 by kernel_rfl).symm.trans hg)
  obtain rfl := Option.some.inj ((show (Tryz.prog.globals[6]?).map (·.type) = some 4 by kernel_rfl).symm.trans ht)
  obtain ⟨b, hc, hx⟩ := DataW.trod_bool Tryz.underlying4 hd
  have hb : b = true := by
    have := congrArg Prod.fst hx
    unfold Rows.laid_internal_strconv_optimize at this
    simp only [DataW.lit.injEq, Lit.bool.injEq] at this
    exact this.symm
  rw [World.var?_cell hg hv 0, ← Array.getElem?_toList, hc, hb]
  rfl
theorem info_cell {w : World} (h : Lib.VarReads Tryz.prog w "internal/strconv.float64info" Rows.laid_internal_strconv_float64info) : w.cell? ⟨7, 0, none⟩ = some (.int .u64 52) := by
  obtain ⟨g, t, cs, fuel, p, hg, ht, hv, hd⟩ := h
  obtain rfl := Option.some.inj ((show Tryz.prog.globalNamed "internal/strconv.float64info" = some 7 by kernel_rfl).symm.trans hg)
  obtain rfl := Option.some.inj ((show (Tryz.prog.globals[7]?).map (·.type) = some 136 by kernel_rfl).symm.trans ht)
  obtain ⟨xs, n, rfl, hx, hl, hxl, hall⟩ := DataW.trod_struct Tryz.underlying136 hd
  have hxs : xs.map (·.1) = [.lit (.int .u64 52), .lit (.int .u64 11), .lit (.int .i64 (-1023))] := by
    have := congrArg Prod.fst hx
    simpa [Rows.laid_internal_strconv_float64info] using this.symm
  have h0 := hall 0 _ rfl
  have hc : Tryz.prog.cellsOf 75 = 1 := by kernel_rfl
  simp only [List.getElem_toArray, List.getElem_cons_zero] at h0
  obtain ⟨y, hy⟩ : ∃ y, xs[0]? = some y := ⟨xs[0]'(by rw [hxl]; decide), List.getElem?_eq_getElem _⟩
  rw [hy] at h0
  obtain ⟨z, hcz, hz, _⟩ := DataW.trod_int Tryz.underlying75 h0
  rw [hc] at hcz
  have hy1 : (xs.map (·.1))[0]? = some y.1 := by rw [List.getElem?_map, hy]; rfl
  rw [hxs, hz] at hy1
  have hz2 : z = 52 := by
    simp only [List.getElem?_cons_zero, Option.some.injEq, DataW.lit.injEq, Lit.int.injEq, true_and] at hy1
    exact hy1.symm
  rw [World.var?_cell hg hv 0, ← Array.getElem?_toList]
  have := congrArg (·[0]?) hcz
  rw [hz2] at this
  simpa [List.getElem?_take, List.getElem?_drop] using this

set_option maxRecDepth 100000 in
/-- an array of bytes that is listed holds its bytes -/
theorem bits_cell {w : World} (h : Lib.VarReads Tryz.prog w "math/bits.deBruijn64tab" Rows.laid_math_bits_deBruijn64tab) : w.cell? ⟨9, 15, none⟩ = some (.int .u8 4) := by
  obtain ⟨g, t, cs, fuel, p, hg, ht, hv, hd⟩ := h
  obtain rfl := Option.some.inj ((show Tryz.prog.globalNamed "math/bits.deBruijn64tab" = some 9 by kernel_rfl).symm.trans hg)
  obtain rfl := Option.some.inj ((show (Tryz.prog.globals[9]?).map (·.type) = some 154 by kernel_rfl).symm.trans ht)
  obtain ⟨xs, n, rfl, hx, hl, hxl, hall⟩ := DataW.trod_array Tryz.underlying154 hd
  have h0 := hall 15 (by omega)
  have hc : Tryz.prog.cellsOf 5 = 1 := by kernel_rfl
  obtain ⟨y, hy⟩ : ∃ y, xs[15]? = some y := ⟨xs[15]'(by rw [hxl]; decide), List.getElem?_eq_getElem _⟩
  rw [hy] at h0
  obtain ⟨z, hcz, hz, _⟩ := DataW.trod_int Tryz.underlying5 h0
  rw [hc] at hcz
  have hxs : (xs.map (·.1))[15]? = some (.lit (.int .u8 4)) := by
    have := congrArg Prod.fst hx
    have e : DataW.agg (xs.map (·.1)) = Rows.laid_math_bits_deBruijn64tab := this.symm
    have e2 : ∃ l, (Rows.laid_math_bits_deBruijn64tab : DataW Unit) = .agg l ∧ l[15]? = some (.lit (.int .u8 4)) := ⟨_, rfl, rfl⟩
    obtain ⟨l, el, hl15⟩ := e2
    rw [el] at e
    injection e with e
    rw [e]; exact hl15
  rw [List.getElem?_map, hy, hz] at hxs
  have hz2 : z = 4 := by
    simp only [Option.map_some, Option.some.injEq, DataW.lit.injEq, Lit.int.injEq, true_and] at hxs
    exact hxs
  rw [World.var?_cell hg hv 15, ← Array.getElem?_toList]
  have := congrArg (·[0]?) hcz
  rw [hz2] at this
  simpa [List.getElem?_take, List.getElem?_drop] using this

/-- what Hex asks besides -/
def Laid3 (w : World) : Prop := Laid2 w ∧ w.cell? ⟨9, 15, none⟩ = some (.int .u8 4)
theorem cell_in {w : World} {g i : Nat} {v : Value} (h : w.cell? ⟨g, i, none⟩ = some v) : g < w.heap.size := by
  rcases Nat.lt_or_ge g w.heap.size with c | c
  · exact c
  · unfold World.cell? at h
    simp [Array.getElem?_eq_none c] at h
theorem Laid2.below {w w' : World} {B : Nat} (h : Laid2 w) (hb : Below B w w') (hB : w.heap.size ≤ B) : Laid2 w' :=
  ⟨(hb.cell (Nat.lt_of_lt_of_le (cell_in h.1) hB)).trans h.1, (hb.cell (Nat.lt_of_lt_of_le (cell_in h.2) hB)).trans h.2⟩
theorem Laid3.below {w w' : World} {B : Nat} (h : Laid3 w) (hb : Below B w w') (hB : w.heap.size ≤ B) : Laid3 w' :=
  ⟨h.1.below hb hB, (hb.cell (Nat.lt_of_lt_of_le (cell_in h.2) hB)).trans h.2⟩
theorem Laid2.drewN {w : World} (h : Laid2 w) (k : Nat) : Laid2 (w.drewN k) := h
theorem Laid3.drewN {w : World} (h : Laid3 w) (k : Nat) : Laid3 (w.drewN k) := h
theorem belowDraws {B : Nat} {a w : World} (h : Below B a w) (n : Nat) : Below B a (w.drewN n) := ⟨h.os, h.tape, h.output, h.size, h.block⟩

end RL
end Go.Proofs.YtcchmnilcmnajaaGreatDoor
