/-
  What the listed variables of Go's library hold, cell by cell, and the contracts of the law's own do and is. Condition: the row's list of variables.
-/
import Derived.Test.YtcflinmlinmgjaaDoorRealA
import Derived.Lib.LaidU8
import Derived.ChangeArms
import Derived.FnData
import Derived.LaidMore
import Derived.OpenShut
namespace Go.Proofs.YtcflinmlinmgjaaDoor
open Go.RowKit
set_option linter.unusedVariables false
namespace RL
open RM RC
/-- what awake asks of the world -/
def Laid2 (w : World) : Prop := w.cell? ⟨5, 0, none⟩ = some (.int .u64 52) ∧ w.cell? ⟨4, 0, none⟩ = some (.bool true)

theorem optimize_cell {w : World} (h : Lib.VarReads Tryd.prog w "internal/strconv.optimize" Rows.laid_internal_strconv_optimize) : w.cell? ⟨4, 0, none⟩ = some (.bool true) := by
  obtain ⟨g, t, cs, fuel, p, hg, ht, hv, hd⟩ := h
  obtain rfl := Option.some.inj ((show Tryd.prog.globalNamed "internal/strconv.optimize" = some 4 by kernel_rfl).symm.trans hg)
  obtain rfl := Option.some.inj ((show (Tryd.prog.globals[4]?).map (·.type) = some 4 by kernel_rfl).symm.trans ht)
  obtain ⟨b, hc, hx⟩ := DataW.trod_bool Tryd.underlying4 hd
  have hb : b = true := by
    have := congrArg Prod.fst hx
    unfold Rows.laid_internal_strconv_optimize at this
    simp only [DataW.lit.injEq, Lit.bool.injEq] at this
    exact this.symm
  rw [World.var?_cell hg hv 0, ← Array.getElem?_toList, hc, hb]
  rfl
theorem info_cell {w : World} (h : Lib.VarReads Tryd.prog w "internal/strconv.float64info" Rows.laid_internal_strconv_float64info) : w.cell? ⟨5, 0, none⟩ = some (.int .u64 52) := by
  obtain ⟨g, t, cs, fuel, p, hg, ht, hv, hd⟩ := h
  obtain rfl := Option.some.inj ((show Tryd.prog.globalNamed "internal/strconv.float64info" = some 5 by kernel_rfl).symm.trans hg)
  obtain rfl := Option.some.inj ((show (Tryd.prog.globals[5]?).map (·.type) = some 83 by kernel_rfl).symm.trans ht)
  obtain ⟨xs, n, rfl, hx, hl, hxl, hall⟩ := DataW.trod_struct Tryd.underlying83 hd
  have hxs : xs.map (·.1) = [.lit (.int .u64 52), .lit (.int .u64 11), .lit (.int .i64 (-1023))] := by
    have := congrArg Prod.fst hx
    simpa [Rows.laid_internal_strconv_float64info] using this.symm
  have h0 := hall 0 _ rfl
  have hc : Tryd.prog.cellsOf 81 = 1 := by kernel_rfl
  simp only [List.getElem_toArray, List.getElem_cons_zero] at h0
  obtain ⟨y, hy⟩ : ∃ y, xs[0]? = some y := ⟨xs[0]'(by rw [hxl]; decide), List.getElem?_eq_getElem _⟩
  rw [hy] at h0
  obtain ⟨z, hcz, hz, _⟩ := DataW.trod_int Tryd.underlying81 h0
  rw [hc] at hcz
  have hy1 : (xs.map (·.1))[0]? = some y.1 := by rw [List.getElem?_map, hy]; rfl
  rw [hxs, hz] at hy1
  have hz2 : z = 52 := by
    simp only [List.getElem?_cons_zero, Option.some.injEq, DataW.lit.injEq, Lit.int.injEq, true_and] at hy1
    exact hy1.symm
  rw [World.var?_cell hg hv 0, ← Array.getElem?_toList]
  have := congrArg (·[0]?) hcz
  rw [hz2] at this
  simpa [List.getElem?_take, List.getElem?_drop] using this

/-! ### the law's own do and is -/
abbrev DoIs (op x y r : Int) : Prop := ∀ w, Calls Tryd.prog 8 #[.int .i64 op, .int .u64 x, .int .u64 y] w fun e w' => e = .returned (.int .u64 r) ∧ ∃ k, w' = w.drewN k
abbrev IsIs (op x y : Int) (b : Bool) : Prop := ∀ w, Calls Tryd.prog 9 #[.int .i64 op, .int .u64 x, .int .u64 y] w fun e w' => e = .returned (.bool b) ∧ w' = w
theorem do_of {op x y r : Int} (h : ∀ w, Calls Tryd.prog 13 #[.int .i64 op, .int .u64 x, .int .u64 y] w fun e w' => e = .returned (.tuple #[.int .u64 r, .int .i64 0]) ∧ ∃ k, w' = w.drewN k) : DoIs op x y r := by
  intro w
  have H := Lib.hid h
  clear h
  go_enter Tryd.func8, Tryd.ntmps8
  go_wp2_with (go_at_call 13; refine (H.out _).mono ?_; rintro e w' ⟨rfl, k, rfl⟩)
  go_ret
  exact ⟨rfl, k, rfl⟩
theorem is_of {op x y : Int} {b : Bool} (h : ∀ w, Calls Tryd.prog 17 #[.int .i64 op, .int .u64 x, .int .u64 y] w fun e w' => e = .returned (.tuple #[.int .u32 (b.toNat : Int), .int .i64 0]) ∧ w' = w) : IsIs op x y b := by
  intro w
  have H := Lib.hid h
  clear h
  cases b
  all_goals
    go_enter Tryd.func9, Tryd.ntmps9
    go_wp2_with (go_at_call 17; refine (H.out _).mono ?_; rintro e w' ⟨rfl, rfl⟩)
    go_ret
    exact ⟨rfl, rfl⟩
theorem add_is (x y r : Nat) (h : fadd x y = r) : DoIs 45 x y r := do_of fun w => by rw [← h]; exact do_add x y w
theorem sub_is (x y r : Nat) (h : fsub x y = r) : DoIs 46 x y r := do_of fun w => by rw [← h]; exact do_sub x y w
theorem mul_is (x y r : Nat) (h : fmul x y = r) : DoIs 47 x y r := do_of fun w => by rw [← h]; exact do_mul x y w
theorem div_is (x y r : Nat) (h : fdiv x y = r) : DoIs 48 x y r := do_of fun w => by rw [← h]; exact do_quo x y w
theorem eq_is (x y : Nat) (b : Bool) (h : feq x y = b) : IsIs 51 x y b := is_of fun w => by rw [← h]; exact cmp_eq x y w
theorem lt_is (x y : Nat) (b : Bool) (h : flt x y = b) : IsIs 52 x y b := is_of fun w => by rw [← h]; exact cmp_lt x y w
theorem le_is (x y : Nat) (b : Bool) (h : fle x y = b) : IsIs 53 x y b := is_of fun w => by rw [← h]; exact cmp_le x y w
end RL
end Go.Proofs.YtcflinmlinmgjaaDoor
