/-
  The document's row of an instruction's number (package solderref03's Of), a contract. No condition.
-/
import Derived.Test.YtlmblfkcmhgdaaaGreatCodeQr
import Derived.Laws.CopyOwn
import Derived.Deep.DeepCutAuto
namespace Go.Proofs.YtlmblfkcmhgdaaaGreat
open Go.RowKit
set_option linter.unusedVariables false
set_option linter.unusedSimpArgs false
namespace CO
open CC CW CR
/-- a kind's letter, and what stands in rs2's place -/
def rk (k : Int) : Int := [82, 73, 72, 83, 66, 85, 74, 69, 82, 82, 82].getD k.toNat 0
def r2 (k : Int) : Int := [-1, -1, -1, -1, -1, -1, -1, 0, -1, 32, 0].getD k.toNat 0
def rowV (op : Int) : Array Value := if CM.isOp op then #[.int .u8 (rk (CM.kd op)), .int .i64 (CM.o7 op), .int .i64 (CM.f3 op), .int .i64 (CM.f7 op), .int .i64 (r2 (CM.kd op))] else #[.int .u8 0, .int .i64 0, .int .i64 0, .int .i64 0, .int .i64 0]
def Z36 : Array Value := (List.replicate 36 (Value.int .i64 0)).toArray
def I36 : Array Value := ((([0, 0] : List Int) ++ ((List.range 17).map fun n => [CM.f3 ((n + 1 : Nat) : Int), CM.f7 ((n + 1 : Nat) : Int)]).flatten).map (Value.int .i64)).toArray
theorem zero36 (w : World) : (zeroValue 156).run Tryz.prog w = .ok (.agg Z36) w := by kernel_rfl
theorem size36 : (Tryz.prog.info? 156).map (·.size) = some I36.size := by kernel_rfl
theorem one36 : I36.all (·.oneCell') = true := by decide +kernel
theorem old36 : Z36.size = I36.size := by decide +kernel
def Z5 : Array Value := #[.int .u8 0, .int .i64 0, .int .i64 0, .int .i64 0, .int .i64 0]
/-- the result's zeros, and the table of seventeen rows -/
structure Od (w wx : World) (b : Nat) : Prop where
  hr : wx.heap[w.heap.size]? = some (.cells Z5 124 (0, 0))
  hb : wx.heap[b]? = some (.cells I36 156 (0, 0))
  below : Below w.heap.size w wx
theorem od (w : World) : Od w (((w.alloc (.cells Z5 124)).alloc (.cells Z36 156)).setRow (w.heap.size + 1) I36) (w.heap.size + 1) :=
  ⟨(setRow_other _ _ _ _ (by omega)).trans ((Below.heap_alloc _ _ _ (by simp)).trans (newAt _ _ _ rfl)), setRow_heap _ _ _ _ _ _ (newAt _ _ _ (by simp)), below_setRow (((Below.refl _ _).alloc (Nat.le_refl _) _).alloc (by simp) _) (by omega) _⟩
theorem Od.alloc {w wx : World} {b : Nat} (g : Od w wx b) (o : Obj) : Od w (wx.alloc o) b :=
  ⟨(Below.heap_alloc _ _ _ (lt_of_get g.hr)).trans g.hr, (Below.heap_alloc _ _ _ (lt_of_get g.hb)).trans g.hb, g.below.alloc g.below.size o⟩
theorem row_size (op : Int) : (rowV op).size = 5 := by unfold rowV; split <;> rfl
theorem row_one (op : Int) : (rowV op).all (·.oneCell') = true := by unfold rowV; split <;> simp [Value.oneCell']
theorem row_info (op : Int) : (Tryz.prog.info? 124).map (·.size) = some (rowV op).size := by
  have h2 : (Tryz.prog.info? 124).map (·.size) = some 5 := by kernel_rfl
  rw [row_size]; exact h2
section
variable {ops : Array Oper} {rest : List Oper} {o : Oper} {a : Act} {w : World} {Q : Exit → Act → World → Prop}
theorem storeR (hgd : o.guard = none) (x y : Operand) (ho : o.op = .store 124 x y) (g : Nat) (op : Int) (hx : a.eval x = .pointer (some ⟨g, 0, none⟩)) (hy : a.eval y = .agg (rowV op))
    (hg : w.heap[g]? = some (.cells Z5 124 (0, 0))) (h : wpList Tryz.prog ops Q rest (a.put o.dst undef) (w.setRow g (rowV op))) : wpList Tryz.prog ops Q (o :: rest) a w :=
  wpList_store_row hgd 124 x y ho g _ hx hy 124 Z5 hg (row_info op) (by rw [row_size]; rfl) (row_one op) h
end
theorem fin_ {Q : Ending → World → Prop} (op : Int) {tmps : Array Value} {n : Nat} {w : World} {C : Array Value}
    (hp : tmps.getD 2 undef = .pointer (some ⟨n, 0, none⟩)) (hg : w.heap[n]? = some (.cells C 124 (0, 0))) (hQ : Q (.returned (.agg (rowV op))) (w.setRow n (rowV op))) :
    bodyPost Tryz.prog Tryz.f49 Q .ret { tmps := tmps, defers := [] } (w.setRow n (rowV op)) :=
  bodyPost_ret (v := .agg (rowV op)) (results_cell_row Tryz.results49 tmps _ n 124 (rowV op) (0, 0) _ hp (setRow_heap _ _ _ _ _ _ hg) Tryz.underlying124 rfl (row_info op)) rfl hQ
theorem sets5 {w wc : World} {p q r s t : Value} (h : Below w.heap.size w wc) : Below w.heap.size w ((((((wc.setCell ⟨w.heap.size, 0, none⟩ p).setCell ⟨w.heap.size, 1, none⟩ q).setCell ⟨w.heap.size, 2, none⟩ r).setCell ⟨w.heap.size, 3, none⟩ s).setCell ⟨w.heap.size, 4, none⟩ t).drew) :=
  (((((h.setCell (Nat.le_refl _) _).setCell (Nat.le_refl _) _).setCell (Nat.le_refl _) _).setCell (Nat.le_refl _) _).setCell (Nat.le_refl _) _).drew
theorem I36_at (j : Nat) (x : Int) (h : (([0, 0] ++ ((List.range 17).map fun n => [CM.f3 ((n + 1 : Nat) : Int), CM.f7 ((n + 1 : Nat) : Int)]).flatten : List Int)[j]?) = some x) : I36[j]? = some (.int .i64 x) := by
  simp only [I36, List.getElem?_toArray, List.getElem?_map, h]; rfl
set_option maxRecDepth 100000 in
set_option maxHeartbeats 8000000 in
theorem of_ (op : Int) (w : World) : Calls Tryz.prog 49 #[.int .i64 op] w fun e w' => e = .returned (.agg (rowV op)) ∧ Below w.heap.size w w' := by
  go_enter Tryz.func49, Tryz.ntmps49
  go_upto_region 1 with fail
  go_cut [3] from 6 (fun s3 wx => ∃ b, s3 = .pointer (some ⟨b, 0, none⟩) ∧ Od w wx b)
  case first =>
    go_wp2_with (first
      | (with_reducible refine CU.wpList_allocZ rfl 156 rfl Z36 zero36 ?_)
      | ((with_reducible refine CU.wpList_buildTo rfl 156 _ rfl I36 ?xa ?_); (case xa => kernel_rfl))
      | ((with_reducible refine wpList_store_row rfl 156 (.tmp 3) (.tmp 24) rfl (w.heap.size + 1) I36 ?xb ?xc 156 Z36 ?xd size36 old36 one36 ?_); (case xb => simp [go_sem]); (case xc => simp [go_sem]); (case xd => exact newAt _ _ _ (by simp))))
    go_meet
    exact ⟨w.heap.size + 1, by simp, od w⟩
  case rest =>
    obtain ⟨b, rfl, g⟩ := hcut
    by_cases hA : 1 ≤ op ∧ op ≤ 17
    · have r0 : wc.cell? ⟨w.heap.size, 0, none⟩ = some (.int .u8 0) := cell_of_row _ _ _ _ _ _ g.hr
      have r1 : wc.cell? ⟨w.heap.size, 1, none⟩ = some (.int .i64 0) := cell_of_row _ _ _ _ _ _ g.hr
      have r2 : wc.cell? ⟨w.heap.size, 2, none⟩ = some (.int .i64 0) := cell_of_row _ _ _ _ _ _ g.hr
      have r3 : wc.cell? ⟨w.heap.size, 3, none⟩ = some (.int .i64 0) := cell_of_row _ _ _ _ _ _ g.hr
      have r4 : wc.cell? ⟨w.heap.size, 4, none⟩ = some (.int .i64 0) := cell_of_row _ _ _ _ _ _ g.hr
      have fz : ∀ j, wc.frozen? ⟨w.heap.size, j, none⟩ = false := fun j => by simp [World.frozen?, g.hr]
      have f0 := fz 0
      have f1 := fz 1
      have f2 := fz 2
      have f3 := fz 3
      have f4 := fz 4
      clear fz
      have cl := fun j x h => (cell_of_row wc b j _ _ _ g.hb).trans (I36_at j x h)
      have hbel := g.below
      rcases (show op = 1 ∨ op = 2 ∨ op = 3 ∨ op = 4 ∨ op = 5 ∨ op = 6 ∨ op = 7 ∨ op = 8 ∨ op = 9 ∨ op = 10 ∨ op = 11 ∨ op = 12 ∨ op = 13 ∨ op = 14 ∨ op = 15 ∨ op = 16 ∨ op = 17 by omega) with h | h | h | h | h | h | h | h | h | h | h | h | h | h | h | h | h <;> subst h
      · have c1 := cl 2 (CM.f3 1) rfl
        have c2 := cl 3 (CM.f7 1) rfl
        rw [show CM.f3 1 = 0 by decide +kernel] at c1
        rw [show CM.f7 1 = 0 by decide +kernel] at c2
        clear cl
        go_wp2
        go_region
        go_wp2
        exact bodyPost_ret (v := .agg #[.int .u8 82, .int .i64 51, .int .i64 0, .int .i64 0, .int .i64 (-1)]) (by simp [results, Tryz.results49, r0, r1, r2, r3, r4, go_sem]) rfl ⟨rfl, sets5 hbel⟩
      · have c1 := cl 4 (CM.f3 2) rfl
        have c2 := cl 5 (CM.f7 2) rfl
        rw [show CM.f3 2 = 0 by decide +kernel] at c1
        rw [show CM.f7 2 = 32 by decide +kernel] at c2
        clear cl
        go_wp2
        go_region
        go_wp2
        exact bodyPost_ret (v := .agg #[.int .u8 82, .int .i64 51, .int .i64 0, .int .i64 32, .int .i64 (-1)]) (by simp [results, Tryz.results49, r0, r1, r2, r3, r4, go_sem]) rfl ⟨rfl, sets5 hbel⟩
      · have c1 := cl 6 (CM.f3 3) rfl
        have c2 := cl 7 (CM.f7 3) rfl
        rw [show CM.f3 3 = 1 by decide +kernel] at c1
        rw [show CM.f7 3 = 0 by decide +kernel] at c2
        clear cl
        go_wp2
        go_region
        go_wp2
        exact bodyPost_ret (v := .agg #[.int .u8 82, .int .i64 51, .int .i64 1, .int .i64 0, .int .i64 (-1)]) (by simp [results, Tryz.results49, r0, r1, r2, r3, r4, go_sem]) rfl ⟨rfl, sets5 hbel⟩
      · have c1 := cl 8 (CM.f3 4) rfl
        have c2 := cl 9 (CM.f7 4) rfl
        rw [show CM.f3 4 = 2 by decide +kernel] at c1
        rw [show CM.f7 4 = 0 by decide +kernel] at c2
        clear cl
        go_wp2
        go_region
        go_wp2
        exact bodyPost_ret (v := .agg #[.int .u8 82, .int .i64 51, .int .i64 2, .int .i64 0, .int .i64 (-1)]) (by simp [results, Tryz.results49, r0, r1, r2, r3, r4, go_sem]) rfl ⟨rfl, sets5 hbel⟩
      · have c1 := cl 10 (CM.f3 5) rfl
        have c2 := cl 11 (CM.f7 5) rfl
        rw [show CM.f3 5 = 3 by decide +kernel] at c1
        rw [show CM.f7 5 = 0 by decide +kernel] at c2
        clear cl
        go_wp2
        go_region
        go_wp2
        exact bodyPost_ret (v := .agg #[.int .u8 82, .int .i64 51, .int .i64 3, .int .i64 0, .int .i64 (-1)]) (by simp [results, Tryz.results49, r0, r1, r2, r3, r4, go_sem]) rfl ⟨rfl, sets5 hbel⟩
      · have c1 := cl 12 (CM.f3 6) rfl
        have c2 := cl 13 (CM.f7 6) rfl
        rw [show CM.f3 6 = 4 by decide +kernel] at c1
        rw [show CM.f7 6 = 0 by decide +kernel] at c2
        clear cl
        go_wp2
        go_region
        go_wp2
        exact bodyPost_ret (v := .agg #[.int .u8 82, .int .i64 51, .int .i64 4, .int .i64 0, .int .i64 (-1)]) (by simp [results, Tryz.results49, r0, r1, r2, r3, r4, go_sem]) rfl ⟨rfl, sets5 hbel⟩
      · have c1 := cl 14 (CM.f3 7) rfl
        have c2 := cl 15 (CM.f7 7) rfl
        rw [show CM.f3 7 = 5 by decide +kernel] at c1
        rw [show CM.f7 7 = 0 by decide +kernel] at c2
        clear cl
        go_wp2
        go_region
        go_wp2
        exact bodyPost_ret (v := .agg #[.int .u8 82, .int .i64 51, .int .i64 5, .int .i64 0, .int .i64 (-1)]) (by simp [results, Tryz.results49, r0, r1, r2, r3, r4, go_sem]) rfl ⟨rfl, sets5 hbel⟩
      · have c1 := cl 16 (CM.f3 8) rfl
        have c2 := cl 17 (CM.f7 8) rfl
        rw [show CM.f3 8 = 5 by decide +kernel] at c1
        rw [show CM.f7 8 = 32 by decide +kernel] at c2
        clear cl
        go_wp2
        go_region
        go_wp2
        exact bodyPost_ret (v := .agg #[.int .u8 82, .int .i64 51, .int .i64 5, .int .i64 32, .int .i64 (-1)]) (by simp [results, Tryz.results49, r0, r1, r2, r3, r4, go_sem]) rfl ⟨rfl, sets5 hbel⟩
      · have c1 := cl 18 (CM.f3 9) rfl
        have c2 := cl 19 (CM.f7 9) rfl
        rw [show CM.f3 9 = 6 by decide +kernel] at c1
        rw [show CM.f7 9 = 0 by decide +kernel] at c2
        clear cl
        go_wp2
        go_region
        go_wp2
        exact bodyPost_ret (v := .agg #[.int .u8 82, .int .i64 51, .int .i64 6, .int .i64 0, .int .i64 (-1)]) (by simp [results, Tryz.results49, r0, r1, r2, r3, r4, go_sem]) rfl ⟨rfl, sets5 hbel⟩
      · have c1 := cl 20 (CM.f3 10) rfl
        have c2 := cl 21 (CM.f7 10) rfl
        rw [show CM.f3 10 = 7 by decide +kernel] at c1
        rw [show CM.f7 10 = 0 by decide +kernel] at c2
        clear cl
        go_wp2
        go_region
        go_wp2
        exact bodyPost_ret (v := .agg #[.int .u8 82, .int .i64 51, .int .i64 7, .int .i64 0, .int .i64 (-1)]) (by simp [results, Tryz.results49, r0, r1, r2, r3, r4, go_sem]) rfl ⟨rfl, sets5 hbel⟩
      · have c1 := cl 22 (CM.f3 11) rfl
        have c2 := cl 23 (CM.f7 11) rfl
        rw [show CM.f3 11 = 0 by decide +kernel] at c1
        rw [show CM.f7 11 = 1 by decide +kernel] at c2
        clear cl
        go_wp2
        go_region
        go_wp2
        exact bodyPost_ret (v := .agg #[.int .u8 82, .int .i64 51, .int .i64 0, .int .i64 1, .int .i64 (-1)]) (by simp [results, Tryz.results49, r0, r1, r2, r3, r4, go_sem]) rfl ⟨rfl, sets5 hbel⟩
      · have c1 := cl 24 (CM.f3 12) rfl
        have c2 := cl 25 (CM.f7 12) rfl
        rw [show CM.f3 12 = 1 by decide +kernel] at c1
        rw [show CM.f7 12 = 1 by decide +kernel] at c2
        clear cl
        go_wp2
        go_region
        go_wp2
        exact bodyPost_ret (v := .agg #[.int .u8 82, .int .i64 51, .int .i64 1, .int .i64 1, .int .i64 (-1)]) (by simp [results, Tryz.results49, r0, r1, r2, r3, r4, go_sem]) rfl ⟨rfl, sets5 hbel⟩
      · have c1 := cl 26 (CM.f3 13) rfl
        have c2 := cl 27 (CM.f7 13) rfl
        rw [show CM.f3 13 = 3 by decide +kernel] at c1
        rw [show CM.f7 13 = 1 by decide +kernel] at c2
        clear cl
        go_wp2
        go_region
        go_wp2
        exact bodyPost_ret (v := .agg #[.int .u8 82, .int .i64 51, .int .i64 3, .int .i64 1, .int .i64 (-1)]) (by simp [results, Tryz.results49, r0, r1, r2, r3, r4, go_sem]) rfl ⟨rfl, sets5 hbel⟩
      · have c1 := cl 28 (CM.f3 14) rfl
        have c2 := cl 29 (CM.f7 14) rfl
        rw [show CM.f3 14 = 4 by decide +kernel] at c1
        rw [show CM.f7 14 = 1 by decide +kernel] at c2
        clear cl
        go_wp2
        go_region
        go_wp2
        exact bodyPost_ret (v := .agg #[.int .u8 82, .int .i64 51, .int .i64 4, .int .i64 1, .int .i64 (-1)]) (by simp [results, Tryz.results49, r0, r1, r2, r3, r4, go_sem]) rfl ⟨rfl, sets5 hbel⟩
      · have c1 := cl 30 (CM.f3 15) rfl
        have c2 := cl 31 (CM.f7 15) rfl
        rw [show CM.f3 15 = 5 by decide +kernel] at c1
        rw [show CM.f7 15 = 1 by decide +kernel] at c2
        clear cl
        go_wp2
        go_region
        go_wp2
        exact bodyPost_ret (v := .agg #[.int .u8 82, .int .i64 51, .int .i64 5, .int .i64 1, .int .i64 (-1)]) (by simp [results, Tryz.results49, r0, r1, r2, r3, r4, go_sem]) rfl ⟨rfl, sets5 hbel⟩
      · have c1 := cl 32 (CM.f3 16) rfl
        have c2 := cl 33 (CM.f7 16) rfl
        rw [show CM.f3 16 = 6 by decide +kernel] at c1
        rw [show CM.f7 16 = 1 by decide +kernel] at c2
        clear cl
        go_wp2
        go_region
        go_wp2
        exact bodyPost_ret (v := .agg #[.int .u8 82, .int .i64 51, .int .i64 6, .int .i64 1, .int .i64 (-1)]) (by simp [results, Tryz.results49, r0, r1, r2, r3, r4, go_sem]) rfl ⟨rfl, sets5 hbel⟩
      · have c1 := cl 34 (CM.f3 17) rfl
        have c2 := cl 35 (CM.f7 17) rfl
        rw [show CM.f3 17 = 7 by decide +kernel] at c1
        rw [show CM.f7 17 = 1 by decide +kernel] at c2
        clear cl
        go_wp2
        go_region
        go_wp2
        exact bodyPost_ret (v := .agg #[.int .u8 82, .int .i64 51, .int .i64 7, .int .i64 1, .int .i64 (-1)]) (by simp [results, Tryz.results49, r0, r1, r2, r3, r4, go_sem]) rfl ⟨rfl, sets5 hbel⟩
    · have nA : op < 1 ∨ 17 < op := by omega
      by_cases hB : 18 ≤ op ∧ op ≤ 23
      · rcases (show op = 18 ∨ op = 19 ∨ op = 20 ∨ op = 21 ∨ op = 22 ∨ op = 23 by omega) with h | h | h | h | h | h <;> subst h
        · go_wp2_with ((with_reducible refine storeR rfl (.tmp 2) (.tmp 51) rfl w.heap.size 18 ?x51b ?y51b (g.alloc _).hr ?_); (case y51b => rfl); (case x51b => simp [go_sem]))
          all_goals
            first
              | (exfalso; omega)
              | (go_simp; refine fin_ 18 ?_ (g.alloc _).hr ?_; (focus rfl); exact ⟨rfl, below_setRow (g.alloc _).below (Nat.le_refl _) _⟩)
        · go_wp2_with ((with_reducible refine storeR rfl (.tmp 2) (.tmp 51) rfl w.heap.size 19 ?x51b ?y51b (g.alloc _).hr ?_); (case y51b => rfl); (case x51b => simp [go_sem]))
          all_goals
            first
              | (exfalso; omega)
              | (go_simp; refine fin_ 19 ?_ (g.alloc _).hr ?_; (focus rfl); exact ⟨rfl, below_setRow (g.alloc _).below (Nat.le_refl _) _⟩)
        · go_wp2_with ((with_reducible refine storeR rfl (.tmp 2) (.tmp 51) rfl w.heap.size 20 ?x51b ?y51b (g.alloc _).hr ?_); (case y51b => rfl); (case x51b => simp [go_sem]))
          all_goals
            first
              | (exfalso; omega)
              | (go_simp; refine fin_ 20 ?_ (g.alloc _).hr ?_; (focus rfl); exact ⟨rfl, below_setRow (g.alloc _).below (Nat.le_refl _) _⟩)
        · go_wp2_with ((with_reducible refine storeR rfl (.tmp 2) (.tmp 51) rfl w.heap.size 21 ?x51b ?y51b (g.alloc _).hr ?_); (case y51b => rfl); (case x51b => simp [go_sem]))
          all_goals
            first
              | (exfalso; omega)
              | (go_simp; refine fin_ 21 ?_ (g.alloc _).hr ?_; (focus rfl); exact ⟨rfl, below_setRow (g.alloc _).below (Nat.le_refl _) _⟩)
        · go_wp2_with ((with_reducible refine storeR rfl (.tmp 2) (.tmp 51) rfl w.heap.size 22 ?x51b ?y51b (g.alloc _).hr ?_); (case y51b => rfl); (case x51b => simp [go_sem]))
          all_goals
            first
              | (exfalso; omega)
              | (go_simp; refine fin_ 22 ?_ (g.alloc _).hr ?_; (focus rfl); exact ⟨rfl, below_setRow (g.alloc _).below (Nat.le_refl _) _⟩)
        · go_wp2_with ((with_reducible refine storeR rfl (.tmp 2) (.tmp 51) rfl w.heap.size 23 ?x51b ?y51b (g.alloc _).hr ?_); (case y51b => rfl); (case x51b => simp [go_sem]))
          all_goals
            first
              | (exfalso; omega)
              | (go_simp; refine fin_ 23 ?_ (g.alloc _).hr ?_; (focus rfl); exact ⟨rfl, below_setRow (g.alloc _).below (Nat.le_refl _) _⟩)
      · by_cases hC : 32 ≤ op ∧ op ≤ 37
        · rcases (show op = 32 ∨ op = 33 ∨ op = 34 ∨ op = 35 ∨ op = 36 ∨ op = 37 by omega) with h | h | h | h | h | h <;> subst h
          · go_wp2_with ((with_reducible refine storeR rfl (.tmp 2) (.tmp 63) rfl w.heap.size 32 ?x63c ?y63c ((g.alloc _).alloc _).hr ?_); (case y63c => rfl); (case x63c => simp [go_sem]))
            all_goals
              first
                | (exfalso; omega)
                | (go_simp; refine fin_ 32 ?_ ((g.alloc _).alloc _).hr ?_; (focus rfl); exact ⟨rfl, below_setRow ((g.alloc _).alloc _).below (Nat.le_refl _) _⟩)
          · go_wp2_with ((with_reducible refine storeR rfl (.tmp 2) (.tmp 63) rfl w.heap.size 33 ?x63c ?y63c ((g.alloc _).alloc _).hr ?_); (case y63c => rfl); (case x63c => simp [go_sem]))
            all_goals
              first
                | (exfalso; omega)
                | (go_simp; refine fin_ 33 ?_ ((g.alloc _).alloc _).hr ?_; (focus rfl); exact ⟨rfl, below_setRow ((g.alloc _).alloc _).below (Nat.le_refl _) _⟩)
          · go_wp2_with ((with_reducible refine storeR rfl (.tmp 2) (.tmp 63) rfl w.heap.size 34 ?x63c ?y63c ((g.alloc _).alloc _).hr ?_); (case y63c => rfl); (case x63c => simp [go_sem]))
            all_goals
              first
                | (exfalso; omega)
                | (go_simp; refine fin_ 34 ?_ ((g.alloc _).alloc _).hr ?_; (focus rfl); exact ⟨rfl, below_setRow ((g.alloc _).alloc _).below (Nat.le_refl _) _⟩)
          · go_wp2_with ((with_reducible refine storeR rfl (.tmp 2) (.tmp 63) rfl w.heap.size 35 ?x63c ?y63c ((g.alloc _).alloc _).hr ?_); (case y63c => rfl); (case x63c => simp [go_sem]))
            all_goals
              first
                | (exfalso; omega)
                | (go_simp; refine fin_ 35 ?_ ((g.alloc _).alloc _).hr ?_; (focus rfl); exact ⟨rfl, below_setRow ((g.alloc _).alloc _).below (Nat.le_refl _) _⟩)
          · go_wp2_with ((with_reducible refine storeR rfl (.tmp 2) (.tmp 63) rfl w.heap.size 36 ?x63c ?y63c ((g.alloc _).alloc _).hr ?_); (case y63c => rfl); (case x63c => simp [go_sem]))
            all_goals
              first
                | (exfalso; omega)
                | (go_simp; refine fin_ 36 ?_ ((g.alloc _).alloc _).hr ?_; (focus rfl); exact ⟨rfl, below_setRow ((g.alloc _).alloc _).below (Nat.le_refl _) _⟩)
          · go_wp2_with ((with_reducible refine storeR rfl (.tmp 2) (.tmp 63) rfl w.heap.size 37 ?x63c ?y63c ((g.alloc _).alloc _).hr ?_); (case y63c => rfl); (case x63c => simp [go_sem]))
            all_goals
              first
                | (exfalso; omega)
                | (go_simp; refine fin_ 37 ?_ ((g.alloc _).alloc _).hr ?_; (focus rfl); exact ⟨rfl, below_setRow ((g.alloc _).alloc _).below (Nat.le_refl _) _⟩)
        · by_cases hD : 45 ≤ op ∧ op ≤ 48
          · rcases (show op = 45 ∨ op = 46 ∨ op = 47 ∨ op = 48 by omega) with h | h | h | h <;> subst h
            · go_wp2_with ((with_reducible refine storeR rfl (.tmp 2) (.tmp 119) rfl w.heap.size 45 ?x119d ?y119d ((g.alloc _).alloc _).hr ?_); (case y119d => rfl); (case x119d => simp [go_sem]))
              all_goals
                first
                  | (exfalso; omega)
                  | (go_simp; refine fin_ 45 ?_ ((g.alloc _).alloc _).hr ?_; (focus rfl); exact ⟨rfl, below_setRow ((g.alloc _).alloc _).below (Nat.le_refl _) _⟩)
            · go_wp2_with ((with_reducible refine storeR rfl (.tmp 2) (.tmp 119) rfl w.heap.size 46 ?x119d ?y119d ((g.alloc _).alloc _).hr ?_); (case y119d => rfl); (case x119d => simp [go_sem]))
              all_goals
                first
                  | (exfalso; omega)
                  | (go_simp; refine fin_ 46 ?_ ((g.alloc _).alloc _).hr ?_; (focus rfl); exact ⟨rfl, below_setRow ((g.alloc _).alloc _).below (Nat.le_refl _) _⟩)
            · go_wp2_with ((with_reducible refine storeR rfl (.tmp 2) (.tmp 119) rfl w.heap.size 47 ?x119d ?y119d ((g.alloc _).alloc _).hr ?_); (case y119d => rfl); (case x119d => simp [go_sem]))
              all_goals
                first
                  | (exfalso; omega)
                  | (go_simp; refine fin_ 47 ?_ ((g.alloc _).alloc _).hr ?_; (focus rfl); exact ⟨rfl, below_setRow ((g.alloc _).alloc _).below (Nat.le_refl _) _⟩)
            · go_wp2_with ((with_reducible refine storeR rfl (.tmp 2) (.tmp 119) rfl w.heap.size 48 ?x119d ?y119d ((g.alloc _).alloc _).hr ?_); (case y119d => rfl); (case x119d => simp [go_sem]))
              all_goals
                first
                  | (exfalso; omega)
                  | (go_simp; refine fin_ 48 ?_ ((g.alloc _).alloc _).hr ?_; (focus rfl); exact ⟨rfl, below_setRow ((g.alloc _).alloc _).below (Nat.le_refl _) _⟩)
          · by_cases hE : 24 ≤ op ∧ op ≤ 31
            · go_wp2_with (first
                | ((with_reducible refine storeR rfl (.tmp 2) (.tmp 67) rfl w.heap.size op ?x67e ?y67e ((g.alloc _).alloc _).hr ?_); (case y67e => first | (have h : op = 24 := (by first | assumption | (simpa using ‹(op == 24) = true›)); rw [h]; rfl)); (case x67e => simp [go_sem]))
                | ((with_reducible refine storeR rfl (.tmp 2) (.tmp 70) rfl w.heap.size op ?x70e ?y70e ((g.alloc _).alloc _).hr ?_); (case y70e => first | (have h : op = 25 := (by first | assumption | (simpa using ‹(op == 25) = true›)); rw [h]; rfl)); (case x70e => simp [go_sem]))
                | ((with_reducible refine storeR rfl (.tmp 2) (.tmp 73) rfl w.heap.size op ?x73e ?y73e ((g.alloc _).alloc _).hr ?_); (case y73e => first | (have h : op = 26 := (by first | assumption | (simpa using ‹(op == 26) = true›)); rw [h]; rfl)); (case x73e => simp [go_sem]))
                | ((with_reducible refine storeR rfl (.tmp 2) (.tmp 76) rfl w.heap.size op ?x76e ?y76e ((g.alloc _).alloc _).hr ?_); (case y76e => first | (have h : op = 27 := (by first | assumption | (simpa using ‹(op == 27) = true›)); rw [h]; rfl)); (case x76e => simp [go_sem]))
                | ((with_reducible refine storeR rfl (.tmp 2) (.tmp 79) rfl w.heap.size op ?x79e ?y79e ((g.alloc _).alloc _).hr ?_); (case y79e => first | (have h : op = 28 := (by first | assumption | (simpa using ‹(op == 28) = true›)); rw [h]; rfl)); (case x79e => simp [go_sem]))
                | ((with_reducible refine storeR rfl (.tmp 2) (.tmp 82) rfl w.heap.size op ?x82e ?y82e ((g.alloc _).alloc _).hr ?_); (case y82e => first | (have h : op = 29 := (by first | assumption | (simpa using ‹(op == 29) = true›)); rw [h]; rfl)); (case x82e => simp [go_sem]))
                | ((with_reducible refine storeR rfl (.tmp 2) (.tmp 85) rfl w.heap.size op ?x85e ?y85e ((g.alloc _).alloc _).hr ?_); (case y85e => first | (have h : op = 30 := (by first | assumption | (simpa using ‹(op == 30) = true›)); rw [h]; rfl)); (case x85e => simp [go_sem]))
                | ((with_reducible refine storeR rfl (.tmp 2) (.tmp 88) rfl w.heap.size op ?x88e ?y88e ((g.alloc _).alloc _).hr ?_); (case y88e => first | (have h : op = 31 := (by first | assumption | (simpa using ‹(op == 31) = true›)); rw [h]; rfl)); (case x88e => simp [go_sem])))
              all_goals
                first
                  | (exfalso; omega)
                  | (go_simp; refine fin_ op ?_ ((g.alloc _).alloc _).hr ?_; (focus rfl); exact ⟨rfl, below_setRow ((g.alloc _).alloc _).below (Nat.le_refl _) _⟩)
            · by_cases hF : 38 ≤ op ∧ op ≤ 55
              · go_wp2_with (first
                  | ((with_reducible refine storeR rfl (.tmp 2) (.tmp 91) rfl w.heap.size op ?x91f ?y91f ((g.alloc _).alloc _).hr ?_); (case y91f => first | (have h : op = 38 := (by first | assumption | (simpa using ‹(op == 38) = true›)); rw [h]; rfl)); (case x91f => simp [go_sem]))
                  | ((with_reducible refine storeR rfl (.tmp 2) (.tmp 94) rfl w.heap.size op ?x94f ?y94f ((g.alloc _).alloc _).hr ?_); (case y94f => first | (have h : op = 39 := (by first | assumption | (simpa using ‹(op == 39) = true›)); rw [h]; rfl)); (case x94f => simp [go_sem]))
                  | ((with_reducible refine storeR rfl (.tmp 2) (.tmp 97) rfl w.heap.size op ?x97f ?y97f ((g.alloc _).alloc _).hr ?_); (case y97f => first | (have h : op = 40 := (by first | assumption | (simpa using ‹(op == 40) = true›)); rw [h]; rfl)); (case x97f => simp [go_sem]))
                  | ((with_reducible refine storeR rfl (.tmp 2) (.tmp 100) rfl w.heap.size op ?x100f ?y100f ((g.alloc _).alloc _).hr ?_); (case y100f => first | (have h : op = 41 := (by first | assumption | (simpa using ‹(op == 41) = true›)); rw [h]; rfl)); (case x100f => simp [go_sem]))
                  | ((with_reducible refine storeR rfl (.tmp 2) (.tmp 103) rfl w.heap.size op ?x103f ?y103f ((g.alloc _).alloc _).hr ?_); (case y103f => first | (have h : op = 42 := (by first | assumption | (simpa using ‹(op == 42) = true›)); rw [h]; rfl)); (case x103f => simp [go_sem]))
                  | ((with_reducible refine storeR rfl (.tmp 2) (.tmp 106) rfl w.heap.size op ?x106f ?y106f ((g.alloc _).alloc _).hr ?_); (case y106f => first | (have h : op = 43 := (by first | assumption | (simpa using ‹(op == 43) = true›)); rw [h]; rfl)); (case x106f => simp [go_sem]))
                  | ((with_reducible refine storeR rfl (.tmp 2) (.tmp 109) rfl w.heap.size op ?x109f ?y109f ((g.alloc _).alloc _).hr ?_); (case y109f => first | (have h : op = 44 := (by first | assumption | (simpa using ‹(op == 44) = true›)); rw [h]; rfl)); (case x109f => simp [go_sem]))
                  | ((with_reducible refine storeR rfl (.tmp 2) (.tmp 125) rfl w.heap.size op ?x125f ?y125f ((g.alloc _).alloc _).hr ?_); (case y125f => first | (have h : op = 49 := (by first | assumption | (simpa using ‹(op == 49) = true›)); rw [h]; rfl) | (have h : op = 50 := (by first | assumption | (simpa using ‹(op == 50) = true›)); rw [h]; rfl)); (case x125f => simp [go_sem]))
                  | ((with_reducible refine storeR rfl (.tmp 2) (.tmp 132) rfl w.heap.size op ?x132f ?y132f ((g.alloc _).alloc _).hr ?_); (case y132f => first | (have h : op = 51 := (by first | assumption | (simpa using ‹(op == 51) = true›)); rw [h]; rfl) | (have h : op = 52 := (by first | assumption | (simpa using ‹(op == 52) = true›)); rw [h]; rfl) | (have h : op = 53 := (by first | assumption | (simpa using ‹(op == 53) = true›)); rw [h]; rfl)); (case x132f => simp [go_sem]))
                  | ((with_reducible refine storeR rfl (.tmp 2) (.tmp 135) rfl w.heap.size op ?x135f ?y135f ((g.alloc _).alloc _).hr ?_); (case y135f => first | (have h : op = 54 := (by first | assumption | (simpa using ‹(op == 54) = true›)); rw [h]; rfl)); (case x135f => simp [go_sem]))
                  | ((with_reducible refine storeR rfl (.tmp 2) (.tmp 138) rfl w.heap.size op ?x138f ?y138f ((g.alloc _).alloc _).hr ?_); (case y138f => first | (have h : op = 55 := (by first | assumption | (simpa using ‹(op == 55) = true›)); rw [h]; rfl)); (case x138f => simp [go_sem])))
                all_goals
                  first
                    | (exfalso; omega)
                    | (go_simp; refine fin_ op ?_ ((g.alloc _).alloc _).hr ?_; (focus rfl); exact ⟨rfl, below_setRow ((g.alloc _).alloc _).below (Nat.le_refl _) _⟩)
              · go_wp2_with ((with_reducible refine storeR rfl (.tmp 2) (.tmp 139) rfl w.heap.size op ?xn ?yn ((g.alloc _).alloc _).hr ?_); (case yn => (have h : CM.isOp op = false := (by simp [CM.isOp]; omega)); (unfold rowV; rw [h]); simp [go_sem]); (case xn => simp [go_sem]))
                all_goals
                  first
                    | (exfalso; omega)
                    | (go_simp; refine fin_ op ?_ ((g.alloc _).alloc _).hr ?_; (focus rfl); exact ⟨rfl, below_setRow ((g.alloc _).alloc _).below (Nat.le_refl _) _⟩)
end CO
end Go.Proofs.YtlmblfkcmhgdaaaGreat
