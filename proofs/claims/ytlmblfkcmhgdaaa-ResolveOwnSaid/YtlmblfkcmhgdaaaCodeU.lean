/-
  How each kind of instruction uses its four parts, as package code tells: a contract for each of the eleven kinds. No condition.
-/
import Derived.Test.YtlmblfkcmhgdaaaCodeC
import Derived.Laws.CopyOwn
import Derived.Deep.DeepCutAuto
import Derived.Deep.DeepCutAuto
import Derived.Deep.DeepCutAuto
import Derived.Deep.DeepCutAuto
import Derived.Deep.DeepCutAuto
import Derived.Deep.DeepCutAuto
import Derived.Deep.DeepCutAuto
import Derived.Deep.DeepCutAuto
namespace Go.Proofs.Ytlmblfkcmhgdaaa
open Go.RowKit
set_option linter.unusedVariables false
set_option linter.unusedSimpArgs false
namespace CU
open CC
section
variable {P : Program}
/-- a new variable of many cells: the zero value said by name -/
theorem wpList_allocZ {ops : Array Oper} {rest : List Oper} {o : Oper} {a : Act} {w : World} {Q : Exit → Act → World → Prop} (hg : o.guard = none) (t : TypeId) (ho : o.op = .alloc t) (Z : Array Value)
    (hz : ∀ w, (zeroValue t).run P w = .ok (.agg Z) w)
    (h : wpList P ops Q rest (a.put o.dst (.pointer (some ⟨w.heap.size, 0, none⟩))) (w.alloc (.cells Z t))) : wpList P ops Q (o :: rest) a w := by
  refine Great.wpList_runTo hg o.dst rfl _ _ ?_ h
  simp [execOp, ho, Instr.alloc, hz, newVar, newRow, newObj, Value.cells, Sem.run_bind, Result.andThen]
  rfl
theorem wpList_buildTo {ops : Array Oper} {rest : List Oper} {o : Oper} {a : Act} {w : World} {Q : Exit → Act → World → Prop} (hg : o.guard = none) (t : TypeId) (parts : Array (Nat × Operand)) (ho : o.op = .build t parts) (cells : Array Value)
    (hf : P.built t (parts.map fun (i, x) => (i, a.eval x)).toList = some cells)
    (h : wpList P ops Q rest (a.put o.dst (.agg cells)) w) : wpList P ops Q (o :: rest) a w := by
  refine Great.wpList_runTo hg o.dst rfl _ _ ?_ h
  unfold execOp
  simp only [ho, Sem.run_bind, run_build w t _ cells hf, Result.andThen_ok]
  rfl
end
def Z60 : Array Value := (List.replicate 60 (Value.int .i64 0)).toArray
theorem zero60 (w : World) : (zeroValue 91).run Try.prog w = .ok (.agg Z60) w := by kernel_rfl
theorem size60 (k : Int) (h : (CM.ul k.toNat).length = 60) : (Try.prog.info? 91).map (·.size) = some (CM.uA k).size := by
  have e : (CM.uA k).size = 60 := by simp [CM.uA, h]
  have h2 : (Try.prog.info? 91).map (·.size) = some 60 := by kernel_rfl
  rw [e]; exact h2
theorem one60 (k : Int) : (CM.uA k).all (·.oneCell') = true := by
  refine Array.all_eq_true_iff_forall_mem.2 fun v hv => ?_
  simp [CM.uA] at hv
  obtain ⟨x, _, rfl⟩ := hv
  rfl
theorem oldsize (k : Int) (h : (CM.ul k.toNat).length = 60) : Z60.size = (CM.uA k).size := by simp [CM.uA, h, Z60]
theorem up (w : World) (o : Obj) (i : Nat) (x : Obj) (hi : i < w.heap.size) (h : w.heap[i]? = some x) : (w.alloc o).heap[i]? = some x := by
  show (w.heap.push o)[i]? = some x
  rw [Array.getElem?_push, if_neg (Nat.ne_of_lt hi)]; exact h
theorem newAt (w : World) (o : Obj) (i : Nat) (hi : i = w.heap.size) : (w.alloc o).heap[i]? = some o := by
  subst hi
  show (w.heap.push o)[w.heap.size]? = some o
  simp
theorem upRow (w : World) (g k : Nat) (cs : Array Value) (x : Obj) (hk : k ≠ g) (h : w.heap[k]? = some x) : (w.setRow g cs).heap[k]? = some x := (setRow_other w g k cs hk).trans h
theorem sameRow (w : World) (g : Nat) (cs old : Array Value) (t : TypeId) (fr : Nat × Nat) (h : w.heap[g]? = some (.cells old t fr)) : (w.setRow g cs).heap[g]? = some (.cells cs t fr) := setRow_heap _ _ _ _ _ _ h
def Z15 : Array Value := #[.int .i64 0, .int .i64 0, .int .i64 0, .int .i64 0, .int .i64 0, .int .i64 0, .int .i64 0, .int .i64 0, .int .i64 0, .int .i64 0, .int .i64 0, .int .i64 0, .int .i64 0, .int .i64 0, .int .i64 0]
theorem zero15 (w : World) : (zeroValue 90).run Try.prog w = .ok (.agg Z15) w := by kernel_rfl
theorem size15 (a : Int) : (Try.prog.info? 90).map (·.size) = some (rg a).size := by kernel_rfl
theorem row60 : (match Try.prog.underlying 91 with | some (.struct _) => true | some (.array _ _) => true | _ => false) = true := by kernel_rfl
/-- three registers' uses lie in blocks of their own, the result's zeros in another -/
structure Laid (n : Nat) (w wx : World) (b3 b4 b5 : Nat) : Prop where
  res : wx.heap[n]? = some (.cells Z60 91 (0, 0))
  h3 : wx.heap[b3]? = some (.cells (rg 7) 90 (0, 0))
  h4 : wx.heap[b4]? = some (.cells (rg 15) 90 (0, 0))
  h5 : wx.heap[b5]? = some (.cells (rg 20) 90 (0, 0))
  l3 : b3 < b4
  l4 : n < b4
  l5 : b4 < b5
  below : Below n w wx
theorem Laid.off {n : Nat} {w wx : World} {b3 b4 b5 : Nat} (L : Laid n w wx b3 b4 b5) (k : Nat) (hk : k ≠ b4) (x y z : Value) (i j l : Nat) : (((wx.setCell ⟨b4, i, none⟩ x).setCell ⟨b4, j, none⟩ y).setCell ⟨b4, l, none⟩ z).heap[k]? = wx.heap[k]? := by
  rw [Below.heap_setCell _ _ _ _ hk, Below.heap_setCell _ _ _ _ hk, Below.heap_setCell _ _ _ _ hk]
theorem Laid.h3' {n : Nat} {w wx : World} {b3 b4 b5 : Nat} (L : Laid n w wx b3 b4 b5) (x y z : Value) : (((wx.setCell ⟨b4, 6, none⟩ x).setCell ⟨b4, 7, none⟩ y).setCell ⟨b4, 8, none⟩ z).heap[b3]? = some (.cells (rg 7) 90 (0, 0)) := (L.off b3 (Nat.ne_of_lt L.l3) x y z 6 7 8).trans L.h3
theorem Laid.res' {n : Nat} {w wx : World} {b3 b4 b5 : Nat} (L : Laid n w wx b3 b4 b5) (x y z : Value) : (((wx.setCell ⟨b4, 6, none⟩ x).setCell ⟨b4, 7, none⟩ y).setCell ⟨b4, 8, none⟩ z).heap[n]? = some (.cells Z60 91 (0, 0)) := (L.off n (Nat.ne_of_lt L.l4) x y z 6 7 8).trans L.res
theorem laid (w : World) (a b c : Obj) : Laid w.heap.size w (((((((w.alloc (.cells Z60 91)).alloc a).alloc b).alloc c).alloc (.cells (rg 7) 90)).alloc (.cells (rg 15) 90)).alloc (.cells (rg 20) 90)) (w.heap.size + 1 + 1 + 1 + 1) (w.heap.size + 1 + 1 + 1 + 1 + 1) (w.heap.size + 1 + 1 + 1 + 1 + 1 + 1) := by
  constructor
  · refine up _ _ _ _ (by simp only [World.size_alloc]; omega) (up _ _ _ _ (by simp only [World.size_alloc]; omega) (up _ _ _ _ (by simp only [World.size_alloc]; omega) (up _ _ _ _ (by simp only [World.size_alloc]; omega) (up _ _ _ _ (by simp only [World.size_alloc]; omega) (up _ _ _ _ (by simp only [World.size_alloc]; omega) (newAt _ _ _ rfl))))))
  · exact up _ _ _ _ (by simp only [World.size_alloc]; omega) (up _ _ _ _ (by simp only [World.size_alloc]; omega) (newAt _ _ _ (by simp)))
  · exact up _ _ _ _ (by simp only [World.size_alloc]; omega) (newAt _ _ _ (by simp))
  · exact newAt _ _ _ (by simp)
  · omega
  · omega
  · omega
  · refine (((((((Below.refl _ _).alloc ?_ _).alloc ?_ _).alloc ?_ _).alloc ?_ _).alloc ?_ _).alloc ?_ _).alloc ?_ _ <;> first | omega | (simp only [World.size_alloc]; omega)
/-- how the function ends: what the result's cell holds -/
theorem fin_ {Q : Ending → World → Prop} (k : Int) (hl : (CM.ul k.toNat).length = 60) {tmps : Array Value} {n : Nat} {w : World}
    (hp : tmps.getD 2 undef = .pointer (some ⟨n, 0, none⟩)) (hg : w.heap[n]? = some (.cells Z60 91 (0, 0))) (hQ : Q (.returned (.agg (CM.uA k))) (w.setRow n (CM.uA k))) :
    bodyPost Try.prog Try.f36 Q .ret { tmps := tmps, defers := [] } (w.setRow n (CM.uA k)) :=
  bodyPost_ret (v := .agg (CM.uA k)) (results_cell_row Try.results36 tmps _ n 91 (CM.uA k) (0, 0) _ hp (setRow_heap _ _ _ _ _ _ hg) Try.underlying91 rfl (size60 k hl)) rfl hQ
section
variable {ops : Array Oper} {rest : List Oper} {o : Oper} {a : Act} {w : World} {Q : Exit → Act → World → Prop}
theorem load15 (hgd : o.guard = none) (x : Operand) (ho : o.op = .load 90 x) (g : Nat) (v : Int) (hx : a.eval x = .pointer (some ⟨g, 0, none⟩)) (hg : w.heap[g]? = some (.cells (rg v) 90 (0, 0)))
    (h : wpList Try.prog ops Q rest (a.put o.dst (.agg (rg v))) w) : wpList Try.prog ops Q (o :: rest) a w :=
  wpList_load_row hgd 90 x ho g hx 90 (rg v) (0, 0) _ hg Try.underlying90 rfl (size15 v) h
theorem store60 (hgd : o.guard = none) (y : Operand) (ho : o.op = .store 91 (.tmp 2) y) (g : Nat) (k : Int) (hl : (CM.ul k.toNat).length = 60) (hx : a.eval (.tmp 2) = .pointer (some ⟨g, 0, none⟩)) (hy : a.eval y = .agg (CM.uA k))
    (hg : w.heap[g]? = some (.cells Z60 91 (0, 0))) (h : wpList Try.prog ops Q rest (a.put o.dst undef) (w.setRow g (CM.uA k))) : wpList Try.prog ops Q (o :: rest) a w :=
  wpList_store_row hgd 91 (.tmp 2) y ho g (CM.uA k) hx hy 91 Z60 hg (size60 k hl) (oldsize k hl) (one60 k) h
end
set_option maxRecDepth 100000 in
set_option maxHeartbeats 1000000 in
theorem uses_ (k : Int) (h0 : 0 ≤ k) (h1 : k ≤ 10) (w : World) : Calls Try.prog 36 #[.int .i64 k] w fun e w' => e = .returned (.agg (CM.uA k)) ∧ Below w.heap.size w w' := by
  go_enter Try.func36, Try.ntmps36
  go_upto_region 1 with (with_reducible refine wpList_allocZ rfl 91 rfl Z60 zero60 ?_)
  go_simp
  go_cut [3, 4, 5] from 6 (fun s3 s4 s5 wx => ∃ b3 b4 b5 : Nat, s3 = .pointer (some ⟨b3, 0, none⟩) ∧ s4 = .pointer (some ⟨b4, 0, none⟩) ∧ s5 = .pointer (some ⟨b5, 0, none⟩) ∧ Laid w.heap.size w wx b3 b4 b5)
  case first =>
    go_wp2_with (go_at_call 39; refine (register_ _ _).mono ?_; rintro e w' ⟨rfl, rfl⟩; unfold rg)
    go_meet
    exact ⟨_, _, _, rfl, rfl, rfl, laid w _ _ _⟩
  case rest =>
    obtain ⟨b3, b4, b5, rfl, rfl, rfl, L⟩ := hcut
    rcases (show k = 0 ∨ k = 1 ∨ k = 2 ∨ k = 3 ∨ k = 4 ∨ k = 5 ∨ k = 6 ∨ k = 7 ∨ k = 8 ∨ k = 9 ∨ k = 10 by omega) with h | h | h | h | h | h | h | h | h | h | h <;> subst h
    · go_wp2_with (first
        | ((with_reducible refine load15 rfl (.tmp 3) rfl b3 7 ?x0a L.h3 ?_); (case x0a => simp [go_sem]))
        | ((with_reducible refine load15 rfl (.tmp 4) rfl b4 15 ?x0b L.h4 ?_); (case x0b => simp [go_sem]))
        | ((with_reducible refine load15 rfl (.tmp 5) rfl b5 20 ?x0c L.h5 ?_); (case x0c => simp [go_sem]))
        | ((with_reducible refine wpList_buildTo rfl 91 _ rfl (CM.uA 0) ?x0d ?_); (case x0d => kernel_rfl))
        | ((with_reducible refine store60 rfl _ rfl w.heap.size 0 ?x0e ?x0f ?x0g L.res ?_); (case x0e => rfl); (case x0f => simp [go_sem]); (case x0g => simp [go_sem])))
      go_simp
      refine fin_ 0 rfl ?_ L.res ?_
      · rfl
      · exact ⟨rfl, below_setRow L.below (Nat.le_refl _) _⟩
    · go_wp2_with (first
        | ((with_reducible refine load15 rfl (.tmp 3) rfl b3 7 ?x1a L.h3 ?_); (case x1a => simp [go_sem]))
        | ((with_reducible refine load15 rfl (.tmp 4) rfl b4 15 ?x1b L.h4 ?_); (case x1b => simp [go_sem]))
        | ((with_reducible refine load15 rfl (.tmp 5) rfl b5 20 ?x1c L.h5 ?_); (case x1c => simp [go_sem]))
        | ((with_reducible refine wpList_buildTo rfl 91 _ rfl (CM.uA 1) ?x1d ?_); (case x1d => kernel_rfl))
        | ((with_reducible refine store60 rfl _ rfl w.heap.size 1 ?x1e ?x1f ?x1g L.res ?_); (case x1e => rfl); (case x1f => simp [go_sem]); (case x1g => simp [go_sem])))
      go_simp
      refine fin_ 1 rfl ?_ L.res ?_
      · rfl
      · exact ⟨rfl, below_setRow L.below (Nat.le_refl _) _⟩
    · go_wp2_with (first
        | ((with_reducible refine load15 rfl (.tmp 3) rfl b3 7 ?x2a L.h3 ?_); (case x2a => simp [go_sem]))
        | ((with_reducible refine load15 rfl (.tmp 4) rfl b4 15 ?x2b L.h4 ?_); (case x2b => simp [go_sem]))
        | ((with_reducible refine load15 rfl (.tmp 5) rfl b5 20 ?x2c L.h5 ?_); (case x2c => simp [go_sem]))
        | ((with_reducible refine wpList_buildTo rfl 91 _ rfl (CM.uA 2) ?x2d ?_); (case x2d => kernel_rfl))
        | ((with_reducible refine store60 rfl _ rfl w.heap.size 2 ?x2e ?x2f ?x2g L.res ?_); (case x2e => rfl); (case x2f => simp [go_sem]); (case x2g => simp [go_sem])))
      go_simp
      refine fin_ 2 rfl ?_ L.res ?_
      · rfl
      · exact ⟨rfl, below_setRow L.below (Nat.le_refl _) _⟩
    · go_wp2_with (first
        | ((with_reducible refine load15 rfl (.tmp 3) rfl b3 7 ?x3a L.h3 ?_); (case x3a => simp [go_sem]))
        | ((with_reducible refine load15 rfl (.tmp 4) rfl b4 15 ?x3b L.h4 ?_); (case x3b => simp [go_sem]))
        | ((with_reducible refine load15 rfl (.tmp 5) rfl b5 20 ?x3c L.h5 ?_); (case x3c => simp [go_sem]))
        | ((with_reducible refine wpList_buildTo rfl 91 _ rfl (CM.uA 3) ?x3d ?_); (case x3d => kernel_rfl))
        | ((with_reducible refine store60 rfl _ rfl w.heap.size 3 ?x3e ?x3f ?x3g L.res ?_); (case x3e => rfl); (case x3f => simp [go_sem]); (case x3g => simp [go_sem])))
      go_simp
      refine fin_ 3 rfl ?_ L.res ?_
      · rfl
      · exact ⟨rfl, below_setRow L.below (Nat.le_refl _) _⟩
    · go_wp2_with (first
        | ((with_reducible refine load15 rfl (.tmp 3) rfl b3 7 ?x4a L.h3 ?_); (case x4a => simp [go_sem]))
        | ((with_reducible refine load15 rfl (.tmp 4) rfl b4 15 ?x4b L.h4 ?_); (case x4b => simp [go_sem]))
        | ((with_reducible refine load15 rfl (.tmp 5) rfl b5 20 ?x4c L.h5 ?_); (case x4c => simp [go_sem]))
        | ((with_reducible refine wpList_buildTo rfl 91 _ rfl (CM.uA 4) ?x4d ?_); (case x4d => kernel_rfl))
        | ((with_reducible refine store60 rfl _ rfl w.heap.size 4 ?x4e ?x4f ?x4g L.res ?_); (case x4e => rfl); (case x4f => simp [go_sem]); (case x4g => simp [go_sem])))
      go_simp
      refine fin_ 4 rfl ?_ L.res ?_
      · rfl
      · exact ⟨rfl, below_setRow L.below (Nat.le_refl _) _⟩
    · go_wp2_with (first
        | ((with_reducible refine load15 rfl (.tmp 3) rfl b3 7 ?x5a L.h3 ?_); (case x5a => simp [go_sem]))
        | ((with_reducible refine load15 rfl (.tmp 4) rfl b4 15 ?x5b L.h4 ?_); (case x5b => simp [go_sem]))
        | ((with_reducible refine load15 rfl (.tmp 5) rfl b5 20 ?x5c L.h5 ?_); (case x5c => simp [go_sem]))
        | ((with_reducible refine wpList_buildTo rfl 91 _ rfl (CM.uA 5) ?x5d ?_); (case x5d => kernel_rfl))
        | ((with_reducible refine store60 rfl _ rfl w.heap.size 5 ?x5e ?x5f ?x5g L.res ?_); (case x5e => rfl); (case x5f => simp [go_sem]); (case x5g => simp [go_sem])))
      go_simp
      refine fin_ 5 rfl ?_ L.res ?_
      · rfl
      · exact ⟨rfl, below_setRow L.below (Nat.le_refl _) _⟩
    · go_wp2_with (first
        | ((with_reducible refine load15 rfl (.tmp 3) rfl b3 7 ?x6a L.h3 ?_); (case x6a => simp [go_sem]))
        | ((with_reducible refine load15 rfl (.tmp 4) rfl b4 15 ?x6b L.h4 ?_); (case x6b => simp [go_sem]))
        | ((with_reducible refine load15 rfl (.tmp 5) rfl b5 20 ?x6c L.h5 ?_); (case x6c => simp [go_sem]))
        | ((with_reducible refine wpList_buildTo rfl 91 _ rfl (CM.uA 6) ?x6d ?_); (case x6d => kernel_rfl))
        | ((with_reducible refine store60 rfl _ rfl w.heap.size 6 ?x6e ?x6f ?x6g L.res ?_); (case x6e => rfl); (case x6f => simp [go_sem]); (case x6g => simp [go_sem])))
      go_simp
      refine fin_ 6 rfl ?_ L.res ?_
      · rfl
      · exact ⟨rfl, below_setRow L.below (Nat.le_refl _) _⟩
    · go_wp2_with (first
        | ((with_reducible refine load15 rfl (.tmp 3) rfl b3 7 ?x7a L.h3 ?_); (case x7a => simp [go_sem]))
        | ((with_reducible refine load15 rfl (.tmp 4) rfl b4 15 ?x7b L.h4 ?_); (case x7b => simp [go_sem]))
        | ((with_reducible refine load15 rfl (.tmp 5) rfl b5 20 ?x7c L.h5 ?_); (case x7c => simp [go_sem]))
        | ((with_reducible refine wpList_buildTo rfl 91 _ rfl (CM.uA 7) ?x7d ?_); (case x7d => kernel_rfl))
        | ((with_reducible refine store60 rfl _ rfl w.heap.size 7 ?x7e ?x7f ?x7g L.res ?_); (case x7e => rfl); (case x7f => simp [go_sem]); (case x7g => simp [go_sem])))
      go_simp
      refine fin_ 7 rfl ?_ L.res ?_
      · rfl
      · exact ⟨rfl, below_setRow L.below (Nat.le_refl _) _⟩
    · go_wp2_with (first
        | ((with_reducible refine load15 rfl (.tmp 3) rfl b3 7 ?x8a L.h3 ?_); (case x8a => simp [go_sem]))
        | ((with_reducible refine load15 rfl (.tmp 4) rfl b4 15 ?x8b L.h4 ?_); (case x8b => simp [go_sem]))
        | ((with_reducible refine load15 rfl (.tmp 5) rfl b5 20 ?x8c L.h5 ?_); (case x8c => simp [go_sem]))
        | ((with_reducible refine wpList_buildTo rfl 91 _ rfl (CM.uA 8) ?x8d ?_); (case x8d => kernel_rfl))
        | ((with_reducible refine store60 rfl _ rfl w.heap.size 8 ?x8e ?x8f ?x8g L.res ?_); (case x8e => rfl); (case x8f => simp [go_sem]); (case x8g => simp [go_sem])))
      go_simp
      refine fin_ 8 rfl ?_ L.res ?_
      · rfl
      · exact ⟨rfl, below_setRow L.below (Nat.le_refl _) _⟩
    · have q0 : wc.cell? ⟨b4, 0, none⟩ = some (.int .i64 0) := cell_of_row wc b4 0 _ _ _ L.h4
      have q1 : wc.cell? ⟨b4, 1, none⟩ = some (.int .i64 31) := cell_of_row wc b4 1 _ _ _ L.h4
      have q2 : wc.cell? ⟨b4, 2, none⟩ = some (.int .i64 1) := cell_of_row wc b4 2 _ _ _ L.h4
      have q3 : wc.cell? ⟨b4, 3, none⟩ = some (.int .i64 0) := cell_of_row wc b4 3 _ _ _ L.h4
      have q4 : wc.cell? ⟨b4, 4, none⟩ = some (.int .i64 5) := cell_of_row wc b4 4 _ _ _ L.h4
      have q5 : wc.cell? ⟨b4, 5, none⟩ = some (.int .i64 15) := cell_of_row wc b4 5 _ _ _ L.h4
      have q6 : wc.cell? ⟨b4, 6, none⟩ = some (.int .i64 0) := cell_of_row wc b4 6 _ _ _ L.h4
      have q7 : wc.cell? ⟨b4, 7, none⟩ = some (.int .i64 0) := cell_of_row wc b4 7 _ _ _ L.h4
      have q8 : wc.cell? ⟨b4, 8, none⟩ = some (.int .i64 0) := cell_of_row wc b4 8 _ _ _ L.h4
      have q9 : wc.cell? ⟨b4, 9, none⟩ = some (.int .i64 0) := cell_of_row wc b4 9 _ _ _ L.h4
      have q10 : wc.cell? ⟨b4, 10, none⟩ = some (.int .i64 0) := cell_of_row wc b4 10 _ _ _ L.h4
      have q11 : wc.cell? ⟨b4, 11, none⟩ = some (.int .i64 0) := cell_of_row wc b4 11 _ _ _ L.h4
      have q12 : wc.cell? ⟨b4, 12, none⟩ = some (.int .i64 0) := cell_of_row wc b4 12 _ _ _ L.h4
      have q13 : wc.cell? ⟨b4, 13, none⟩ = some (.int .i64 0) := cell_of_row wc b4 13 _ _ _ L.h4
      have q14 : wc.cell? ⟨b4, 14, none⟩ = some (.int .i64 0) := cell_of_row wc b4 14 _ _ _ L.h4
      have r3 : wc.cell? ⟨b5, 3, none⟩ = some (.int .i64 0) := cell_of_row wc b5 3 _ _ _ L.h5
      have r4 : wc.cell? ⟨b5, 4, none⟩ = some (.int .i64 5) := cell_of_row wc b5 4 _ _ _ L.h5
      have r5 : wc.cell? ⟨b5, 5, none⟩ = some (.int .i64 20) := cell_of_row wc b5 5 _ _ _ L.h5
      have z : ∀ j, wc.frozen? ⟨b4, j, none⟩ = false := fun j => by simp [World.frozen?, L.h4]
      have z6 := z 6
      have z7 := z 7
      have z8 := z 8
      clear z
      go_wp2_with (first
        | ((with_reducible refine load15 rfl (.tmp 3) rfl b3 7 ?x9a (L.h3' _ _ _) ?_); (case x9a => simp [go_sem]))
        | ((with_reducible refine wpList_buildTo rfl 91 _ rfl (CM.uA 9) ?x9d ?_); (case x9d => kernel_rfl))
        | ((with_reducible refine store60 rfl _ rfl w.heap.size 9 ?x9e ?x9f ?x9g (L.res' _ _ _) ?_); (case x9e => rfl); (case x9f => simp [go_sem]); (case x9g => simp [go_sem])))
      go_simp
      refine fin_ 9 rfl ?_ (L.res' _ _ _) ?_
      · rfl
      · exact ⟨rfl, below_setRow (((L.below.setCell (Nat.le_of_lt L.l4) _).setCell (Nat.le_of_lt L.l4) _).setCell (Nat.le_of_lt L.l4) _) (Nat.le_refl _) _⟩
    · go_wp2_with (first
        | ((with_reducible refine load15 rfl (.tmp 3) rfl b3 7 ?x10a L.h3 ?_); (case x10a => simp [go_sem]))
        | ((with_reducible refine load15 rfl (.tmp 4) rfl b4 15 ?x10b L.h4 ?_); (case x10b => simp [go_sem]))
        | ((with_reducible refine load15 rfl (.tmp 5) rfl b5 20 ?x10c L.h5 ?_); (case x10c => simp [go_sem]))
        | ((with_reducible refine wpList_buildTo rfl 91 _ rfl (CM.uA 10) ?x10d ?_); (case x10d => kernel_rfl))
        | ((with_reducible refine store60 rfl _ rfl w.heap.size 10 ?x10e ?x10f ?x10g L.res ?_); (case x10e => rfl); (case x10f => simp [go_sem]); (case x10g => simp [go_sem])))
      go_simp
      refine fin_ 10 rfl ?_ L.res ?_
      · rfl
      · exact ⟨rfl, below_setRow L.below (Nat.le_refl _) _⟩

end CU
end Go.Proofs.Ytlmblfkcmhgdaaa
