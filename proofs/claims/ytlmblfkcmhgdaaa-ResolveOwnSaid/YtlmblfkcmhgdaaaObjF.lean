/-
  The program's fault: what it does is done; a flaw that is thrown is caught and answered as an error. No condition but those that are written at each.
-/
import Derived.Test.YtlmblfkcmhgdaaaObjR
import Derived.OwnWalk
import Derived.Laws.OwnMore
import Derived.Laws.Cells
import Derived.Defers
import Derived.Recover
import Derived.Laws.Pointers
namespace Go.Proofs.Ytlmblfkcmhgdaaa
open Go.RowKit
set_option linter.unusedVariables false
set_option linter.unusedSimpArgs false
namespace OF
open OO
abbrev TF : TypeId := 59
abbrev flaw : Value := .iface TF (.agg #[])
abbrev thrown : Ending := .panicked [{ v := flaw, recovered := false }]
set_option maxRecDepth 100000 in
set_option maxHeartbeats 1000000 in
theorem demand_yes (w : World) : Calls Try.prog 20 #[.bool true] w fun e w' => e = .returned (.tuple #[]) ∧ w = w' := by
  go_enter Try.func20, Try.ntmps20
  go_wp2
  go_end0
  exact ⟨rfl, rfl⟩
set_option maxRecDepth 100000 in
set_option maxHeartbeats 1000000 in
theorem demand_no (w : World) : Calls Try.prog 20 #[.bool false] w fun e w' => e = thrown ∧ w = w' := by
  go_enter Try.func20, Try.ntmps20
  go_wp2
  exact ⟨rfl, rfl, rfl⟩
def Fin (W : World) (e : Exit) (a : Act) (w' : World) : Prop := e = .normal ∧ a.defers = [] ∧ w' = W
set_option maxRecDepth 100000 in
set_option maxHeartbeats 1000000 in
theorem catch_panicking (bx : Nat) (older : List PanicEntry) (w : World) (v : Value) (h2 : w.cell? ⟨bx, 0, none⟩ = some v) (h3 : w.frozen? ⟨bx, 0, none⟩ = false) (hlt : bx < w.heap.size) :
    CallsD Try.prog 19 #[.pointer (some ⟨bx, 0, none⟩)] (.panicking ({ v := flaw, recovered := false } :: older)) w fun e u' w' =>
      e = .returned (.tuple #[]) ∧ u' = .panicking ({ v := flaw, recovered := true } :: older) ∧ w' = (w.setCell ⟨bx, 0, none⟩ (.int .i64 2)).alloc (.cells #[] TF) := by
  refine callsD_of_wpS Try.func19 rfl fun c₀ cs hu => ?_
  apply wpS_seq
  apply wpS_region
  simp [wpOpsS, go_sem, recoverD, hu, Try.ntmps19, Exit.thenS]
  refine wpS_of_wp (wp_mono (Q := Fin ((w.setCell ⟨bx, 0, none⟩ (.int .i64 2)).alloc (.cells #[] TF))) ?_ ?_)
  · clear hu
    have hta : ∀ w, (Instr.typeAssert flaw 20 TF true).run Try.prog w = .ok (.tuple #[.agg #[], .bool true]) w := fun _ => by kernel_rfl
    go_wp2
    exact ⟨rfl, rfl, rfl⟩
  · rintro e a w' ⟨rfl, hd, rfl⟩
    simp [bodyPostS, results, Try.results19, hd]
set_option maxRecDepth 100000 in
set_option maxHeartbeats 1000000 in
theorem catch_idle (bx : Nat) (w : World) :
    CallsD Try.prog 19 #[.pointer (some ⟨bx, 0, none⟩)] .returning w fun e u' w' => e = .returned (.tuple #[]) ∧ u' = .returning ∧ w' = w := by
  refine callsD_of_wpS Try.func19 rfl fun c₀ cs hu => ?_
  apply wpS_seq
  apply wpS_region
  simp [wpOpsS, go_sem, recoverD, hu, Try.ntmps19, Exit.thenS]
  refine wpS_of_wp (wp_mono (Q := Fin w) ?_ ?_)
  · clear hu
    go_wp2
    exact ⟨rfl, rfl, rfl⟩
  · rintro e a w' ⟨rfl, hd, rfl⟩
    cases c₀
    simp_all [bodyPostS, results, Try.results19]
set_option maxRecDepth 100000 in
set_option maxHeartbeats 2000000 in
theorem fault_ok_check (bx : Nat) (w : World) (R : World → Prop)
    (hc : Calls Try.prog 17 #[.pointer (some ⟨bx, 0, none⟩)] (w.alloc (.cells #[.int .i64 0] 38)) fun e w' => e = .returned (.tuple #[]) ∧ w'.heap[w.heap.size]? = some (.cells #[.int .i64 0] 38 (0, 0)) ∧ R w') :
    Calls Try.prog 16 #[.func (.func 17) #[] #[.pointer (some ⟨bx, 0, none⟩)]] w fun e w' => e = .returned (.int .i64 0) ∧ ∃ w1, R w1 ∧ w' = w1.setCell ⟨w.heap.size, 0, none⟩ (.int .i64 0) := by
  have hmf : ∀ (fn : Fn) (first cap : Array Value) (w : World), (Instr.makeFunc fn first cap).run Try.prog w = .ok (.func fn first cap) w := fun _ _ _ _ => rfl
  go_enter_defers Try.func16, Try.ntmps16
  go_wp2_with (go_at_call 17; (with_reducible refine hc.mono ?_); rintro e w1 ⟨rfl, hb, hR⟩; have y1 : w1.cell? ⟨w.heap.size, 0, none⟩ = some (.int .i64 0) := (by rw [Lib.cell_of_heap hb]; rfl); have y2 : w1.frozen? ⟨w.heap.size, 0, none⟩ = false := Lib.frozen_of_heap hb 0; have HB := Lib.hid hb; have HR := Lib.hid hR; clear hb hR)
  refine leaves_cons (f := 19) (args := #[.pointer (some ⟨w.heap.size, 0, none⟩)]) (by simp) (by simp [go_sem]) ?_
  refine (catch_idle w.heap.size _).mono ?_
  rintro e u' w'' ⟨rfl, rfl, rfl⟩
  have hcell : (w1.setCell ⟨w.heap.size, 0, none⟩ (.int .i64 0)).cell? ⟨w.heap.size, 0, none⟩ = some (.int .i64 0) := World.cell?_setCell_same' _ _ _ (by rw [y1]; rfl)
  simp [Leaves, settle, results, Try.results16, go_sem, hcell]
  exact ⟨w1, HR.out, rfl⟩
set_option maxRecDepth 100000 in
set_option maxHeartbeats 2000000 in
theorem fault_bad_check (bx : Nat) (w : World) (R : World → Prop)
    (hc : Calls Try.prog 17 #[.pointer (some ⟨bx, 0, none⟩)] (w.alloc (.cells #[.int .i64 0] 38)) fun e w' => e = thrown ∧ w'.heap[w.heap.size]? = some (.cells #[.int .i64 0] 38 (0, 0)) ∧ R w') :
    Calls Try.prog 16 #[.func (.func 17) #[] #[.pointer (some ⟨bx, 0, none⟩)]] w fun e w' => e = .returned (.int .i64 2) ∧ ∃ w1, R w1 ∧ w' = (w1.setCell ⟨w.heap.size, 0, none⟩ (.int .i64 2)).alloc (.cells #[] TF) := by
  have hmf : ∀ (fn : Fn) (first cap : Array Value) (w : World), (Instr.makeFunc fn first cap).run Try.prog w = .ok (.func fn first cap) w := fun _ _ _ _ => rfl
  go_enter_defers Try.func16, Try.ntmps16
  go_wp2_with (go_at_call 17; (with_reducible refine hc.mono ?_); rintro e w1 ⟨rfl, hb, hR⟩; have y1 : w1.cell? ⟨w.heap.size, 0, none⟩ = some (.int .i64 0) := (by rw [Lib.cell_of_heap hb]; rfl); have y2 : w1.frozen? ⟨w.heap.size, 0, none⟩ = false := Lib.frozen_of_heap hb 0; have y3 := lt_heap hb; have HB := Lib.hid hb; have HR := Lib.hid hR; clear hb hR)
  refine leaves_cons (f := 19) (args := #[.pointer (some ⟨w.heap.size, 0, none⟩)]) (by simp) (by simp [go_sem]) ?_
  refine (catch_panicking w.heap.size [] w1 _ y1 y2 y3).mono ?_
  rintro e u' w'' ⟨rfl, rfl, rfl⟩
  have hcell : ((w1.setCell ⟨w.heap.size, 0, none⟩ (.int .i64 2)).alloc (.cells #[] TF)).cell? ⟨w.heap.size, 0, none⟩ = some (.int .i64 2) := (World.cell?_alloc_lt _ _ _ (by rw [World.size_setCell]; exact y3)).trans (World.cell?_setCell_same' _ _ _ (by rw [y1]; rfl))
  simp [Leaves, settle, results, Try.results16, go_sem, hcell]
  exact ⟨w1, HR.out, rfl⟩
end OF
end Go.Proofs.Ytlmblfkcmhgdaaa
