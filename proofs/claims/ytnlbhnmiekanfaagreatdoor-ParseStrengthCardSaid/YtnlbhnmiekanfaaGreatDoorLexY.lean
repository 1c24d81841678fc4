/-
  All tokens: what is thrown is caught and answered. Condition: the three results' cells lie in memory.
-/
import Derived.Test.YtnlbhnmiekanfaaGreatDoorLexX
import Derived.Test.YtnlbhnmiekanfaaGreatDoorLexL
import Derived.Defers
import Derived.Recover
import Derived.Laws.Pointers
namespace Go.Proofs.YtnlbhnmiekanfaaGreatDoor
open Go.RowKit
set_option linter.unusedVariables false
set_option linter.unusedSimpArgs false
namespace LxC
open Lx
abbrev flaw (a e : Int) : Value := .iface TF (.agg #[.int .i64 a, .int .i64 e])
abbrev TS : TypeId := 61
/-- the three results' cells -/
structure Res3 (B : Nat) (v : Value) (a e : Int) (w : World) : Prop where
  v : w.heap[B]? = some (.cells #[v] TS (0, 0))
  a : w.heap[B + 1]? = some (.cells #[.int .i64 a] 3 (0, 0))
  e : w.heap[B + 2]? = some (.cells #[.int .i64 e] 28 (0, 0))
/-- but for these, what was there is as it was -/
structure Oth3 (B : Nat) (w w' : World) : Prop where
  os : w'.os = w.os
  tape : w'.tape = w.tape
  output : w'.output = w.output
  size : w.heap.size ≤ w'.heap.size
  block : ∀ k, k < w.heap.size → k ≠ B → k ≠ B + 1 → k ≠ B + 2 → w'.heap[k]? = w.heap[k]?
def Caught (B : Nat) (a e : Int) (w w' : World) : Prop := Res3 B (.slice none 0 0) a e w' ∧ Oth3 B w w'
theorem caught_world {B : Nat} {v : Value} {a0 e0 : Int} {w : World} (h : Res3 B v a0 e0 w) (a e : Int) (o : Obj) :
    Caught B a e w (((((w.alloc o).setCell ⟨B, 0, none⟩ (.slice none 0 0)).setCell ⟨B + 1, 0, none⟩ (.int .i64 a)).setCell ⟨B + 2, 0, none⟩ (.int .i64 e)).drew) := by
  have h0 : B < w.heap.size := (Array.getElem?_eq_some_iff.1 h.v).1
  have h1 : B + 1 < w.heap.size := (Array.getElem?_eq_some_iff.1 h.a).1
  have h2 : B + 2 < w.heap.size := (Array.getElem?_eq_some_iff.1 h.e).1
  refine ⟨⟨?_, ?_, ?_⟩, ⟨rfl, rfl, rfl, ?_, ?_⟩⟩
  · show (((((w.alloc o).setCell ⟨B, 0, none⟩ (.slice none 0 0)).setCell ⟨B + 1, 0, none⟩ (.int .i64 a)).setCell ⟨B + 2, 0, none⟩ (.int .i64 e))).heap[B]? = _
    rw [heap_setCell_other _ ⟨B + 2, 0, none⟩ _ _ (by show B ≠ B + 2; omega), heap_setCell_other _ ⟨B + 1, 0, none⟩ _ _ (by show B ≠ B + 1; omega)]
    rw [heap_setCell_same _ B 0 #[v] TS _ ((Lib.alloc_old _ _ _ h0).trans h.v)]; rfl
  · show (((((w.alloc o).setCell ⟨B, 0, none⟩ (.slice none 0 0)).setCell ⟨B + 1, 0, none⟩ (.int .i64 a)).setCell ⟨B + 2, 0, none⟩ (.int .i64 e))).heap[B + 1]? = _
    rw [heap_setCell_other _ ⟨B + 2, 0, none⟩ _ _ (by show B + 1 ≠ B + 2; omega)]
    rw [heap_setCell_same _ (B + 1) 0 #[.int .i64 a0] 3 _ ((heap_setCell_other _ ⟨B, 0, none⟩ _ _ (by show B + 1 ≠ B; omega)).trans ((Lib.alloc_old _ _ _ h1).trans h.a))]; rfl
  · show (((((w.alloc o).setCell ⟨B, 0, none⟩ (.slice none 0 0)).setCell ⟨B + 1, 0, none⟩ (.int .i64 a)).setCell ⟨B + 2, 0, none⟩ (.int .i64 e))).heap[B + 2]? = _
    rw [heap_setCell_same _ (B + 2) 0 #[.int .i64 e0] 28 _ ((heap_setCell_other _ ⟨B + 1, 0, none⟩ _ _ (by show B + 2 ≠ B + 1; omega)).trans ((heap_setCell_other _ ⟨B, 0, none⟩ _ _ (by show B + 2 ≠ B; omega)).trans ((Lib.alloc_old _ _ _ h2).trans h.e)))]; rfl
  · show w.heap.size ≤ (((((w.alloc o).setCell ⟨B, 0, none⟩ (.slice none 0 0)).setCell ⟨B + 1, 0, none⟩ (.int .i64 a)).setCell ⟨B + 2, 0, none⟩ (.int .i64 e))).heap.size
    simp
  · intro k hk k0 k1 k2
    show (((((w.alloc o).setCell ⟨B, 0, none⟩ (.slice none 0 0)).setCell ⟨B + 1, 0, none⟩ (.int .i64 a)).setCell ⟨B + 2, 0, none⟩ (.int .i64 e))).heap[k]? = _
    rw [heap_setCell_other _ ⟨B + 2, 0, none⟩ _ _ k2, heap_setCell_other _ ⟨B + 1, 0, none⟩ _ _ k1, heap_setCell_other _ ⟨B, 0, none⟩ _ _ k0]
    exact Lib.alloc_old _ _ _ hk
def FinC (B : Nat) (a e : Int) (w : World) (x : Exit) (c : Act) (w' : World) : Prop := x = .normal ∧ c.defers = [] ∧ Caught B a e w w'
set_option maxRecDepth 100000 in
set_option maxHeartbeats 4000000 in
theorem catch_panicking (B : Nat) (v : Value) (a0 e0 a e : Int) (older : List PanicEntry) (w : World) (h : Res3 B v a0 e0 w) :
    CallsD Tryz.prog 61 #[.pointer (some ⟨B, 0, none⟩), .pointer (some ⟨B + 1, 0, none⟩), .pointer (some ⟨B + 2, 0, none⟩)] (.panicking ({ v := flaw a e, recovered := false } :: older)) w fun x u' w' =>
      x = .returned (.tuple #[]) ∧ u' = .panicking ({ v := flaw a e, recovered := true } :: older) ∧ Caught B a e w w' := by
  have hlt : B + 2 < w.heap.size := (Array.getElem?_eq_some_iff.1 h.e).1
  refine callsD_of_wpS Tryz.func61 rfl fun c₀ cs hu => ?_
  apply wpS_seq
  apply wpS_region
  simp [wpOpsS, go_sem, recoverD, hu, Tryz.ntmps61, Exit.thenS]
  refine wpS_of_wp (wp_mono (Q := FinC B a e w) ?_ ?_)
  · clear hu
    have hta : ∀ w, (Instr.typeAssert (flaw a e) 20 TF true).run Tryz.prog w = .ok (.tuple #[.agg #[.int .i64 a, .int .i64 e], .bool true]) w := fun _ => by kernel_rfl
    have H := Lib.hid h
    clear h
    show Code.wp _ _ _ { tmps := #[.pointer (some ⟨B, 0, none⟩), .pointer (some ⟨B + 1, 0, none⟩), .pointer (some ⟨B + 2, 0, none⟩), undef, undef, undef, flaw a e, undef, undef, undef, undef, undef, undef, undef, undef, undef], defers := [] } _
    go_wp2
    obtain ⟨WA, hWA⟩ : ∃ WA, WA = w.alloc (.cells #[.int .i64 a, .int .i64 e] 114) := ⟨_, rfl⟩
    have h0 : B < w.heap.size := by omega
    have h1 : B + 1 < w.heap.size := by omega
    have z0 := (Lib.alloc_old w (.cells #[.int .i64 a, .int .i64 e] 114) _ h0).trans H.out.v
    have z1 := (Lib.alloc_old w (.cells #[.int .i64 a, .int .i64 e] 114) _ h1).trans H.out.a
    have z2 := (Lib.alloc_old w (.cells #[.int .i64 a, .int .i64 e] 114) _ hlt).trans H.out.e
    have zx := heap_alloc_new w (.cells #[.int .i64 a, .int .i64 e] 114)
    rw [← hWA] at z0 z1 z2 zx ⊢
    have k0 : WA.cell? ⟨B, 0, none⟩ = some v := Lib.cell_of_heap z0 0
    have k1 : WA.cell? ⟨B + 1, 0, none⟩ = some (.int .i64 a0) := Lib.cell_of_heap z1 0
    have k2 : WA.cell? ⟨B + 2, 0, none⟩ = some (.int .i64 e0) := Lib.cell_of_heap z2 0
    have x0 : WA.cell? ⟨w.heap.size, 0, none⟩ = some (.int .i64 a) := Lib.cell_of_heap zx 0
    have x1 : WA.cell? ⟨w.heap.size, 1, none⟩ = some (.int .i64 e) := Lib.cell_of_heap zx 1
    have f0 : WA.frozen? ⟨B, 0, none⟩ = false := Lib.frozen_of_heap z0 0
    have f1 : WA.frozen? ⟨B + 1, 0, none⟩ = false := Lib.frozen_of_heap z1 0
    have f2 : WA.frozen? ⟨B + 2, 0, none⟩ = false := Lib.frozen_of_heap z2 0
    have HWA := Lib.hid hWA
    clear hWA z0 z1 z2 zx
    go_region
    all_goals (go_wp2_with fail; refine ⟨rfl, rfl, ?_⟩; rw [HWA.out]; exact caught_world H.out a e _)
  · rintro x c w' ⟨rfl, hd, hc⟩
    simp [bodyPostS, results, Tryz.results61, hd]
    exact hc
set_option maxRecDepth 100000 in
set_option maxHeartbeats 4000000 in
theorem catch_idle (B : Nat) (w : World) :
    CallsD Tryz.prog 61 #[.pointer (some ⟨B, 0, none⟩), .pointer (some ⟨B + 1, 0, none⟩), .pointer (some ⟨B + 2, 0, none⟩)] .returning w fun x u' w' => x = .returned (.tuple #[]) ∧ u' = .returning ∧ w' = w := by
  refine callsD_of_wpS Tryz.func61 rfl fun c₀ cs hu => ?_
  apply wpS_seq
  apply wpS_region
  simp [wpOpsS, go_sem, recoverD, hu, Tryz.ntmps61, Exit.thenS]
  refine wpS_of_wp (wp_mono (Q := fun x c w' => x = .normal ∧ c.defers = [] ∧ w' = w) ?_ ?_)
  · show Code.wp _ _ _ { tmps := #[.pointer (some ⟨B, 0, none⟩), .pointer (some ⟨B + 1, 0, none⟩), .pointer (some ⟨B + 2, 0, none⟩), undef, undef, undef, .nilIface, undef, undef, undef, undef, undef, undef, undef, undef, undef], defers := [] } _
    clear hu
    go_wp2
  · rintro x c w' ⟨rfl, hd, rfl⟩
    cases c₀
    simp_all [bodyPostS, results, Tryz.results61]
end LxC
end Go.Proofs.YtnlbhnmiekanfaaGreatDoor
