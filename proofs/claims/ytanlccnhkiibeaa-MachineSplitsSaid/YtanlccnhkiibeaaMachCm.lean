/-
  Load of an image of no bytes: a contract. No condition but those that are written at each.
-/
import Derived.Test.YtanlccnhkiibeaaMachCl
import Derived.Laws.IdiomCopy
namespace Go.Proofs.Ytanlccnhkiibeaa
open Go.RowKit
set_option linter.unusedVariables false
set_option linter.unusedSimpArgs false
namespace MW
open MM MC
set_option maxRecDepth 100000 in
set_option maxHeartbeats 2000000 in
/-- an image of no bytes -/
theorem load_none (e : Int) (he : 0 ≤ e ∧ e ≤ 4294967295) (p : Option Addr) (cc : Nat) (stack : Int) (hs : 0 ≤ stack) (hs2 : stack + up 0 ≤ 2097152) (N : Nat) (hN : up (up 0 + stack) = N) (f : Nat → Int) (w : World) :
    Calls Try.prog 9 #[.agg #[.int .i64 e, .slice p 0 cc], .int .i64 stack] w fun e1 w' => ∃ b bm, e1 = .returned (.tuple #[.pointer (some ⟨b, 0, none⟩), .int .i64 0]) ∧ At w' b bm N (loaded f 0 (up 0) N e) ∧ w.heap.size ≤ b ∧ w.heap.size ≤ bm ∧ Below w.heap.size w w' := by
  have cl1 : ∀ w, Calls Try.prog 22 #[.int .i64 0] w fun e w' => e = .returned (.int .i64 (up 0)) ∧ w = w' := fun w => inLine_ 0 (by omega) (by omega) w
  have hu : (0 : Int) ≤ up 0 ∧ up 0 ≤ 0 + 15 := by unfold up; omega
  have hN2 : up 0 + stack ≤ N ∧ (N : Int) ≤ 2097152 := by rw [← hN]; unfold up at hs2 ⊢; omega
  generalize up 0 = u at *
  have cl2 := fun w => inLine_ (u + stack) (by omega) (by omega) w
  rw [hN] at cl2
  have f1 : ¬ 2097152 - u < stack := by omega
  have f2 : ¬ stack < 0 := by omega
  have f3 : ¬ e < 0 := by omega
  have f4 : ¬ 4294967295 < e := by omega
  have i1 : IntKind.i64.wrap (u + stack) = u + stack := by rw [IntKind.wrap_i64]; omega
  have i2 : (0 : Int) ≤ u := by omega
  have i3 : IntKind.u32.wrap e = e := by rw [IntKind.wrap_u32']; omega
  have hmk := fun w => make_ N (by omega) w
  have HZ := Lib.hid (zero_cells (w.heap.size + 1) N e)
  clear hN
  go_enter Try.func9, Try.ntmps9
  go_wp2_with (go_at_call 22; (with_reducible refine (cl1 _).mono ?_); rintro e1 w1 ⟨rfl, rfl⟩)
  go_region_held3 (fun w' => w'.cell? ⟨w.heap.size, 0, none⟩ = some (.int .i64 e)) (first | go_keep)
    ((go_at_call 22; (with_reducible refine (cl2 _).mono ?_); rintro e2 w2 ⟨rfl, rfl⟩))
  clear i1 i3 hmk cl1 cl2
  rw [HZ.out]
  generalize hW : ((((w.alloc (.cells #[.int .i64 e, .slice p 0 cc] 31)).alloc (.cells (row N fun _ => .int .u8 0) 5)).alloc (.cells (cells (w.heap.size + 1) N (zero e)) 69)).drew) = W
  have w1 : W.heap[w.heap.size + 1 + 1]? = some (.cells (cells (w.heap.size + 1) N (zero e)) 69 (0, 0)) := by
    subst hW; exact new_at _ _ _ (by simp)
  have w2 : W.heap[w.heap.size + 1]? = some (.cells (row N fun _ => .int .u8 0) 5 (0, 0)) := by
    subst hW
    exact (Below.heap_alloc _ _ _ (by simp)).trans (new_at _ _ _ (by simp))
  have w3 : W.cell? ⟨w.heap.size, 1, none⟩ = some (.slice p 0 cc) := by subst hW; go_simp
  have wb : Below w.heap.size w W := by
    subst hW
    exact ((((Below.refl _ _).alloc (Nat.le_refl _) _).alloc (by simp) _).alloc (by simp; omega) _).drew
  have wn : w.heap.size + 1 + 1 < W.heap.size := lt_of_get w1
  have w4 : W.cell? ⟨w.heap.size + 1 + 1, 0, none⟩ = some (.slice (some ⟨w.heap.size + 1, 0, none⟩) N N) := (cell_of_row W _ 0 _ _ _ w1).trans (cell_0 _ _ _)
  have W1 := Lib.hid w1
  have W2 := Lib.hid w2
  clear w1 w2 hW HZ
  go_wp2
  refine tail_ 6 (by kernel_rfl) (by kernel_rfl) ?_
  simp only [List.take_succ_cons, List.take_zero, List.drop_succ_cons, List.drop_zero]
  repeat still_step
  refine wpStill_nil ?_
  have hcp := fun (W : World) (ty : TypeId) => run_copy_none (P := Try.prog) W 22 22 ty 5 (some ⟨w.heap.size + 1, 0, none⟩) p N N 0 cc Try.underlying22 (by kernel_rfl) (Nat.zero_min N)
  go_wp2
  generalize hV : W.drew = V
  have A2 : At V (w.heap.size + 1 + 1) (w.heap.size + 1) N { zero e with mem := bytesOf f 0 } := by
    subst hV
    refine ⟨W1.out, ?_, by omega⟩
    have e : (row N fun _ => Value.int .u8 0) = MC.bytes N { zero e with mem := bytesOf f 0 } := by
      unfold MC.bytes
      congr 1
    rw [← e]
    exact W2.out
  have wb2 : Below w.heap.size w V := by subst hV; exact wb.drew
  have v1 := A2.c0
  have v2 : V.cell? ⟨w.heap.size + 1 + 1, 3, none⟩ = _ := A2.cx (i := 2) (by omega)
  have v3 : V.cell? ⟨w.heap.size + 1 + 1, 28, none⟩ = _ := A2.cx (i := 27) (by omega)
  have v4 := A2.fb 3
  have v5 := A2.fb 28
  have i5 : IntKind.u32.wrap (N : Int) = N := by rw [IntKind.wrap_u32']; omega
  have HA := Lib.hid A2
  have HB := Lib.hid wb2
  clear hV A2 W1 W2 wb w3 w4 wb2 hcp
  refine tail_ 10 (by kernel_rfl) (by kernel_rfl) ?_
  simp only [List.take_succ_cons, List.take_zero, List.drop_succ_cons, List.drop_zero]
  repeat still_step
  refine wpStill_nil ?_
  go_wp2
  go_ret2
  have A3 := (HA.out.set (s' := { zero e with mem := bytesOf f 0, x := upd (fun _ => 0) 2 (N : Int) }) 3 (.int .u32 N) (set_x _ N _ (i := 2) (by omega) _) rfl).set (s' := loaded f 0 u N e) 28 (.int .u32 u) (set_x _ N _ (i := 27) (by omega) _) rfl
  exact ⟨_, rfl, _, A3.kept rfl rfl, by omega, by omega, ((HB.out.setCell (by show w.heap.size ≤ w.heap.size + 1 + 1; omega) _).setCell (by show w.heap.size ≤ w.heap.size + 1 + 1; omega) _).drew⟩
end MW
end Go.Proofs.Ytanlccnhkiibeaa
