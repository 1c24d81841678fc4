/-
  What package code finds wrong with an instruction's parts, a contract. Conditions: the kind is one of the eleven.
-/
import Derived.Test.YtlmblfkcmhgdaaaCodeI
namespace Go.Proofs.Ytlmblfkcmhgdaaa
open Go.RowKit
set_option linter.unusedVariables false
set_option linter.unusedSimpArgs false
namespace CV
open CC CW
/-- is part n not used, and not 0? -/
def bad (u p : Nat → Int) (n : Nat) : Bool := u (15 * n + 2) == 0 && p n != 0
/-- is it used, and outside? -/
def out (u p : Nat → Int) (n : Nat) : Bool := u (15 * n + 2) != 0 && !CG.holds (u (15 * n)) (u (15 * n + 1)) (u (15 * n + 2)) (p n)
def st (u p : Nat → Int) : Nat → Int
  | 0 => 0
  | n + 1 => if out u p n then 1 else st u p n
def faultG (u p : Nat → Int) : Int := if bad u p 0 || bad u p 1 || bad u p 2 || bad u p 3 then 2 else st u p 4
theorem faultG_bad {u p : Nat → Int} {n : Nat} (hn : n < 4) (h : bad u p n = true) : faultG u p = 2 := by
  unfold faultG
  rcases (show n = 0 ∨ n = 1 ∨ n = 2 ∨ n = 3 by omega) with e | e | e | e <;> subst e <;> simp [h]
theorem faultG_st {u p : Nat → Int} (h : ∀ n, n < 4 → bad u p n = false) : faultG u p = st u p 4 := by
  unfold faultG
  rw [h 0 (by omega), h 1 (by omega), h 2 (by omega), h 3 (by omega)]; rfl
theorem st_out {u p : Nat → Int} {n : Nat} (h : out u p n = true) : st u p (n + 1) = 1 := by rw [st, if_pos h]
theorem st_in {u p : Nat → Int} {n : Nat} (h : out u p n = false) : st u p (n + 1) = st u p n := by rw [st, h]; rfl
theorem grdrew {w wr : World} {bi bu : Nat} {k : Int} {I : Array Value} (g : Gr w wr bi bu k I) : Gr w wr.drew bi bu k I := ⟨g.hi, g.hu, ⟨g.below.os, g.below.tape, g.below.output, g.below.size, g.below.block⟩⟩
theorem gr_box (w w2 : World) (k : Int) (I : Array Value) (hb : Below ((w.alloc (.cells (CM.uA k) 91)).alloc (.cells I 73)).heap.size ((w.alloc (.cells (CM.uA k) 91)).alloc (.cells I 73)) w2) : Gr w w2 (w.heap.size + 1) w.heap.size k I := by
  refine ⟨?_, ?_, ?_⟩
  · rw [hb.block _ (by simp only [World.size_alloc]; omega)]
    exact newAt _ _ _ (by simp)
  · rw [hb.block _ (by simp only [World.size_alloc]; omega), Below.heap_alloc _ _ _ (by simp only [World.size_alloc]; omega)]
    exact newAt _ _ _ rfl
  · exact (((Below.refl _ _).alloc (Nat.le_refl _) _).alloc (by simp) _).trans (hb.mono (by simp; omega))
/-- a use's cells, its least, most and step by name -/
def cs15 (L M S k : Int) (n : Nat) : Array Value := #[.int .i64 L, .int .i64 M, .int .i64 S, .int .i64 (CM.uv k (15 * n + 3)), .int .i64 (CM.uv k (15 * n + 4)), .int .i64 (CM.uv k (15 * n + 5)), .int .i64 (CM.uv k (15 * n + 6)), .int .i64 (CM.uv k (15 * n + 7)), .int .i64 (CM.uv k (15 * n + 8)), .int .i64 (CM.uv k (15 * n + 9)), .int .i64 (CM.uv k (15 * n + 10)), .int .i64 (CM.uv k (15 * n + 11)), .int .i64 (CM.uv k (15 * n + 12)), .int .i64 (CM.uv k (15 * n + 13)), .int .i64 (CM.uv k (15 * n + 14))]
end CV
end Go.Proofs.Ytlmblfkcmhgdaaa
