/-
  The program's check of what has too much, or a length that is no multiple of 8: it throws a flaw. No condition.
-/
import Derived.Test.YtlmblfkcmhgdaaaObjF
import Derived.Deep.DeepCutAuto
namespace Go.Proofs.Ytlmblfkcmhgdaaa
open Go.RowKit
set_option linter.unusedVariables false
set_option linter.unusedSimpArgs false
namespace OCh
open OO OJ OF
abbrev TO : TypeId := 31
def CkEnd (b : Bool) (w : World) (e : Ending) (w' : World) : Prop := e = (if b then .returned (.tuple #[]) else thrown) ∧ Below w.heap.size w w'
theorem demand_t (b : Bool) (h : b = true) (w : World) : Calls Try.prog 20 #[.bool b] w fun e w' => e = .returned (.tuple #[]) ∧ w = w' := by
  rw [h]; exact demand_yes w
theorem demand_f (b : Bool) (h : b = false) (w : World) : Calls Try.prog 20 #[.bool b] w fun e w' => e = thrown ∧ w = w' := by
  rw [h]; exact demand_no w
set_option maxRecDepth 100000 in
set_option maxHeartbeats 4000000 in
theorem lens_no {n0 n1 n2 n3 q0 q1 q2 q3 : Nat} {p0 p1 p2 p3 : Option Addr} (w : World) (m0 : n0 ≤ maxLen) (m1 : n1 ≤ maxLen) (m2 : n2 ≤ maxLen) (m3 : n3 ≤ maxLen)
    (h : ¬ (n0 ≤ 65536 ∧ n1 ≤ 65536 ∧ n1 % 8 = 0 ∧ n2 ≤ 600 ∧ n3 ≤ 65536)) :
    Calls Try.prog 18 #[.agg #[.slice p0 n0 q0, .slice p1 n1 q1, .slice p2 n2 q2, .slice p3 n3 q3]] w (CkEnd false w) := by
  unfold maxLen at m0 m1 m2 m3
  by_cases h0 : (n0 : Int) ≤ 65536
  all_goals by_cases h1 : (n1 : Int) ≤ 65536
  all_goals by_cases h8 : (n1 : Int) % 8 = 0
  all_goals by_cases h2 : (n2 : Int) ≤ 600
  all_goals by_cases h3 : (n3 : Int) ≤ 65536
  all_goals first
    | (exfalso; omega)
    | skip
  all_goals
    first
      | (have d0 : decide ((n0 : Int) ≤ 65536) = true := decide_eq_true h0)
      | (have d0 : decide ((n0 : Int) ≤ 65536) = false := decide_eq_false (by omega))
  all_goals
    first
      | (have d1 : decide ((n1 : Int) ≤ 65536) = true := decide_eq_true h1)
      | (have d1 : decide ((n1 : Int) ≤ 65536) = false := decide_eq_false (by omega))
  all_goals
    first
      | (have d2 : decide ((n2 : Int) ≤ 600) = true := decide_eq_true h2)
      | (have d2 : decide ((n2 : Int) ≤ 600) = false := decide_eq_false (by omega))
  all_goals
    first
      | (have d3 : decide ((n3 : Int) ≤ 65536) = true := decide_eq_true h3)
      | (have d3 : decide ((n3 : Int) ≤ 65536) = false := decide_eq_false (by omega))
  all_goals first
    | (clear h
       go_enter Try.func18, Try.ntmps18
       go_wp2_with (first
         | (go_at_call 20; (with_reducible refine (demand_t _ ?_ _).mono ?_); (focus first | rfl | (simp; done) | (simp; omega)); rintro e w1 ⟨rfl, rfl⟩)
         | (go_at_call 20; (with_reducible refine (demand_f _ ?_ _).mono ?_); (focus first | rfl | (simp; done) | (simp; omega)); rintro e w1 ⟨rfl, rfl⟩))
       exact ⟨rfl, (⟨rfl, (Below.refl _ _).alloc (Nat.le_refl _) _⟩ : CkEnd false w thrown _)⟩)
end OCh
end Go.Proofs.Ytlmblfkcmhgdaaa
