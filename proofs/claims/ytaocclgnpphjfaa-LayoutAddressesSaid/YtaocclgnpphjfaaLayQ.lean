/-
  Addresses, the program's and the document's: contracts. Condition: none but that the numbers are of their types.
-/
import Derived.Test.YtaocclgnpphjfaaLayP
namespace Go.Proofs.Ytaocclgnpphjfaa
open Go.RowKit
set_option linter.unusedVariables false
set_option linter.unusedSimpArgs false
namespace LQ
open OO OJ LM LC LP
theorem mod_bd (n : Int) : 0 ≤ n % 4294967296 ∧ n % 4294967296 < 4294967296 := by omega
set_option maxRecDepth 100000 in
theorem address_ (a b s n : Int) (w : World) : Calls Try.prog 47 #[.agg #[.int .i64 a, .int .i64 b], .int .i64 s, .int .i64 n] w fun e w' => e = .returned (.int .u32 (adr a b s n)) ∧ Below w.heap.size w w' := by
  have hb1 := (Below.refl w.heap.size w).alloc (Nat.le_refl _) (.cells #[.int .i64 a, .int .i64 b] 65)
  have HB := Lib.hid hb1
  clear hb1
  by_cases h1 : s = 1
  · subst h1
    go_enter Try.func47, Try.ntmps47
    go_wp2_with (go_at_call 58; (with_reducible refine (of_ _ _).mono ?_); rintro e w' ⟨rfl, rfl⟩)
    go_ret
    exact ⟨ret_int (by unfold adr; rw [if_pos rfl]; have h1 := wrap_mod (a + wrap64 (4 * n)); have h2 := wrap_mod (4 * n); omega), HB.out⟩
  · have d1 : decide (s = 1) = false := decide_eq_false h1
    by_cases h2 : s = 2
    · subst h2
      go_enter Try.func47, Try.ntmps47
      go_wp2_with (go_at_call 58; (with_reducible refine (of_ _ _).mono ?_); rintro e w' ⟨rfl, rfl⟩)
      go_ret
      exact ⟨ret_int (by unfold adr; rw [if_neg h1, if_pos rfl]; have h1 := wrap_mod (b + n); omega), HB.out⟩
    · have d2 : decide (s = 2) = false := decide_eq_false h2
      go_enter Try.func47, Try.ntmps47
      go_wp2_with (fail)
      go_ret
      exact ⟨ret_int (by unfold adr; rw [if_neg h1, if_neg h2]), HB.out⟩
theorem add_ (a b : Int) (ha : 0 ≤ a ∧ a < 4294967296) (hb : 0 ≤ b ∧ b < 4294967296) (w : World) : Calls Try.prog 49 #[.int .u32 a, .int .u32 b] w fun e w' => e = .returned (.int .u32 ((a + b) % 4294967296)) ∧ w' = w := by
  go_enter Try.func49, Try.ntmps49
  go_wp2_with (go_at_call 48; (with_reducible refine (rof_ _ _).mono ?_); rintro e w' ⟨rfl, rfl⟩)
  go_ret
  exact ⟨rfl, rfl⟩
set_option maxRecDepth 100000 in
theorem At_ (a b s n : Int) (w : World) : Calls Try.prog 29 #[.agg #[.int .i64 a, .int .i64 b], .int .i64 s, .int .i64 n] w fun e w' => e = .returned (.int .u32 (adr a b s n)) ∧ Below w.heap.size w w' := by
  have hb1 := (Below.refl w.heap.size w).alloc (Nat.le_refl _) (.cells #[.int .i64 a, .int .i64 b] 64)
  have HB := Lib.hid hb1
  clear hb1
  have m1 := mod_bd n
  have m2 := mod_bd a
  have m3 := mod_bd b
  obtain ⟨N, hN⟩ : ∃ N, N = n % 4294967296 := ⟨_, rfl⟩
  obtain ⟨D, hD⟩ : ∃ D, D = (N + N) % 4294967296 := ⟨_, rfl⟩
  obtain ⟨F, hF⟩ : ∃ F, F = (D + D) % 4294967296 := ⟨_, rfl⟩
  have r1 := mod_bd (N + N)
  have r2 := mod_bd (D + D)
  rw [← hN] at m1
  rw [← hD] at r1
  rw [← hF] at r2
  have cN := rof_ n
  rw [← hN] at cN
  have cD := add_ N N m1 m1
  rw [← hD] at cD
  have cF := add_ D D r1 r1
  rw [← hF] at cF
  have HNN := Lib.hid hN
  have HDD := Lib.hid hD
  have HFF := Lib.hid hF
  clear hN hD hF
  by_cases h1 : s = 1
  · subst h1
    go_enter Try.func29, Try.ntmps29
    go_wp2_with (first
      | (go_at_call 48; first | ((with_reducible refine (cN _).mono ?_); rintro e w' ⟨rfl, rfl⟩) | ((with_reducible refine (rof_ a _).mono ?_); rintro e w' ⟨rfl, rfl⟩))
      | (go_at_call 49; first | ((with_reducible refine (cD _).mono ?_); rintro e w' ⟨rfl, rfl⟩) | ((with_reducible refine (cF _).mono ?_); rintro e w' ⟨rfl, rfl⟩) | ((with_reducible refine (add_ _ _ m2 r2 _).mono ?_); rintro e w' ⟨rfl, rfl⟩)))
    go_ret
    exact ⟨ret_int (by have := HNN.out; have := HDD.out; have := HFF.out; unfold adr; rw [if_pos rfl]; omega), HB.out⟩
  · have d1 : decide (s = 1) = false := decide_eq_false h1
    by_cases h2 : s = 2
    · subst h2
      go_enter Try.func29, Try.ntmps29
      go_wp2_with (first
        | (go_at_call 48; first | ((with_reducible refine (cN _).mono ?_); rintro e w' ⟨rfl, rfl⟩) | ((with_reducible refine (rof_ b _).mono ?_); rintro e w' ⟨rfl, rfl⟩))
        | (go_at_call 49; ((with_reducible refine (add_ _ _ m3 m1 _).mono ?_); rintro e w' ⟨rfl, rfl⟩)))
      go_ret
      exact ⟨ret_int (by have := HNN.out; unfold adr; rw [if_neg h1, if_pos rfl]; omega), HB.out⟩
    · have d2 : decide (s = 2) = false := decide_eq_false h2
      go_enter Try.func29, Try.ntmps29
      go_wp2_with (go_at_call 48; ((with_reducible refine (cN _).mono ?_); rintro e w' ⟨rfl, rfl⟩))
      go_ret
      exact ⟨ret_int (by unfold adr; rw [if_neg h1, if_neg h2]), HB.out⟩
set_option maxRecDepth 100000 in
theorem Address_ (a b : Int) (s : SymV) (w : World) : Calls Try.prog 28 #[.agg #[.int .i64 a, .int .i64 b], .agg #[.string s.name, .int .i64 s.sect, .int .i64 s.val, .int .i64 s.frame, .bool s.glob]] w fun e w' => e = .returned (.int .u32 (adr a b s.sect s.val)) ∧ Below w.heap.size w w' := by
  go_enter Try.func28, Try.ntmps28
  go_wp2_with (go_at_call 47; (with_reducible refine (address_ _ _ _ _ _).mono ?_); rintro e w1 ⟨rfl, hb⟩; have HB := Lib.hid hb; clear hb)
  go_ret
  exact ⟨rfl, ((((Below.refl _ _).alloc (Nat.le_refl _) _).alloc (by simp only [World.size_alloc]; omega) _).trans (HB.out.mono (by simp only [World.size_alloc]; omega)))⟩
set_option maxRecDepth 100000 in
theorem Where_ (a b : Int) (s : RelV) (w : World) : Calls Try.prog 30 #[.agg #[.int .i64 a, .int .i64 b], .agg #[.int .i64 s.sect, .int .i64 s.place, .int .i64 s.kind, .int .i64 s.sym, .int .i64 s.add]] w fun e w' => e = .returned (.int .u32 (adr a b s.sect s.place)) ∧ Below w.heap.size w w' := by
  go_enter Try.func30, Try.ntmps30
  go_wp2_with (go_at_call 47; (with_reducible refine (address_ _ _ _ _ _).mono ?_); rintro e w1 ⟨rfl, hb⟩; have HB := Lib.hid hb; clear hb)
  go_ret
  exact ⟨rfl, ((((Below.refl _ _).alloc (Nat.le_refl _) _).alloc (by simp only [World.size_alloc]; omega) _).trans (HB.out.mono (by simp only [World.size_alloc]; omega)))⟩
end LQ
end Go.Proofs.Ytaocclgnpphjfaa
