/-
  Load of an image that does not fit, and Bytes outside of the memory: each a contract. No condition but those that are written at each.
-/
import Derived.Test.YtanlccnhkiibeaaMachR
namespace Go.Proofs.Ytanlccnhkiibeaa
open Go.RowKit
set_option linter.unusedVariables false
set_option linter.unusedSimpArgs false
namespace MZ
open MM MC MB MP MQ
/-- what Load answers to an image that does not fit -/
def Refused (w : World) (r : Ending) (w' : World) : Prop := r = .returned (.tuple #[.pointer none, .int .i64 1]) ∧ Below w.heap.size w w'
theorem load_stack (e : Int) (p : Option Addr) (n cc : Nat) (stack : Int) (hn : n ≤ 4000) (hs : stack < 0 ∨ 2097152 - MW.up n < stack) (hw : (Lit.int .i64 stack).wf = true) (w : World) :
    Calls Try.prog 9 #[.agg #[.int .i64 e, .slice p n cc], .int .i64 stack] w (Refused w) := by
  have cl1 := fun w => MW.inLine_ n (by omega) (by omega) w
  have hu : (n : Int) ≤ MW.up n ∧ MW.up n ≤ n + 15 := by unfold MW.up; omega
  generalize MW.up n = u at *
  by_cases h1 : stack < 0
  · go_enter Try.func9, Try.ntmps9
    go_wp2_with (go_at_call 22; (with_reducible refine (cl1 _).mono ?_); rintro e1 w1 ⟨rfl, rfl⟩)
    all_goals first | (exfalso; omega) | (go_ret2; exact ⟨rfl, (Below.refl _ _).alloc (Nat.le_refl _) _⟩)
  · have h2 : 2097152 - u < stack := by omega
    clear hs
    go_enter Try.func9, Try.ntmps9
    go_wp2_with (go_at_call 22; (with_reducible refine (cl1 _).mono ?_); rintro e1 w1 ⟨rfl, rfl⟩)
    all_goals first | (exfalso; omega) | (go_ret2; exact ⟨rfl, (Below.refl _ _).alloc (Nat.le_refl _) _⟩)
theorem load_entry (e : Int) (p : Option Addr) (n cc : Nat) (stack : Int) (hn : n ≤ 4000) (h1 : ¬ stack < 0) (h2 : ¬ 2097152 - MW.up n < stack) (he : e < 0 ∨ 4294967295 < e) (w : World) :
    Calls Try.prog 9 #[.agg #[.int .i64 e, .slice p n cc], .int .i64 stack] w (Refused w) := by
  have cl1 := fun w => MW.inLine_ n (by omega) (by omega) w
  have hu : (n : Int) ≤ MW.up n ∧ MW.up n ≤ n + 15 := by unfold MW.up; omega
  generalize MW.up n = u at *
  by_cases h3 : e < 0
  · go_enter Try.func9, Try.ntmps9
    go_wp2_with (go_at_call 22; (with_reducible refine (cl1 _).mono ?_); rintro e1 w1 ⟨rfl, rfl⟩)
    all_goals first | (exfalso; omega) | (go_ret2; exact ⟨rfl, (Below.refl _ _).alloc (Nat.le_refl _) _⟩)
  · have h4 : 4294967295 < e := by omega
    clear he
    go_enter Try.func9, Try.ntmps9
    go_wp2_with (go_at_call 22; (with_reducible refine (cl1 _).mono ?_); rintro e1 w1 ⟨rfl, rfl⟩)
    all_goals first | (exfalso; omega) | (go_ret2; exact ⟨rfl, (Below.refl _ _).alloc (Nat.le_refl _) _⟩)
section
variable {w : World} {b bm N : Nat} {s : St}
theorem word_out (A : At w b bm N s) (r : Int) (hr : r < 0 ∨ 32 ≤ r) : Calls Try.prog 13 #[.pointer (some ⟨b, 0, none⟩), .int .i64 r] w fun e w' => e = .returned (.int .u32 0) ∧ w = w' := by
  by_cases h : r < 0
  · go_enter Try.func13, Try.ntmps13
    go_wp2
    go_ret
    exact ⟨rfl, rfl⟩
  · have h2 : 32 ≤ r := by omega
    clear hr
    go_enter Try.func13, Try.ntmps13
    go_wp2
    go_ret
    exact ⟨rfl, rfl⟩
theorem real_out (A : At w b bm N s) (r : Int) (hr : r < 0 ∨ 32 ≤ r) : Calls Try.prog 21 #[.pointer (some ⟨b, 0, none⟩), .int .i64 r] w fun e w' => e = .returned (.int .u64 0) ∧ w = w' := by
  by_cases h : r < 0
  · go_enter Try.func21, Try.ntmps21
    go_wp2
    go_ret
    exact ⟨rfl, rfl⟩
  · have h2 : 32 ≤ r := by omega
    clear hr
    go_enter Try.func21, Try.ntmps21
    go_wp2
    go_ret
    exact ⟨rfl, rfl⟩
/-- Bytes, outside -/
theorem bytes_out (A : At w b bm N s) (hN : N ≤ 2097152) (a n : Int) (h : a < 0 ∨ n < 0 ∨ (N : Int) < n ∨ (N : Int) - n < a) : Calls Try.prog 11 #[.pointer (some ⟨b, 0, none⟩), .int .i64 a, .int .i64 n] w fun e w' => e = .returned (.tuple #[.slice none 0 0, .int .i64 1]) ∧ w = w' := by
  have x0 := A.c0
  clear A
  by_cases h1 : a < 0
  · go_enter Try.func11, Try.ntmps11
    go_wp2
    all_goals first | (exfalso; omega) | (go_ret2; exact ⟨rfl, rfl⟩)
  · by_cases h2 : n < 0
    · go_enter Try.func11, Try.ntmps11
      go_wp2
      all_goals first | (exfalso; omega) | (go_ret2; exact ⟨rfl, rfl⟩)
    · by_cases h3 : (N : Int) < n
      · go_enter Try.func11, Try.ntmps11
        go_wp2
        all_goals first | (exfalso; omega) | (go_ret2; exact ⟨rfl, rfl⟩)
      · have h4 : (N : Int) - n < a := by omega
        clear h
        go_enter Try.func11, Try.ntmps11
        go_wp2
        all_goals first | (exfalso; omega) | (go_ret2; exact ⟨rfl, rfl⟩)
end
end MZ
end Go.Proofs.Ytanlccnhkiibeaa
