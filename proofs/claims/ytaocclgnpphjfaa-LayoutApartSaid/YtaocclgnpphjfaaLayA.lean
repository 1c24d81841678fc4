/-
  The statements' fixed fact: a contract. Condition: none.
-/
import Derived.Test.YtaocclgnpphjfaaLayO
namespace Go.Proofs.Ytaocclgnpphjfaa
open Go.RowKit
set_option linter.unusedVariables false
set_option linter.unusedSimpArgs false
namespace LA
open LM OO LC LL LS LO
theorem lay1 {W : World} {g : Nat} {pa pb : Option Addr} {T : TypeId} (h : W.heap[g]? = some (.cells #[.slice pa 2 2, .slice pb 8 8, .slice none 0 0, .slice none 0 0] T (0, 0))) :
    Calls Try.prog 26 #[.slice (some ⟨g, 0, none⟩) 1 1] W fun e w' => ∃ b o c, e = .returned (.tuple #[.slice (some ⟨b, o, none⟩) 1 c, .int .i64 32, .int .i64 0]) ∧ w'.cell? ⟨b, o, none⟩ = some (.int .i64 12) ∧ w'.cell? ⟨b, o + 1, none⟩ = some (.int .i64 24) ∧ Below W.heap.size W w' := by
  refine (Layout_ (w := W) (n₀ := W.heap.size) (l := [(2, 8)]) (Nat.le_refl _) ⟨_, _, rfl, fun _ => ⟨g, 0, rfl, lt_heap h, Nat.le_refl _, by decide, fun i x hi => ?_⟩⟩ (by decide) (by decide)).mono ?_
  · match i, hi with
    | 0, hi =>
      cases hi
      exact ⟨pa, 2, pb, 8, none, 0, 0, none, 0, 0, Lib.cell_of_heap h 0, Lib.cell_of_heap h 1, Lib.cell_of_heap h 2, Lib.cell_of_heap h 3⟩
    | i + 1, hi => simp at hi
  · rintro e w' ⟨hb, ⟨-, p, c, rfl, hp⟩ | ⟨h, -⟩⟩
    · obtain ⟨p', c', e, hh⟩ := hp
      cases e
      obtain ⟨b, o, rfl, -, -, -, hc⟩ := hh (by decide)
      have h0 := hc 0 (by decide)
      exact ⟨b, o, c, rfl, h0.1, h0.2, hb⟩
    · exact absurd h (by decide)
theorem mkw2 (w : World) : (Instr.makeSlice 25 (.int .i64 2) (.int .i64 2)).run Try.prog w = .ok (.slice (some ⟨w.heap.size, 0, none⟩) 2 2) (w.alloc (.cells (zw 2) 53)) :=
  run_make_row' 25 53 (.int .u32 0) 4 Try.underlying25 info32 rfl .i64 .i64 2 (by omega) (by omega) w
theorem mkb8 (w : World) : (Instr.makeSlice 26 (.int .i64 8) (.int .i64 8)).run Try.prog w = .ok (.slice (some ⟨w.heap.size, 0, none⟩) 8 8) (w.alloc (.cells (zb 8) 5)) :=
  run_make_row' 26 5 (.int .u8 0) 1 Try.underlying26 info8 rfl .i64 .i64 8 (by omega) (by omega) w
set_option maxRecDepth 100000 in
set_option maxHeartbeats 4000000 in
theorem awake_ (w : World) : Calls Try.prog 24 #[] w fun e w' => e = .returned (.bool true) ∧ Below w.heap.size w w' := by
  have m1 := mkw2
  have m2 := mkb8
  go_enter Try.func24, Try.ntmps24
  go_upto_region 1 with fail
  go_region_with (go_at_call 26; (with_reducible refine (lay1 (newd _ _ _ (by simp only [World.size_alloc]))).mono ?_); rintro e w4 ⟨b, o, c, rfl, k0, k1, hb4⟩; have HB4 := Lib.hid hb4; clear hb4)
  all_goals
    go_wp2
    go_ret
    exact ⟨rfl, (((((Below.refl _ _).alloc (Nat.le_refl _) _).alloc (by simp only [World.size_alloc]; omega) _).alloc (by simp only [World.size_alloc]; omega) _).drew).trans (HB4.out.mono (by simp only [World.size_drew, World.size_alloc]; omega))⟩
end LA
end Go.Proofs.Ytaocclgnpphjfaa
