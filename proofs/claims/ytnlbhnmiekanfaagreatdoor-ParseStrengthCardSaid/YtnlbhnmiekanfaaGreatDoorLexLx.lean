/-
  Lex, told. Condition: the text is one that memory holds, Go's own variables lie, and real.Parse answers at the reals' texts that may stand there.
-/
import Derived.Test.YtnlbhnmiekanfaaGreatDoorLexTk
namespace Go.Proofs.YtnlbhnmiekanfaaGreatDoor
open Go.RowKit
set_option linter.unusedVariables false
set_option linter.unusedSimpArgs false
namespace LxC
open Lx
set_option maxRecDepth 100000 in
set_option maxHeartbeats 4000000 in
theorem lex_long_ (s : ByteArray) (w : World) (hs : s.size ≤ maxLen) (h : 8192 < s.size) :
    Calls Tryz.prog 17 #[.string s] w fun e w' => e = .returned (.tuple #[.slice none 0 0, .int .i64 0, .int .i64 6]) ∧ w = w' := by
  unfold maxLen at hs
  go_enter Tryz.func17, Tryz.ntmps17
  go_wp2
  go_ret3
  exact ⟨rfl, rfl⟩
/-- what Lex answers -/
theorem lex_ (s : ByteArray) (w : World) (hs : s.size ≤ maxLen) (hB : Base w.heap.size w) (hP : s.size ≤ 8192 → Parses w.heap.size w s) :
    Calls Tryz.prog 17 #[.string s] w (LexPost w (lex s.data.toList)) := by
  have hz : s.size = s.data.toList.length := by simp
  by_cases h : 8192 < s.size
  · rw [lex_long _ (by omega)]
    exact (lex_long_ s w hs h).mono fun e w' ⟨h1, h2⟩ => ⟨h1, by rw [← h2]; exact Below.refl _ _⟩
  · rw [lex_eq _ (by omega)]
    have ct := tokens_ s w (by omega) hB (hP (by omega))
    rw [at0] at ct
    obtain ⟨r, hr⟩ : ∃ r, tk s.data.toList 0 0 = r := ⟨_, rfl⟩
    rw [hr] at ct ⊢
    clear hr hB hP
    cases r with
    | ok ts =>
      have c : Calls Tryz.prog 38 #[.string s] w fun e w' => ∃ v, e = .returned (.tuple #[v, .int .i64 0, .int .i64 0]) ∧ TokAt w.heap.size w' v ts ∧ Below w.heap.size w w' := ct.mono fun e w' h => h
      clear ct hz
      have hd : decide ((s.size : Int) > 8192) = false := decide_eq_false (by omega)
      go_enter Tryz.func17, Tryz.ntmps17
      go_wp2_with (go_at_call 38; (with_reducible refine c.mono ?_); rintro e w' ⟨v, rfl, ht, hb⟩; have HT := Lib.hid ht; have HB := Lib.hid hb; clear ht hb)
      go_ret3
      exact ⟨v, rfl, HT.out, HB.out⟩
    | error x =>
      have c : Calls Tryz.prog 38 #[.string s] w fun e w' => e = .returned (.tuple #[.slice none 0 0, .int .i64 (x.1 : Int), .int .i64 x.2]) ∧ Below w.heap.size w w' := ct.mono fun e w' h => h
      clear ct hz
      go_enter Tryz.func17, Tryz.ntmps17
      go_wp2_with (go_at_call 38; (with_reducible refine c.mono ?_); rintro e w' ⟨rfl, hb⟩; have HB := Lib.hid hb; clear hb)
      go_ret3
      exact ⟨rfl, HB.out⟩
end LxC
end Go.Proofs.YtnlbhnmiekanfaaGreatDoor
