/-
  Which texts are reals', told. Condition: the text is one that memory holds.
-/
import Derived.Test.YtnlbhnmiekanfaaGreatDoorLexS2
namespace Go.Proofs.YtnlbhnmiekanfaaGreatDoor
open Go.RowKit
set_option linter.unusedVariables false
set_option linter.unusedSimpArgs false
namespace LxC
open Lx
set_option maxRecDepth 100000 in
set_option maxHeartbeats 8000000 in
theorem isText_long (s : ByteArray) (w : World) (hs : s.size ≤ 8192) (h : 40 < s.size) : Calls Tryz.prog 216 #[.string s] w fun e w' => e = .returned (.bool (isReal s.data.toList)) ∧ w = w' := by
  have hz : s.size = s.data.toList.length := by simp
  have A1 : Aside (isReal s.data.toList = false) := by
    show _ = _
    unfold isReal
    rw [show decide (s.data.toList.length ≤ 40) = false from decide_eq_false (by omega), Bool.false_and]
  clear hz
  go_enter Tryz.func216, Tryz.ntmps216
  go_wp2
  go_ret
  exact ⟨ret_bool A1.out.symm, rfl⟩
set_option maxRecDepth 100000 in
set_option maxHeartbeats 8000000 in
theorem isText_ (s : ByteArray) (w : World) (hs : s.size ≤ 8192) : Calls Tryz.prog 216 #[.string s] w fun e w' => e = .returned (.bool (isReal s.data.toList)) ∧ w = w' := by
  by_cases h40 : 40 < s.size
  · exact isText_long s w hs h40
  have hz : s.size = s.data.toList.length := by simp
  have A1 : Aside (isReal s.data.toList = (decide (0 < cnt digit (at_ s 0)) &&
      (sees (isB 46) (at_ s (cnt digit (at_ s 0))) && (decide (0 < cnt digit (at_ s (cnt digit (at_ s 0) + 1))) && isTail (at_ s (cnt digit (at_ s 0) + 1 + cnt digit (at_ s (cnt digit (at_ s 0) + 1)))))))) := by
    show _ = _
    unfold isReal
    rw [show decide (s.data.toList.length ≤ 40) = true from decide_eq_true (by omega), Bool.true_and]
    rfl
  have c1 := fun w => countDigits_ s w (by omega)
  have hal := cnt_at_le digit s 0 (Nat.zero_le _)
  rw [Nat.zero_add] at hal
  generalize cnt digit (at_ s 0) = a at *
  have cc := fun w => Tryz.strings_CutPrefix (s.extract a s.size) ⟨#[46]⟩ w
  have ex : (s.extract a s.size).data.toList = at_ s a := by rw [extract_list, List.take_of_length_le (by rw [at_len]; exact Nat.le_refl _)]
  rw [show (ByteArray.mk #[46]).data.toList = [46] from rfl, trim1, prefix1, ex] at cc
  obtain ⟨t, ht⟩ : ∃ t : ByteArray, t = ⟨(if sees (isB 46) (at_ s a) then (at_ s a).drop 1 else at_ s a).toArray⟩ := ⟨_, rfl⟩
  rw [← ht] at cc
  have htl : t.data.toList = if sees (isB 46) (at_ s a) then (at_ s a).drop 1 else at_ s a := by rw [ht]
  have hts : t.size ≤ 40 := by
    rw [ht, size_mk]
    split
    · rw [List.length_drop, at_len]; omega
    · rw [at_len]; omega
  have c2 := fun w => countDigits_ t w (by omega)
  have hbl := cnt_at_le digit t 0 (Nat.zero_le _)
  rw [Nat.zero_add] at hbl
  clear ht ex hz
  cases hp : sees (isB 46) (at_ s a) with
  | false =>
    have A2 : Aside (isReal s.data.toList = false) := by show _ = _; rw [A1.out, hp]; simp
    rw [hp] at cc
    clear A1 hp htl
    generalize cnt digit (at_ t 0) = b at *
    by_cases ha : 0 < a
    all_goals
      go_enter Tryz.func216, Tryz.ntmps216
      go_wp2_with (first
        | ((with_reducible refine (c1 _).mono ?_); rintro e w' ⟨rfl, rfl⟩)
        | ((with_reducible refine (cc _).mono ?_); rintro e w' ⟨rfl, rfl⟩)
        | ((with_reducible refine (c2 _).mono ?_); rintro e w' ⟨rfl, rfl⟩))
      go_ret
      exact ⟨ret_bool A2.out.symm, rfl⟩
  | true =>
    rw [hp] at cc
    rw [hp, if_pos rfl] at htl
    have htl2 : ∀ j, at_ t j = at_ s (a + 1 + j) := by
      intro j
      show t.data.toList.drop j = _
      rw [htl, List.drop_drop]
      show (at_ s a).drop (1 + j) = _
      rw [at_drop, Nat.add_assoc]
    have e0 : at_ t 0 = at_ s (a + 1) := htl2 0
    have c3 := fun w => isTail_ (t.extract (cnt digit (at_ t 0)) t.size) w (by rw [ByteArray.size_extract]; omega)
    have ex2 : (t.extract (cnt digit (at_ t 0)) t.size).data.toList = at_ s (a + 1 + cnt digit (at_ s (a + 1))) := by
      rw [extract_list, List.take_of_length_le (by rw [at_len]; exact Nat.le_refl _), htl2, e0]
    have A2 : Aside (isReal s.data.toList = (decide (0 < a) && (decide (0 < cnt digit (at_ t 0)) && isTail (t.extract (cnt digit (at_ t 0)) t.size).data.toList))) := by
      show _ = _
      rw [A1.out, hp, ex2, e0, Bool.true_and]
    clear A1 hp htl htl2 e0 ex2
    generalize cnt digit (at_ t 0) = b at *
    obtain ⟨r, hr⟩ : ∃ r, isTail (t.extract b t.size).data.toList = r := ⟨_, rfl⟩
    rw [hr] at c3
    have A3 : Aside (isTail (t.extract b t.size).data.toList = r) := hr
    clear hr
    by_cases ha : 0 < a
    · by_cases hb : 0 < b
      · have A4 : Aside (isReal s.data.toList = r) := by
          show _ = _
          rw [A2.out, A3.out, decide_eq_true ha, decide_eq_true hb]; simp
        clear A2 A3
        go_enter Tryz.func216, Tryz.ntmps216
        go_wp2_with (first
          | ((with_reducible refine (c1 _).mono ?_); rintro e w' ⟨rfl, rfl⟩)
          | ((with_reducible refine (cc _).mono ?_); rintro e w' ⟨rfl, rfl⟩)
          | ((with_reducible refine (c2 _).mono ?_); rintro e w' ⟨rfl, rfl⟩)
          | ((with_reducible refine (c3 _).mono ?_); rintro e w' ⟨rfl, rfl⟩))
        go_ret
        exact ⟨ret_bool A4.out.symm, rfl⟩
      · have A4 : Aside (isReal s.data.toList = false) := by
          show _ = _
          rw [A2.out, decide_eq_false hb]; simp
        clear A2 A3 c3
        go_enter Tryz.func216, Tryz.ntmps216
        go_wp2_with (first
          | ((with_reducible refine (c1 _).mono ?_); rintro e w' ⟨rfl, rfl⟩)
          | ((with_reducible refine (cc _).mono ?_); rintro e w' ⟨rfl, rfl⟩)
          | ((with_reducible refine (c2 _).mono ?_); rintro e w' ⟨rfl, rfl⟩))
        go_ret
        exact ⟨ret_bool A4.out.symm, rfl⟩
    · have A4 : Aside (isReal s.data.toList = false) := by
        show _ = _
        rw [A2.out, decide_eq_false ha]; simp
      clear A2 A3 c3
      go_enter Tryz.func216, Tryz.ntmps216
      go_wp2_with (first
        | ((with_reducible refine (c1 _).mono ?_); rintro e w' ⟨rfl, rfl⟩)
        | ((with_reducible refine (cc _).mono ?_); rintro e w' ⟨rfl, rfl⟩)
        | ((with_reducible refine (c2 _).mono ?_); rintro e w' ⟨rfl, rfl⟩))
      go_ret
      exact ⟨ret_bool A4.out.symm, rfl⟩
/-- what is asked of real.Parse at a text that is a real's -/
def ParseAt (n : Nat) (w : World) (s : ByteArray) : Prop :=
  ∀ W : World, n ≤ W.heap.size → Below n w W → Calls Tryz.prog 190 #[.string s] W fun e w' => ∃ v : Int, e = .returned (.tuple #[.int .u64 v, .int .i64 0]) ∧ Below W.heap.size W w'
set_option maxRecDepth 100000 in
set_option maxHeartbeats 8000000 in
theorem parse_no (s : ByteArray) (w : World) (hs : s.size ≤ 8192) (h : isReal s.data.toList = false) :
    Calls Tryz.prog 190 #[.string s] w fun e w' => e = .returned (.tuple #[.int .u64 0, .int .i64 2]) ∧ w = w' := by
  have c := fun w => isText_ s w hs
  rw [h] at c
  clear h
  go_enter Tryz.func190, Tryz.ntmps190
  go_wp2_with (go_at_call 216; (with_reducible refine (c _).mono ?_); rintro e w' ⟨rfl, rfl⟩)
  go_ret2
  exact ⟨rfl, rfl⟩
set_option maxRecDepth 100000 in
set_option maxHeartbeats 8000000 in
theorem isReal_ {n : Nat} {w : World} (s : ByteArray) (hs : s.size ≤ 8192) (hp : isReal s.data.toList = true → ParseAt n w s) (W : World) (hn : n ≤ W.heap.size) (hb : Below n w W) :
    Calls Tryz.prog 167 #[.string s] W fun e w' => e = .returned (.bool (isReal s.data.toList)) ∧ Below W.heap.size W w' := by
  cases h : isReal s.data.toList with
  | false =>
    have c := parse_no s W hs h
    clear h hp
    go_enter Tryz.func167, Tryz.ntmps167
    go_wp2_with (go_at_call 190; (with_reducible refine c.mono ?_); rintro e w' ⟨rfl, rfl⟩)
    go_ret
    exact ⟨rfl, Below.refl _ _⟩
  | true =>
    have c := hp h W hn hb
    clear h hp
    go_enter Tryz.func167, Tryz.ntmps167
    go_wp2_with (go_at_call 190; (with_reducible refine c.mono ?_); rintro e w' ⟨v, rfl, hb'⟩)
    go_ret
    exact ⟨rfl, hb'⟩
end LxC
end Go.Proofs.YtnlbhnmiekanfaaGreatDoor
