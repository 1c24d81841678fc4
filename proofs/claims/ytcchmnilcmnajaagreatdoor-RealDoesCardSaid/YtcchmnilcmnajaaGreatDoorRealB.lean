/-
  The reference's reals by their bits: parts, Is, Canon, Neg, signed, number, order, Compare, each a contract. Condition: the bits are 64.
-/
import Derived.Test.YtcchmnilcmnajaaGreatDoorRealD
import Derived.IntWalk
namespace Go.Proofs.YtcchmnilcmnajaaGreatDoor
open Go.RowKit
set_option linter.unusedVariables false
set_option linter.unusedSimpArgs false
namespace RB
open RM RC
def sB (a : Nat) : Int := ((a / 9223372036854775808 : Nat) : Int)
def eB (a : Nat) : Int := ((a / 4503599627370496 % 2048 : Nat) : Int)
def rB (a : Nat) : Int := ((a % 4503599627370496 : Nat) : Int)
theorem sB_val {a : Nat} (h : W a) : sB a = if sgn a then 1 else 0 := by
  unfold sB sgn
  unfold W at h
  have h2 : a / 9223372036854775808 < 2 := by omega
  rcases (show a / 9223372036854775808 = 0 ∨ a / 9223372036854775808 = 1 by omega) with e | e <;> rw [e] <;> rfl
theorem eB_bd (a : Nat) : 0 ≤ eB a ∧ eB a ≤ 2047 := by unfold eB; omega
theorem rB_bd (a : Nat) : 0 ≤ rB a ∧ rB a ≤ 4503599627370495 := by unfold rB; omega
theorem rg_er (a : Nat) : (rg a : Int) = eB a * 4503599627370496 + rB a := by
  unfold rg eB rB
  omega
theorem nan_er (a : Nat) : isNan a = (decide (eB a = 2047) && decide (rB a ≠ 0)) := by
  have h1 := rg_er a
  have h2 := eB_bd a
  have h3 := rB_bd a
  unfold isNan
  rw [Bool.eq_iff_iff]
  simp only [decide_eq_true_eq, Bool.and_eq_true]
  constructor
  · intro h
    have h4 : (9218868437227405312 : Int) < (rg a : Int) := by omega
    omega
  · rintro ⟨e1, e2⟩
    have h4 : (9218868437227405312 : Int) < (rg a : Int) := by omega
    omega
theorem mg_er {a : Nat} : (mg a : Int) = if eB a = 0 then rB a else rB a + 4503599627370496 := by
  have h1 := rg_er a
  have h2 := eB_bd a
  have h3 := rB_bd a
  unfold mg
  split
  · rename_i h
    rw [if_pos (by omega)]; omega
  · rename_i h
    rw [if_neg (by omega)]
    omega
theorem pl_er {a : Nat} : pl a = if eB a = 0 then -1074 else eB a - 1075 := by
  have h1 := rg_er a
  have h2 := eB_bd a
  have h3 := rB_bd a
  unfold pl
  split
  · rename_i h
    rw [if_pos (by omega)]
  · rename_i h
    rw [if_neg (by omega)]
    have : ((rg a / 4503599627370496 : Nat) : Int) = eB a := by omega
    omega
theorem ret3 {a b c a' b' c' : Int} (h1 : a = a') (h2 : b = b') (h3 : c = c') : Ending.returned (.tuple #[.int .u64 a, .int .u64 b, .int .u64 c]) = .returned (.tuple #[.int .u64 a', .int .u64 b', .int .u64 c']) := by rw [h1, h2, h3]
theorem parts (a : Nat) (h : W a) (w : World) : Calls Tryz.prog 27 #[.int .u64 (a : Int)] w fun e w' => e = .returned (.tuple #[.int .u64 (sB a), .int .u64 (eB a), .int .u64 (rB a)]) ∧ w = w' := by
  unfold W at h
  go_enter Tryz.func27, Tryz.ntmps27
  go_wp2
  go_ret3
  exact ⟨ret3 (by unfold sB; omega) (by unfold eB; omega) (by unfold rB; omega), rfl⟩
theorem retb {a b : Bool} (h : a = b) : Ending.returned (.bool a) = .returned (.bool b) := by rw [h]
theorem is_ (a : Nat) (h : W a) (w : World) : Calls Tryz.prog 28 #[.int .u64 (a : Int)] w fun e w' => e = .returned (.bool (isNan a)) ∧ w = w' := by
  have hp := parts a h
  rw [nan_er]
  have b1 := eB_bd a
  have b2 := rB_bd a
  generalize sB a = s at *
  generalize eB a = e at *
  generalize rB a = r at *
  by_cases he : e = 2047
  · subst he
    go_enter Tryz.func28, Tryz.ntmps28
    go_wp2_with (go_at_call 27; (with_reducible refine (hp _).mono ?_); rintro e w' ⟨rfl, rfl⟩)
    go_ret
    exact ⟨retb (by by_cases h0 : r = 0 <;> simp [h0]), rfl⟩
  · have hd : decide (e = 2047) = false := by simp [he]
    have he' : (e == 2047) = false := by simp [he]
    rw [hd]
    clear hd he
    go_enter Tryz.func28, Tryz.ntmps28
    go_wp2_with (go_at_call 27; (with_reducible refine (hp _).mono ?_); rintro e w' ⟨rfl, rfl⟩)
    go_ret
    exact ⟨rfl, rfl⟩
theorem canon_ (a : Nat) (h : W a) (w : World) : Calls Tryz.prog 12 #[.int .u64 (a : Int)] w fun e w' => e = .returned (.int .u64 ((canon a : Nat) : Int)) ∧ w = w' := by
  have hp := is_ a h
  cases hn : isNan a with
  | true =>
    rw [hn] at hp
    rw [canon_nan hn]
    clear hn
    go_enter Tryz.func12, Tryz.ntmps12
    go_wp2_with (go_at_call 28; (with_reducible refine (hp _).mono ?_); rintro e w' ⟨rfl, rfl⟩)
    go_ret
    exact ⟨rfl, rfl⟩
  | false =>
    rw [hn] at hp
    rw [canon_num hn]
    clear hn
    go_enter Tryz.func12, Tryz.ntmps12
    go_wp2_with (go_at_call 28; (with_reducible refine (hp _).mono ?_); rintro e w' ⟨rfl, rfl⟩)
    go_ret
    exact ⟨rfl, rfl⟩
/-- the sign's word -/
def sgI (s : Bool) : Int := if s then 1 else 0
theorem sB_sgI {a : Nat} (h : W a) : sB a = sgI (sgn a) := sB_val h
theorem signed_ (s : Bool) (r : Nat) (h : r < 9223372036854775808) (w : World) : Calls Tryz.prog 30 #[.int .u64 (sgI s), .int .u64 (r : Int)] w fun e w' => e = .returned (.int .u64 ((Ieee.double.word s r : Nat) : Int)) ∧ w = w' := by
  cases s with
  | true =>
    rw [word_true]
    unfold sgI
    go_enter Tryz.func30, Tryz.ntmps30
    go_wp2
    go_ret
    exact ⟨ret_int (by omega), rfl⟩
  | false =>
    rw [word_false]
    unfold sgI
    go_enter Tryz.func30, Tryz.ntmps30
    go_wp2
    go_ret
    exact ⟨rfl, rfl⟩
theorem neg_ (a : Nat) (h : W a) (w : World) : Calls Tryz.prog 14 #[.int .u64 (a : Int)] w fun e w' => e = .returned (.int .u64 ((fneg a : Nat) : Int)) ∧ w = w' := by
  have hp := is_ a h
  have hq := parts a h
  have hb : (a : Int) < 18446744073709551616 := by unfold W at h; omega
  have hs := sB_sgI h
  have hw := word_of h
  have hr := rg_lt a
  unfold fneg
  cases hn : isNan a with
  | true =>
    rw [hn] at hp
    clear hn hq hs hw hr hb
    go_enter Tryz.func14, Tryz.ntmps14
    go_wp2_with (go_at_call 28; (with_reducible refine (hp _).mono ?_); rintro e w' ⟨rfl, rfl⟩)
    go_ret
    exact ⟨rfl, rfl⟩
  | false =>
    rw [hn] at hp
    cases ht : sgn a with
    | true =>
      rw [ht] at hs hw
      rw [word_true] at hw
      rw [hs] at hq
      have hge : 9223372036854775808 ≤ (a : Int) := by omega
      have hv : IntKind.u64.wrap ((a : Int) - 9223372036854775808) = ((rg a : Nat) : Int) := by rw [IntWalk.u64_in _ (by omega)]; omega
      unfold sgI at hq
      clear hn hs hw hr ht hge hb
      rw [show ((if false = true then NaN else Ieee.double.word (!true) (rg a) : Nat) : Int) = ((rg a : Nat) : Int) from rfl]
      generalize ((rg a : Nat) : Int) = v at *
      generalize eB a = e at *
      generalize rB a = r at *
      go_enter Tryz.func14, Tryz.ntmps14
      go_wp2_with (first
        | (go_at_call 28; (with_reducible refine (hp _).mono ?_); rintro e w' ⟨rfl, rfl⟩)
        | (go_at_call 27; (with_reducible refine (hq _).mono ?_); rintro e w' ⟨rfl, rfl⟩))
      go_ret
      exact ⟨rfl, rfl⟩
    | false =>
      rw [ht] at hs hw
      rw [word_false] at hw
      rw [hs] at hq
      have hlt : (a : Int) < 9223372036854775808 := by omega
      have hv : IntKind.u64.wrap ((a : Int) + 9223372036854775808) = ((9223372036854775808 + rg a : Nat) : Int) := by rw [IntWalk.u64_in _ (by omega)]; omega
      unfold sgI at hq
      clear hn hs hw hr ht hlt hb
      rw [show ((if false = true then NaN else Ieee.double.word (!false) (rg a) : Nat) : Int) = ((9223372036854775808 + rg a : Nat) : Int) from rfl]
      generalize ((9223372036854775808 + rg a : Nat) : Int) = v at *
      generalize eB a = e at *
      generalize rB a = r at *
      go_enter Tryz.func14, Tryz.ntmps14
      go_wp2_with (first
        | (go_at_call 28; (with_reducible refine (hp _).mono ?_); rintro e w' ⟨rfl, rfl⟩)
        | (go_at_call 27; (with_reducible refine (hq _).mono ?_); rintro e w' ⟨rfl, rfl⟩))
      go_ret
      exact ⟨rfl, rfl⟩
theorem ret2i {k : IntKind} {a b a' b' : Int} (h1 : a = a') (h2 : b = b') : Ending.returned (.tuple #[.int k a, .int k b]) = .returned (.tuple #[.int k a', .int k b']) := by rw [h1, h2]
theorem number_ (a : Nat) (h : W a) (w : World) : Calls Tryz.prog 31 #[.int .u64 (a : Int)] w fun e w' => e = .returned (.tuple #[.int .i64 ((mg a : Nat) : Int), .int .i64 (pl a)]) ∧ w = w' := by
  have hq := parts a h
  have hm := Lib.hid (mg_er (a := a))
  have hl := Lib.hid (pl_er (a := a))
  have b1 := eB_bd a
  have b2 := rB_bd a
  generalize (mg a : Int) = m at *
  generalize pl a = l at *
  generalize sB a = s at *
  generalize eB a = e at *
  generalize rB a = r at *
  by_cases he : e = 0
  · have h1 := Lib.hid (hm.out.trans (if_pos he))
    have h2 := Lib.hid (hl.out.trans (if_pos he))
    subst he
    clear hm hl
    go_enter Tryz.func31, Tryz.ntmps31
    go_wp2_with (go_at_call 27; (with_reducible refine (hq _).mono ?_); rintro e w' ⟨rfl, rfl⟩)
    go_ret2
    exact ⟨ret2i h1.out.symm h2.out.symm, rfl⟩
  · have h1 := Lib.hid (hm.out.trans (if_neg he))
    have h2 := Lib.hid (hl.out.trans (if_neg he))
    have he' : (e == 0) = false := by simp [he]
    clear hm hl he
    go_enter Tryz.func31, Tryz.ntmps31
    go_wp2_with (go_at_call 27; (with_reducible refine (hq _).mono ?_); rintro e w' ⟨rfl, rfl⟩)
    go_ret2
    exact ⟨ret2i h1.out.symm h2.out.symm, rfl⟩
theorem order_ (a : Nat) (h : W a) (w : World) : Calls Tryz.prog 36 #[.int .u64 (a : Int)] w fun e w' => e = .returned (.int .i64 (key a)) ∧ w = w' := by
  have hq := parts a h
  have hs := sB_sgI h
  have hr := rg_lt a
  have hg : (rg a : Int) = (a : Int) % 9223372036854775808 := by unfold rg; omega
  have HG := Lib.hid hg
  have hv : IntKind.i64.wrap ((a : Int) % 9223372036854775808) = ((rg a : Nat) : Int) := by rw [IntWalk.i64_in _ (by omega), hg]
  have hv2 : IntKind.i64.wrap (-((rg a : Nat) : Int)) = -((rg a : Nat) : Int) := IntWalk.i64_in _ (by omega)
  rw [hs] at hq
  unfold key
  unfold W at h
  clear hs hg hr HG
  generalize ((rg a : Nat) : Int) = v at *
  cases ht : sgn a with
  | true =>
    rw [ht] at hq
    unfold sgI at hq
    clear ht
    generalize eB a = e at *
    generalize rB a = r at *
    go_enter Tryz.func36, Tryz.ntmps36
    go_wp2_with (go_at_call 27; (with_reducible refine (hq _).mono ?_); rintro e w' ⟨rfl, rfl⟩)
    go_ret
    exact ⟨rfl, rfl⟩
  | false =>
    rw [ht] at hq
    unfold sgI at hq
    clear ht
    generalize eB a = e at *
    generalize rB a = r at *
    go_enter Tryz.func36, Tryz.ntmps36
    go_wp2_with (go_at_call 27; (with_reducible refine (hq _).mono ?_); rintro e w' ⟨rfl, rfl⟩)
    go_ret
    exact ⟨rfl, rfl⟩
theorem cmp_eq (a b : Nat) (ha : W a) (hb : W b) (w : World) : Calls Tryz.prog 10 #[.int .i64 51, .int .u64 (a : Int), .int .u64 (b : Int)] w fun e w' => e = .returned (.tuple #[.int .u32 ((feq a b).toNat : Int), .bool true]) ∧ w = w' := by
  have p1 := is_ a ha
  have p2 := is_ b hb
  have q1 := order_ a ha
  have q2 := order_ b hb
  cases hn : isNan a with
  | true =>
    rw [hn] at p1
    rw [((fcmp_nan_l hn).2.1)]
    clear hn q1 q2
    generalize isNan b = nb at *
    go_enter Tryz.func10, Tryz.ntmps10
    go_wp2_with (first
      | ((with_reducible refine (p1 _).mono ?_); rintro e w' ⟨rfl, rfl⟩)
      | ((with_reducible refine (p2 _).mono ?_); rintro e w' ⟨rfl, rfl⟩))
    all_goals
      go_ret2
      exact ⟨rfl, rfl⟩
  | false =>
    rw [hn] at p1
    cases hm : isNan b with
    | true =>
      rw [hm] at p2
      rw [((fcmp_nan_r hm).2.1)]
      clear hn hm q1 q2
      go_enter Tryz.func10, Tryz.ntmps10
      go_wp2_with (first
        | ((with_reducible refine (p1 _).mono ?_); rintro e w' ⟨rfl, rfl⟩)
        | ((with_reducible refine (p2 _).mono ?_); rintro e w' ⟨rfl, rfl⟩))
      go_ret2
      exact ⟨rfl, rfl⟩
    | false =>
      rw [hm] at p2
      rw [feq_eq hn hm]
      clear hn hm
      generalize key a = x at *
      generalize key b = y at *
      by_cases h : x = y
      · rw [decide_eq_true h]
        subst h
        go_enter Tryz.func10, Tryz.ntmps10
        go_wp2_with (first
          | ((with_reducible refine (p1 _).mono ?_); rintro e w' ⟨rfl, rfl⟩)
          | ((with_reducible refine (p2 _).mono ?_); rintro e w' ⟨rfl, rfl⟩)
          | ((with_reducible refine (q1 _).mono ?_); rintro e w' ⟨rfl, rfl⟩)
          | ((with_reducible refine (q2 _).mono ?_); rintro e w' ⟨rfl, rfl⟩))
        go_ret2
        exact ⟨rfl, rfl⟩
      · rw [decide_eq_false h]
        have h2 : (x == y) = false := by simp [h]
        go_enter Tryz.func10, Tryz.ntmps10
        go_wp2_with (first
          | ((with_reducible refine (p1 _).mono ?_); rintro e w' ⟨rfl, rfl⟩)
          | ((with_reducible refine (p2 _).mono ?_); rintro e w' ⟨rfl, rfl⟩)
          | ((with_reducible refine (q1 _).mono ?_); rintro e w' ⟨rfl, rfl⟩)
          | ((with_reducible refine (q2 _).mono ?_); rintro e w' ⟨rfl, rfl⟩))
        go_ret2
        exact ⟨rfl, rfl⟩
theorem cmp_lt (a b : Nat) (ha : W a) (hb : W b) (w : World) : Calls Tryz.prog 10 #[.int .i64 52, .int .u64 (a : Int), .int .u64 (b : Int)] w fun e w' => e = .returned (.tuple #[.int .u32 ((flt a b).toNat : Int), .bool true]) ∧ w = w' := by
  have p1 := is_ a ha
  have p2 := is_ b hb
  have q1 := order_ a ha
  have q2 := order_ b hb
  cases hn : isNan a with
  | true =>
    rw [hn] at p1
    rw [((fcmp_nan_l hn).1)]
    clear hn q1 q2
    generalize isNan b = nb at *
    go_enter Tryz.func10, Tryz.ntmps10
    go_wp2_with (first
      | ((with_reducible refine (p1 _).mono ?_); rintro e w' ⟨rfl, rfl⟩)
      | ((with_reducible refine (p2 _).mono ?_); rintro e w' ⟨rfl, rfl⟩))
    all_goals
      go_ret2
      exact ⟨rfl, rfl⟩
  | false =>
    rw [hn] at p1
    cases hm : isNan b with
    | true =>
      rw [hm] at p2
      rw [((fcmp_nan_r hm).1)]
      clear hn hm q1 q2
      go_enter Tryz.func10, Tryz.ntmps10
      go_wp2_with (first
        | ((with_reducible refine (p1 _).mono ?_); rintro e w' ⟨rfl, rfl⟩)
        | ((with_reducible refine (p2 _).mono ?_); rintro e w' ⟨rfl, rfl⟩))
      go_ret2
      exact ⟨rfl, rfl⟩
    | false =>
      rw [hm] at p2
      rw [flt_eq hn hm]
      clear hn hm
      generalize key a = x at *
      generalize key b = y at *
      by_cases h : x < y
      · rw [decide_eq_true h]
        skip
        go_enter Tryz.func10, Tryz.ntmps10
        go_wp2_with (first
          | ((with_reducible refine (p1 _).mono ?_); rintro e w' ⟨rfl, rfl⟩)
          | ((with_reducible refine (p2 _).mono ?_); rintro e w' ⟨rfl, rfl⟩)
          | ((with_reducible refine (q1 _).mono ?_); rintro e w' ⟨rfl, rfl⟩)
          | ((with_reducible refine (q2 _).mono ?_); rintro e w' ⟨rfl, rfl⟩))
        go_ret2
        exact ⟨rfl, rfl⟩
      · rw [decide_eq_false h]
        skip
        go_enter Tryz.func10, Tryz.ntmps10
        go_wp2_with (first
          | ((with_reducible refine (p1 _).mono ?_); rintro e w' ⟨rfl, rfl⟩)
          | ((with_reducible refine (p2 _).mono ?_); rintro e w' ⟨rfl, rfl⟩)
          | ((with_reducible refine (q1 _).mono ?_); rintro e w' ⟨rfl, rfl⟩)
          | ((with_reducible refine (q2 _).mono ?_); rintro e w' ⟨rfl, rfl⟩))
        go_ret2
        exact ⟨rfl, rfl⟩
theorem cmp_le (a b : Nat) (ha : W a) (hb : W b) (w : World) : Calls Tryz.prog 10 #[.int .i64 53, .int .u64 (a : Int), .int .u64 (b : Int)] w fun e w' => e = .returned (.tuple #[.int .u32 ((fle a b).toNat : Int), .bool true]) ∧ w = w' := by
  have p1 := is_ a ha
  have p2 := is_ b hb
  have q1 := order_ a ha
  have q2 := order_ b hb
  cases hn : isNan a with
  | true =>
    rw [hn] at p1
    rw [((fcmp_nan_l hn).2.2)]
    clear hn q1 q2
    generalize isNan b = nb at *
    go_enter Tryz.func10, Tryz.ntmps10
    go_wp2_with (first
      | ((with_reducible refine (p1 _).mono ?_); rintro e w' ⟨rfl, rfl⟩)
      | ((with_reducible refine (p2 _).mono ?_); rintro e w' ⟨rfl, rfl⟩))
    all_goals
      go_ret2
      exact ⟨rfl, rfl⟩
  | false =>
    rw [hn] at p1
    cases hm : isNan b with
    | true =>
      rw [hm] at p2
      rw [((fcmp_nan_r hm).2.2)]
      clear hn hm q1 q2
      go_enter Tryz.func10, Tryz.ntmps10
      go_wp2_with (first
        | ((with_reducible refine (p1 _).mono ?_); rintro e w' ⟨rfl, rfl⟩)
        | ((with_reducible refine (p2 _).mono ?_); rintro e w' ⟨rfl, rfl⟩))
      go_ret2
      exact ⟨rfl, rfl⟩
    | false =>
      rw [hm] at p2
      rw [fle_eq hn hm]
      clear hn hm
      generalize key a = x at *
      generalize key b = y at *
      by_cases h : x ≤ y
      · rw [decide_eq_true h]
        skip
        go_enter Tryz.func10, Tryz.ntmps10
        go_wp2_with (first
          | ((with_reducible refine (p1 _).mono ?_); rintro e w' ⟨rfl, rfl⟩)
          | ((with_reducible refine (p2 _).mono ?_); rintro e w' ⟨rfl, rfl⟩)
          | ((with_reducible refine (q1 _).mono ?_); rintro e w' ⟨rfl, rfl⟩)
          | ((with_reducible refine (q2 _).mono ?_); rintro e w' ⟨rfl, rfl⟩))
        go_ret2
        exact ⟨rfl, rfl⟩
      · rw [decide_eq_false h]
        skip
        go_enter Tryz.func10, Tryz.ntmps10
        go_wp2_with (first
          | ((with_reducible refine (p1 _).mono ?_); rintro e w' ⟨rfl, rfl⟩)
          | ((with_reducible refine (p2 _).mono ?_); rintro e w' ⟨rfl, rfl⟩)
          | ((with_reducible refine (q1 _).mono ?_); rintro e w' ⟨rfl, rfl⟩)
          | ((with_reducible refine (q2 _).mono ?_); rintro e w' ⟨rfl, rfl⟩))
        go_ret2
        exact ⟨rfl, rfl⟩
theorem cmp_no (op : Int) (a b : Nat) (h : RC.isCmp op = false) (w : World) : Calls Tryz.prog 10 #[.int .i64 op, .int .u64 (a : Int), .int .u64 (b : Int)] w fun e w' => e = .returned (.tuple #[.int .u32 0, .bool false]) ∧ w = w' := by
  have h2 : ¬ (51 ≤ op ∧ op ≤ 53) := by simpa [RC.isCmp] using h
  by_cases c : op < 51
  · clear h h2
    go_enter Tryz.func10, Tryz.ntmps10
    go_wp2
    go_ret2
    exact ⟨rfl, rfl⟩
  · have c2 : 53 < op := by omega
    have c3 : 51 ≤ op := by omega
    clear h h2 c
    go_enter Tryz.func10, Tryz.ntmps10
    go_wp2
    go_ret2
    exact ⟨rfl, rfl⟩
end RB
end Go.Proofs.YtcchmnilcmnajaaGreatDoor
