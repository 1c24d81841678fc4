/-
  What package real's functions answer, each a contract, the second part: Neg, OfInt, ToInt and what they call. Conditions: bits lie from 0 to below 2^64, words below 2^32.
-/
import Derived.Test.YtieehjkmfmkfjabRealC
import Derived.Laws.BitsAllLaws
import Derived.IntWalk
namespace Go.Proofs.Ytieehjkmfmkfjab
open Go.RowKit
set_option linter.unusedVariables false
namespace RC
open RM
attribute [local go_sem] run_from run_bits

theorem wrap_sgn {a : Nat} (h : W a) : decide (wrap64 (a : Int) < 0) = sgn a := by
  unfold W at h
  unfold sgn
  rw [Bool.eq_iff_iff, decide_eq_true_eq, beq_iff_eq]
  simp only [wrap64]
  omega
theorem signbit (a : Nat) (h : W a) (w : World) : Calls Try.prog 76 #[.float .f64 a] w fun e w' => e = .returned (.bool (sgn a)) ∧ w' = w := by
  go_enter Try.func76, Try.ntmps76
  go_wp2
  go_ret
  exact ⟨congrArg (fun z => Ending.returned (.bool z)) (wrap_sgn h), rfl⟩
theorem mask_bits (a b : Nat) (ha : W a) (hb : W b) :
    bits .or .u64 (bits .andNot .u64 (a : Int) 9223372036854775808) (bits .and .u64 (b : Int) 9223372036854775808) = ((Ieee.double.word (sgn b) (rg a) : Nat) : Int) := by
  unfold W at ha hb
  have e1 : bits .andNot .u64 (a : Int) ((9223372036854775808 : Nat) : Int) = ((rg a : Nat) : Int) := by
    rw [u64_andNot_nat a _ ha (by omega)]
    have : (18446744073709551615 - 9223372036854775808 : Nat) = 2 ^ 63 - 1 := by decide
    rw [this, Nat.and_two_pow_sub_one_eq_mod]
    rfl
  have e2 : bits .and .u64 (b : Int) ((9223372036854775808 : Nat) : Int) = ((b / 2 ^ 63 % 2 * 2 ^ 63 : Nat) : Int) := by
    rw [u64_and_nat b _ hb (by omega)]
    have : (9223372036854775808 : Nat) = 2 ^ 63 := by decide
    rw [this, nat_bit]
  have r := rg_lt a
  rw [show (9223372036854775808 : Int) = ((9223372036854775808 : Nat) : Int) from rfl, e1, e2, u64_or_nat _ _ (by omega) (by omega), Nat.or_comm, nat_join 63 _ _ (by omega) (by omega)]
  congr 1
  unfold sgn
  have hl : b / 2 ^ 63 % 2 = 0 ∨ b / 2 ^ 63 % 2 = 1 := by omega
  rcases hl with h | h
  · rw [show (b / 9223372036854775808 % 2 == 1) = false by rw [beq_eq_false_iff_ne]; omega, word_false]; omega
  · rw [show (b / 9223372036854775808 % 2 == 1) = true by rw [beq_iff_eq]; omega, word_true]; omega
theorem copysign (a b : Nat) (ha : W a) (hb : W b) (w : World) : Calls Try.prog 77 #[.float .f64 a, .float .f64 b] w fun e w' => e = .returned (.float .f64 (Ieee.double.word (sgn b) (rg a))) ∧ w' = w := by
  have H := Lib.hid (mask_bits a b ha hb)
  go_enter Try.func77, Try.ntmps77
  go_wp2
  go_ret
  refine ⟨congrArg (fun z => Ending.returned (.float .f64 z)) ?_, rfl⟩
  have h := H.out
  first | exact (congrArg Int.toNat h).trans (Int.toNat_natCast _) | (rw [h]; rfl)
theorem fneg_word {a : Nat} : canon (Ieee.double.word (!sgn a) (rg a)) = fneg a := by
  unfold canon fneg
  have : isNan (Ieee.double.word (!sgn a) (rg a)) = isNan a := by
    unfold isNan; rw [rg_word _ (rg_lt a)]
  rw [this]
theorem neg_ (a : Nat) (h : W a) (w : World) : Calls Try.prog 68 #[.int .u64 (a : Int)] w fun e w' => e = .returned (.int .u64 (fneg a : Nat)) ∧ w' = w := by
  have hc := fneg_word (a := a)
  have o : sgn 4607182418800017408 = false := by decide
  have m : sgn 13830554455654793216 = true := by decide
  have c1 := fun w => copysign a 4607182418800017408 h (by unfold W; omega) w
  have c2 := fun w => copysign a 13830554455654793216 h (by unfold W; omega) w
  rw [o] at c1
  rw [m] at c2
  cases hs : sgn a
  · rw [hs] at hc
    have Hc := Lib.hid hc
    clear hc o m
    go_enter Try.func68, Try.ntmps68
    go_wp2_with (first
      | (go_at_call 75; refine (number _ _).mono ?_; rintro e w' ⟨rfl, rfl⟩)
      | (go_at_call 76; refine (signbit _ h _).mono ?_; rw [hs]; rintro e w' ⟨rfl, rfl⟩)
      | (go_at_call 77; refine (c2 _).mono ?_; rintro e w' ⟨rfl, rfl⟩)
      | (go_at_call 74; refine (bits_ _ _).mono ?_; rintro e w' ⟨rfl, rfl⟩))
    go_ret
    exact ⟨ret_int (by first | (rw [← Hc.out]; rfl) | rfl), rfl⟩
  · rw [hs] at hc
    have Hc := Lib.hid hc
    clear hc o m
    go_enter Try.func68, Try.ntmps68
    go_wp2_with (first
      | (go_at_call 75; refine (number _ _).mono ?_; rintro e w' ⟨rfl, rfl⟩)
      | (go_at_call 76; refine (signbit _ h _).mono ?_; rw [hs]; rintro e w' ⟨rfl, rfl⟩)
      | (go_at_call 77; refine (c1 _).mono ?_; rintro e w' ⟨rfl, rfl⟩)
      | (go_at_call 74; refine (bits_ _ _).mono ?_; rintro e w' ⟨rfl, rfl⟩))
    go_ret
    exact ⟨ret_int (by first | (rw [← Hc.out]; rfl) | rfl), rfl⟩

/-! ### words -/
theorem of_ (v : Int) (w : World) : Calls Try.prog 56 #[.int .i64 v] w fun e w' => e = .returned (.int .u32 (v % 4294967296)) ∧ w' = w := by
  go_enter Try.func56, Try.ntmps56
  go_wp2
  go_ret
  exact ⟨rfl, rfl⟩
theorem signed_ (a : Int) (w : World) : Calls Try.prog 22 #[.int .u32 a] w fun e w' => e = .returned (.int .i64 (wrap32 a)) ∧ w' = w := by
  have h := IntWalk.wrap64_in (wrap32 a) (by simp only [wrap32]; omega)
  go_enter Try.func22, Try.ntmps22
  go_wp2
  go_ret
  exact ⟨ret_int (by first | rfl | exact h), rfl⟩
theorem floatOf (n : Int) : floatOfInt .f64 n = ofInt n := ofInt_write n
theorem canon_ofInt (n : Int) (h : n.natAbs < 9007199254740992) : canon (ofInt n) = ofInt n := by
  have hr := rung_int h
  refine canon_num ((isNan_no _).2 ?_)
  unfold ofInt
  rw [rg_word _ (by omega)]
  omega
theorem ofInt_ (a : Int) (w : World) : Calls Try.prog 70 #[.int .u32 a] w fun e w' => e = .returned (.int .u64 (ofInt (wrap32 a) : Nat)) ∧ w' = w := by
  have Hc := Lib.hid ((congrArg canon (floatOf (wrap32 a))).trans (canon_ofInt (wrap32 a) (by simp only [wrap32]; omega)))
  go_enter Try.func70, Try.ntmps70
  go_wp2_with (first
    | (go_at_call 22; refine (signed_ _ _).mono ?_; rintro e w' ⟨rfl, rfl⟩)
    | (go_at_call 74; refine (bits_ _ _).mono ?_; rintro e w' ⟨rfl, rfl⟩))
  go_ret
  exact ⟨ret_int (by rw [Hc.out]), rfl⟩
theorem toInt_val {a : Nat} (hr : rg a < 9218868437227405312) (h1 : -2147483648 < signedWhole a) (h2 : signedWhole a < 2147483648) : floatToIntVal .f64 a .i64 = some (signedWhole a) := by
  have e : ((FloatKind.f64.decode a).toInt .zero) = some (signedWhole a) := toInt_eq hr
  unfold floatToIntVal
  rw [e]
  exact if_pos ⟨by simp [IntKind.min, IntKind.signed, IntKind.bits]; omega, by simp [IntKind.max, IntKind.signed, IntKind.bits]; omega⟩
theorem toWord_ (a : Nat) (w : World) : Calls Try.prog 69 #[.int .u64 (a : Int)] w fun e w' => e = .returned (.int .u32 (toWord a)) ∧ w' = w := by
  have hv : toWord a = if isNan a then 2147483647 else if fge a greatest_ then 2147483647 else if fle a least_ then 2147483648 else signedWhole a % 4294967296 := rfl
  cases hn : isNan a
  · cases h1 : fge a greatest_
    · have g1 : (FloatKind.f64.format.order a 4746794007244308480 == some .gt || FloatKind.f64.format.order a 4746794007244308480 == some .eq) = false := h1
      cases h2 : fle a least_
      · have g2 : (FloatKind.f64.format.order a 13970166044103278592 == some .lt || FloatKind.f64.format.order a 13970166044103278592 == some .eq) = false := h2
        obtain ⟨hr, b1, b2⟩ := within hn h1 h2
        have hc := fun w => run_convert_float_int (P := Try.prog) w 126 3 .f64 .i64 a (signedWhole a) (by kernel_rfl) Try.underlying3 (toInt_val hr b1 b2)
        rw [hn, h1, h2] at hv
        have Hv := Lib.hid hv
        clear hv h1 h2
        go_enter Try.func69, Try.ntmps69
        go_wp2_with (first
          | (go_at_call 75; refine (number _ _).mono ?_; rintro e w' ⟨rfl, rfl⟩)
          | (go_at_call 78; refine (isNaN _ _).mono ?_; rw [hn]; rintro e w' ⟨rfl, rfl⟩)
          | (go_at_call 56; refine (of_ _ _).mono ?_; rintro e w' ⟨rfl, rfl⟩))
        go_ret
        exact ⟨ret_int (by rw [Hv.out]; rfl), rfl⟩
      · have g2 : (FloatKind.f64.format.order a 13970166044103278592 == some .lt || FloatKind.f64.format.order a 13970166044103278592 == some .eq) = true := h2
        rw [hn, h1, h2] at hv
        have Hv := Lib.hid hv
        clear hv h1 h2
        go_enter Try.func69, Try.ntmps69
        go_wp2_with (first
          | (go_at_call 75; refine (number _ _).mono ?_; rintro e w' ⟨rfl, rfl⟩)
          | (go_at_call 78; refine (isNaN _ _).mono ?_; rw [hn]; rintro e w' ⟨rfl, rfl⟩)
          | (go_at_call 56; refine (of_ _ _).mono ?_; rintro e w' ⟨rfl, rfl⟩))
        go_ret
        exact ⟨ret_int (by rw [Hv.out]; rfl), rfl⟩
    · have g1 : (FloatKind.f64.format.order a 4746794007244308480 == some .gt || FloatKind.f64.format.order a 4746794007244308480 == some .eq) = true := h1
      rw [hn, h1] at hv
      have Hv := Lib.hid hv
      clear hv h1
      go_enter Try.func69, Try.ntmps69
      go_wp2_with (first
        | (go_at_call 75; refine (number _ _).mono ?_; rintro e w' ⟨rfl, rfl⟩)
        | (go_at_call 78; refine (isNaN _ _).mono ?_; rw [hn]; rintro e w' ⟨rfl, rfl⟩)
        | (go_at_call 56; refine (of_ _ _).mono ?_; rintro e w' ⟨rfl, rfl⟩))
      go_ret
      exact ⟨ret_int (by rw [Hv.out]; rfl), rfl⟩
  · rw [hn] at hv
    have Hv := Lib.hid hv
    clear hv
    go_enter Try.func69, Try.ntmps69
    go_wp2_with (first
      | (go_at_call 75; refine (number _ _).mono ?_; rintro e w' ⟨rfl, rfl⟩)
      | (go_at_call 78; refine (isNaN _ _).mono ?_; rw [hn]; rintro e w' ⟨rfl, rfl⟩)
      | (go_at_call 56; refine (of_ _ _).mono ?_; rintro e w' ⟨rfl, rfl⟩))
    go_ret
    exact ⟨ret_int (by rw [Hv.out]; rfl), rfl⟩
end RC
end Go.Proofs.Ytieehjkmfmkfjab
