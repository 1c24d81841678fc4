/-
  Of any real's bits the law RealEdges returns true: NaN is no number's equal nor its own, the zeros are each other's, infinities and zeros are reckoned with as IEEE 754 says.
  Conditions: none beyond those of the given statement (the row lists Go's own variables as their text lays them).
-/
import Derived.Test.YtcflinmlinmgjaaDoorRows
import Derived.Test.YtcflinmlinmgjaaDoorCards
import Derived.Test.YtcflinmlinmgjaaDoorTie
import Derived.Test.YtcflinmlinmgjaaDoorRealL
import Derived.LoopN
import Derived.WalkKit
import Derived.ProofKit
import Derived.OpenShut
import Derived.LaidMore
import Derived.Lay
import Derived.SevenTiedAt
import Derived.Stop.Joined
namespace Go.Proofs.YtcflinmlinmgjaaDoor.realEdges
open Go.ChangeShapes Go.WideShapes Go.ChangeAt Go.RowKit
set_option linter.unusedVariables false

theorem own : ownKnob Tryd.prog.godebug = none := by kernel_rfl
open RM RC RL
theorem ix0 (w : World) : (Instr.index 25 (.agg #[.int .i64 45, .int .i64 46, .int .i64 47, .int .i64 48]) (.int .i64 0)).run Tryd.prog w = .ok (.int .i64 45) w := by kernel_rfl
theorem ix1 (w : World) : (Instr.index 25 (.agg #[.int .i64 45, .int .i64 46, .int .i64 47, .int .i64 48]) (.int .i64 1)).run Tryd.prog w = .ok (.int .i64 46) w := by kernel_rfl
theorem ix2 (w : World) : (Instr.index 25 (.agg #[.int .i64 45, .int .i64 46, .int .i64 47, .int .i64 48]) (.int .i64 2)).run Tryd.prog w = .ok (.int .i64 47) w := by kernel_rfl
theorem ix3 (w : World) : (Instr.index 25 (.agg #[.int .i64 45, .int .i64 46, .int .i64 47, .int .i64 48]) (.int .i64 3)).run Tryd.prog w = .ok (.int .i64 48) w := by kernel_rfl
attribute [local go_sem] ix0 ix1 ix2 ix3
set_option maxRecDepth 100000 in
set_option maxHeartbeats 4000000 in
/-- one way through the law: what each call answers is given -/
theorem way (a x s p : Int) (b1 nx f z q m : Bool)
    (d1 : DoIs 45 a 9221120237041090560 9221120237041090560) (d2 : DoIs 45 9221120237041090560 a 9221120237041090560) (d3 : DoIs 46 a 9221120237041090560 9221120237041090560) (d4 : DoIs 46 9221120237041090560 a 9221120237041090560) (d5 : DoIs 47 a 9221120237041090560 9221120237041090560) (d6 : DoIs 47 9221120237041090560 a 9221120237041090560) (d7 : DoIs 48 a 9221120237041090560 9221120237041090560) (d8 : DoIs 48 9221120237041090560 a 9221120237041090560) (d9 : DoIs 48 4607182418800017408 0 9218868437227405312) (d10 : DoIs 48 4607182418800017408 9223372036854775808 18442240474082181120) (d11 : DoIs 47 0 9218868437227405312 9221120237041090560) (d12 : DoIs 46 9218868437227405312 9218868437227405312 9221120237041090560) (d13 : DoIs 48 9223372036854775808 0 9221120237041090560) (d14 : DoIs 45 9223372036854775808 9223372036854775808 9223372036854775808) (d15 : DoIs 45 0 9223372036854775808 0) (d16 : DoIs 46 a a s) (d17 : DoIs 45 a 9223372036854775808 x) (d18 : DoIs 47 a 4607182418800017408 x) (d19 : DoIs 45 a 0 p)
    (c1 : IsIs 51 9221120237041090560 a false) (c2 : IsIs 51 a 9221120237041090560 false) (c3 : IsIs 52 a 9221120237041090560 false) (c4 : IsIs 53 9221120237041090560 a false) (c5 : IsIs 51 a a b1) (c6 : IsIs 52 a a false) (c7 : IsIs 51 0 9223372036854775808 true) (c8 : IsIs 52 9223372036854775808 0 false)
    (ca : ∀ w, Calls Tryd.prog 7 #[.int .u64 a] w fun e w' => e = .returned (.int .u64 x) ∧ w' = w)
    (h1 : (x != 9221120237041090560) = nx) (h2 : (bits .and .u64 x 9218868437227405312 != 9218868437227405312) = f) (h3 : (s == 0) = z) (h4 : (p == x) = q) (h5 : (x != 9223372036854775808) = m) (e1 : b1 = nx) (e2 : z = f) (e3 : q = m)
    (w : World) (hi : w.cell? ⟨5, 0, none⟩ = some (.int .u64 52)) (ho : w.cell? ⟨4, 0, none⟩ = some (.bool true)) :
    Calls Tryd.prog 3 #[.int .u64 a] w fun e w' => e = .returned (.bool true) ∧ Grown w w' := by
  subst e1 e2 e3
  cases b1 <;> cases z <;> cases q
  all_goals
    go_enter Tryd.func3, Tryd.ntmps3
    go_wp2_with (first
      | (go_at_call 6; refine (RA.awake _ hi ho).mono ?_; rintro e w' ⟨rfl, k0, rfl⟩)
      | (go_at_call 7; with_reducible refine (ca _).mono ?_; rintro e w' ⟨rfl, rfl⟩)
      | (go_at_call 8; (first | with_reducible refine (d1 _).mono ?_ | with_reducible refine (d2 _).mono ?_ | with_reducible refine (d3 _).mono ?_ | with_reducible refine (d4 _).mono ?_ | with_reducible refine (d5 _).mono ?_ | with_reducible refine (d6 _).mono ?_ | with_reducible refine (d7 _).mono ?_ | with_reducible refine (d8 _).mono ?_ | with_reducible refine (d9 _).mono ?_ | with_reducible refine (d10 _).mono ?_ | with_reducible refine (d11 _).mono ?_ | with_reducible refine (d12 _).mono ?_ | with_reducible refine (d13 _).mono ?_ | with_reducible refine (d14 _).mono ?_ | with_reducible refine (d15 _).mono ?_ | with_reducible refine (d16 _).mono ?_ | with_reducible refine (d17 _).mono ?_ | with_reducible refine (d18 _).mono ?_ | with_reducible refine (d19 _).mono ?_); rintro e w' ⟨rfl, kk, rfl⟩)
      | (go_at_call 9; (first | with_reducible refine (c1 _).mono ?_ | with_reducible refine (c2 _).mono ?_ | with_reducible refine (c3 _).mono ?_ | with_reducible refine (c4 _).mono ?_ | with_reducible refine (c5 _).mono ?_ | with_reducible refine (c6 _).mono ?_ | with_reducible refine (c7 _).mono ?_ | with_reducible refine (c8 _).mono ?_); rintro e w' ⟨rfl, rfl⟩))
    refine wp_loop_rounds 5 ?_
    rw [rounds_succ]
    go_wp2_with (first
      | (go_at_call 6; refine (RA.awake _ hi ho).mono ?_; rintro e w' ⟨rfl, k0, rfl⟩)
      | (go_at_call 7; with_reducible refine (ca _).mono ?_; rintro e w' ⟨rfl, rfl⟩)
      | (go_at_call 8; (first | with_reducible refine (d1 _).mono ?_ | with_reducible refine (d2 _).mono ?_ | with_reducible refine (d3 _).mono ?_ | with_reducible refine (d4 _).mono ?_ | with_reducible refine (d5 _).mono ?_ | with_reducible refine (d6 _).mono ?_ | with_reducible refine (d7 _).mono ?_ | with_reducible refine (d8 _).mono ?_ | with_reducible refine (d9 _).mono ?_ | with_reducible refine (d10 _).mono ?_ | with_reducible refine (d11 _).mono ?_ | with_reducible refine (d12 _).mono ?_ | with_reducible refine (d13 _).mono ?_ | with_reducible refine (d14 _).mono ?_ | with_reducible refine (d15 _).mono ?_ | with_reducible refine (d16 _).mono ?_ | with_reducible refine (d17 _).mono ?_ | with_reducible refine (d18 _).mono ?_ | with_reducible refine (d19 _).mono ?_); rintro e w' ⟨rfl, kk, rfl⟩)
      | (go_at_call 9; (first | with_reducible refine (c1 _).mono ?_ | with_reducible refine (c2 _).mono ?_ | with_reducible refine (c3 _).mono ?_ | with_reducible refine (c4 _).mono ?_ | with_reducible refine (c5 _).mono ?_ | with_reducible refine (c6 _).mono ?_ | with_reducible refine (c7 _).mono ?_ | with_reducible refine (c8 _).mono ?_); rintro e w' ⟨rfl, rfl⟩))
    rw [rounds_succ]
    go_wp2_with (first
      | (go_at_call 6; refine (RA.awake _ hi ho).mono ?_; rintro e w' ⟨rfl, k0, rfl⟩)
      | (go_at_call 7; with_reducible refine (ca _).mono ?_; rintro e w' ⟨rfl, rfl⟩)
      | (go_at_call 8; (first | with_reducible refine (d1 _).mono ?_ | with_reducible refine (d2 _).mono ?_ | with_reducible refine (d3 _).mono ?_ | with_reducible refine (d4 _).mono ?_ | with_reducible refine (d5 _).mono ?_ | with_reducible refine (d6 _).mono ?_ | with_reducible refine (d7 _).mono ?_ | with_reducible refine (d8 _).mono ?_ | with_reducible refine (d9 _).mono ?_ | with_reducible refine (d10 _).mono ?_ | with_reducible refine (d11 _).mono ?_ | with_reducible refine (d12 _).mono ?_ | with_reducible refine (d13 _).mono ?_ | with_reducible refine (d14 _).mono ?_ | with_reducible refine (d15 _).mono ?_ | with_reducible refine (d16 _).mono ?_ | with_reducible refine (d17 _).mono ?_ | with_reducible refine (d18 _).mono ?_ | with_reducible refine (d19 _).mono ?_); rintro e w' ⟨rfl, kk, rfl⟩)
      | (go_at_call 9; (first | with_reducible refine (c1 _).mono ?_ | with_reducible refine (c2 _).mono ?_ | with_reducible refine (c3 _).mono ?_ | with_reducible refine (c4 _).mono ?_ | with_reducible refine (c5 _).mono ?_ | with_reducible refine (c6 _).mono ?_ | with_reducible refine (c7 _).mono ?_ | with_reducible refine (c8 _).mono ?_); rintro e w' ⟨rfl, rfl⟩))
    rw [rounds_succ]
    go_wp2_with (first
      | (go_at_call 6; refine (RA.awake _ hi ho).mono ?_; rintro e w' ⟨rfl, k0, rfl⟩)
      | (go_at_call 7; with_reducible refine (ca _).mono ?_; rintro e w' ⟨rfl, rfl⟩)
      | (go_at_call 8; (first | with_reducible refine (d1 _).mono ?_ | with_reducible refine (d2 _).mono ?_ | with_reducible refine (d3 _).mono ?_ | with_reducible refine (d4 _).mono ?_ | with_reducible refine (d5 _).mono ?_ | with_reducible refine (d6 _).mono ?_ | with_reducible refine (d7 _).mono ?_ | with_reducible refine (d8 _).mono ?_ | with_reducible refine (d9 _).mono ?_ | with_reducible refine (d10 _).mono ?_ | with_reducible refine (d11 _).mono ?_ | with_reducible refine (d12 _).mono ?_ | with_reducible refine (d13 _).mono ?_ | with_reducible refine (d14 _).mono ?_ | with_reducible refine (d15 _).mono ?_ | with_reducible refine (d16 _).mono ?_ | with_reducible refine (d17 _).mono ?_ | with_reducible refine (d18 _).mono ?_ | with_reducible refine (d19 _).mono ?_); rintro e w' ⟨rfl, kk, rfl⟩)
      | (go_at_call 9; (first | with_reducible refine (c1 _).mono ?_ | with_reducible refine (c2 _).mono ?_ | with_reducible refine (c3 _).mono ?_ | with_reducible refine (c4 _).mono ?_ | with_reducible refine (c5 _).mono ?_ | with_reducible refine (c6 _).mono ?_ | with_reducible refine (c7 _).mono ?_ | with_reducible refine (c8 _).mono ?_); rintro e w' ⟨rfl, rfl⟩))
    rw [rounds_succ]
    go_wp2_with (first
      | (go_at_call 6; refine (RA.awake _ hi ho).mono ?_; rintro e w' ⟨rfl, k0, rfl⟩)
      | (go_at_call 7; with_reducible refine (ca _).mono ?_; rintro e w' ⟨rfl, rfl⟩)
      | (go_at_call 8; (first | with_reducible refine (d1 _).mono ?_ | with_reducible refine (d2 _).mono ?_ | with_reducible refine (d3 _).mono ?_ | with_reducible refine (d4 _).mono ?_ | with_reducible refine (d5 _).mono ?_ | with_reducible refine (d6 _).mono ?_ | with_reducible refine (d7 _).mono ?_ | with_reducible refine (d8 _).mono ?_ | with_reducible refine (d9 _).mono ?_ | with_reducible refine (d10 _).mono ?_ | with_reducible refine (d11 _).mono ?_ | with_reducible refine (d12 _).mono ?_ | with_reducible refine (d13 _).mono ?_ | with_reducible refine (d14 _).mono ?_ | with_reducible refine (d15 _).mono ?_ | with_reducible refine (d16 _).mono ?_ | with_reducible refine (d17 _).mono ?_ | with_reducible refine (d18 _).mono ?_ | with_reducible refine (d19 _).mono ?_); rintro e w' ⟨rfl, kk, rfl⟩)
      | (go_at_call 9; (first | with_reducible refine (c1 _).mono ?_ | with_reducible refine (c2 _).mono ?_ | with_reducible refine (c3 _).mono ?_ | with_reducible refine (c4 _).mono ?_ | with_reducible refine (c5 _).mono ?_ | with_reducible refine (c6 _).mono ?_ | with_reducible refine (c7 _).mono ?_ | with_reducible refine (c8 _).mono ?_); rintro e w' ⟨rfl, rfl⟩))
    rw [rounds_succ]
    go_wp2_with (first
      | (go_at_call 6; refine (RA.awake _ hi ho).mono ?_; rintro e w' ⟨rfl, k0, rfl⟩)
      | (go_at_call 7; with_reducible refine (ca _).mono ?_; rintro e w' ⟨rfl, rfl⟩)
      | (go_at_call 8; (first | with_reducible refine (d1 _).mono ?_ | with_reducible refine (d2 _).mono ?_ | with_reducible refine (d3 _).mono ?_ | with_reducible refine (d4 _).mono ?_ | with_reducible refine (d5 _).mono ?_ | with_reducible refine (d6 _).mono ?_ | with_reducible refine (d7 _).mono ?_ | with_reducible refine (d8 _).mono ?_ | with_reducible refine (d9 _).mono ?_ | with_reducible refine (d10 _).mono ?_ | with_reducible refine (d11 _).mono ?_ | with_reducible refine (d12 _).mono ?_ | with_reducible refine (d13 _).mono ?_ | with_reducible refine (d14 _).mono ?_ | with_reducible refine (d15 _).mono ?_ | with_reducible refine (d16 _).mono ?_ | with_reducible refine (d17 _).mono ?_ | with_reducible refine (d18 _).mono ?_ | with_reducible refine (d19 _).mono ?_); rintro e w' ⟨rfl, kk, rfl⟩)
      | (go_at_call 9; (first | with_reducible refine (c1 _).mono ?_ | with_reducible refine (c2 _).mono ?_ | with_reducible refine (c3 _).mono ?_ | with_reducible refine (c4 _).mono ?_ | with_reducible refine (c5 _).mono ?_ | with_reducible refine (c6 _).mono ?_ | with_reducible refine (c7 _).mono ?_ | with_reducible refine (c8 _).mono ?_); rintro e w' ⟨rfl, rfl⟩))
    go_ret
    exact ⟨rfl, by repeat (first | exact Grown.refl _ | exact Grown.refl _ | apply Grown.drew | apply Grown.alloc)⟩
theorem nat_of {a : Int} (h : (Lit.int .u64 a).wf = true) : ∃ n : Nat, a = n ∧ W n := by
  have b := bounds_u64 h
  exact ⟨a.toNat, by omega, by unfold W; omega⟩
theorem nan_test (a : Nat) : (((canon a : Nat) : Int) != 9221120237041090560) = !isNan a := by
  have h := canon_eq_nan (x := a)
  have e : (((canon a : Nat) : Int) = 9221120237041090560) ↔ canon a = NaN := by unfold NaN; omega
  cases hn : isNan a
  · rw [Bool.not_false, bne_iff_ne]; intro c; rw [h.1 (e.1 c)] at hn; cases hn
  · rw [Bool.not_true, bne_eq_false_iff_eq]; exact e.2 (h.2 hn)
theorem rg_canon (a : Nat) : rg (canon a) < 9218868437227405312 ↔ rg a < 9218868437227405312 := by
  cases hn : isNan a
  · rw [canon_num hn]
  · have := (isNan_iff a).1 hn
    rw [canon_nan hn, rg_NaN]; unfold NaN; omega
theorem mask_exp (x : Nat) : x &&& 9218868437227405312 = x / 4503599627370496 % 2048 * 4503599627370496 := by
  have e1 : (9218868437227405312 : Nat) = 2047 <<< 52 := by decide
  have e2 : x / 4503599627370496 % 2048 * 4503599627370496 = ((x >>> 52) &&& 2047) <<< 52 := by
    rw [Nat.shiftLeft_eq, Nat.shiftRight_eq_div_pow, nat_mask11]
  rw [e1, e2]
  apply Nat.eq_of_testBit_eq
  intro i
  simp only [Nat.testBit_and, Nat.testBit_shiftLeft, Nat.testBit_shiftRight]
  by_cases h : 52 ≤ i
  · simp [h]
  · simp [h]
theorem exp_test (x : Nat) (h : W x) (hn : rg x ≤ 9218868437227405312 ∨ x = NaN) : (bits .and .u64 (x : Int) 9218868437227405312 != 9218868437227405312) = decide (rg x < 9218868437227405312) := by
  unfold W at h
  rw [show (9218868437227405312 : Int) = ((9218868437227405312 : Nat) : Int) from rfl, u64_and_nat x _ h (by omega), mask_exp]
  rw [Bool.eq_iff_iff, bne_iff_ne, decide_eq_true_eq]
  unfold rg
  constructor
  · intro c
    rcases Nat.lt_or_ge (x % 9223372036854775808) 9218868437227405312 with g | g
    · exact g
    · exfalso; apply c
      have : x / 4503599627370496 % 2048 = 2047 := by omega
      rw [this]
  · intro g c
    have : x / 4503599627370496 % 2048 * 4503599627370496 = 9218868437227405312 := by exact_mod_cast c
    omega

theorem walk (a0 : Int) (w0 : (Lit.int .u64 a0).wf = true) (w : World) (hl : RL.Laid2 w) :
    Calls Tryd.prog 3 #[.int .u64 a0] w fun e w' => e = .returned (.bool true) ∧ Grown w w' := by
  obtain ⟨a, rfl, ha⟩ := nat_of w0
  have hW := W_canon ha
  refine way a (canon a : Nat) (fsub a a : Nat) (fadd a 0 : Nat) (feq a a) (!isNan a) (decide (rg (canon a) < 9218868437227405312)) (decide (fsub a a = 0)) (decide (fadd a 0 = canon a)) (decide (canon a ≠ minusZero))
    (add_is a NaN NaN (fadd_nan_r a)) (add_is NaN a NaN (fadd_nan_l a)) (sub_is a NaN NaN (fsub_nan_r a)) (sub_is NaN a NaN (fsub_nan_l a)) (mul_is a NaN NaN (fmul_nan_r a)) (mul_is NaN a NaN (fmul_nan_l a)) (div_is a NaN NaN (fdiv_nan_r a)) (div_is NaN a NaN (fdiv_nan_l a))
    (div_is 4607182418800017408 0 9218868437227405312 (by kernel_rfl)) (div_is 4607182418800017408 9223372036854775808 18442240474082181120 (by kernel_rfl)) (mul_is 0 9218868437227405312 NaN (by kernel_rfl)) (sub_is 9218868437227405312 9218868437227405312 NaN (by kernel_rfl)) (div_is 9223372036854775808 0 NaN (by kernel_rfl)) (add_is 9223372036854775808 9223372036854775808 9223372036854775808 (by kernel_rfl)) (add_is 0 9223372036854775808 0 (by kernel_rfl))
    (sub_is a a _ rfl) (add_is a minusZero _ (fadd_minus ha)) (mul_is a one_ _ (fmul_one ha)) (add_is a 0 _ rfl)
    (eq_is NaN a false (fcmp_nan_l isNan_NaN).2.1) (eq_is a NaN false (fcmp_nan_r isNan_NaN).2.1) (lt_is a NaN false (fcmp_nan_r isNan_NaN).1) (le_is NaN a false (fcmp_nan_l isNan_NaN).2.2) (eq_is a a _ rfl) (lt_is a a false (lt_self a)) (eq_is 0 9223372036854775808 true (by kernel_rfl)) (lt_is 9223372036854775808 0 false (by kernel_rfl))
    (canon_ a) (nan_test a) ?_ ?_ ?_ ?_ (eq_self a) ?_ (fadd_plus ha) w hl.1 hl.2
  · refine exp_test _ hW ?_
    cases hn : isNan a
    · rw [canon_num hn]; exact .inl ((isNan_no a).1 hn)
    · exact .inr (canon_nan hn)
  · rw [Bool.eq_iff_iff, beq_iff_eq, decide_eq_true_eq]; omega
  · rw [Bool.eq_iff_iff, beq_iff_eq, decide_eq_true_eq]; omega
  · rw [Bool.eq_iff_iff, bne_iff_ne, decide_eq_true_eq]; unfold minusZero; omega
  · rw [fsub_self ha, decide_eq_decide, rg_canon]

set_option maxRecDepth 100000 in
theorem lifted (os : Os) (started : os.Started) (H : Type) (enc : TypeId × Value → H) :
    ReturnsInHanded {} Tryd.checked os 3 .any (fun w args => (Rows.realEdgesSpec.pre enc Tryd.prog Tryd.f3 Rows.realEdgesRow.domain false w args ∧ laidMetH Tryd.prog Rows.realEdgesRow.laid w) ∧ sizedMet enc Tryd.prog Tryd.f3 (OpenSpec.ofChange Rows.realEdgesSpec) false w args)
      (Rows.realEdgesSpec.post enc Tryd.prog Tryd.f3 false true false false) := by
  refine returnsInHanded_of_change_and (C := Tryd.checked) (X := fun w _ => laidMetH Tryd.prog Rows.realEdgesRow.laid w) (fun _ _ _ hh h => h.of_heap hh) own started (by kernel_rfl) Tryd.func3
    (ChangeSpec.witness_shaped (enc := enc) (C := Tryd.checked) (os := os) (X := fun w _ => laidMetH Tryd.prog Rows.realEdgesRow.laid w) false (World.laidAll Tryd.prog os Rows.realEdgesRow.laid) #[.int .u64 0] 8 (World.laidAll_os _ _ _)
      (World.shaped_of_ZipB (by kernel_rfl) (by kernel_rfl)) (by kernel_rfl) (by kernel_rfl) (by kernel_rfl)
      (by rw [MakeChecks.laidMetH_plain _ _ _ (by kernel_rfl)]; exact laidMet_laidAll _ (by kernel_rfl) (by kernel_rfl))) ?_
  intro W base args ds gs before hval0 hW hcnd hroom hL _
  have hval : ∀ (j : Nat) t v, Tryd.f3.params[j]? = some t → args[j]? = some v → Value.okWide Tryd.prog W .any base t v := hval0
  have hW' := hW
  obtain ⟨p, q, hA0, hV, rfl, hfz, hnd⟩ := hW
  have hA : DataW.TrodAll enc Tryd.prog W 0 (fun _ => true) true Tryd.f3.params.toList args.toList ds p := hA0
  rw [Tryd.params3] at hA hval
  obtain ⟨v0, vs0, d0, ds0, p0, q0, hargs, rfl, rfl, h0, r0⟩ := trodAll_cons hA
  obtain ⟨rfl, rfl, rfl⟩ := trodAll_nil r0
  obtain rfl : args = #[v0] := by cases args; simp_all
  obtain ⟨rfl, rfl⟩ := trodVars_none hV
  obtain ⟨a0, rfl, rfl, rfl, w0⟩ := open_int Tryd.underlying22 (hval 0 22 v0 rfl rfl) h0
  clear hA0 hval0
  rw [MakeChecks.laidMetH_plain _ _ _ (by kernel_rfl)] at hL
  have hl : RL.Laid2 W := ⟨RL.info_cell (Lib.laidMet.reads hL (.tail _ (.tail _ (.tail _ (.head _))))), RL.optimize_cell (Lib.laidMet.reads hL (.tail _ (.tail _ (.tail _ (.tail _ (.head _))))))⟩
  simp only [List.append_nil] at hW'
  refine (walk a0 w0 W hl).mono fun e W' ⟨he, hg⟩ => ?_
  subst he
  exact ⟨_, rfl, post_of_same (pa := []) (pv := []) hW' (fun _ _ _ => (trodAll_cons_mk (shut_bool Tryd.underlying4 _) trodAll_mk0)) (fun sp _ => (trodAll_cons_mk (shut_int Tryd.underlying22 w0) trodAll_mk0)) (fun _ _ => rfl) rfl
    (hg.frame _) hg.2.1 (ok_one (by kernel_rfl) rfl (okWide_bool_mk Tryd.underlying4 _))⟩

theorem over : Rows.realEdgesRow.holds Tryd.pinned (OpenSpec.ofChange Rows.realEdgesSpec) :=
  OpenClaim.holds_of_wide 3 Tryd.f3 rfl rfl rfl rfl rfl rfl rfl ⟨rfl, rfl, rfl, rfl, rfl⟩ rfl rfl rfl rfl rfl (by kernel_rfl) Tryd.func3 (by kernel_rfl)
    (of_decide_eq_true (by kernel_rfl)) (by unfold Func.isWrapper; first | (rw [if_pos (by decide +kernel)]; kernel_rfl) | (rw [if_neg (by decide +kernel)]; exact ⟨rfl, rfl⟩))
    (fun os started H enc _ => lifted os started H enc)

/-- The card. -/
theorem proved : Rows.RealEdgesCardSaid :=
  Claim7.holds_tied_plain_at .later [] [.data, .data, .widerDeep, .widerDeep, .data, .data, .data, .data, .data, .sentinel, .sentinel, .pinned, .pinned] true (true, "c042b4a20cb2e67f3e1f1e588aeeadd841f17277e6743d866005aa6a12e593c3") true over (fun _ h => by cases h) (by kernel_rfl) (fun _ h => by cases h) realEdges_row_tie rfl ⟨rfl, rfl⟩ (by kernel_rfl) rfl
    (fun f fn hf hfn => by
      obtain rfl : f = 3 := Option.some.inj ((show Tryd.prog.funcNamed "solder/solderlaw02.RealEdges" = some 3 by kernel_rfl).symm.trans hf) |>.symm
      obtain rfl : fn = Tryd.f3 := (Option.some.inj (Tryd.func3.symm.trans hfn)).symm
      exact ⟨by kernel_rfl, fun j t ht => by
        rw [Tryd.params3] at ht
        have hm : t ∈ [22] := by simpa using Array.mem_of_getElem? ht
        have hall : ([22].all fun u => !Tryd.prog.wantsStandIn u) = true := by kernel_rfl
        exact (show Tryd.prog.wantsStandIn t = false by simpa using List.all_eq_true.1 hall t hm)⟩)
    (by kernel_rfl)
end Go.Proofs.YtcflinmlinmgjaaDoor.realEdges
