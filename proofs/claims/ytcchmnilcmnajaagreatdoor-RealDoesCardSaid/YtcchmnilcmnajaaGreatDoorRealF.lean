/-
  The reference's OfInt and ToInt, each a contract; nearest of a whole number. Conditions: exponents within 5000; bits of 64.
-/
import Derived.Test.YtcchmnilcmnajaaGreatDoorRealB
import Derived.Test.YtcchmnilcmnajaaGreatDoorRealQ
namespace Go.Proofs.YtcchmnilcmnajaaGreatDoor
open Go.RowKit
set_option linter.unusedVariables false
set_option linter.unusedSimpArgs false
namespace RF
open RM RC RB RN
theorem NumT.le {w : World} {v : Value} {N M M' : Nat} (h : NumT w v N M) (hM : M ≤ M') : NumT w v N M' := by
  obtain ⟨n, h1, h2, h3⟩ := h
  exact ⟨n, h1, h2, by omega⟩
theorem ofT (w : World) (X : Nat) (hX : X < 9223372036854775808) : Calls Tryz.prog 34 #[.int .i64 (X : Int)] w (ResT w X 4) :=
  (of_ w X hX).mono fun _ _ ⟨v, q, a1, a2, a3, a4, a5, _⟩ => ⟨v, a1, ⟨q, a2, a3, a4⟩, a5⟩
theorem near1 (w : World) (va vb : Value) (A : Nat) (x : Int) (ha : NumT w va A 400) (hb : NumT w vb 1 400) (hx1 : -5000 ≤ x) (hx2 : x ≤ 5000) :
    Calls Tryz.prog 32 #[va, vb, .int .i64 x] w fun e w' => e = .returned (.int .u64 ((rungOf A x : Nat) : Int)) ∧ Below w.heap.size w w' := by
  refine (nearest w va vb A 1 x ha hb (by decide) hx1 hx2).mono fun e w' ⟨r, h1, h2, h3, h4⟩ => ⟨?_, h4⟩
  rw [h1]
  by_cases h0 : A = 0
  · rw [h2 h0, h0, rungOf_zero]
  · rw [Near.uniq (h3 (by omega)) (near_rung A x h0)]
theorem wordSigned (a : Int) (h0 : 0 ≤ a) (h1 : a < 4294967296) (w : World) : Calls Tryz.prog 45 #[.int .u32 a] w fun e w' => e = .returned (.int .i64 (wrap32 a)) ∧ w = w' := by
  by_cases c : 2147483648 ≤ a
  · have hv : wrap32 a = a - 4294967296 := by simp only [wrap32]; omega
    rw [hv]
    go_enter Tryz.func45, Tryz.ntmps45
    go_wp2
    go_ret
    exact ⟨rfl, rfl⟩
  · have hv : wrap32 a = a := by simp only [wrap32]; omega
    rw [hv]
    go_enter Tryz.func45, Tryz.ntmps45
    go_wp2
    go_ret
    exact ⟨rfl, rfl⟩
theorem wordOf (v : Int) (h0 : -9223372036854775808 < v) (h1 : v ≤ 0) (w : World) : Calls Tryz.prog 41 #[.int .i64 v] w fun e w' => e = .returned (.int .u32 (v % 4294967296)) ∧ w = w' := by
  obtain ⟨r, hr⟩ : ∃ r, v.tmod 4294967296 = r := ⟨_, rfl⟩
  have hr2 : r = -((-v) % 4294967296) := by rw [← hr, show v = -(-v) by omega, Int.neg_tmod, Int.tmod_eq_emod_of_nonneg (by omega)]; omega
  by_cases c : r < 0
  · have hv : v % 4294967296 = r + 4294967296 := by omega
    have b : -4294967296 < r := by omega
    rw [hv]
    clear hv hr2 h0 h1
    go_enter Tryz.func41, Tryz.ntmps41
    go_wp2
    go_ret
    exact ⟨rfl, rfl⟩
  · have hv : v % 4294967296 = r := by omega
    have b : r = 0 := by omega
    subst b
    rw [hv]
    clear hv hr2 h0 h1
    go_enter Tryz.func41, Tryz.ntmps41
    go_wp2
    go_ret
    exact ⟨rfl, rfl⟩
theorem ofInt_ (a : Int) (h0 : 0 ≤ a) (h1 : a < 4294967296) (w : World) : Calls Tryz.prog 20 #[.int .u32 a] w fun e w' => e = .returned (.int .u64 ((ofInt (wrap32 a) : Nat) : Int)) ∧ Below w.heap.size w w' := by
  have hs := fun w => wordSigned a h0 h1 w
  have hb : -2147483648 ≤ wrap32 a ∧ wrap32 a ≤ 2147483647 := by simp only [wrap32]; omega
  generalize wrap32 a = n at *
  have o1 : ∀ w, Calls Tryz.prog 34 #[.int .i64 1] w (ResT w 1 4) := fun w => ofT w 1 (by omega)
  have on := fun w => ofT w n.natAbs (by omega)
  unfold ofInt
  clear h0 h1
  by_cases c : n < 0
  · rw [decide_eq_true c]
    have hn : ((n.natAbs : Nat) : Int) = -n := by omega
    rw [hn] at on
    have hr := Lib.hid (rungOf_lt n.natAbs 0)
    have sg := Lib.hid (fun w => signed_ true (rungOf n.natAbs 0) hr.out w)
    unfold sgI at sg
    clear hn
    generalize n.natAbs = N at *
    go_enter Tryz.func20, Tryz.ntmps20
    go_wp2_with (first
      | ((with_reducible refine (hs _).mono ?_); rintro e w' ⟨rfl, rfl⟩)
      | ((with_reducible refine (on _).mono ?_); rintro e w1 ⟨v1, rfl, n1, b1⟩; have N1 := Lib.hid n1; clear n1)
      | ((with_reducible refine (o1 _).mono ?_); rintro e w2 ⟨v2, rfl, n2, b2⟩; have N2 := Lib.hid n2; clear n2)
      | (go_at_call 32; (refine (near1 _ _ _ N 0 (NumT.le (N1.out.below b2 (Nat.le_refl _)) (by decide)) (NumT.le N2.out (by decide)) (by omega) (by omega)).mono ?_); rintro e w3 ⟨rfl, b3⟩)
      | (go_at_call 30; (refine (sg.out _).mono ?_); rintro e w4 ⟨rfl, rfl⟩))
    go_ret
    have B2 := b1.trans (b2.mono b1.size)
    exact ⟨rfl, B2.trans (b3.mono B2.size)⟩
  · rw [decide_eq_false c]
    have hn : ((n.natAbs : Nat) : Int) = n := by omega
    rw [hn] at on
    rw [word_false]
    clear hn
    generalize n.natAbs = N at *
    go_enter Tryz.func20, Tryz.ntmps20
    go_wp2_with (first
      | ((with_reducible refine (hs _).mono ?_); rintro e w' ⟨rfl, rfl⟩)
      | ((with_reducible refine (on _).mono ?_); rintro e w1 ⟨v1, rfl, n1, b1⟩; have N1 := Lib.hid n1; clear n1)
      | ((with_reducible refine (o1 _).mono ?_); rintro e w2 ⟨v2, rfl, n2, b2⟩; have N2 := Lib.hid n2; clear n2)
      | (go_at_call 32; (refine (near1 _ _ _ N 0 (NumT.le (N1.out.below b2 (Nat.le_refl _)) (by decide)) (NumT.le N2.out (by decide)) (by omega) (by omega)).mono ?_); rintro e w3 ⟨rfl, b3⟩))
    go_ret
    have B2 := b1.trans (b2.mono b1.size)
    exact ⟨rfl, B2.trans (b3.mono B2.size)⟩
theorem tw_nan {a : Nat} (hn : isNan a = true) : toWord a = 2147483647 := by unfold toWord; rw [hn]; rfl
theorem tw_num {a : Nat} (hn : isNan a = false) : toWord a = if 4746794007244308480 ≤ key a then 2147483647 else if key a ≤ -4746794007248502784 then 2147483648 else signedWhole a % 4294967296 := by
  unfold toWord
  rw [hn, fge_eq hn nn_greatest, fle_eq hn nn_least, key_greatest, key_least]
  simp
theorem key_s {a : Nat} {s : Bool} (hs : sgn a = s) : key a = if s then -(eB a * 4503599627370496 + rB a) else eB a * 4503599627370496 + rB a := by
  unfold key; rw [hs, rg_er]
theorem tw_small {a : Nat} (hn : isNan a = false) (he : eB a < 1023) : toWord a = 0 := by
  have h2 := rB_bd a
  have h1 := eB_bd a
  have hk : ¬ 4746794007244308480 ≤ key a ∧ ¬ key a ≤ -4746794007248502784 := by
    cases hs : sgn a <;> rw [key_s hs] <;> simp only [Bool.false_eq_true, if_false, if_true] <;> omega
  have hl := pl_er (a := a)
  have hm := mg_lt a
  have hw : whole a = 0 := by
    have hp : pl a ≤ -53 := by rw [hl]; split <;> omega
    unfold whole
    rw [show (pl a).toNat = 0 by omega, Nat.pow_zero, Nat.mul_one]
    refine Nat.div_eq_of_lt (Nat.lt_of_lt_of_le hm ?_)
    exact Nat.le_trans (show 9007199254740992 ≤ 2 ^ 53 by decide) (pow_mono (by omega))
  rw [tw_num hn, if_neg hk.1, if_neg hk.2]
  unfold signedWhole
  rw [hw]
  cases sgn a <;> rfl
theorem tw_big {a : Nat} (hn : isNan a = false) (he : 1054 < eB a) (s : Bool) (hs : sgn a = s) : toWord a = if s then 2147483648 else 2147483647 := by
  have h2 := rB_bd a
  rw [tw_num hn, key_s hs]
  cases s <;> simp only [Bool.false_eq_true, if_false, if_true]
  · rw [if_pos (by omega)]
  · rw [if_neg (by omega), if_pos (by omega)]
theorem whole_mid {a : Nat} (h1 : 1023 ≤ eB a) (h2 : eB a ≤ 1054) : whole a = mg a / 2 ^ (1075 - eB a).toNat := by
  have hl := pl_er (a := a)
  rw [if_neg (by omega)] at hl
  unfold whole
  rw [show (pl a).toNat = 0 by omega, Nat.pow_zero, Nat.mul_one, show (-pl a).toNat = (1075 - eB a).toNat by omega]
theorem mid_pos {a : Nat} (hn : isNan a = false) (h1 : 1023 ≤ eB a) (h2 : eB a ≤ 1054) (hs : sgn a = false) : toWord a = if 2147483647 < (whole a : Int) then 2147483647 else (whole a : Int) := by
  have hb := rB_bd a
  have hm := mg_er (a := a)
  rw [if_neg (by omega)] at hm
  have hr := rg_er a
  rw [tw_num hn, key_s hs]
  simp only [Bool.false_eq_true, if_false]
  have hsw : signedWhole a = whole a := by unfold signedWhole; rw [hs]; rfl
  rw [hsw]
  by_cases c : 4746794007244308480 ≤ eB a * 4503599627370496 + rB a
  · rw [if_pos c]
    have hw := whole_mid h1 h2
    rcases (show eB a = 1054 ∨ eB a = 1053 by omega) with e | e
    · rw [e] at hw
      have : 2147483647 < (whole a : Int) := by
        rw [hw, show (1075 - 1054 : Int).toNat = 21 by decide, show (2 : Nat) ^ 21 = 2097152 by decide]; omega
      rw [if_pos this]
    · rw [e] at hw
      have : 2147483647 ≤ (whole a : Int) := by
        rw [hw, show (1075 - 1053 : Int).toNat = 22 by decide, show (2 : Nat) ^ 22 = 4194304 by decide]; omega
      split <;> omega
  · rw [if_neg c, if_neg (by omega)]
    have hlt := whole_lt (w := a) (by omega)
    rw [if_neg (by omega)]
    omega
theorem mid_neg {a : Nat} (hn : isNan a = false) (h1 : 1023 ≤ eB a) (h2 : eB a ≤ 1054) (hs : sgn a = true) : toWord a = if 2147483648 ≤ (whole a : Int) then 2147483648 else -(whole a : Int) % 4294967296 := by
  have hb := rB_bd a
  have hm := mg_er (a := a)
  rw [if_neg (by omega)] at hm
  have hr := rg_er a
  rw [tw_num hn, key_s hs]
  simp only [if_true]
  have hsw : signedWhole a = -(whole a : Int) := by unfold signedWhole; rw [hs]; rfl
  rw [hsw, if_neg (by omega)]
  by_cases c : eB a = 1054
  · rw [if_pos (by omega)]
    have hw := whole_mid h1 h2
    rw [c] at hw
    have : 2147483648 ≤ (whole a : Int) := by
      rw [hw, show (1075 - 1054 : Int).toNat = 21 by decide, show (2 : Nat) ^ 21 = 2097152 by decide]; omega
    rw [if_pos this]
  · rw [if_neg (by omega)]
    have hlt := whole_lt (w := a) (by omega)
    rw [if_neg (by omega)]
theorem half2 (M i : Nat) : M / 2 ^ i / 2 = M / 2 ^ (i + 1) := by rw [Nat.div_div_eq_div_mul, Nat.pow_succ]
set_option maxRecDepth 100000 in
theorem toInt_ (a : Nat) (h : W a) (w : World) : Calls Tryz.prog 16 #[.int .u64 (a : Int)] w fun e w' => e = .returned (.int .u32 (toWord a)) ∧ w = w' := by
  have hp := parts a h
  have hi := is_ a h
  have b1 := eB_bd a
  have b2 := rB_bd a
  rw [sB_sgI h] at hp
  cases hn : isNan a with
  | true =>
    rw [hn] at hi
    rw [tw_nan hn]
    clear hn
    generalize eB a = e at *
    generalize rB a = r at *
    generalize sgI (sgn a) = s at *
    go_enter Tryz.func16, Tryz.ntmps16
    go_wp2_with (first
      | ((with_reducible refine (hp _).mono ?_); rintro e w' ⟨rfl, rfl⟩)
      | ((with_reducible refine (hi _).mono ?_); rintro e w' ⟨rfl, rfl⟩))
    go_ret
    exact ⟨rfl, rfl⟩
  | false =>
    rw [hn] at hi
    by_cases he : eB a < 1023
    · rw [tw_small hn he]
      clear hn
      generalize eB a = e at *
      generalize rB a = r at *
      generalize sgI (sgn a) = s at *
      go_enter Tryz.func16, Tryz.ntmps16
      go_wp2_with (first
        | ((with_reducible refine (hp _).mono ?_); rintro e w' ⟨rfl, rfl⟩)
        | ((with_reducible refine (hi _).mono ?_); rintro e w' ⟨rfl, rfl⟩))
      go_ret
      exact ⟨rfl, rfl⟩
    · by_cases he2 : 1054 < eB a
      · cases hs : sgn a
        all_goals
          rw [tw_big hn he2 _ hs]
          rw [hs] at hp
          unfold sgI at hp
          clear hn hs
          generalize eB a = e at *
          generalize rB a = r at *
          go_enter Tryz.func16, Tryz.ntmps16
          go_wp2_with (first
            | ((with_reducible refine (hp _).mono ?_); rintro e w' ⟨rfl, rfl⟩)
            | ((with_reducible refine (hi _).mono ?_); rintro e w' ⟨rfl, rfl⟩))
          go_ret
          exact ⟨rfl, rfl⟩
      · have hw := whole_mid (a := a) (by omega) (by omega)
        have hm := mg_er (a := a)
        rw [if_neg (by omega)] at hm
        have hm2 := mg_lt a
        have hpos := mid_pos hn (by omega) (by omega)
        have hneg := mid_neg hn (by omega) (by omega)
        rw [hw] at hpos hneg
        obtain ⟨K, hK⟩ : ∃ K : Nat, (1075 - eB a).toNat = K := ⟨_, rfl⟩
        have hK2 : eB a = 1075 - (K : Int) := by omega
        have k1 : 21 ≤ K := by omega
        have k2 : K ≤ 52 := by omega
        rw [hK] at hpos hneg
        have HP := Lib.hid hpos
        have HN := Lib.hid hneg
        rw [hK2] at hp
        obtain ⟨M, hM⟩ : ∃ M, mg a = M := ⟨_, rfl⟩
        rw [hM] at HP HN hm hm2
        have hr2 : rB a = (M : Int) - 4503599627370496 := by omega
        rw [hr2] at hp
        have m1 : 4503599627370496 ≤ (M : Int) := by omega
        clear hpos hneg hw hm hK hK2 hM hr2 b1 b2 he he2 hn
        cases hs : sgn a with
        | true =>
          rw [hs] at hp
          unfold sgI at hp
          have HV := Lib.hid (HN.out hs)
          clear hs HN HP
          go_enter Tryz.func16, Tryz.ntmps16
          go_wp2_with (first
            | ((with_reducible refine (hp _).mono ?_); rintro e w' ⟨rfl, rfl⟩)
            | ((with_reducible refine (hi _).mono ?_); rintro e w' ⟨rfl, rfl⟩))
          clear hp hi
          go_loop [6, 7] (fun n k => ∃ i : Nat, i ≤ K ∧ n = .int .i64 ((M / 2 ^ i : Nat) : Int) ∧ k = .int .u64 (1075 - (K : Int) + i)) (fun _ k => (1075 - intOf k).toNat)
          case atStart => exact ⟨0, Nat.zero_le _, by rw [Nat.pow_zero, Nat.div_one], by simp⟩
          case round =>
            obtain ⟨i, hik, rfl, rfl⟩ := hrel
            have hq : M / 2 ^ i ≤ M := Nat.div_le_self _ _
            by_cases hlt : i < K
            · have H2 := Lib.hid (half2 M i)
              generalize M / 2 ^ i = q at *
              have HQ : Hid (((q : Nat) : Int) / 2 = ((q / 2 : Nat) : Int)) := Lib.hid (by omega)
              go_wp2
              go_round
              case rel => exact ⟨i + 1, by omega, by rw [← H2.out, ← HQ.out], by congr 1; omega⟩
              case measure => simp [intOf]; omega
            · obtain rfl : i = K := by omega
              generalize M / 2 ^ i = q at *
              by_cases c : 2147483648 ≤ (q : Int)
              · have H3 := Lib.hid (HV.out.trans (if_pos c))
                go_wp2_with (go_at_call 41; (refine (wordOf _ (by omega) (by omega) _).mono ?_); rintro e w' ⟨rfl, rfl⟩)
                go_ret
                exact ⟨ret_int H3.out.symm, rfl⟩
              · have H3 := Lib.hid (HV.out.trans (if_neg c))
                go_wp2_with (go_at_call 41; (refine (wordOf _ (by omega) (by omega) _).mono ?_); rintro e w' ⟨rfl, rfl⟩)
                go_ret
                exact ⟨ret_int H3.out.symm, rfl⟩
        | false =>
          rw [hs] at hp
          unfold sgI at hp
          have HV := Lib.hid (HP.out hs)
          clear hs HN HP
          go_enter Tryz.func16, Tryz.ntmps16
          go_wp2_with (first
            | ((with_reducible refine (hp _).mono ?_); rintro e w' ⟨rfl, rfl⟩)
            | ((with_reducible refine (hi _).mono ?_); rintro e w' ⟨rfl, rfl⟩))
          clear hp hi
          go_loop [6, 7] (fun n k => ∃ i : Nat, i ≤ K ∧ n = .int .i64 ((M / 2 ^ i : Nat) : Int) ∧ k = .int .u64 (1075 - (K : Int) + i)) (fun _ k => (1075 - intOf k).toNat)
          case atStart => exact ⟨0, Nat.zero_le _, by rw [Nat.pow_zero, Nat.div_one], by simp⟩
          case round =>
            obtain ⟨i, hik, rfl, rfl⟩ := hrel
            have hq : M / 2 ^ i ≤ M := Nat.div_le_self _ _
            by_cases hlt : i < K
            · have H2 := Lib.hid (half2 M i)
              generalize M / 2 ^ i = q at *
              have HQ : Hid (((q : Nat) : Int) / 2 = ((q / 2 : Nat) : Int)) := Lib.hid (by omega)
              go_wp2
              go_round
              case rel => exact ⟨i + 1, by omega, by rw [← H2.out, ← HQ.out], by congr 1; omega⟩
              case measure => simp [intOf]; omega
            · obtain rfl : i = K := by omega
              generalize M / 2 ^ i = q at *
              by_cases c : 2147483647 < (q : Int)
              · have H3 := Lib.hid (HV.out.trans (if_pos c))
                go_wp2_with (go_at_call 41; (refine (wordOf _ (by omega) (by omega) _).mono ?_); rintro e w' ⟨rfl, rfl⟩)
                go_ret
                exact ⟨ret_int H3.out.symm, rfl⟩
              · have H3 := Lib.hid (HV.out.trans (if_neg c))
                go_wp2_with (go_at_call 41; (refine (wordOf _ (by omega) (by omega) _).mono ?_); rintro e w' ⟨rfl, rfl⟩)
                go_ret
                exact ⟨ret_int H3.out.symm, rfl⟩
end RF
end Go.Proofs.YtcchmnilcmnajaaGreatDoor
