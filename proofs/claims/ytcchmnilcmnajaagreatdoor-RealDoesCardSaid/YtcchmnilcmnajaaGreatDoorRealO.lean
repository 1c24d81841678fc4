/-
  The reference's Do, a contract for each operation. Condition: the bits are 64.
-/
import Derived.Test.YtcchmnilcmnajaaGreatDoorRealT
namespace Go.Proofs.YtcchmnilcmnajaaGreatDoor
open Go.RowKit
set_option linter.unusedVariables false
set_option linter.unusedSimpArgs false
namespace RO
open RM RC RB RN RF RJ RI RT
theorem cls (a : Nat) : isNan a = true ∨ (isNan a = false ∧ rg a = 9218868437227405312 ∧ eB a = 2047) ∨ (isNan a = false ∧ rg a < 9218868437227405312 ∧ eB a ≠ 2047 ∧ rg a ≠ 0) ∨ (isNan a = false ∧ rg a < 9218868437227405312 ∧ eB a ≠ 2047 ∧ rg a = 0) := by
  have h1 := rg_er a
  have h2 := eB_bd a
  have h3 := rB_bd a
  cases hn : isNan a with
  | true => exact .inl rfl
  | false =>
    have h4 := (isNan_no a).1 hn
    refine .inr ?_
    rcases Nat.lt_or_ge (rg a) 9218868437227405312 with h | h
    · rcases Nat.eq_zero_or_pos (rg a) with h0 | h0
      · exact .inr (.inr ⟨rfl, h, by omega, h0⟩)
      · exact .inr (.inl ⟨rfl, h, by omega, by omega⟩)
    · exact .inl ⟨rfl, by omega, by omega⟩
theorem nearQ (w : World) (va vb : Value) (A B r' : Nat) (x : Int) (ha : NumT w va A 400) (hb : NumT w vb B 400) (hB : 0 < B) (hx1 : -5000 ≤ x) (hx2 : x ≤ 5000) (h0 : A = 0 → r' = 0) (h1 : A ≠ 0 → Near A B x r') :
    Calls Tryz.prog 32 #[va, vb, .int .i64 x] w fun e w' => e = .returned (.int .u64 ((r' : Nat) : Int)) ∧ Below w.heap.size w w' := by
  refine (nearest w va vb A B x ha hb hB hx1 hx2).mono fun e w' ⟨r, k1, k2, k3, k4⟩ => ⟨?_, k4⟩
  rw [k1]
  by_cases hz : A = 0
  · rw [k2 hz, h0 hz]
  · rw [Near.uniq (k3 (by omega)) (h1 hz)]
theorem near_lt {A B r : Nat} {x : Int} (h : Near A B x r) : r < 9223372036854775808 := by
  obtain ⟨k, N, -, -, -, e⟩ := h
  have : r ≤ infR := by rw [e]; exact Nat.min_le_right _ _
  unfold infR at this; omega
theorem xor_sg (s t : Bool) : (sgI s + sgI t) % 2 = sgI (s ^^ t) := by cases s <;> cases t <;> rfl
theorem sgI_bd (s : Bool) : 0 ≤ sgI s ∧ sgI s ≤ 1 := by cases s <;> decide
theorem rem63 (a : Nat) : (a : Int) % 9223372036854775808 = ((rg a : Nat) : Int) := by unfold rg; omega
theorem ne_b {a b : Int} (h : a ≠ b) : (a == b) = false := by simp [h]
theorem ne_b' {a b : Int} (h : a ≠ b) : (a != b) = true := by simp [h]
theorem fadd_nan1 {x y : Nat} (h : isNan x = true) : fadd x y = NaN ∧ fmul x y = NaN ∧ fdiv x y = NaN ∧ fsub x y = NaN := by
  have := nan_l (y := y) h
  unfold fadd fmul fdiv fsub
  rw [this.1, this.2.1, this.2.2.1, this.2.2.2.1]; exact ⟨rfl, rfl, rfl, rfl⟩
theorem fadd_nan2 {x y : Nat} (h : isNan y = true) : fadd x y = NaN ∧ fmul x y = NaN ∧ fdiv x y = NaN ∧ fsub x y = NaN := by
  have := nan_r (x := x) h
  unfold fadd fmul fdiv fsub
  rw [this.1, this.2.1, this.2.2.1, this.2.2.2.1]; exact ⟨rfl, rfl, rfl, rfl⟩
theorem bel3 {w w1 w2 : World} (h1 : Below w.heap.size w w1) (h2 : Below w1.heap.size w1 w2) : Below w.heap.size w w2 := h1.trans (h2.mono h1.size)
set_option maxRecDepth 100000 in
set_option maxHeartbeats 8000000 in
theorem do_add (a b : Nat) (ha : W a) (hb : W b) (w : World) : Calls Tryz.prog 8 #[.int .i64 45, .int .u64 (a : Int), .int .u64 (b : Int)] w fun e w' => e = .returned (.tuple #[.int .u64 ((fadd a b : Nat) : Int), .bool true]) ∧ Below w.heap.size w w' := by
  have ha' := ha
  have hb' := hb
  have hq1 := parts a ha
  have hq2 := parts b hb
  have hi1 := is_ a ha
  have hi2 := is_ b hb
  rw [sB_sgI ha] at hq1
  rw [sB_sgI hb] at hq2
  have r1 := rem63 a
  have r2 := rem63 b
  have s1 := sgI_bd (sgn a)
  have s2 := sgI_bd (sgn b)
  have k1 := eB_bd a
  have k2 := eB_bd b
  unfold W at ha hb
  rcases cls a with hn1 | ⟨hn1, hr1, he1⟩ | ⟨hn1, hr1, he1, h01⟩ | ⟨hn1, hr1, he1, h01⟩
  · have HR := Lib.hid (show fadd a b = NaN from (fadd_nan1 hn1).1)
    rw [hn1] at hi1
    generalize fadd a b = V at *
    generalize eB a = e at *
    generalize eB b = f at *
    generalize rB a = p at *
    generalize rB b = q at *
    generalize sgI (sgn a) = s at *
    generalize sgI (sgn b) = z at *
    go_enter Tryz.func8, Tryz.ntmps8
    go_wp2_with (first
          | ((with_reducible refine (hq1 _).mono ?_); rintro e w' ⟨rfl, rfl⟩)
          | ((with_reducible refine (hq2 _).mono ?_); rintro e w' ⟨rfl, rfl⟩)
          | ((with_reducible refine (hi1 _).mono ?_); rintro e w' ⟨rfl, rfl⟩)
          | ((with_reducible refine (hi2 _).mono ?_); rintro e w' ⟨rfl, rfl⟩))
    go_ret2
    exact ⟨ret_pair (by rw [HR.out]; rfl), Below.refl _ _⟩
  · rcases cls b with hn2 | ⟨hn2, hr2, he2⟩ | ⟨hn2, hr2, he2, h02⟩ | ⟨hn2, hr2, he2, h02⟩
    · have HR := Lib.hid (show fadd a b = NaN from (fadd_nan2 hn2).1)
      rw [hn1] at hi1
      have hX1 : (((rg a : Nat) : Int) == 0) = false := ne_b (by omega)
      have hR1 := Lib.hid hr1
      clear hr1 hn1
      rw [hn2] at hi2
      generalize fadd a b = V at *
      generalize eB a = e at *
      generalize eB b = f at *
      generalize rB a = p at *
      generalize rB b = q at *
      generalize ((rg a : Nat) : Int) = X at *
      subst he1
      generalize sgI (sgn a) = s at *
      generalize sgI (sgn b) = z at *
      go_enter Tryz.func8, Tryz.ntmps8
      go_wp2_with (first
            | ((with_reducible refine (hq1 _).mono ?_); rintro e w' ⟨rfl, rfl⟩)
            | ((with_reducible refine (hq2 _).mono ?_); rintro e w' ⟨rfl, rfl⟩)
            | ((with_reducible refine (hi1 _).mono ?_); rintro e w' ⟨rfl, rfl⟩)
            | ((with_reducible refine (hi2 _).mono ?_); rintro e w' ⟨rfl, rfl⟩))
      go_ret2
      exact ⟨ret_pair (by rw [HR.out]; rfl), Below.refl _ _⟩
    · by_cases hs : sgn a = sgn b
      · have HR := Lib.hid (show fadd a b = a from add_inf_l ha hr1 hn2 (fun _ => hs))
        have hss : sgI (sgn b) = sgI (sgn a) := by rw [hs]
        rw [hss] at hq2
        clear hs hss s2
        rw [hn1] at hi1
        have hX1 : (((rg a : Nat) : Int) == 0) = false := ne_b (by omega)
        have hR1 := Lib.hid hr1
        clear hr1 hn1
        rw [hn2] at hi2
        have hX2 : (((rg b : Nat) : Int) == 0) = false := ne_b (by omega)
        have hR2 := Lib.hid hr2
        clear hr2 hn2
        generalize fadd a b = V at *
        generalize eB a = e at *
        generalize eB b = f at *
        generalize rB a = p at *
        generalize rB b = q at *
        generalize ((rg a : Nat) : Int) = X at *
        generalize ((rg b : Nat) : Int) = Y at *
        subst he1
        subst he2
        generalize sgI (sgn a) = s at *
        go_enter Tryz.func8, Tryz.ntmps8
        go_wp2_with (first
              | ((with_reducible refine (hq1 _).mono ?_); rintro e w' ⟨rfl, rfl⟩)
              | ((with_reducible refine (hq2 _).mono ?_); rintro e w' ⟨rfl, rfl⟩)
              | ((with_reducible refine (hi1 _).mono ?_); rintro e w' ⟨rfl, rfl⟩)
              | ((with_reducible refine (hi2 _).mono ?_); rintro e w' ⟨rfl, rfl⟩))
        go_ret2
        exact ⟨ret_pair (by rw [HR.out]), Below.refl _ _⟩
      · have HR := Lib.hid (show fadd a b = NaN from add_opp hr1 hr2 hs)
        have hss := ne_b' (fun e => hs (by revert e; cases sgn a <;> cases sgn b <;> decide) : sgI (sgn a) ≠ sgI (sgn b))
        clear hs
        rw [hn1] at hi1
        have hX1 : (((rg a : Nat) : Int) == 0) = false := ne_b (by omega)
        have hR1 := Lib.hid hr1
        clear hr1 hn1
        rw [hn2] at hi2
        have hX2 : (((rg b : Nat) : Int) == 0) = false := ne_b (by omega)
        have hR2 := Lib.hid hr2
        clear hr2 hn2
        generalize fadd a b = V at *
        generalize eB a = e at *
        generalize eB b = f at *
        generalize rB a = p at *
        generalize rB b = q at *
        generalize ((rg a : Nat) : Int) = X at *
        generalize ((rg b : Nat) : Int) = Y at *
        subst he1
        subst he2
        generalize sgI (sgn a) = s at *
        generalize sgI (sgn b) = z at *
        go_enter Tryz.func8, Tryz.ntmps8
        go_wp2_with (first
              | ((with_reducible refine (hq1 _).mono ?_); rintro e w' ⟨rfl, rfl⟩)
              | ((with_reducible refine (hq2 _).mono ?_); rintro e w' ⟨rfl, rfl⟩)
              | ((with_reducible refine (hi1 _).mono ?_); rintro e w' ⟨rfl, rfl⟩)
              | ((with_reducible refine (hi2 _).mono ?_); rintro e w' ⟨rfl, rfl⟩))
        go_ret2
        exact ⟨ret_pair (by rw [HR.out]; rfl), Below.refl _ _⟩
    · have HR := Lib.hid (show fadd a b = a from add_inf_l ha hr1 hn2 (fun h => by omega))
      rw [hn1] at hi1
      have hX1 : (((rg a : Nat) : Int) == 0) = false := ne_b (by omega)
      have hR1 := Lib.hid hr1
      clear hr1 hn1
      rw [hn2] at hi2
      have hE2 := ne_b he2
      have hX2 : (((rg b : Nat) : Int) == 0) = false := ne_b (by omega)
      have hR2 := Lib.hid hr2
      clear hr2 hn2 h02 he2
      generalize fadd a b = V at *
      generalize eB a = e at *
      generalize eB b = f at *
      generalize rB a = p at *
      generalize rB b = q at *
      generalize ((rg a : Nat) : Int) = X at *
      generalize ((rg b : Nat) : Int) = Y at *
      subst he1
      generalize sgI (sgn a) = s at *
      generalize sgI (sgn b) = z at *
      go_enter Tryz.func8, Tryz.ntmps8
      go_wp2_with (first
            | ((with_reducible refine (hq1 _).mono ?_); rintro e w' ⟨rfl, rfl⟩)
            | ((with_reducible refine (hq2 _).mono ?_); rintro e w' ⟨rfl, rfl⟩)
            | ((with_reducible refine (hi1 _).mono ?_); rintro e w' ⟨rfl, rfl⟩)
            | ((with_reducible refine (hi2 _).mono ?_); rintro e w' ⟨rfl, rfl⟩))
      go_ret2
      exact ⟨ret_pair (by rw [HR.out]), Below.refl _ _⟩
    · have HR := Lib.hid (show fadd a b = a from add_inf_l ha hr1 hn2 (fun h => by omega))
      rw [hn1] at hi1
      have hX1 : (((rg a : Nat) : Int) == 0) = false := ne_b (by omega)
      have hR1 := Lib.hid hr1
      clear hr1 hn1
      rw [hn2] at hi2
      have hE2 := ne_b he2
      rw [h02] at r2
      have hR2 := Lib.hid hr2
      clear hr2 hn2 h02 he2
      generalize fadd a b = V at *
      generalize eB a = e at *
      generalize eB b = f at *
      generalize rB a = p at *
      generalize rB b = q at *
      generalize ((rg a : Nat) : Int) = X at *
      subst he1
      generalize sgI (sgn a) = s at *
      generalize sgI (sgn b) = z at *
      go_enter Tryz.func8, Tryz.ntmps8
      go_wp2_with (first
            | ((with_reducible refine (hq1 _).mono ?_); rintro e w' ⟨rfl, rfl⟩)
            | ((with_reducible refine (hq2 _).mono ?_); rintro e w' ⟨rfl, rfl⟩)
            | ((with_reducible refine (hi1 _).mono ?_); rintro e w' ⟨rfl, rfl⟩)
            | ((with_reducible refine (hi2 _).mono ?_); rintro e w' ⟨rfl, rfl⟩))
      go_ret2
      exact ⟨ret_pair (by rw [HR.out]), Below.refl _ _⟩
  · rcases cls b with hn2 | ⟨hn2, hr2, he2⟩ | ⟨hn2, hr2, he2, h02⟩ | ⟨hn2, hr2, he2, h02⟩
    · have HR := Lib.hid (show fadd a b = NaN from (fadd_nan2 hn2).1)
      rw [hn1] at hi1
      have hE1 := ne_b he1
      have hX1 : (((rg a : Nat) : Int) == 0) = false := ne_b (by omega)
      have hR1 := Lib.hid hr1
      clear hr1 hn1 h01 he1
      rw [hn2] at hi2
      generalize fadd a b = V at *
      generalize eB a = e at *
      generalize eB b = f at *
      generalize rB a = p at *
      generalize rB b = q at *
      generalize ((rg a : Nat) : Int) = X at *
      generalize sgI (sgn a) = s at *
      generalize sgI (sgn b) = z at *
      go_enter Tryz.func8, Tryz.ntmps8
      go_wp2_with (first
            | ((with_reducible refine (hq1 _).mono ?_); rintro e w' ⟨rfl, rfl⟩)
            | ((with_reducible refine (hq2 _).mono ?_); rintro e w' ⟨rfl, rfl⟩)
            | ((with_reducible refine (hi1 _).mono ?_); rintro e w' ⟨rfl, rfl⟩)
            | ((with_reducible refine (hi2 _).mono ?_); rintro e w' ⟨rfl, rfl⟩))
      go_ret2
      exact ⟨ret_pair (by rw [HR.out]; rfl), Below.refl _ _⟩
    · have HR := Lib.hid (show fadd a b = b from add_inf_r hb hr2 hr1)
      rw [hn1] at hi1
      have hE1 := ne_b he1
      have hX1 : (((rg a : Nat) : Int) == 0) = false := ne_b (by omega)
      have hR1 := Lib.hid hr1
      clear hr1 hn1 h01 he1
      rw [hn2] at hi2
      have hX2 : (((rg b : Nat) : Int) == 0) = false := ne_b (by omega)
      have hR2 := Lib.hid hr2
      clear hr2 hn2
      generalize fadd a b = V at *
      generalize eB a = e at *
      generalize eB b = f at *
      generalize rB a = p at *
      generalize rB b = q at *
      generalize ((rg a : Nat) : Int) = X at *
      generalize ((rg b : Nat) : Int) = Y at *
      subst he2
      generalize sgI (sgn a) = s at *
      generalize sgI (sgn b) = z at *
      go_enter Tryz.func8, Tryz.ntmps8
      go_wp2_with (first
            | ((with_reducible refine (hq1 _).mono ?_); rintro e w' ⟨rfl, rfl⟩)
            | ((with_reducible refine (hq2 _).mono ?_); rintro e w' ⟨rfl, rfl⟩)
            | ((with_reducible refine (hi1 _).mono ?_); rintro e w' ⟨rfl, rfl⟩)
            | ((with_reducible refine (hi2 _).mono ?_); rintro e w' ⟨rfl, rfl⟩))
      go_ret2
      exact ⟨ret_pair (by rw [HR.out]), Below.refl _ _⟩
    · have HR := Lib.hid (show fadd a b = fadd a b from rfl)
      have hsum := fun w => sum_ a b ha' hb' hr1 hr2 (fun h => by omega) w
      rw [hn1] at hi1
      have hE1 := ne_b he1
      have hX1 : (((rg a : Nat) : Int) == 0) = false := ne_b (by omega)
      have hR1 := Lib.hid hr1
      clear hr1 hn1 h01 he1
      rw [hn2] at hi2
      have hE2 := ne_b he2
      have hX2 : (((rg b : Nat) : Int) == 0) = false := ne_b (by omega)
      have hR2 := Lib.hid hr2
      clear hr2 hn2 h02 he2
      generalize fadd a b = V at *
      generalize eB a = e at *
      generalize eB b = f at *
      generalize rB a = p at *
      generalize rB b = q at *
      generalize ((rg a : Nat) : Int) = X at *
      generalize ((rg b : Nat) : Int) = Y at *
      generalize sgI (sgn a) = s at *
      generalize sgI (sgn b) = z at *
      go_enter Tryz.func8, Tryz.ntmps8
      go_wp2_with (first
            | ((with_reducible refine (hq1 _).mono ?_); rintro e w' ⟨rfl, rfl⟩)
            | ((with_reducible refine (hq2 _).mono ?_); rintro e w' ⟨rfl, rfl⟩)
            | ((with_reducible refine (hi1 _).mono ?_); rintro e w' ⟨rfl, rfl⟩)
            | ((with_reducible refine (hi2 _).mono ?_); rintro e w' ⟨rfl, rfl⟩)
            | ((with_reducible refine (hsum _).mono ?_); rintro e w1 ⟨rfl, b1⟩))
      go_ret2
      exact ⟨rfl, b1⟩
    · have HR := Lib.hid (show fadd a b = fadd a b from rfl)
      have hsum := fun w => sum_ a b ha' hb' hr1 hr2 (fun h => by omega) w
      rw [hn1] at hi1
      have hE1 := ne_b he1
      have hX1 : (((rg a : Nat) : Int) == 0) = false := ne_b (by omega)
      have hR1 := Lib.hid hr1
      clear hr1 hn1 h01 he1
      rw [hn2] at hi2
      have hE2 := ne_b he2
      rw [h02] at r2
      have hR2 := Lib.hid hr2
      clear hr2 hn2 h02 he2
      generalize fadd a b = V at *
      generalize eB a = e at *
      generalize eB b = f at *
      generalize rB a = p at *
      generalize rB b = q at *
      generalize ((rg a : Nat) : Int) = X at *
      generalize sgI (sgn a) = s at *
      generalize sgI (sgn b) = z at *
      go_enter Tryz.func8, Tryz.ntmps8
      go_wp2_with (first
            | ((with_reducible refine (hq1 _).mono ?_); rintro e w' ⟨rfl, rfl⟩)
            | ((with_reducible refine (hq2 _).mono ?_); rintro e w' ⟨rfl, rfl⟩)
            | ((with_reducible refine (hi1 _).mono ?_); rintro e w' ⟨rfl, rfl⟩)
            | ((with_reducible refine (hi2 _).mono ?_); rintro e w' ⟨rfl, rfl⟩)
            | ((with_reducible refine (hsum _).mono ?_); rintro e w1 ⟨rfl, b1⟩))
      go_ret2
      exact ⟨rfl, b1⟩
  · rcases cls b with hn2 | ⟨hn2, hr2, he2⟩ | ⟨hn2, hr2, he2, h02⟩ | ⟨hn2, hr2, he2, h02⟩
    · have HR := Lib.hid (show fadd a b = NaN from (fadd_nan2 hn2).1)
      rw [hn1] at hi1
      have hE1 := ne_b he1
      rw [h01] at r1
      have hR1 := Lib.hid hr1
      clear hr1 hn1 h01 he1
      rw [hn2] at hi2
      generalize fadd a b = V at *
      generalize eB a = e at *
      generalize eB b = f at *
      generalize rB a = p at *
      generalize rB b = q at *
      generalize sgI (sgn a) = s at *
      generalize sgI (sgn b) = z at *
      go_enter Tryz.func8, Tryz.ntmps8
      go_wp2_with (first
            | ((with_reducible refine (hq1 _).mono ?_); rintro e w' ⟨rfl, rfl⟩)
            | ((with_reducible refine (hq2 _).mono ?_); rintro e w' ⟨rfl, rfl⟩)
            | ((with_reducible refine (hi1 _).mono ?_); rintro e w' ⟨rfl, rfl⟩)
            | ((with_reducible refine (hi2 _).mono ?_); rintro e w' ⟨rfl, rfl⟩))
      go_ret2
      exact ⟨ret_pair (by rw [HR.out]; rfl), Below.refl _ _⟩
    · have HR := Lib.hid (show fadd a b = b from add_inf_r hb hr2 hr1)
      rw [hn1] at hi1
      have hE1 := ne_b he1
      rw [h01] at r1
      have hR1 := Lib.hid hr1
      clear hr1 hn1 h01 he1
      rw [hn2] at hi2
      have hX2 : (((rg b : Nat) : Int) == 0) = false := ne_b (by omega)
      have hR2 := Lib.hid hr2
      clear hr2 hn2
      generalize fadd a b = V at *
      generalize eB a = e at *
      generalize eB b = f at *
      generalize rB a = p at *
      generalize rB b = q at *
      generalize ((rg b : Nat) : Int) = Y at *
      subst he2
      generalize sgI (sgn a) = s at *
      generalize sgI (sgn b) = z at *
      go_enter Tryz.func8, Tryz.ntmps8
      go_wp2_with (first
            | ((with_reducible refine (hq1 _).mono ?_); rintro e w' ⟨rfl, rfl⟩)
            | ((with_reducible refine (hq2 _).mono ?_); rintro e w' ⟨rfl, rfl⟩)
            | ((with_reducible refine (hi1 _).mono ?_); rintro e w' ⟨rfl, rfl⟩)
            | ((with_reducible refine (hi2 _).mono ?_); rintro e w' ⟨rfl, rfl⟩))
      go_ret2
      exact ⟨ret_pair (by rw [HR.out]), Below.refl _ _⟩
    · have HR := Lib.hid (show fadd a b = fadd a b from rfl)
      have hsum := fun w => sum_ a b ha' hb' hr1 hr2 (fun h => by omega) w
      rw [hn1] at hi1
      have hE1 := ne_b he1
      rw [h01] at r1
      have hR1 := Lib.hid hr1
      clear hr1 hn1 h01 he1
      rw [hn2] at hi2
      have hE2 := ne_b he2
      have hX2 : (((rg b : Nat) : Int) == 0) = false := ne_b (by omega)
      have hR2 := Lib.hid hr2
      clear hr2 hn2 h02 he2
      generalize fadd a b = V at *
      generalize eB a = e at *
      generalize eB b = f at *
      generalize rB a = p at *
      generalize rB b = q at *
      generalize ((rg b : Nat) : Int) = Y at *
      generalize sgI (sgn a) = s at *
      generalize sgI (sgn b) = z at *
      go_enter Tryz.func8, Tryz.ntmps8
      go_wp2_with (first
            | ((with_reducible refine (hq1 _).mono ?_); rintro e w' ⟨rfl, rfl⟩)
            | ((with_reducible refine (hq2 _).mono ?_); rintro e w' ⟨rfl, rfl⟩)
            | ((with_reducible refine (hi1 _).mono ?_); rintro e w' ⟨rfl, rfl⟩)
            | ((with_reducible refine (hi2 _).mono ?_); rintro e w' ⟨rfl, rfl⟩)
            | ((with_reducible refine (hsum _).mono ?_); rintro e w1 ⟨rfl, b1⟩))
      go_ret2
      exact ⟨rfl, b1⟩
    · by_cases hs : sgn a = sgn b
      · have HR := Lib.hid (show fadd a b = a from add_zeros_eq ha h01 h02 hs)
        have hss : sgI (sgn b) = sgI (sgn a) := by rw [hs]
        rw [hss] at hq2
        clear hs hss s2
        rw [hn1] at hi1
        have hE1 := ne_b he1
        rw [h01] at r1
        have hR1 := Lib.hid hr1
        clear hr1 hn1 h01 he1
        rw [hn2] at hi2
        have hE2 := ne_b he2
        rw [h02] at r2
        have hR2 := Lib.hid hr2
        clear hr2 hn2 h02 he2
        generalize fadd a b = V at *
        generalize eB a = e at *
        generalize eB b = f at *
        generalize rB a = p at *
        generalize rB b = q at *
        generalize sgI (sgn a) = s at *
        go_enter Tryz.func8, Tryz.ntmps8
        go_wp2_with (first
              | ((with_reducible refine (hq1 _).mono ?_); rintro e w' ⟨rfl, rfl⟩)
              | ((with_reducible refine (hq2 _).mono ?_); rintro e w' ⟨rfl, rfl⟩)
              | ((with_reducible refine (hi1 _).mono ?_); rintro e w' ⟨rfl, rfl⟩)
              | ((with_reducible refine (hi2 _).mono ?_); rintro e w' ⟨rfl, rfl⟩))
        go_ret2
        exact ⟨ret_pair (by rw [HR.out]), Below.refl _ _⟩
      · have HR := Lib.hid (show fadd a b = 0 from add_zeros_ne h01 h02 hs)
        have hss := ne_b' (fun e => hs (by revert e; cases sgn a <;> cases sgn b <;> decide) : sgI (sgn a) ≠ sgI (sgn b))
        clear hs
        rw [hn1] at hi1
        have hE1 := ne_b he1
        rw [h01] at r1
        have hR1 := Lib.hid hr1
        clear hr1 hn1 h01 he1
        rw [hn2] at hi2
        have hE2 := ne_b he2
        rw [h02] at r2
        have hR2 := Lib.hid hr2
        clear hr2 hn2 h02 he2
        generalize fadd a b = V at *
        generalize eB a = e at *
        generalize eB b = f at *
        generalize rB a = p at *
        generalize rB b = q at *
        generalize sgI (sgn a) = s at *
        generalize sgI (sgn b) = z at *
        go_enter Tryz.func8, Tryz.ntmps8
        go_wp2_with (first
              | ((with_reducible refine (hq1 _).mono ?_); rintro e w' ⟨rfl, rfl⟩)
              | ((with_reducible refine (hq2 _).mono ?_); rintro e w' ⟨rfl, rfl⟩)
              | ((with_reducible refine (hi1 _).mono ?_); rintro e w' ⟨rfl, rfl⟩)
              | ((with_reducible refine (hi2 _).mono ?_); rintro e w' ⟨rfl, rfl⟩))
        go_ret2
        exact ⟨ret_pair (by rw [HR.out]; rfl), Below.refl _ _⟩
set_option maxRecDepth 100000 in
set_option maxHeartbeats 8000000 in
theorem do_mul (a b : Nat) (ha : W a) (hb : W b) (w : World) : Calls Tryz.prog 8 #[.int .i64 47, .int .u64 (a : Int), .int .u64 (b : Int)] w fun e w' => e = .returned (.tuple #[.int .u64 ((fmul a b : Nat) : Int), .bool true]) ∧ Below w.heap.size w w' := by
  have ha' := ha
  have hb' := hb
  have hq1 := parts a ha
  have hq2 := parts b hb
  have hi1 := is_ a ha
  have hi2 := is_ b hb
  rw [sB_sgI ha] at hq1
  rw [sB_sgI hb] at hq2
  have r1 := rem63 a
  have r2 := rem63 b
  have s1 := sgI_bd (sgn a)
  have s2 := sgI_bd (sgn b)
  have k1 := eB_bd a
  have k2 := eB_bd b
  unfold W at ha hb
  rcases cls a with hn1 | ⟨hn1, hr1, he1⟩ | ⟨hn1, hr1, he1, h01⟩ | ⟨hn1, hr1, he1, h01⟩
  · have HR := Lib.hid (show fmul a b = NaN from (fadd_nan1 hn1).2.1)
    rw [hn1] at hi1
    generalize fmul a b = V at *
    generalize eB a = e at *
    generalize eB b = f at *
    generalize rB a = p at *
    generalize rB b = q at *
    generalize sgI (sgn a) = s at *
    generalize sgI (sgn b) = z at *
    go_enter Tryz.func8, Tryz.ntmps8
    go_wp2_with (first
          | ((with_reducible refine (hq1 _).mono ?_); rintro e w' ⟨rfl, rfl⟩)
          | ((with_reducible refine (hq2 _).mono ?_); rintro e w' ⟨rfl, rfl⟩)
          | ((with_reducible refine (hi1 _).mono ?_); rintro e w' ⟨rfl, rfl⟩)
          | ((with_reducible refine (hi2 _).mono ?_); rintro e w' ⟨rfl, rfl⟩))
    go_ret2
    exact ⟨ret_pair (by rw [HR.out]; rfl), Below.refl _ _⟩
  · rcases cls b with hn2 | ⟨hn2, hr2, he2⟩ | ⟨hn2, hr2, he2, h02⟩ | ⟨hn2, hr2, he2, h02⟩
    · have HR := Lib.hid (show fmul a b = NaN from (fadd_nan2 hn2).2.1)
      rw [hn1] at hi1
      have hX1 : (((rg a : Nat) : Int) == 0) = false := ne_b (by omega)
      have hR1 := Lib.hid hr1
      clear hr1 hn1
      rw [hn2] at hi2
      generalize fmul a b = V at *
      generalize eB a = e at *
      generalize eB b = f at *
      generalize rB a = p at *
      generalize rB b = q at *
      generalize ((rg a : Nat) : Int) = X at *
      subst he1
      generalize sgI (sgn a) = s at *
      generalize sgI (sgn b) = z at *
      go_enter Tryz.func8, Tryz.ntmps8
      go_wp2_with (first
            | ((with_reducible refine (hq1 _).mono ?_); rintro e w' ⟨rfl, rfl⟩)
            | ((with_reducible refine (hq2 _).mono ?_); rintro e w' ⟨rfl, rfl⟩)
            | ((with_reducible refine (hi1 _).mono ?_); rintro e w' ⟨rfl, rfl⟩)
            | ((with_reducible refine (hi2 _).mono ?_); rintro e w' ⟨rfl, rfl⟩))
      go_ret2
      exact ⟨ret_pair (by rw [HR.out]; rfl), Below.refl _ _⟩
    · have HR := Lib.hid (show fmul a b = Ieee.double.word (sgn a ^^ sgn b) 9218868437227405312 from mul_inf_l hr1 (by omega) hn2)
      rw [hn1] at hi1
      have hX1 : (((rg a : Nat) : Int) == 0) = false := ne_b (by omega)
      have hR1 := Lib.hid hr1
      clear hr1 hn1
      rw [hn2] at hi2
      have hX2 : (((rg b : Nat) : Int) == 0) = false := ne_b (by omega)
      have hR2 := Lib.hid hr2
      clear hr2 hn2
      generalize fmul a b = V at *
      generalize eB a = e at *
      generalize eB b = f at *
      generalize rB a = p at *
      generalize rB b = q at *
      generalize ((rg a : Nat) : Int) = X at *
      generalize ((rg b : Nat) : Int) = Y at *
      subst he1
      subst he2
      have hx := xor_sg (sgn a) (sgn b)
      have hsg := fun r h w => sg_c (sgn a ^^ sgn b) r h _ rfl w
      generalize sgI (sgn a ^^ sgn b) = σ at *
      generalize (sgn a ^^ sgn b) = xs at *
      generalize sgI (sgn a) = s at *
      generalize sgI (sgn b) = z at *
      have sgc : ∀ w, Calls Tryz.prog 30 #[.int .u64 σ, .int .u64 9218868437227405312] w fun e w' => e = .returned (.int .u64 ((Ieee.double.word xs 9218868437227405312 : Nat) : Int)) ∧ w = w' := fun w => hsg 9218868437227405312 (by omega) w
      clear hsg
      go_enter Tryz.func8, Tryz.ntmps8
      go_wp2_with (first
            | ((with_reducible refine (hq1 _).mono ?_); rintro e w' ⟨rfl, rfl⟩)
            | ((with_reducible refine (hq2 _).mono ?_); rintro e w' ⟨rfl, rfl⟩)
            | ((with_reducible refine (hi1 _).mono ?_); rintro e w' ⟨rfl, rfl⟩)
            | ((with_reducible refine (hi2 _).mono ?_); rintro e w' ⟨rfl, rfl⟩)
            | (go_at_call 30; (with_reducible refine (sgc _).mono ?_); rintro e w8 ⟨rfl, rfl⟩))
      go_ret2
      exact ⟨ret_pair (by rw [HR.out]), Below.refl _ _⟩
    · have HR := Lib.hid (show fmul a b = Ieee.double.word (sgn a ^^ sgn b) 9218868437227405312 from mul_inf_l hr1 (h02) hn2)
      rw [hn1] at hi1
      have hX1 : (((rg a : Nat) : Int) == 0) = false := ne_b (by omega)
      have hR1 := Lib.hid hr1
      clear hr1 hn1
      rw [hn2] at hi2
      have hE2 := ne_b he2
      have hX2 : (((rg b : Nat) : Int) == 0) = false := ne_b (by omega)
      have hR2 := Lib.hid hr2
      clear hr2 hn2 h02 he2
      generalize fmul a b = V at *
      generalize eB a = e at *
      generalize eB b = f at *
      generalize rB a = p at *
      generalize rB b = q at *
      generalize ((rg a : Nat) : Int) = X at *
      generalize ((rg b : Nat) : Int) = Y at *
      subst he1
      have hx := xor_sg (sgn a) (sgn b)
      have hsg := fun r h w => sg_c (sgn a ^^ sgn b) r h _ rfl w
      generalize sgI (sgn a ^^ sgn b) = σ at *
      generalize (sgn a ^^ sgn b) = xs at *
      generalize sgI (sgn a) = s at *
      generalize sgI (sgn b) = z at *
      have sgc : ∀ w, Calls Tryz.prog 30 #[.int .u64 σ, .int .u64 9218868437227405312] w fun e w' => e = .returned (.int .u64 ((Ieee.double.word xs 9218868437227405312 : Nat) : Int)) ∧ w = w' := fun w => hsg 9218868437227405312 (by omega) w
      clear hsg
      go_enter Tryz.func8, Tryz.ntmps8
      go_wp2_with (first
            | ((with_reducible refine (hq1 _).mono ?_); rintro e w' ⟨rfl, rfl⟩)
            | ((with_reducible refine (hq2 _).mono ?_); rintro e w' ⟨rfl, rfl⟩)
            | ((with_reducible refine (hi1 _).mono ?_); rintro e w' ⟨rfl, rfl⟩)
            | ((with_reducible refine (hi2 _).mono ?_); rintro e w' ⟨rfl, rfl⟩)
            | (go_at_call 30; (with_reducible refine (sgc _).mono ?_); rintro e w8 ⟨rfl, rfl⟩))
      go_ret2
      exact ⟨ret_pair (by rw [HR.out]), Below.refl _ _⟩
    · have HR := Lib.hid (show fmul a b = NaN from mul_none_l hr1 h02)
      rw [hn1] at hi1
      have hX1 : (((rg a : Nat) : Int) == 0) = false := ne_b (by omega)
      have hR1 := Lib.hid hr1
      clear hr1 hn1
      rw [hn2] at hi2
      have hE2 := ne_b he2
      rw [h02] at r2
      have hR2 := Lib.hid hr2
      clear hr2 hn2 h02 he2
      generalize fmul a b = V at *
      generalize eB a = e at *
      generalize eB b = f at *
      generalize rB a = p at *
      generalize rB b = q at *
      generalize ((rg a : Nat) : Int) = X at *
      subst he1
      generalize sgI (sgn a) = s at *
      generalize sgI (sgn b) = z at *
      go_enter Tryz.func8, Tryz.ntmps8
      go_wp2_with (first
            | ((with_reducible refine (hq1 _).mono ?_); rintro e w' ⟨rfl, rfl⟩)
            | ((with_reducible refine (hq2 _).mono ?_); rintro e w' ⟨rfl, rfl⟩)
            | ((with_reducible refine (hi1 _).mono ?_); rintro e w' ⟨rfl, rfl⟩)
            | ((with_reducible refine (hi2 _).mono ?_); rintro e w' ⟨rfl, rfl⟩))
      go_ret2
      exact ⟨ret_pair (by rw [HR.out]; rfl), Below.refl _ _⟩
  · rcases cls b with hn2 | ⟨hn2, hr2, he2⟩ | ⟨hn2, hr2, he2, h02⟩ | ⟨hn2, hr2, he2, h02⟩
    · have HR := Lib.hid (show fmul a b = NaN from (fadd_nan2 hn2).2.1)
      rw [hn1] at hi1
      have hE1 := ne_b he1
      have hX1 : (((rg a : Nat) : Int) == 0) = false := ne_b (by omega)
      have hR1 := Lib.hid hr1
      clear hr1 hn1 h01 he1
      rw [hn2] at hi2
      generalize fmul a b = V at *
      generalize eB a = e at *
      generalize eB b = f at *
      generalize rB a = p at *
      generalize rB b = q at *
      generalize ((rg a : Nat) : Int) = X at *
      generalize sgI (sgn a) = s at *
      generalize sgI (sgn b) = z at *
      go_enter Tryz.func8, Tryz.ntmps8
      go_wp2_with (first
            | ((with_reducible refine (hq1 _).mono ?_); rintro e w' ⟨rfl, rfl⟩)
            | ((with_reducible refine (hq2 _).mono ?_); rintro e w' ⟨rfl, rfl⟩)
            | ((with_reducible refine (hi1 _).mono ?_); rintro e w' ⟨rfl, rfl⟩)
            | ((with_reducible refine (hi2 _).mono ?_); rintro e w' ⟨rfl, rfl⟩))
      go_ret2
      exact ⟨ret_pair (by rw [HR.out]; rfl), Below.refl _ _⟩
    · have HR := Lib.hid (show fmul a b = Ieee.double.word (sgn a ^^ sgn b) 9218868437227405312 from mul_inf_r hr1 h01 hr2)
      rw [hn1] at hi1
      have hE1 := ne_b he1
      have hX1 : (((rg a : Nat) : Int) == 0) = false := ne_b (by omega)
      have hR1 := Lib.hid hr1
      clear hr1 hn1 h01 he1
      rw [hn2] at hi2
      have hX2 : (((rg b : Nat) : Int) == 0) = false := ne_b (by omega)
      have hR2 := Lib.hid hr2
      clear hr2 hn2
      generalize fmul a b = V at *
      generalize eB a = e at *
      generalize eB b = f at *
      generalize rB a = p at *
      generalize rB b = q at *
      generalize ((rg a : Nat) : Int) = X at *
      generalize ((rg b : Nat) : Int) = Y at *
      subst he2
      have hx := xor_sg (sgn a) (sgn b)
      have hsg := fun r h w => sg_c (sgn a ^^ sgn b) r h _ rfl w
      generalize sgI (sgn a ^^ sgn b) = σ at *
      generalize (sgn a ^^ sgn b) = xs at *
      generalize sgI (sgn a) = s at *
      generalize sgI (sgn b) = z at *
      have sgc : ∀ w, Calls Tryz.prog 30 #[.int .u64 σ, .int .u64 9218868437227405312] w fun e w' => e = .returned (.int .u64 ((Ieee.double.word xs 9218868437227405312 : Nat) : Int)) ∧ w = w' := fun w => hsg 9218868437227405312 (by omega) w
      clear hsg
      go_enter Tryz.func8, Tryz.ntmps8
      go_wp2_with (first
            | ((with_reducible refine (hq1 _).mono ?_); rintro e w' ⟨rfl, rfl⟩)
            | ((with_reducible refine (hq2 _).mono ?_); rintro e w' ⟨rfl, rfl⟩)
            | ((with_reducible refine (hi1 _).mono ?_); rintro e w' ⟨rfl, rfl⟩)
            | ((with_reducible refine (hi2 _).mono ?_); rintro e w' ⟨rfl, rfl⟩)
            | (go_at_call 30; (with_reducible refine (sgc _).mono ?_); rintro e w8 ⟨rfl, rfl⟩))
      go_ret2
      exact ⟨ret_pair (by rw [HR.out]), Below.refl _ _⟩
    · have HR := Lib.hid (show fmul a b = Ieee.double.word (sgn a ^^ sgn b) (rungOf (mg a * mg b) (pl a + pl b)) from mul_fin hr1 hr2)
      have hn1' := number_ a ha'
      have hn2' := number_ b hb'
      have p1 := pl_ge a
      have p2 := pl_ge b
      have p3 := pl_le hr1
      have p4 := pl_le hr2
      have m1 := mg_lt a
      have m2 := mg_lt b
      have o1 : ∀ w, Calls Tryz.prog 34 #[.int .i64 1] w (ResT w 1 4) := fun w => ofT w 1 (by omega)
      have om := fun w => ofT w (mg a) (by omega)
      have on := fun w => ofT w (mg b) (by omega)
      rw [hn1] at hi1
      have hE1 := ne_b he1
      have hX1 : (((rg a : Nat) : Int) == 0) = false := ne_b (by omega)
      have hR1 := Lib.hid hr1
      clear hr1 hn1 h01 he1
      rw [hn2] at hi2
      have hE2 := ne_b he2
      have hX2 : (((rg b : Nat) : Int) == 0) = false := ne_b (by omega)
      have hR2 := Lib.hid hr2
      clear hr2 hn2 h02 he2
      generalize fmul a b = V at *
      generalize eB a = e at *
      generalize eB b = f at *
      generalize rB a = p at *
      generalize rB b = q at *
      generalize ((rg a : Nat) : Int) = X at *
      generalize ((rg b : Nat) : Int) = Y at *
      have hx := xor_sg (sgn a) (sgn b)
      have hsg := fun r h w => sg_c (sgn a ^^ sgn b) r h _ rfl w
      generalize sgI (sgn a ^^ sgn b) = σ at *
      generalize (sgn a ^^ sgn b) = xs at *
      generalize sgI (sgn a) = s at *
      generalize sgI (sgn b) = z at *
      have HSG := Lib.hid hsg
      clear hsg
      generalize mg a = m at *
      generalize mg b = n at *
      generalize pl a = k at *
      generalize pl b = l at *
      go_enter Tryz.func8, Tryz.ntmps8
      go_wp2_with (first
            | ((with_reducible refine (hq1 _).mono ?_); rintro e w' ⟨rfl, rfl⟩)
            | ((with_reducible refine (hq2 _).mono ?_); rintro e w' ⟨rfl, rfl⟩)
            | ((with_reducible refine (hi1 _).mono ?_); rintro e w' ⟨rfl, rfl⟩)
            | ((with_reducible refine (hi2 _).mono ?_); rintro e w' ⟨rfl, rfl⟩)
            | ((with_reducible refine (hn1' _).mono ?_); rintro e w' ⟨rfl, rfl⟩)
            | ((with_reducible refine (hn2' _).mono ?_); rintro e w' ⟨rfl, rfl⟩)
            | (go_at_call 34; (with_reducible refine (om _).mono ?_); rintro e w1 ⟨v1, rfl, n1, b1⟩; have N1 := Lib.hid n1; clear n1 om)
            | (go_at_call 34; (with_reducible refine (on _).mono ?_); rintro e w2 ⟨v2, rfl, n2, b2⟩; have N2 := Lib.hid n2; clear n2 on)
            | (go_at_call 34; (with_reducible refine (o1 _).mono ?_); rintro e w4 ⟨v4, rfl, n4, b4⟩; have N4 := Lib.hid n4; clear n4 o1)
            | (go_at_call 33; (refine (times _ v1 v2 m n (N1.out.below b2 (Nat.le_refl _)) N2.out).mono ?_); rintro e w3 ⟨v3, rfl, n3, b3⟩; have N3 := Lib.hid n3; clear n3)
            | (go_at_call 32; (refine (near1 _ _ _ (m * n) _ (NumT.le (N3.out.below b4 (Nat.le_refl _)) (by decide)) (NumT.le N4.out (by decide)) (by omega) (by omega)).mono ?_); rintro e w7 ⟨rfl, b7⟩)
            | (go_at_call 30; (refine (HSG.out _ (rungOf_lt _ _) _).mono ?_); rintro e w8 ⟨rfl, rfl⟩))
      go_ret2
      exact ⟨ret_pair (by rw [HR.out]), bel3 (bel3 (bel3 (bel3 b1 b2) b3) b4) b7⟩
    · have HR := Lib.hid (show fmul a b = Ieee.double.word (sgn a ^^ sgn b) (rungOf (mg a * mg b) (pl a + pl b)) from mul_fin hr1 hr2)
      have hn1' := number_ a ha'
      have hn2' := number_ b hb'
      have p1 := pl_ge a
      have p2 := pl_ge b
      have p3 := pl_le hr1
      have p4 := pl_le hr2
      have m1 := mg_lt a
      have m2 := mg_lt b
      have o1 : ∀ w, Calls Tryz.prog 34 #[.int .i64 1] w (ResT w 1 4) := fun w => ofT w 1 (by omega)
      have om := fun w => ofT w (mg a) (by omega)
      have on := fun w => ofT w (mg b) (by omega)
      rw [hn1] at hi1
      have hE1 := ne_b he1
      have hX1 : (((rg a : Nat) : Int) == 0) = false := ne_b (by omega)
      have hR1 := Lib.hid hr1
      clear hr1 hn1 h01 he1
      rw [hn2] at hi2
      have hE2 := ne_b he2
      rw [h02] at r2
      have hR2 := Lib.hid hr2
      clear hr2 hn2 h02 he2
      generalize fmul a b = V at *
      generalize eB a = e at *
      generalize eB b = f at *
      generalize rB a = p at *
      generalize rB b = q at *
      generalize ((rg a : Nat) : Int) = X at *
      have hx := xor_sg (sgn a) (sgn b)
      have hsg := fun r h w => sg_c (sgn a ^^ sgn b) r h _ rfl w
      generalize sgI (sgn a ^^ sgn b) = σ at *
      generalize (sgn a ^^ sgn b) = xs at *
      generalize sgI (sgn a) = s at *
      generalize sgI (sgn b) = z at *
      have HSG := Lib.hid hsg
      clear hsg
      generalize mg a = m at *
      generalize mg b = n at *
      generalize pl a = k at *
      generalize pl b = l at *
      go_enter Tryz.func8, Tryz.ntmps8
      go_wp2_with (first
            | ((with_reducible refine (hq1 _).mono ?_); rintro e w' ⟨rfl, rfl⟩)
            | ((with_reducible refine (hq2 _).mono ?_); rintro e w' ⟨rfl, rfl⟩)
            | ((with_reducible refine (hi1 _).mono ?_); rintro e w' ⟨rfl, rfl⟩)
            | ((with_reducible refine (hi2 _).mono ?_); rintro e w' ⟨rfl, rfl⟩)
            | ((with_reducible refine (hn1' _).mono ?_); rintro e w' ⟨rfl, rfl⟩)
            | ((with_reducible refine (hn2' _).mono ?_); rintro e w' ⟨rfl, rfl⟩)
            | (go_at_call 34; (with_reducible refine (om _).mono ?_); rintro e w1 ⟨v1, rfl, n1, b1⟩; have N1 := Lib.hid n1; clear n1 om)
            | (go_at_call 34; (with_reducible refine (on _).mono ?_); rintro e w2 ⟨v2, rfl, n2, b2⟩; have N2 := Lib.hid n2; clear n2 on)
            | (go_at_call 34; (with_reducible refine (o1 _).mono ?_); rintro e w4 ⟨v4, rfl, n4, b4⟩; have N4 := Lib.hid n4; clear n4 o1)
            | (go_at_call 33; (refine (times _ v1 v2 m n (N1.out.below b2 (Nat.le_refl _)) N2.out).mono ?_); rintro e w3 ⟨v3, rfl, n3, b3⟩; have N3 := Lib.hid n3; clear n3)
            | (go_at_call 32; (refine (near1 _ _ _ (m * n) _ (NumT.le (N3.out.below b4 (Nat.le_refl _)) (by decide)) (NumT.le N4.out (by decide)) (by omega) (by omega)).mono ?_); rintro e w7 ⟨rfl, b7⟩)
            | (go_at_call 30; (refine (HSG.out _ (rungOf_lt _ _) _).mono ?_); rintro e w8 ⟨rfl, rfl⟩))
      go_ret2
      exact ⟨ret_pair (by rw [HR.out]), bel3 (bel3 (bel3 (bel3 b1 b2) b3) b4) b7⟩
  · rcases cls b with hn2 | ⟨hn2, hr2, he2⟩ | ⟨hn2, hr2, he2, h02⟩ | ⟨hn2, hr2, he2, h02⟩
    · have HR := Lib.hid (show fmul a b = NaN from (fadd_nan2 hn2).2.1)
      rw [hn1] at hi1
      have hE1 := ne_b he1
      rw [h01] at r1
      have hR1 := Lib.hid hr1
      clear hr1 hn1 h01 he1
      rw [hn2] at hi2
      generalize fmul a b = V at *
      generalize eB a = e at *
      generalize eB b = f at *
      generalize rB a = p at *
      generalize rB b = q at *
      generalize sgI (sgn a) = s at *
      generalize sgI (sgn b) = z at *
      go_enter Tryz.func8, Tryz.ntmps8
      go_wp2_with (first
            | ((with_reducible refine (hq1 _).mono ?_); rintro e w' ⟨rfl, rfl⟩)
            | ((with_reducible refine (hq2 _).mono ?_); rintro e w' ⟨rfl, rfl⟩)
            | ((with_reducible refine (hi1 _).mono ?_); rintro e w' ⟨rfl, rfl⟩)
            | ((with_reducible refine (hi2 _).mono ?_); rintro e w' ⟨rfl, rfl⟩))
      go_ret2
      exact ⟨ret_pair (by rw [HR.out]; rfl), Below.refl _ _⟩
    · have HR := Lib.hid (show fmul a b = NaN from mul_none_r h01 hr2)
      rw [hn1] at hi1
      have hE1 := ne_b he1
      rw [h01] at r1
      have hR1 := Lib.hid hr1
      clear hr1 hn1 h01 he1
      rw [hn2] at hi2
      have hX2 : (((rg b : Nat) : Int) == 0) = false := ne_b (by omega)
      have hR2 := Lib.hid hr2
      clear hr2 hn2
      generalize fmul a b = V at *
      generalize eB a = e at *
      generalize eB b = f at *
      generalize rB a = p at *
      generalize rB b = q at *
      generalize ((rg b : Nat) : Int) = Y at *
      subst he2
      generalize sgI (sgn a) = s at *
      generalize sgI (sgn b) = z at *
      go_enter Tryz.func8, Tryz.ntmps8
      go_wp2_with (first
            | ((with_reducible refine (hq1 _).mono ?_); rintro e w' ⟨rfl, rfl⟩)
            | ((with_reducible refine (hq2 _).mono ?_); rintro e w' ⟨rfl, rfl⟩)
            | ((with_reducible refine (hi1 _).mono ?_); rintro e w' ⟨rfl, rfl⟩)
            | ((with_reducible refine (hi2 _).mono ?_); rintro e w' ⟨rfl, rfl⟩))
      go_ret2
      exact ⟨ret_pair (by rw [HR.out]; rfl), Below.refl _ _⟩
    · have HR := Lib.hid (show fmul a b = Ieee.double.word (sgn a ^^ sgn b) (rungOf (mg a * mg b) (pl a + pl b)) from mul_fin hr1 hr2)
      have hn1' := number_ a ha'
      have hn2' := number_ b hb'
      have p1 := pl_ge a
      have p2 := pl_ge b
      have p3 := pl_le hr1
      have p4 := pl_le hr2
      have m1 := mg_lt a
      have m2 := mg_lt b
      have o1 : ∀ w, Calls Tryz.prog 34 #[.int .i64 1] w (ResT w 1 4) := fun w => ofT w 1 (by omega)
      have om := fun w => ofT w (mg a) (by omega)
      have on := fun w => ofT w (mg b) (by omega)
      rw [hn1] at hi1
      have hE1 := ne_b he1
      rw [h01] at r1
      have hR1 := Lib.hid hr1
      clear hr1 hn1 h01 he1
      rw [hn2] at hi2
      have hE2 := ne_b he2
      have hX2 : (((rg b : Nat) : Int) == 0) = false := ne_b (by omega)
      have hR2 := Lib.hid hr2
      clear hr2 hn2 h02 he2
      generalize fmul a b = V at *
      generalize eB a = e at *
      generalize eB b = f at *
      generalize rB a = p at *
      generalize rB b = q at *
      generalize ((rg b : Nat) : Int) = Y at *
      have hx := xor_sg (sgn a) (sgn b)
      have hsg := fun r h w => sg_c (sgn a ^^ sgn b) r h _ rfl w
      generalize sgI (sgn a ^^ sgn b) = σ at *
      generalize (sgn a ^^ sgn b) = xs at *
      generalize sgI (sgn a) = s at *
      generalize sgI (sgn b) = z at *
      have HSG := Lib.hid hsg
      clear hsg
      generalize mg a = m at *
      generalize mg b = n at *
      generalize pl a = k at *
      generalize pl b = l at *
      go_enter Tryz.func8, Tryz.ntmps8
      go_wp2_with (first
            | ((with_reducible refine (hq1 _).mono ?_); rintro e w' ⟨rfl, rfl⟩)
            | ((with_reducible refine (hq2 _).mono ?_); rintro e w' ⟨rfl, rfl⟩)
            | ((with_reducible refine (hi1 _).mono ?_); rintro e w' ⟨rfl, rfl⟩)
            | ((with_reducible refine (hi2 _).mono ?_); rintro e w' ⟨rfl, rfl⟩)
            | ((with_reducible refine (hn1' _).mono ?_); rintro e w' ⟨rfl, rfl⟩)
            | ((with_reducible refine (hn2' _).mono ?_); rintro e w' ⟨rfl, rfl⟩)
            | (go_at_call 34; (with_reducible refine (om _).mono ?_); rintro e w1 ⟨v1, rfl, n1, b1⟩; have N1 := Lib.hid n1; clear n1 om)
            | (go_at_call 34; (with_reducible refine (on _).mono ?_); rintro e w2 ⟨v2, rfl, n2, b2⟩; have N2 := Lib.hid n2; clear n2 on)
            | (go_at_call 34; (with_reducible refine (o1 _).mono ?_); rintro e w4 ⟨v4, rfl, n4, b4⟩; have N4 := Lib.hid n4; clear n4 o1)
            | (go_at_call 33; (refine (times _ v1 v2 m n (N1.out.below b2 (Nat.le_refl _)) N2.out).mono ?_); rintro e w3 ⟨v3, rfl, n3, b3⟩; have N3 := Lib.hid n3; clear n3)
            | (go_at_call 32; (refine (near1 _ _ _ (m * n) _ (NumT.le (N3.out.below b4 (Nat.le_refl _)) (by decide)) (NumT.le N4.out (by decide)) (by omega) (by omega)).mono ?_); rintro e w7 ⟨rfl, b7⟩)
            | (go_at_call 30; (refine (HSG.out _ (rungOf_lt _ _) _).mono ?_); rintro e w8 ⟨rfl, rfl⟩))
      go_ret2
      exact ⟨ret_pair (by rw [HR.out]), bel3 (bel3 (bel3 (bel3 b1 b2) b3) b4) b7⟩
    · have HR := Lib.hid (show fmul a b = Ieee.double.word (sgn a ^^ sgn b) (rungOf (mg a * mg b) (pl a + pl b)) from mul_fin hr1 hr2)
      have hn1' := number_ a ha'
      have hn2' := number_ b hb'
      have p1 := pl_ge a
      have p2 := pl_ge b
      have p3 := pl_le hr1
      have p4 := pl_le hr2
      have m1 := mg_lt a
      have m2 := mg_lt b
      have o1 : ∀ w, Calls Tryz.prog 34 #[.int .i64 1] w (ResT w 1 4) := fun w => ofT w 1 (by omega)
      have om := fun w => ofT w (mg a) (by omega)
      have on := fun w => ofT w (mg b) (by omega)
      rw [hn1] at hi1
      have hE1 := ne_b he1
      rw [h01] at r1
      have hR1 := Lib.hid hr1
      clear hr1 hn1 h01 he1
      rw [hn2] at hi2
      have hE2 := ne_b he2
      rw [h02] at r2
      have hR2 := Lib.hid hr2
      clear hr2 hn2 h02 he2
      generalize fmul a b = V at *
      generalize eB a = e at *
      generalize eB b = f at *
      generalize rB a = p at *
      generalize rB b = q at *
      have hx := xor_sg (sgn a) (sgn b)
      have hsg := fun r h w => sg_c (sgn a ^^ sgn b) r h _ rfl w
      generalize sgI (sgn a ^^ sgn b) = σ at *
      generalize (sgn a ^^ sgn b) = xs at *
      generalize sgI (sgn a) = s at *
      generalize sgI (sgn b) = z at *
      have HSG := Lib.hid hsg
      clear hsg
      generalize mg a = m at *
      generalize mg b = n at *
      generalize pl a = k at *
      generalize pl b = l at *
      go_enter Tryz.func8, Tryz.ntmps8
      go_wp2_with (first
            | ((with_reducible refine (hq1 _).mono ?_); rintro e w' ⟨rfl, rfl⟩)
            | ((with_reducible refine (hq2 _).mono ?_); rintro e w' ⟨rfl, rfl⟩)
            | ((with_reducible refine (hi1 _).mono ?_); rintro e w' ⟨rfl, rfl⟩)
            | ((with_reducible refine (hi2 _).mono ?_); rintro e w' ⟨rfl, rfl⟩)
            | ((with_reducible refine (hn1' _).mono ?_); rintro e w' ⟨rfl, rfl⟩)
            | ((with_reducible refine (hn2' _).mono ?_); rintro e w' ⟨rfl, rfl⟩)
            | (go_at_call 34; (with_reducible refine (om _).mono ?_); rintro e w1 ⟨v1, rfl, n1, b1⟩; have N1 := Lib.hid n1; clear n1 om)
            | (go_at_call 34; (with_reducible refine (on _).mono ?_); rintro e w2 ⟨v2, rfl, n2, b2⟩; have N2 := Lib.hid n2; clear n2 on)
            | (go_at_call 34; (with_reducible refine (o1 _).mono ?_); rintro e w4 ⟨v4, rfl, n4, b4⟩; have N4 := Lib.hid n4; clear n4 o1)
            | (go_at_call 33; (refine (times _ v1 v2 m n (N1.out.below b2 (Nat.le_refl _)) N2.out).mono ?_); rintro e w3 ⟨v3, rfl, n3, b3⟩; have N3 := Lib.hid n3; clear n3)
            | (go_at_call 32; (refine (near1 _ _ _ (m * n) _ (NumT.le (N3.out.below b4 (Nat.le_refl _)) (by decide)) (NumT.le N4.out (by decide)) (by omega) (by omega)).mono ?_); rintro e w7 ⟨rfl, b7⟩)
            | (go_at_call 30; (refine (HSG.out _ (rungOf_lt _ _) _).mono ?_); rintro e w8 ⟨rfl, rfl⟩))
      go_ret2
      exact ⟨ret_pair (by rw [HR.out]), bel3 (bel3 (bel3 (bel3 b1 b2) b3) b4) b7⟩
set_option maxRecDepth 100000 in
set_option maxHeartbeats 8000000 in
theorem do_quo (a b : Nat) (ha : W a) (hb : W b) (w : World) : Calls Tryz.prog 8 #[.int .i64 48, .int .u64 (a : Int), .int .u64 (b : Int)] w fun e w' => e = .returned (.tuple #[.int .u64 ((fdiv a b : Nat) : Int), .bool true]) ∧ Below w.heap.size w w' := by
  have ha' := ha
  have hb' := hb
  have hq1 := parts a ha
  have hq2 := parts b hb
  have hi1 := is_ a ha
  have hi2 := is_ b hb
  rw [sB_sgI ha] at hq1
  rw [sB_sgI hb] at hq2
  have r1 := rem63 a
  have r2 := rem63 b
  have s1 := sgI_bd (sgn a)
  have s2 := sgI_bd (sgn b)
  have k1 := eB_bd a
  have k2 := eB_bd b
  unfold W at ha hb
  rcases cls a with hn1 | ⟨hn1, hr1, he1⟩ | ⟨hn1, hr1, he1, h01⟩ | ⟨hn1, hr1, he1, h01⟩
  · have HR := Lib.hid (show fdiv a b = NaN from (fadd_nan1 hn1).2.2.1)
    rw [hn1] at hi1
    generalize fdiv a b = V at *
    generalize eB a = e at *
    generalize eB b = f at *
    generalize rB a = p at *
    generalize rB b = q at *
    generalize sgI (sgn a) = s at *
    generalize sgI (sgn b) = z at *
    go_enter Tryz.func8, Tryz.ntmps8
    go_wp2_with (first
          | ((with_reducible refine (hq1 _).mono ?_); rintro e w' ⟨rfl, rfl⟩)
          | ((with_reducible refine (hq2 _).mono ?_); rintro e w' ⟨rfl, rfl⟩)
          | ((with_reducible refine (hi1 _).mono ?_); rintro e w' ⟨rfl, rfl⟩)
          | ((with_reducible refine (hi2 _).mono ?_); rintro e w' ⟨rfl, rfl⟩))
    go_ret2
    exact ⟨ret_pair (by rw [HR.out]; rfl), Below.refl _ _⟩
  · rcases cls b with hn2 | ⟨hn2, hr2, he2⟩ | ⟨hn2, hr2, he2, h02⟩ | ⟨hn2, hr2, he2, h02⟩
    · have HR := Lib.hid (show fdiv a b = NaN from (fadd_nan2 hn2).2.2.1)
      rw [hn1] at hi1
      have hX1 : (((rg a : Nat) : Int) == 0) = false := ne_b (by omega)
      have hR1 := Lib.hid hr1
      clear hr1 hn1
      rw [hn2] at hi2
      generalize fdiv a b = V at *
      generalize eB a = e at *
      generalize eB b = f at *
      generalize rB a = p at *
      generalize rB b = q at *
      generalize ((rg a : Nat) : Int) = X at *
      subst he1
      generalize sgI (sgn a) = s at *
      generalize sgI (sgn b) = z at *
      go_enter Tryz.func8, Tryz.ntmps8
      go_wp2_with (first
            | ((with_reducible refine (hq1 _).mono ?_); rintro e w' ⟨rfl, rfl⟩)
            | ((with_reducible refine (hq2 _).mono ?_); rintro e w' ⟨rfl, rfl⟩)
            | ((with_reducible refine (hi1 _).mono ?_); rintro e w' ⟨rfl, rfl⟩)
            | ((with_reducible refine (hi2 _).mono ?_); rintro e w' ⟨rfl, rfl⟩))
      go_ret2
      exact ⟨ret_pair (by rw [HR.out]; rfl), Below.refl _ _⟩
    · have HR := Lib.hid (show fdiv a b = NaN from div_none_inf hr1 hr2)
      rw [hn1] at hi1
      have hX1 : (((rg a : Nat) : Int) == 0) = false := ne_b (by omega)
      have hR1 := Lib.hid hr1
      clear hr1 hn1
      rw [hn2] at hi2
      have hX2 : (((rg b : Nat) : Int) == 0) = false := ne_b (by omega)
      have hR2 := Lib.hid hr2
      clear hr2 hn2
      generalize fdiv a b = V at *
      generalize eB a = e at *
      generalize eB b = f at *
      generalize rB a = p at *
      generalize rB b = q at *
      generalize ((rg a : Nat) : Int) = X at *
      generalize ((rg b : Nat) : Int) = Y at *
      subst he1
      subst he2
      generalize sgI (sgn a) = s at *
      generalize sgI (sgn b) = z at *
      go_enter Tryz.func8, Tryz.ntmps8
      go_wp2_with (first
            | ((with_reducible refine (hq1 _).mono ?_); rintro e w' ⟨rfl, rfl⟩)
            | ((with_reducible refine (hq2 _).mono ?_); rintro e w' ⟨rfl, rfl⟩)
            | ((with_reducible refine (hi1 _).mono ?_); rintro e w' ⟨rfl, rfl⟩)
            | ((with_reducible refine (hi2 _).mono ?_); rintro e w' ⟨rfl, rfl⟩))
      go_ret2
      exact ⟨ret_pair (by rw [HR.out]; rfl), Below.refl _ _⟩
    · have HR := Lib.hid (show fdiv a b = Ieee.double.word (sgn a ^^ sgn b) 9218868437227405312 from div_inf hr1 hr2)
      rw [hn1] at hi1
      have hX1 : (((rg a : Nat) : Int) == 0) = false := ne_b (by omega)
      have hR1 := Lib.hid hr1
      clear hr1 hn1
      rw [hn2] at hi2
      have hE2 := ne_b he2
      have hX2 : (((rg b : Nat) : Int) == 0) = false := ne_b (by omega)
      have hR2 := Lib.hid hr2
      clear hr2 hn2 h02 he2
      generalize fdiv a b = V at *
      generalize eB a = e at *
      generalize eB b = f at *
      generalize rB a = p at *
      generalize rB b = q at *
      generalize ((rg a : Nat) : Int) = X at *
      generalize ((rg b : Nat) : Int) = Y at *
      subst he1
      have hx := xor_sg (sgn a) (sgn b)
      have hsg := fun r h w => sg_c (sgn a ^^ sgn b) r h _ rfl w
      generalize sgI (sgn a ^^ sgn b) = σ at *
      generalize (sgn a ^^ sgn b) = xs at *
      generalize sgI (sgn a) = s at *
      generalize sgI (sgn b) = z at *
      have sgc : ∀ w, Calls Tryz.prog 30 #[.int .u64 σ, .int .u64 9218868437227405312] w fun e w' => e = .returned (.int .u64 ((Ieee.double.word xs 9218868437227405312 : Nat) : Int)) ∧ w = w' := fun w => hsg 9218868437227405312 (by omega) w
      clear hsg
      go_enter Tryz.func8, Tryz.ntmps8
      go_wp2_with (first
            | ((with_reducible refine (hq1 _).mono ?_); rintro e w' ⟨rfl, rfl⟩)
            | ((with_reducible refine (hq2 _).mono ?_); rintro e w' ⟨rfl, rfl⟩)
            | ((with_reducible refine (hi1 _).mono ?_); rintro e w' ⟨rfl, rfl⟩)
            | ((with_reducible refine (hi2 _).mono ?_); rintro e w' ⟨rfl, rfl⟩)
            | (go_at_call 30; (with_reducible refine (sgc _).mono ?_); rintro e w8 ⟨rfl, rfl⟩))
      go_ret2
      exact ⟨ret_pair (by rw [HR.out]), Below.refl _ _⟩
    · have HR := Lib.hid (show fdiv a b = Ieee.double.word (sgn a ^^ sgn b) 9218868437227405312 from div_inf hr1 hr2)
      rw [hn1] at hi1
      have hX1 : (((rg a : Nat) : Int) == 0) = false := ne_b (by omega)
      have hR1 := Lib.hid hr1
      clear hr1 hn1
      rw [hn2] at hi2
      have hE2 := ne_b he2
      rw [h02] at r2
      have hR2 := Lib.hid hr2
      clear hr2 hn2 h02 he2
      generalize fdiv a b = V at *
      generalize eB a = e at *
      generalize eB b = f at *
      generalize rB a = p at *
      generalize rB b = q at *
      generalize ((rg a : Nat) : Int) = X at *
      subst he1
      have hx := xor_sg (sgn a) (sgn b)
      have hsg := fun r h w => sg_c (sgn a ^^ sgn b) r h _ rfl w
      generalize sgI (sgn a ^^ sgn b) = σ at *
      generalize (sgn a ^^ sgn b) = xs at *
      generalize sgI (sgn a) = s at *
      generalize sgI (sgn b) = z at *
      have sgc : ∀ w, Calls Tryz.prog 30 #[.int .u64 σ, .int .u64 9218868437227405312] w fun e w' => e = .returned (.int .u64 ((Ieee.double.word xs 9218868437227405312 : Nat) : Int)) ∧ w = w' := fun w => hsg 9218868437227405312 (by omega) w
      clear hsg
      go_enter Tryz.func8, Tryz.ntmps8
      go_wp2_with (first
            | ((with_reducible refine (hq1 _).mono ?_); rintro e w' ⟨rfl, rfl⟩)
            | ((with_reducible refine (hq2 _).mono ?_); rintro e w' ⟨rfl, rfl⟩)
            | ((with_reducible refine (hi1 _).mono ?_); rintro e w' ⟨rfl, rfl⟩)
            | ((with_reducible refine (hi2 _).mono ?_); rintro e w' ⟨rfl, rfl⟩)
            | (go_at_call 30; (with_reducible refine (sgc _).mono ?_); rintro e w8 ⟨rfl, rfl⟩))
      go_ret2
      exact ⟨ret_pair (by rw [HR.out]), Below.refl _ _⟩
  · rcases cls b with hn2 | ⟨hn2, hr2, he2⟩ | ⟨hn2, hr2, he2, h02⟩ | ⟨hn2, hr2, he2, h02⟩
    · have HR := Lib.hid (show fdiv a b = NaN from (fadd_nan2 hn2).2.2.1)
      rw [hn1] at hi1
      have hE1 := ne_b he1
      have hX1 : (((rg a : Nat) : Int) == 0) = false := ne_b (by omega)
      have hR1 := Lib.hid hr1
      clear hr1 hn1 h01 he1
      rw [hn2] at hi2
      generalize fdiv a b = V at *
      generalize eB a = e at *
      generalize eB b = f at *
      generalize rB a = p at *
      generalize rB b = q at *
      generalize ((rg a : Nat) : Int) = X at *
      generalize sgI (sgn a) = s at *
      generalize sgI (sgn b) = z at *
      go_enter Tryz.func8, Tryz.ntmps8
      go_wp2_with (first
            | ((with_reducible refine (hq1 _).mono ?_); rintro e w' ⟨rfl, rfl⟩)
            | ((with_reducible refine (hq2 _).mono ?_); rintro e w' ⟨rfl, rfl⟩)
            | ((with_reducible refine (hi1 _).mono ?_); rintro e w' ⟨rfl, rfl⟩)
            | ((with_reducible refine (hi2 _).mono ?_); rintro e w' ⟨rfl, rfl⟩))
      go_ret2
      exact ⟨ret_pair (by rw [HR.out]; rfl), Below.refl _ _⟩
    · have HR := Lib.hid (show fdiv a b = Ieee.double.word (sgn a ^^ sgn b) 0 from div_by_inf hr1 hr2)
      rw [hn1] at hi1
      have hE1 := ne_b he1
      have hX1 : (((rg a : Nat) : Int) == 0) = false := ne_b (by omega)
      have hR1 := Lib.hid hr1
      clear hr1 hn1 h01 he1
      rw [hn2] at hi2
      have hX2 : (((rg b : Nat) : Int) == 0) = false := ne_b (by omega)
      have hR2 := Lib.hid hr2
      clear hr2 hn2
      generalize fdiv a b = V at *
      generalize eB a = e at *
      generalize eB b = f at *
      generalize rB a = p at *
      generalize rB b = q at *
      generalize ((rg a : Nat) : Int) = X at *
      generalize ((rg b : Nat) : Int) = Y at *
      subst he2
      have hx := xor_sg (sgn a) (sgn b)
      have hsg := fun r h w => sg_c (sgn a ^^ sgn b) r h _ rfl w
      generalize sgI (sgn a ^^ sgn b) = σ at *
      generalize (sgn a ^^ sgn b) = xs at *
      generalize sgI (sgn a) = s at *
      generalize sgI (sgn b) = z at *
      have sgc : ∀ w, Calls Tryz.prog 30 #[.int .u64 σ, .int .u64 0] w fun e w' => e = .returned (.int .u64 ((Ieee.double.word xs 0 : Nat) : Int)) ∧ w = w' := fun w => hsg 0 (by omega) w
      clear hsg
      go_enter Tryz.func8, Tryz.ntmps8
      go_wp2_with (first
            | ((with_reducible refine (hq1 _).mono ?_); rintro e w' ⟨rfl, rfl⟩)
            | ((with_reducible refine (hq2 _).mono ?_); rintro e w' ⟨rfl, rfl⟩)
            | ((with_reducible refine (hi1 _).mono ?_); rintro e w' ⟨rfl, rfl⟩)
            | ((with_reducible refine (hi2 _).mono ?_); rintro e w' ⟨rfl, rfl⟩)
            | (go_at_call 30; (with_reducible refine (sgc _).mono ?_); rintro e w8 ⟨rfl, rfl⟩))
      go_ret2
      exact ⟨ret_pair (by rw [HR.out]), Below.refl _ _⟩
    · obtain ⟨r, hd, hz0, hz1⟩ := div_fin hr1 hr2 h02
      have HR := Lib.hid (show fdiv a b = Ieee.double.word (sgn a ^^ sgn b) r from hd)
      clear hd
      have hnpos : 0 < mg b := Nat.pos_of_ne_zero (fun e => h02 (mg_zero.1 e))
      have HZ := Lib.hid hz0
      have HN := Lib.hid hz1
      have HLT := Lib.hid (show r < 9223372036854775808 from by
        by_cases hm : mg a = 0
        · rw [hz0 hm]; omega
        · exact near_lt (hz1 hm))
      clear hz0 hz1
      have hn1' := number_ a ha'
      have hn2' := number_ b hb'
      have p1 := pl_ge a
      have p2 := pl_ge b
      have p3 := pl_le hr1
      have p4 := pl_le hr2
      have m1 := mg_lt a
      have m2 := mg_lt b
      have o1 : ∀ w, Calls Tryz.prog 34 #[.int .i64 1] w (ResT w 1 4) := fun w => ofT w 1 (by omega)
      have om := fun w => ofT w (mg a) (by omega)
      have on := fun w => ofT w (mg b) (by omega)
      rw [hn1] at hi1
      have hE1 := ne_b he1
      have hX1 : (((rg a : Nat) : Int) == 0) = false := ne_b (by omega)
      have hR1 := Lib.hid hr1
      clear hr1 hn1 h01 he1
      rw [hn2] at hi2
      have hE2 := ne_b he2
      have hX2 : (((rg b : Nat) : Int) == 0) = false := ne_b (by omega)
      have hR2 := Lib.hid hr2
      clear hr2 hn2 h02 he2
      generalize fdiv a b = V at *
      generalize eB a = e at *
      generalize eB b = f at *
      generalize rB a = p at *
      generalize rB b = q at *
      generalize ((rg a : Nat) : Int) = X at *
      generalize ((rg b : Nat) : Int) = Y at *
      have hx := xor_sg (sgn a) (sgn b)
      have hsg := fun r h w => sg_c (sgn a ^^ sgn b) r h _ rfl w
      generalize sgI (sgn a ^^ sgn b) = σ at *
      generalize (sgn a ^^ sgn b) = xs at *
      generalize sgI (sgn a) = s at *
      generalize sgI (sgn b) = z at *
      have HSG := Lib.hid hsg
      clear hsg
      generalize mg a = m at *
      generalize mg b = n at *
      generalize pl a = k at *
      generalize pl b = l at *
      go_enter Tryz.func8, Tryz.ntmps8
      go_wp2_with (first
            | ((with_reducible refine (hq1 _).mono ?_); rintro e w' ⟨rfl, rfl⟩)
            | ((with_reducible refine (hq2 _).mono ?_); rintro e w' ⟨rfl, rfl⟩)
            | ((with_reducible refine (hi1 _).mono ?_); rintro e w' ⟨rfl, rfl⟩)
            | ((with_reducible refine (hi2 _).mono ?_); rintro e w' ⟨rfl, rfl⟩)
            | ((with_reducible refine (hn1' _).mono ?_); rintro e w' ⟨rfl, rfl⟩)
            | ((with_reducible refine (hn2' _).mono ?_); rintro e w' ⟨rfl, rfl⟩)
            | (go_at_call 34; (with_reducible refine (om _).mono ?_); rintro e w1 ⟨v1, rfl, n1, b1⟩; have N1 := Lib.hid n1; clear n1 om)
            | (go_at_call 34; (with_reducible refine (on _).mono ?_); rintro e w2 ⟨v2, rfl, n2, b2⟩; have N2 := Lib.hid n2; clear n2 on)
            | (go_at_call 34; (with_reducible refine (o1 _).mono ?_); rintro e w4 ⟨v4, rfl, n4, b4⟩; have N4 := Lib.hid n4; clear n4 o1)
            | (go_at_call 32; (refine (nearQ _ v1 v2 m n r _ (NumT.le (N1.out.below b2 (Nat.le_refl _)) (by decide)) (NumT.le N2.out (by decide)) hnpos (by omega) (by omega) HZ.out HN.out).mono ?_); rintro e w7 ⟨rfl, b7⟩)
            | (go_at_call 30; (refine (HSG.out _ HLT.out _).mono ?_); rintro e w8 ⟨rfl, rfl⟩))
      go_ret2
      exact ⟨ret_pair (by rw [HR.out]), bel3 (bel3 b1 b2) b7⟩
    · have HR := Lib.hid (show fdiv a b = Ieee.double.word (sgn a ^^ sgn b) 9218868437227405312 from div_zero hr1 h01 h02)
      rw [hn1] at hi1
      have hE1 := ne_b he1
      have hX1 : (((rg a : Nat) : Int) == 0) = false := ne_b (by omega)
      have hR1 := Lib.hid hr1
      clear hr1 hn1 h01 he1
      rw [hn2] at hi2
      have hE2 := ne_b he2
      rw [h02] at r2
      have hR2 := Lib.hid hr2
      clear hr2 hn2 h02 he2
      generalize fdiv a b = V at *
      generalize eB a = e at *
      generalize eB b = f at *
      generalize rB a = p at *
      generalize rB b = q at *
      generalize ((rg a : Nat) : Int) = X at *
      have hx := xor_sg (sgn a) (sgn b)
      have hsg := fun r h w => sg_c (sgn a ^^ sgn b) r h _ rfl w
      generalize sgI (sgn a ^^ sgn b) = σ at *
      generalize (sgn a ^^ sgn b) = xs at *
      generalize sgI (sgn a) = s at *
      generalize sgI (sgn b) = z at *
      have sgc : ∀ w, Calls Tryz.prog 30 #[.int .u64 σ, .int .u64 9218868437227405312] w fun e w' => e = .returned (.int .u64 ((Ieee.double.word xs 9218868437227405312 : Nat) : Int)) ∧ w = w' := fun w => hsg 9218868437227405312 (by omega) w
      clear hsg
      go_enter Tryz.func8, Tryz.ntmps8
      go_wp2_with (first
            | ((with_reducible refine (hq1 _).mono ?_); rintro e w' ⟨rfl, rfl⟩)
            | ((with_reducible refine (hq2 _).mono ?_); rintro e w' ⟨rfl, rfl⟩)
            | ((with_reducible refine (hi1 _).mono ?_); rintro e w' ⟨rfl, rfl⟩)
            | ((with_reducible refine (hi2 _).mono ?_); rintro e w' ⟨rfl, rfl⟩)
            | (go_at_call 30; (with_reducible refine (sgc _).mono ?_); rintro e w8 ⟨rfl, rfl⟩))
      go_ret2
      exact ⟨ret_pair (by rw [HR.out]), Below.refl _ _⟩
  · rcases cls b with hn2 | ⟨hn2, hr2, he2⟩ | ⟨hn2, hr2, he2, h02⟩ | ⟨hn2, hr2, he2, h02⟩
    · have HR := Lib.hid (show fdiv a b = NaN from (fadd_nan2 hn2).2.2.1)
      rw [hn1] at hi1
      have hE1 := ne_b he1
      rw [h01] at r1
      have hR1 := Lib.hid hr1
      clear hr1 hn1 h01 he1
      rw [hn2] at hi2
      generalize fdiv a b = V at *
      generalize eB a = e at *
      generalize eB b = f at *
      generalize rB a = p at *
      generalize rB b = q at *
      generalize sgI (sgn a) = s at *
      generalize sgI (sgn b) = z at *
      go_enter Tryz.func8, Tryz.ntmps8
      go_wp2_with (first
            | ((with_reducible refine (hq1 _).mono ?_); rintro e w' ⟨rfl, rfl⟩)
            | ((with_reducible refine (hq2 _).mono ?_); rintro e w' ⟨rfl, rfl⟩)
            | ((with_reducible refine (hi1 _).mono ?_); rintro e w' ⟨rfl, rfl⟩)
            | ((with_reducible refine (hi2 _).mono ?_); rintro e w' ⟨rfl, rfl⟩))
      go_ret2
      exact ⟨ret_pair (by rw [HR.out]; rfl), Below.refl _ _⟩
    · have HR := Lib.hid (show fdiv a b = Ieee.double.word (sgn a ^^ sgn b) 0 from div_by_inf hr1 hr2)
      rw [hn1] at hi1
      have hE1 := ne_b he1
      rw [h01] at r1
      have hR1 := Lib.hid hr1
      clear hr1 hn1 h01 he1
      rw [hn2] at hi2
      have hX2 : (((rg b : Nat) : Int) == 0) = false := ne_b (by omega)
      have hR2 := Lib.hid hr2
      clear hr2 hn2
      generalize fdiv a b = V at *
      generalize eB a = e at *
      generalize eB b = f at *
      generalize rB a = p at *
      generalize rB b = q at *
      generalize ((rg b : Nat) : Int) = Y at *
      subst he2
      have hx := xor_sg (sgn a) (sgn b)
      have hsg := fun r h w => sg_c (sgn a ^^ sgn b) r h _ rfl w
      generalize sgI (sgn a ^^ sgn b) = σ at *
      generalize (sgn a ^^ sgn b) = xs at *
      generalize sgI (sgn a) = s at *
      generalize sgI (sgn b) = z at *
      have sgc : ∀ w, Calls Tryz.prog 30 #[.int .u64 σ, .int .u64 0] w fun e w' => e = .returned (.int .u64 ((Ieee.double.word xs 0 : Nat) : Int)) ∧ w = w' := fun w => hsg 0 (by omega) w
      clear hsg
      go_enter Tryz.func8, Tryz.ntmps8
      go_wp2_with (first
            | ((with_reducible refine (hq1 _).mono ?_); rintro e w' ⟨rfl, rfl⟩)
            | ((with_reducible refine (hq2 _).mono ?_); rintro e w' ⟨rfl, rfl⟩)
            | ((with_reducible refine (hi1 _).mono ?_); rintro e w' ⟨rfl, rfl⟩)
            | ((with_reducible refine (hi2 _).mono ?_); rintro e w' ⟨rfl, rfl⟩)
            | (go_at_call 30; (with_reducible refine (sgc _).mono ?_); rintro e w8 ⟨rfl, rfl⟩))
      go_ret2
      exact ⟨ret_pair (by rw [HR.out]), Below.refl _ _⟩
    · obtain ⟨r, hd, hz0, hz1⟩ := div_fin hr1 hr2 h02
      have HR := Lib.hid (show fdiv a b = Ieee.double.word (sgn a ^^ sgn b) r from hd)
      clear hd
      have hnpos : 0 < mg b := Nat.pos_of_ne_zero (fun e => h02 (mg_zero.1 e))
      have HZ := Lib.hid hz0
      have HN := Lib.hid hz1
      have HLT := Lib.hid (show r < 9223372036854775808 from by
        by_cases hm : mg a = 0
        · rw [hz0 hm]; omega
        · exact near_lt (hz1 hm))
      clear hz0 hz1
      have hn1' := number_ a ha'
      have hn2' := number_ b hb'
      have p1 := pl_ge a
      have p2 := pl_ge b
      have p3 := pl_le hr1
      have p4 := pl_le hr2
      have m1 := mg_lt a
      have m2 := mg_lt b
      have o1 : ∀ w, Calls Tryz.prog 34 #[.int .i64 1] w (ResT w 1 4) := fun w => ofT w 1 (by omega)
      have om := fun w => ofT w (mg a) (by omega)
      have on := fun w => ofT w (mg b) (by omega)
      rw [hn1] at hi1
      have hE1 := ne_b he1
      rw [h01] at r1
      have hR1 := Lib.hid hr1
      clear hr1 hn1 h01 he1
      rw [hn2] at hi2
      have hE2 := ne_b he2
      have hX2 : (((rg b : Nat) : Int) == 0) = false := ne_b (by omega)
      have hR2 := Lib.hid hr2
      clear hr2 hn2 h02 he2
      generalize fdiv a b = V at *
      generalize eB a = e at *
      generalize eB b = f at *
      generalize rB a = p at *
      generalize rB b = q at *
      generalize ((rg b : Nat) : Int) = Y at *
      have hx := xor_sg (sgn a) (sgn b)
      have hsg := fun r h w => sg_c (sgn a ^^ sgn b) r h _ rfl w
      generalize sgI (sgn a ^^ sgn b) = σ at *
      generalize (sgn a ^^ sgn b) = xs at *
      generalize sgI (sgn a) = s at *
      generalize sgI (sgn b) = z at *
      have HSG := Lib.hid hsg
      clear hsg
      generalize mg a = m at *
      generalize mg b = n at *
      generalize pl a = k at *
      generalize pl b = l at *
      go_enter Tryz.func8, Tryz.ntmps8
      go_wp2_with (first
            | ((with_reducible refine (hq1 _).mono ?_); rintro e w' ⟨rfl, rfl⟩)
            | ((with_reducible refine (hq2 _).mono ?_); rintro e w' ⟨rfl, rfl⟩)
            | ((with_reducible refine (hi1 _).mono ?_); rintro e w' ⟨rfl, rfl⟩)
            | ((with_reducible refine (hi2 _).mono ?_); rintro e w' ⟨rfl, rfl⟩)
            | ((with_reducible refine (hn1' _).mono ?_); rintro e w' ⟨rfl, rfl⟩)
            | ((with_reducible refine (hn2' _).mono ?_); rintro e w' ⟨rfl, rfl⟩)
            | (go_at_call 34; (with_reducible refine (om _).mono ?_); rintro e w1 ⟨v1, rfl, n1, b1⟩; have N1 := Lib.hid n1; clear n1 om)
            | (go_at_call 34; (with_reducible refine (on _).mono ?_); rintro e w2 ⟨v2, rfl, n2, b2⟩; have N2 := Lib.hid n2; clear n2 on)
            | (go_at_call 34; (with_reducible refine (o1 _).mono ?_); rintro e w4 ⟨v4, rfl, n4, b4⟩; have N4 := Lib.hid n4; clear n4 o1)
            | (go_at_call 32; (refine (nearQ _ v1 v2 m n r _ (NumT.le (N1.out.below b2 (Nat.le_refl _)) (by decide)) (NumT.le N2.out (by decide)) hnpos (by omega) (by omega) HZ.out HN.out).mono ?_); rintro e w7 ⟨rfl, b7⟩)
            | (go_at_call 30; (refine (HSG.out _ HLT.out _).mono ?_); rintro e w8 ⟨rfl, rfl⟩))
      go_ret2
      exact ⟨ret_pair (by rw [HR.out]), bel3 (bel3 b1 b2) b7⟩
    · have HR := Lib.hid (show fdiv a b = NaN from div_none_zero h01 h02)
      rw [hn1] at hi1
      have hE1 := ne_b he1
      rw [h01] at r1
      have hR1 := Lib.hid hr1
      clear hr1 hn1 h01 he1
      rw [hn2] at hi2
      have hE2 := ne_b he2
      rw [h02] at r2
      have hR2 := Lib.hid hr2
      clear hr2 hn2 h02 he2
      generalize fdiv a b = V at *
      generalize eB a = e at *
      generalize eB b = f at *
      generalize rB a = p at *
      generalize rB b = q at *
      generalize sgI (sgn a) = s at *
      generalize sgI (sgn b) = z at *
      go_enter Tryz.func8, Tryz.ntmps8
      go_wp2_with (first
            | ((with_reducible refine (hq1 _).mono ?_); rintro e w' ⟨rfl, rfl⟩)
            | ((with_reducible refine (hq2 _).mono ?_); rintro e w' ⟨rfl, rfl⟩)
            | ((with_reducible refine (hi1 _).mono ?_); rintro e w' ⟨rfl, rfl⟩)
            | ((with_reducible refine (hi2 _).mono ?_); rintro e w' ⟨rfl, rfl⟩))
      go_ret2
      exact ⟨ret_pair (by rw [HR.out]; rfl), Below.refl _ _⟩
set_option maxRecDepth 100000 in
set_option maxHeartbeats 8000000 in
theorem do_sub (a b : Nat) (ha : W a) (hb : W b) (w : World) : Calls Tryz.prog 8 #[.int .i64 46, .int .u64 (a : Int), .int .u64 (b : Int)] w fun e w' => e = .returned (.tuple #[.int .u64 ((fsub a b : Nat) : Int), .bool true]) ∧ Below w.heap.size w w' := by
  have cn := fun w => RB.neg_ b hb w
  have ca := fun w => do_add a (fneg b) ha (W_fneg b) w
  have HV : isNan a = false → isNan b = false → Hid (fsub a b = fadd a (fneg b)) := fun _ _ => Lib.hid (by unfold fsub fadd; rw [sub_eq a b hb])
  have hq1 := parts a ha
  have hq2 := parts b hb
  have hi1 := is_ a ha
  have hi2 := is_ b hb
  rw [sB_sgI ha] at hq1
  rw [sB_sgI hb] at hq2
  have r1 := rem63 a
  have r2 := rem63 b
  have s1 := sgI_bd (sgn a)
  have s2 := sgI_bd (sgn b)
  have k1 := eB_bd a
  have k2 := eB_bd b
  unfold W at ha hb
  cases hn1 : isNan a with
  | true =>
    have HR := Lib.hid (show fsub a b = NaN from (fadd_nan1 hn1).2.2.2)
    rw [hn1] at hi1
    clear hn1 cn ca HV hi2
    generalize fsub a b = V at *
    generalize eB a = e at *
    generalize eB b = f at *
    generalize rB a = p at *
    generalize rB b = q at *
    generalize ((rg a : Nat) : Int) = X at *
    generalize ((rg b : Nat) : Int) = Y at *
    generalize sgI (sgn a) = s at *
    generalize sgI (sgn b) = z at *
    go_enter Tryz.func8, Tryz.ntmps8
    go_wp2_with (first
      | ((with_reducible refine (hq1 _).mono ?_); rintro e w' ⟨rfl, rfl⟩)
      | ((with_reducible refine (hq2 _).mono ?_); rintro e w' ⟨rfl, rfl⟩)
      | ((with_reducible refine (hi1 _).mono ?_); rintro e w' ⟨rfl, rfl⟩))
    go_ret2
    exact ⟨ret_pair (by rw [HR.out]; rfl), Below.refl _ _⟩
  | false =>
    cases hn2 : isNan b with
    | true =>
      have HR := Lib.hid (show fsub a b = NaN from (fadd_nan2 hn2).2.2.2)
      rw [hn1] at hi1
      rw [hn2] at hi2
      clear hn1 hn2 cn ca HV
      generalize fsub a b = V at *
      generalize eB a = e at *
      generalize eB b = f at *
      generalize rB a = p at *
      generalize rB b = q at *
      generalize ((rg a : Nat) : Int) = X at *
      generalize ((rg b : Nat) : Int) = Y at *
      generalize sgI (sgn a) = s at *
      generalize sgI (sgn b) = z at *
      go_enter Tryz.func8, Tryz.ntmps8
      go_wp2_with (first
        | ((with_reducible refine (hq1 _).mono ?_); rintro e w' ⟨rfl, rfl⟩)
        | ((with_reducible refine (hq2 _).mono ?_); rintro e w' ⟨rfl, rfl⟩)
        | ((with_reducible refine (hi1 _).mono ?_); rintro e w' ⟨rfl, rfl⟩)
        | ((with_reducible refine (hi2 _).mono ?_); rintro e w' ⟨rfl, rfl⟩))
      go_ret2
      exact ⟨ret_pair (by rw [HR.out]; rfl), Below.refl _ _⟩
    | false =>
      have HR := HV hn1 hn2
      rw [hn1] at hi1
      rw [hn2] at hi2
      clear hn1 hn2 HV
      generalize fsub a b = V at *
      generalize fadd a (fneg b) = V' at *
      generalize fneg b = b' at *
      generalize eB a = e at *
      generalize eB b = f at *
      generalize rB a = p at *
      generalize rB b = q at *
      generalize ((rg a : Nat) : Int) = X at *
      generalize ((rg b : Nat) : Int) = Y at *
      generalize sgI (sgn a) = s at *
      generalize sgI (sgn b) = z at *
      go_enter Tryz.func8, Tryz.ntmps8
      go_wp2_with (first
        | ((with_reducible refine (hq1 _).mono ?_); rintro e w' ⟨rfl, rfl⟩)
        | ((with_reducible refine (hq2 _).mono ?_); rintro e w' ⟨rfl, rfl⟩)
        | ((with_reducible refine (hi1 _).mono ?_); rintro e w' ⟨rfl, rfl⟩)
        | ((with_reducible refine (hi2 _).mono ?_); rintro e w' ⟨rfl, rfl⟩)
        | ((with_reducible refine (cn _).mono ?_); rintro e w' ⟨rfl, rfl⟩)
        | ((with_reducible refine (ca _).mono ?_); rintro e w1 ⟨rfl, b1⟩))
      go_ret2
      exact ⟨ret_pair (by rw [HR.out]), b1⟩
set_option maxRecDepth 100000 in
theorem do_no (op : Int) (a b : Nat) (h : RC.isOp op = false) (w : World) : Calls Tryz.prog 8 #[.int .i64 op, .int .u64 (a : Int), .int .u64 (b : Int)] w fun e w' => e = .returned (.tuple #[.int .u64 0, .bool false]) ∧ Below w.heap.size w w' := by
  have h2 : ¬ (45 ≤ op ∧ op ≤ 48) := by simpa [RC.isOp] using h
  by_cases c : op < 45
  · clear h h2
    go_enter Tryz.func8, Tryz.ntmps8
    go_wp2
    go_ret2
    exact ⟨rfl, Below.refl _ _⟩
  · have c2 : 48 < op := by omega
    have c3 : 45 ≤ op := by omega
    clear h h2 c
    go_enter Tryz.func8, Tryz.ntmps8
    go_wp2
    go_ret2
    exact ⟨rfl, Below.refl _ _⟩
end RO
end Go.Proofs.YtcchmnilcmnajaaGreatDoor
