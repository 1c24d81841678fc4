/-
  The reference's long numbers: divide, and the shorter forms of the other contracts. Conditions: lengths below five thousand; the quotient lies below 2^57.
-/
import Derived.Test.YtcchmnilcmnajaaGreatDoorRealW
namespace Go.Proofs.YtcchmnilcmnajaaGreatDoor
open Go.RowKit
set_option linter.unusedVariables false
namespace RN
/-- what divide leaves -/
def DivRes (w : World) (A B M : Nat) (e : Ending) (w' : World) : Prop := ∃ v m, e = .returned (.tuple #[.int .i64 ((A / B : Nat) : Int), v]) ∧ Num w' v (A % B) m ∧ Tight (A % B) m ∧ m ≤ M ∧ Below w.heap.size w w'
/-- a number, its digits, how many at most -/
def NumT (w : World) (v : Value) (N M : Nat) : Prop := ∃ n, Num w v N n ∧ Tight N n ∧ n ≤ M
theorem NumT.below {w w' : World} {v : Value} {N M B : Nat} (h : NumT w v N M) (hb : Below B w w') (hB : w.heap.size ≤ B) : NumT w' v N M := by
  obtain ⟨n, h1, h2, h3⟩ := h
  exact ⟨n, h1.below hb hB, h2, h3⟩
def ResT (w : World) (X M : Nat) (e : Ending) (w' : World) : Prop := ∃ v, e = .returned v ∧ NumT w' v X M ∧ Below w.heap.size w w'
theorem compareT (w : World) (va vb : Value) (A B M : Nat) (ha : NumT w va A M) (hb : NumT w vb B M) (hM : M ≤ 100000) :
    Calls Tryz.prog 55 #[va, vb] w fun e w' => e = .returned (.int .i64 (cmpI A B)) ∧ w = w' := by
  obtain ⟨n, h1, _, h3⟩ := ha
  obtain ⟨m, k1, _, k3⟩ := hb
  exact compare w va vb A B n m M h1 k1 h3 k3 hM
theorem minusT (w : World) (va vb : Value) (A B M : Nat) (ha : NumT w va A M) (hb : NumT w vb B M) (hM : M ≤ 100000) (hle : B ≤ A) : Calls Tryz.prog 56 #[va, vb] w (ResT w (A - B) M) := by
  obtain ⟨n, h1, _, h3⟩ := ha
  obtain ⟨m, k1, _, k3⟩ := hb
  exact (minus w va vb A B n m M h1 k1 h3 k3 hM hle).mono fun _ _ ⟨v, q, a1, a2, a3, a4, a5, _⟩ => ⟨v, a1, ⟨q, a2, a3, a4⟩, a5⟩
theorem plusT (w : World) (va vb : Value) (A B M : Nat) (ha : NumT w va A M) (hb : NumT w vb B M) (hM : M ≤ 100000) : Calls Tryz.prog 49 #[va, vb] w (ResT w (A + B) (M + 1)) := by
  obtain ⟨n, h1, _, h3⟩ := ha
  obtain ⟨m, k1, _, k3⟩ := hb
  exact (plus w va vb A B n m M h1 k1 h3 k3 hM).mono fun _ _ ⟨v, q, a1, a2, a3, a4, a5, _⟩ => ⟨v, a1, ⟨q, a2, a3, a4⟩, a5⟩
theorem smallT (w : World) (va : Value) (A M K : Nat) (ha : NumT w va A M) (hM : M ≤ 100000) (hK : K ≤ 65535) : Calls Tryz.prog 50 #[va, .int .i64 (K : Int)] w (ResT w (A * K) (M + 1)) := by
  obtain ⟨n, h1, _, h3⟩ := ha
  exact (small w va A n M K h1 h3 hM hK).mono fun _ _ ⟨v, q, a1, a2, a3, a4, a5, _⟩ => ⟨v, a1, ⟨q, a2, a3, a4⟩, a5⟩
theorem halfT (w : World) (va : Value) (A M : Nat) (ha : NumT w va A M) (hM : M ≤ 100000) : Calls Tryz.prog 75 #[va] w (ResT w (A / 2) M) := by
  obtain ⟨n, h1, _, h3⟩ := ha
  exact (half w va A n M h1 h3 hM).mono fun _ _ ⟨v, q, a1, a2, a3, a4, a5, _⟩ => ⟨v, a1, ⟨q, a2, a3, a4⟩, a5⟩
theorem twiceT (w : World) (va : Value) (A M n : Nat) (ha : NumT w va A M) (hM : M ≤ 10000) (hn : n ≤ 100000) : Calls Tryz.prog 54 #[va, .int .i64 (n : Int)] w (ResT w (A * 2 ^ n) (M + 1 + n / 16)) := by
  obtain ⟨k, h1, h2, h3⟩ := ha
  exact (twice w va A k n h1 h2 (by omega) hn).mono fun _ _ ⟨v, q, a1, a2, a3, a4, a5, _⟩ => ⟨v, a1, ⟨q, a2, a3, by omega⟩, a5⟩
theorem sizeT (w : World) (va : Value) (A M : Nat) (ha : NumT w va A M) (hM : M ≤ 100000) : Calls Tryz.prog 57 #[va] w fun e w' => (∃ s : Nat, e = .returned (.int .i64 (s : Int)) ∧ Bits A s ∧ s ≤ 16 * M) ∧ w = w' := by
  obtain ⟨k, h1, h2, h3⟩ := ha
  exact (size w va A k h1 h2 (by omega)).mono fun _ _ ⟨⟨s, a1, a2, a3⟩, a4⟩ => ⟨⟨s, a1, a2, by omega⟩, a4⟩

set_option maxRecDepth 100000 in
set_option maxHeartbeats 4000000 in
theorem divide (w : World) (va vb : Value) (A B M : Nat) (ha : NumT w va A M) (hb : NumT w vb B M) (hM : M ≤ 5000) (hB : 0 < B) (hlt : A < B * 2 ^ 57) :
    Calls Tryz.prog 58 #[va, vb] w (DivRes w A B (M + 4)) := by
  have HB := Lib.hid hB
  have Ha := Lib.hid ha
  have Hlt := Lib.hid hlt
  have ct := Lib.hid (twiceT w vb B M 56 hb (by omega) (by omega))
  clear hB ha hlt hb
  go_enter Tryz.func58, Tryz.ntmps58
  go_wp2_with (go_at_call 54; refine ct.out.mono ?_; rintro e w1 ⟨dv, rfl, hd, hb1⟩
               have Hd := Lib.hid hd
               clear hd)
  go_loopw [0, 6, 7, 8] (fun a q p d wr => ∃ j Q R : Nat, q = .int .i64 (Q : Int) ∧ p = .int .i64 ((2 ^ j / 2 : Nat) : Int) ∧ j ≤ 57 ∧ Hid (A = B * Q + R ∧ R < B * 2 ^ j) ∧ Hid (NumT wr a R (M + 4)) ∧ Hid (NumT wr d (B * 2 ^ j / 2) (M + 4)) ∧ Below w.heap.size w wr) (fun _ _ p _ _ => (intOf p).toNat)
  case atStart =>
    refine ⟨57, 0, A, rfl, rfl, by omega, Lib.hid ⟨by rw [Nat.mul_zero, Nat.zero_add], Hlt.out⟩, ?_, ?_, hb1⟩
    · obtain ⟨n, h1, h2, h3⟩ := Ha.out.below hb1 (Nat.le_refl _)
      exact Lib.hid ⟨n, h1, h2, by omega⟩
    · rw [show B * 2 ^ 57 / 2 = B * 2 ^ 56 by omega]
      exact Hd
  case round =>
    obtain ⟨j, Q, R, rfl, rfl, hj, hinv, hra, hrd, hbel⟩ := hrel
    have hQ : Q < 2 ^ 57 := by
      obtain ⟨e1, e2⟩ := hinv.out
      have h1 := Hlt.out
      rcases Nat.lt_or_ge Q (2 ^ 57) with c | c
      · exact c
      · have := Nat.mul_le_mul_left B c; omega
    rcases Nat.eq_zero_or_pos j with h0 | h0
    · subst h0
      have e1 : A / B = Q ∧ A % B = R := by
        obtain ⟨e1, e2⟩ := hinv.out
        rw [Nat.pow_zero, Nat.mul_one] at e2
        rw [e1]
        exact ⟨by rw [Nat.mul_add_div HB.out, Nat.div_eq_of_lt e2, Nat.add_zero], by rw [Nat.mul_add_mod, Nat.mod_eq_of_lt e2]⟩
      have E1 := Lib.hid e1
      clear e1 hQ
      go_wp2
      go_ret2
      obtain ⟨n, h1, h2, h3⟩ := hra.out
      exact ⟨_, n, by rw [E1.out.1]; rfl, by rw [E1.out.2]; exact h1, by rw [E1.out.2]; exact h2, h3, hbel⟩
    · obtain ⟨i, rfl⟩ : ∃ i, j = i + 1 := ⟨j - 1, by omega⟩
      have ep : 2 ^ (i + 1) / 2 = 2 ^ i := by rw [Nat.pow_succ]; omega
      have ed : B * 2 ^ (i + 1) / 2 = B * 2 ^ i := by rw [Nat.pow_succ, ← Nat.mul_assoc]; omega
      rw [ep]
      rw [ed] at hrd
      have hi56 : 2 ^ i ≤ 2 ^ 56 := Nat.pow_le_pow_right (by omega) (by omega)
      have hi0 := Nat.two_pow_pos i
      have cc := compareT wr _ _ R (B * 2 ^ i) (M + 4) hra.out hrd.out (by omega)
      have Hp : Hid (2 ^ i / 2 = 2 ^ i / 2) := Lib.hid rfl
      clear ep ed
      by_cases hc : R < B * 2 ^ i
      · have ec : cmpI R (B * 2 ^ i) = -1 := by unfold cmpI; rw [if_pos hc]
        rw [ec] at cc
        have Cc := Lib.hid cc
        have ch := Lib.hid (halfT wr _ (B * 2 ^ i) (M + 4) hrd.out (by omega))
        have hinv' : Hid (A = B * Q + R ∧ R < B * 2 ^ i) := Lib.hid ⟨hinv.out.1, hc⟩
        clear ec cc hc
        generalize hP : 2 ^ i = P at *
        have HP := Lib.hid hP
        clear hP
        go_wp2_with (first
          | (go_at_call 55; refine Cc.out.mono ?_; rintro e w' ⟨rfl, rfl⟩)
          | (go_at_call 75; refine ch.out.mono ?_; rintro e w3 ⟨dv3, rfl, hd3, hb3⟩
             have Hd3 := Lib.hid hd3
             clear hd3))
        refine ⟨⟨i, Q, R, rfl, by rw [HP.out]; exact congrArg _ (by omega), by omega, by rw [HP.out]; exact hinv', Lib.hid (hra.out.below hb3 (Nat.le_refl _)), by rw [HP.out]; exact Hd3, hbel.trans (hb3.mono hbel.size)⟩, ?_⟩
        simp [intOf]; omega
      · have hle : B * 2 ^ i ≤ R := by omega
        have ec : 0 ≤ cmpI R (B * 2 ^ i) := by unfold cmpI; rw [if_neg hc]; split <;> omega
        have Cc := Lib.hid cc
        have cm := Lib.hid (minusT wr _ _ R (B * 2 ^ i) (M + 4) hra.out hrd.out (by omega) hle)
        have ch := fun w3 (hb : Below wr.heap.size wr w3) => halfT w3 _ (B * 2 ^ i) (M + 4) (hrd.out.below hb (Nat.le_refl _)) (by omega)
        have Ch := Lib.hid ch
        have hinv' : Hid (A = B * (Q + 2 ^ i) + (R - B * 2 ^ i) ∧ R - B * 2 ^ i < B * 2 ^ i) := Lib.hid (by
          obtain ⟨e1, e2⟩ := hinv.out
          rw [Nat.pow_succ, ← Nat.mul_assoc] at e2
          rw [Nat.mul_add]
          omega)
        clear cc hc hle ch
        generalize cmpI R (B * 2 ^ i) = c at *
        generalize hP : 2 ^ i = P at *
        have HP := Lib.hid hP
        clear hP
        go_wp2_with (first
          | (go_at_call 55; refine Cc.out.mono ?_; rintro e w' ⟨rfl, rfl⟩)
          | (go_at_call 56; refine cm.out.mono ?_; rintro e w2 ⟨dv2, rfl, hd2, hb2⟩
             have Hd2 := Lib.hid hd2
             clear hd2)
          | (go_at_call 75; refine (Ch.out _ hb2).mono ?_; rintro e w3 ⟨dv3, rfl, hd3, hb3⟩
             have Hd3 := Lib.hid hd3
             clear hd3))
        refine ⟨⟨i, Q + P, R - B * P, by go_num, by rw [HP.out]; exact congrArg _ (by omega), by omega, by rw [HP.out]; exact hinv', Lib.hid (Hd2.out.below hb3 (Nat.le_refl _)), by rw [HP.out]; exact Hd3, hbel.trans ((hb2.trans (hb3.mono hb2.size)).mono hbel.size)⟩, ?_⟩
        simp [intOf]; omega
end RN
end Go.Proofs.YtcchmnilcmnajaaGreatDoor
