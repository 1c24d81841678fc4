/-
  The reference's long numbers: compare, size, each a contract. Conditions: lengths below a hundred thousand; size: no digit too many.
-/
import Derived.Test.YtcchmnilcmnajaaGreatDoorRealS
namespace Go.Proofs.YtcchmnilcmnajaaGreatDoor
open Go.RowKit
set_option linter.unusedVariables false
namespace RN
def cmpI (A B : Nat) : Int := if A < B then -1 else if A = B then 0 else 1
theorem cmp_step {A B q : Nat} (h : A / 65536 ^ (q + 1) = B / 65536 ^ (q + 1)) :
    (dg A q < dg B q → cmpI A B = -1) ∧ (dg B q < dg A q → cmpI A B = 1) ∧ (dg A q = dg B q → A / 65536 ^ q = B / 65536 ^ q) := by
  have d1 := div_dg A q
  have d2 := div_dg B q
  rw [h] at d1
  generalize 65536 * (B / 65536 ^ (q + 1)) = t at *
  have key : ∀ a b : Nat, a / 65536 ^ q < b / 65536 ^ q → a < b := fun a b hab => by
    rcases Nat.lt_or_ge a b with c | c
    · exact c
    · have := Nat.div_le_div_right (c := 65536 ^ q) c; omega
  refine ⟨fun c => ?_, fun c => ?_, fun c => by omega⟩
  · have := key A B (by omega)
    unfold cmpI; rw [if_pos this]
  · have := key B A (by omega)
    unfold cmpI; rw [if_neg (by omega), if_neg (by omega)]
set_option maxRecDepth 100000 in
set_option maxHeartbeats 4000000 in
theorem compare (w : World) (va vb : Value) (A B na nb M : Nat) (ha : Num w va A na) (hb : Num w vb B nb) (la : na ≤ M) (lb : nb ≤ M) (hM : M ≤ 100000) :
    Calls Tryz.prog 55 #[va, vb] w fun e w' => e = .returned (.int .i64 (cmpI A B)) ∧ w = w' := by
  have Ha := Lib.hid ha
  have Hb := Lib.hid hb
  obtain ⟨pa, ca, rfl, la2, la3⟩ := ha.open_
  obtain ⟨pb, cb, rfl, lb2, lb3⟩ := hb.open_
  clear ha hb
  rcases Nat.lt_or_ge na nb with hn | hn
  all_goals
    first
      | have hdd : decide (na < nb) = true := decide_eq_true (by omega)
      | have hdd : decide (na < nb) = false := decide_eq_false (by omega)
    obtain ⟨K, hK, hKA, hKB, hKM⟩ : ∃ K : Nat, K = (if na < nb then nb else na) ∧ na ≤ K ∧ nb ≤ K ∧ K ≤ M := ⟨_, rfl, by split <;> omega, by split <;> omega, by split <;> omega⟩
    have hst : A / 65536 ^ K = B / 65536 ^ K := by
      rw [Nat.div_eq_of_lt (Nat.lt_of_lt_of_le Ha.out.1 (Nat.pow_le_pow_right (by omega) hKA)), Nat.div_eq_of_lt (Nat.lt_of_lt_of_le Hb.out.1 (Nat.pow_le_pow_right (by omega) hKB))]
    have Hst := Lib.hid hst
    clear hst
    go_enter Tryz.func55, Tryz.ntmps55
    go_wp2
    go_loop [6] (fun i => ∃ k : Nat, k ≤ K ∧ i = .int .i64 ((k : Int) - 1) ∧ Hid (A / 65536 ^ k = B / 65536 ^ k)) (fun i => (intOf i + 1).toNat)
    case atStart => exact ⟨K, Nat.le_refl _, by rw [hK]; split <;> (first | rfl | omega), Hst⟩
    case round =>
      obtain ⟨k, hk, rfl, hq⟩ := hrel
      by_cases h0 : k = 0
      · subst h0
        have e : cmpI A B = 0 := by
          have h := hq.out
          rw [Nat.pow_zero, Nat.div_one, Nat.div_one] at h
          unfold cmpI; rw [if_neg (by omega), if_pos h]
        have He := Lib.hid e
        clear e hK
        go_wp2
        go_ret
        exact ⟨by rw [He.out]; rfl, rfl⟩
      · obtain ⟨q, rfl⟩ : ∃ q, k = q + 1 := ⟨k - 1, by omega⟩
        have hcq := cmp_step hq.out
        have eq1 : ((q + 1 : Nat) : Int) - 1 = (q : Int) := by omega
        rw [eq1]
        have da := digitL w _ A na q Ha.out (by omega) (by omega)
        have db := digitL w _ B nb q Hb.out (by omega) (by omega)
        have lA := dg_lt A q
        have lB := dg_lt B q
        have Hcq := Lib.hid hcq
        clear hcq eq1 hK
        generalize hx : dg A q = x at *
        generalize hy : dg B q = y at *
        clear hx hy
        rcases Nat.lt_trichotomy x y with c | c | c
        · have He := Lib.hid (Hcq.out.1 c)
          go_wp2_with (go_at_call 72; (first | with_reducible refine da.mono ?_ | with_reducible refine db.mono ?_); rintro e w' ⟨rfl, rfl⟩)
          go_ret
          exact ⟨by rw [He.out]; rfl, rfl⟩
        · subst c
          have He := Lib.hid (Hcq.out.2.2 rfl)
          go_wp2_with (go_at_call 72; (first | with_reducible refine da.mono ?_ | with_reducible refine db.mono ?_); rintro e w' ⟨rfl, rfl⟩)
          go_round
          case rel => exact ⟨q, by omega, rfl, He⟩
          case measure => simp [intOf]
        · have He := Lib.hid (Hcq.out.2.1 c)
          go_wp2_with (go_at_call 72; (first | with_reducible refine da.mono ?_ | with_reducible refine db.mono ?_); rintro e w' ⟨rfl, rfl⟩)
          go_ret
          exact ⟨by rw [He.out]; rfl, rfl⟩
/-- so many bits -/
def Bits (A s : Nat) : Prop := (A = 0 → s = 0) ∧ (0 < A → 1 ≤ s ∧ 2 ^ (s - 1) ≤ A ∧ A < 2 ^ s)
theorem bits_top {A m x j : Nat} (hx : A / 65536 ^ m = x) (h0 : x ≠ 0) (h1 : x < 2 ^ j) (h2 : j = 0 ∨ 2 ^ (j - 1) ≤ x) : Bits A (16 * m + j) := by
  have e : 65536 ^ m = 2 ^ (16 * m) := by rw [Nat.pow_mul]
  have hj : j ≠ 0 := by rintro rfl; simp at h1; omega
  have hd := Nat.div_add_mod A (65536 ^ m)
  have hm := Nat.mod_lt A (P_pos m)
  rw [hx, e] at hd
  rw [e] at hm
  have hA : A ≠ 0 := by rintro rfl; simp at hx; omega
  refine ⟨fun h => absurd h hA, fun _ => ⟨by omega, ?_, ?_⟩⟩
  · have h3 := h2.resolve_left hj
    rw [show 16 * m + j - 1 = 16 * m + (j - 1) by omega, Nat.pow_add]
    have := Nat.mul_le_mul_left (2 ^ (16 * m)) h3
    omega
  · rw [Nat.pow_add]
    have : 2 ^ (16 * m) * (x + 1) ≤ 2 ^ (16 * m) * 2 ^ j := Nat.mul_le_mul_left _ h1
    rw [Nat.mul_succ] at this
    omega
set_option maxRecDepth 100000 in
set_option maxHeartbeats 4000000 in
theorem size (w : World) (va : Value) (A na : Nat) (ha : Num w va A na) (ht : Tight A na) (hM : na ≤ 100000) :
    Calls Tryz.prog 57 #[va] w fun e w' => (∃ s : Nat, e = .returned (.int .i64 (s : Int)) ∧ Bits A s ∧ s ≤ 16 * na) ∧ w = w' := by
  obtain ⟨hA, pa, ca, rfl, la2, la3, hcells⟩ := ha
  by_cases h0 : na = 0
  · subst h0
    have e : A = 0 := by simp at hA; exact hA
    go_enter Tryz.func57, Tryz.ntmps57
    go_wp2
    go_ret
    exact ⟨⟨0, rfl, ⟨fun _ => rfl, fun h => by omega⟩, by omega⟩, rfl⟩
  · obtain ⟨m, rfl⟩ : ∃ m, na = m + 1 := ⟨na - 1, by omega⟩
    obtain ⟨ad, rfl, hlt, hcell⟩ := hcells (by omega)
    have hc := hcell m (by omega)
    have hx : A / 65536 ^ m = dg A m := by
      unfold dg
      have : A / 65536 ^ m < 65536 := by
        rw [Nat.div_lt_iff_lt_mul (P_pos m), Nat.mul_comm, ← Nat.pow_succ]; exact hA
      exact (Nat.mod_eq_of_lt this).symm
    have hx0 : dg A m ≠ 0 := by
      have h1 := ht.resolve_left (by omega)
      rw [Nat.add_sub_cancel] at h1
      have := Nat.div_pos h1 (P_pos m)
      omega
    have lx := dg_lt A m
    have Hx := Lib.hid hx
    clear hx hcell hcells ht hA
    generalize dg A m = x at *
    have hb : ((m : Int) + 1 == 0) = false := by rw [beq_eq_false_iff_ne]; omega
    go_enter Tryz.func57, Tryz.ntmps57
    go_wp2
    go_loop [3, 4] (fun n y => ∃ j : Nat, j ≤ 16 ∧ n = .int .i64 (16 * (m : Int) + j) ∧ y = .int .i64 ((x / 2 ^ j : Nat) : Int) ∧ Hid (j = 0 ∨ 2 ^ (j - 1) ≤ x)) (fun _ y => (intOf y).toNat)
    case atStart => exact ⟨0, by omega, by simp, by simp, Lib.hid (.inl rfl)⟩
    case round =>
      obtain ⟨j, hj, rfl, rfl, hh⟩ := hrel
      have hs : x / 2 ^ j / 2 = x / 2 ^ (j + 1) := by rw [Nat.div_div_eq_div_mul, ← Nat.pow_succ]
      have hle : x / 2 ^ j ≤ x := Nat.div_le_self _ _
      by_cases hz : x / 2 ^ j = 0
      · have hlt2 : x < 2 ^ j := by
          rcases Nat.lt_or_ge x (2 ^ j) with c | c
          · exact c
          · have := Nat.div_pos c (Nat.two_pow_pos j); omega
        have hB := Lib.hid (bits_top Hx.out hx0 hlt2 hh.out)
        rw [hz]
        clear hs hle hz hlt2
        go_wp2
        go_ret
        exact ⟨⟨16 * m + j, by simp, hB.out, by omega⟩, rfl⟩
      · have hge : 2 ^ j ≤ x := by
          rcases Nat.lt_or_ge x (2 ^ j) with c | c
          · exact absurd (Nat.div_eq_of_lt c) hz
          · exact c
        have hj2 : j < 16 := by
          rcases Nat.lt_or_ge j 16 with c | c
          · exact c
          · have h3 : 2 ^ 16 ≤ 2 ^ j := Nat.pow_le_pow_right (by omega) c
            omega
        have Hs := Lib.hid hs
        have Hge := Lib.hid hge
        clear hs hge
        generalize x / 2 ^ j = y at *
        go_wp2
        go_round
        case rel => exact ⟨j + 1, by omega, by go_num, by rw [← Hs.out]; exact congrArg _ (by omega), Lib.hid (.inr (by rw [Nat.add_sub_cancel]; exact Hge.out))⟩
        case measure => simp [intOf]; omega
end RN
end Go.Proofs.YtcchmnilcmnajaaGreatDoor
