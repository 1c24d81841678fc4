/-
  What ParseFloat does where one product or quotient is enough; that a real's text is nothing special. Condition: Go's own tables lie.
-/
import Derived.Test.YtldglmehchkbeaaGreatDoorLexBb
import Derived.Test.YtldglmehchkbeaaGreatDoorLexBd
namespace Go.Proofs.YtldglmehchkbeaaGreatDoor
open Go.RowKit
set_option linter.unusedVariables false
set_option linter.unusedSimpArgs false
namespace LxC
open Lx
set_option maxRecDepth 100000 in
set_option maxHeartbeats 8000000 in
theorem special_ (s : ByteArray) (a b : Nat) (w : World) (hR : RealT s a b) : Calls Tryz.prog 142 #[.string s] w fun e w' => e = .returned (.tuple #[.float .f64 0, .int .i64 0, .bool false]) ∧ w = w' := by
  have hab := hR.ab
  have ha0 := hR.a0
  have hbs := hR.bs
  have h0 : 0 < s.size := by omega
  have hd := dig_int (hR.one 0 h0 ha0)
  have hne : ¬ s = ByteArray.empty := by rintro rfl; exact absurd h0 (by decide)
  have B43 : ((s[0].toNat : Int) == 43) = false := by rw [beq_eq_false_iff_ne]; omega
  have B45 : ((s[0].toNat : Int) == 45) = false := by rw [beq_eq_false_iff_ne]; omega
  have B105 : ((s[0].toNat : Int) == 105) = false := by rw [beq_eq_false_iff_ne]; omega
  have B73 : ((s[0].toNat : Int) == 73) = false := by rw [beq_eq_false_iff_ne]; omega
  have B110 : ((s[0].toNat : Int) == 110) = false := by rw [beq_eq_false_iff_ne]; omega
  have B78 : ((s[0].toNat : Int) == 78) = false := by rw [beq_eq_false_iff_ne]; omega
  clear hR hab ha0 hbs
  go_enter Tryz.func142, Tryz.ntmps142
  go_wp2
  go_ret3
  exact ⟨rfl, rfl⟩
def ExactPost (w : World) (e : Ending) (w' : World) : Prop := (∃ (f : Nat) (ok : Bool), e = .returned (.tuple #[.float .f64 f, .bool ok])) ∧ ∃ k, w' = w.drewN k
set_option maxRecDepth 100000 in
set_option maxHeartbeats 8000000 in
theorem exact_ (m : Nat) (p : Int) (w : World) (hi : Laid w) : Calls Tryz.prog 153 #[.int .u64 (m : Int), .int .i64 p, .bool false] w (ExactPost w) := by
  obtain ⟨h1, h2, tp, o, c, h3, h4⟩ := hi
  rcases (show p = 0 ∨ (∃ e : Nat, p = e ∧ 0 < e ∧ e ≤ 22) ∨ (∃ j : Nat, p = (j : Int) + 22 ∧ 0 < j ∧ j ≤ 15) ∨ (∃ j : Nat, p = -(j : Int) ∧ 0 < j ∧ j ≤ 22) ∨ (37 < p ∨ p < -22) by
    by_cases c0 : p = 0
    · exact .inl c0
    · by_cases c1 : 0 < p ∧ p ≤ 22
      · exact .inr (.inl ⟨p.toNat, by omega, by omega, by omega⟩)
      · by_cases c2 : 22 < p ∧ p ≤ 37
        · exact .inr (.inr (.inl ⟨(p - 22).toNat, by omega, by omega, by omega⟩))
        · by_cases c3 : p < 0 ∧ -22 ≤ p
          · exact .inr (.inr (.inr (.inl ⟨(-p).toNat, by omega, by omega, by omega⟩)))
          · exact .inr (.inr (.inr (.inr (by omega))))) with rfl | ⟨e, rfl, he1, he2⟩ | ⟨j, rfl, hj1, hj2⟩ | ⟨j, rfl, hj1, hj2⟩ | hp
  · clear h4
    go_enter Tryz.func153, Tryz.ntmps153
    go_wp2
    all_goals
      go_ret2
      exact ⟨⟨_, _, rfl⟩, 0, rfl⟩
  · obtain ⟨x, hx⟩ := h4 e (by omega)
    clear h4
    obtain ⟨n, k, hr⟩ := run_fop .mul (.inl rfl) 137 (floatOfInt .f64 m) x w
    go_enter Tryz.func153, Tryz.ntmps153
    go_wp2
    all_goals
      go_ret2
      first
        | exact ⟨⟨_, _, rfl⟩, 0, rfl⟩
        | exact ⟨⟨_, _, rfl⟩, k, rfl⟩
  · obtain ⟨x, hx⟩ := h4 j (by omega)
    obtain ⟨y, hy⟩ := h4 22 (by omega)
    clear h4
    obtain ⟨n, k, hr⟩ := run_fop .mul (.inl rfl) 137 (floatOfInt .f64 m) x w
    obtain ⟨n2, k2, hr2⟩ := run_fop .mul (.inl rfl) 137 n y (w.drewN k)
    have h3' : (w.drewN k).cell? ⟨9, 0, none⟩ = some (.slice (some ⟨tp, o, none⟩) 23 c) := h3
    have hy' : (w.drewN k).cell? ⟨tp, o + 22, none⟩ = some (.float .f64 y) := hy
    go_enter Tryz.func153, Tryz.ntmps153
    go_wp2
    all_goals
      go_ret2
      first
        | exact ⟨⟨_, _, rfl⟩, 0, rfl⟩
        | exact ⟨⟨_, _, rfl⟩, k, rfl⟩
        | exact ⟨⟨_, _, rfl⟩, _, rfl⟩
  · obtain ⟨x, hx⟩ := h4 j (by omega)
    clear h4
    obtain ⟨n, k, hr⟩ := run_fop .quo (.inr rfl) 137 (floatOfInt .f64 m) x w
    go_enter Tryz.func153, Tryz.ntmps153
    go_wp2
    all_goals
      go_ret2
      first
        | exact ⟨⟨_, _, rfl⟩, 0, rfl⟩
        | exact ⟨⟨_, _, rfl⟩, k, rfl⟩
  · clear h4
    go_enter Tryz.func153, Tryz.ntmps153
    go_wp2
    all_goals
      go_ret2
      exact ⟨⟨_, _, rfl⟩, 0, rfl⟩
end LxC
end Go.Proofs.YtldglmehchkbeaaGreatDoor
