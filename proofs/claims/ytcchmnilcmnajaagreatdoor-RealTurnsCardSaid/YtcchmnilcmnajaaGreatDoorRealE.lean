/-
  The reference's Hex, a contract. Condition: the bits are 64.
-/
import Derived.Test.YtcchmnilcmnajaaGreatDoorRealB
import Derived.Test.YtcchmnilcmnajaaGreatDoorRealX
namespace Go.Proofs.YtcchmnilcmnajaaGreatDoor
open Go.RowKit
set_option linter.unusedVariables false
set_option linter.unusedSimpArgs false
namespace RE
open RM RC RB
def D16 : ByteArray := { data := #[48, 49, 50, 51, 52, 53, 54, 55, 56, 57, 97, 98, 99, 100, 101, 102] }
theorem ext16 (k : Nat) (h : k < 16) : D16.extract k (k + 1) = ⟨#[RX.dg k]⟩ := by
  rcases (show k = 0 ∨ k = 1 ∨ k = 2 ∨ k = 3 ∨ k = 4 ∨ k = 5 ∨ k = 6 ∨ k = 7 ∨ k = 8 ∨ k = 9 ∨ k = 10 ∨ k = 11 ∨ k = 12 ∨ k = 13 ∨ k = 14 ∨ k = 15 by omega) with h | h | h | h | h | h | h | h | h | h | h | h | h | h | h | h <;> subst h <;> rfl
theorem hexL_pre (i C : Nat) : RX.hexL (i + 1) C = RX.dg (C / 16 ^ i % 16) :: RX.hexL i C := by
  rw [Nat.add_comm, RX.hexL_add]; rfl
theorem down16 (C i : Nat) : C / 16 ^ i / 16 = C / 16 ^ (i + 1) := by rw [Nat.div_div_eq_div_mul, Nat.pow_succ]
set_option maxRecDepth 100000 in
theorem hex (a : Nat) (h : W a) (w : World) : Calls Tryz.prog 18 #[.int .u64 (a : Int)] w fun e w' => e = .returned (.string ⟨(RX.hexL 16 (canon a)).toArray⟩) ∧ w = w' := by
  have hc := fun w => canon_ a h w
  have hC := W_canon h
  unfold W at hC
  generalize canon a = C at *
  clear h
  go_enter Tryz.func18, Tryz.ntmps18
  go_wp2_with ((with_reducible refine (hc _).mono ?_); rintro e w' ⟨rfl, rfl⟩)
  clear hc
  go_loop [0, 3, 4] (fun x s i => ∃ k : Nat, k ≤ 16 ∧ x = .int .u64 ((C / 16 ^ k : Nat) : Int) ∧ s = .string ⟨(RX.hexL k C).toArray⟩ ∧ i = .int .i64 (k : Int)) (fun _ _ i => 16 - (intOf i).toNat)
  case atStart => exact ⟨0, by omega, by simp, rfl, rfl⟩
  case round =>
    obtain ⟨k, hk, rfl, rfl, rfl⟩ := hrel
    by_cases hlt : k < 16
    · have hq : C / 16 ^ k ≤ C := Nat.div_le_self _ _
      have HP := Lib.hid (hexL_pre k C)
      have HD := Lib.hid (down16 C k)
      have hl := Lib.hid (RX.hexL_length k C)
      generalize C / 16 ^ k = q at *
      generalize RX.hexL k C = l at *
      have HS : Hid (D16.extract (q % 16) (q % 16 + 1) ++ ⟨l.toArray⟩ = ⟨(RX.hexL (k + 1) C).toArray⟩) := Lib.hid (by
        rw [ext16 _ (Nat.mod_lt _ (by omega)), HP.out]
        apply ByteArray.ext
        simp)
      have HQ : Hid (((q : Nat) : Int) / 16 = ((C / 16 ^ (k + 1) : Nat) : Int)) := Lib.hid (by rw [← HD.out]; omega)
      have hz : ¬ 9223372036854775807 < min (q % 16 + 1) 16 - q % 16 + l.length := by have := hl.out; omega
      go_wp2
      go_round
      case rel => exact ⟨k + 1, by omega, by rw [← HQ.out], by rw [← HS.out]; rfl, by go_num⟩
      case measure => simp [intOf]; omega
    · obtain rfl : k = 16 := by omega
      go_wp2
      go_ret
      exact ⟨rfl, rfl⟩
end RE
end Go.Proofs.YtcchmnilcmnajaaGreatDoor
