/-
  Which texts are reals', told. Condition: the text is one that memory holds.
-/
import Derived.Test.YtnlbhnmiekanfaaGreatDoorLexQ
import Derived.BigGuardPart
import Derived.WalkSpells
namespace Go.Proofs.YtnlbhnmiekanfaaGreatDoor
open Go.RowKit
set_option linter.unusedVariables false
set_option linter.unusedSimpArgs false
namespace LxC
open Lx
theorem ret_i64 {a b : Int} (h : a = b) : Ending.returned (.int .i64 a) = .returned (.int .i64 b) := by rw [h]
set_option maxRecDepth 100000 in
set_option maxHeartbeats 4000000 in
theorem countDigits_ (s : ByteArray) (w : World) (hs : s.size ≤ 100000) : Calls Tryz.prog 243 #[.string s] w fun e w' => e = .returned (.int .i64 (cnt digit (at_ s 0) : Int)) ∧ w = w' := by
  obtain ⟨m, hm⟩ : ∃ m, cnt digit (at_ s 0) = m := ⟨_, rfl⟩
  rw [hm]
  have HM := Lib.hid hm
  clear hm
  go_enter Tryz.func243, Tryz.ntmps243
  go_wp2
  go_loop [3] (fun i => ∃ k : Nat, k ≤ s.size ∧ i = .int .i64 k ∧ Aside (k + cnt digit (at_ s k) = m)) (fun i => s.size - (intOf i).toNat)
  case atStart => exact ⟨0, Nat.zero_le _, rfl, by show 0 + cnt digit (at_ s 0) = m; rw [Nat.zero_add]; exact HM.out⟩
  case round =>
    obtain ⟨k, hk, rfl, A1⟩ := hrel
    by_cases hlt : k < s.size
    · have hb := u8_bd s[k]
      have A2 : Aside (digit s[k] = (decide ((48 : Int) ≤ (s[k].toNat : Int)) && decide ((s[k].toNat : Int) ≤ 57))) := digit_eq _
      by_cases h1 : (48 : Int) ≤ (s[k].toNat : Int)
      · have d1 : decide ((48 : Int) ≤ (s[k].toNat : Int)) = true := decide_eq_true h1
        by_cases h2 : (s[k].toNat : Int) ≤ 57
        · have d2 : decide ((s[k].toNat : Int) ≤ 57) = true := decide_eq_true h2
          have A3 : Aside (cnt digit (at_ s k) = cnt digit (at_ s (k + 1)) + 1) := cnt_at_yes s k hlt (by rw [A2.out, d1, d2]; rfl)
          go_wp2
          go_round
          case rel => exact ⟨k + 1, by omega, by go_num, by show k + 1 + cnt digit (at_ s (k + 1)) = m; have := A1.out; have := A3.out; omega⟩
          case measure => simp [intOf]; omega
        · have d2 : decide ((s[k].toNat : Int) ≤ 57) = false := decide_eq_false h2
          have A3 : Aside (cnt digit (at_ s k) = 0) := cnt_at_no s k hlt (by rw [A2.out, d2, Bool.and_false])
          go_wp2
          go_ret
          exact ⟨ret_i64 (by have := A1.out; have := A3.out; omega), rfl⟩
      · have d1 : decide ((48 : Int) ≤ (s[k].toNat : Int)) = false := decide_eq_false h1
        have A3 : Aside (cnt digit (at_ s k) = 0) := cnt_at_no s k hlt (by rw [A2.out, d1, Bool.false_and])
        go_wp2
        go_ret
        exact ⟨ret_i64 (by have := A1.out; have := A3.out; omega), rfl⟩
    · have A3 : Aside (cnt digit (at_ s k) = 0) := cnt_at_end digit s k (by omega)
      go_wp2
      go_ret
      exact ⟨ret_i64 (by have := A1.out; have := A3.out; omega), rfl⟩
theorem prefix1 (c : UInt8) (l : List UInt8) : Lib.hasPrefix l [c] = sees (isB c) l := by
  unfold Lib.hasPrefix
  rcases l with _ | ⟨x, t⟩
  · rfl
  · show ((c == x) && true) = (x == c)
    rw [Bool.and_true, Bool.eq_iff_iff]
    simp only [beq_iff_eq]
    exact eq_comm
theorem trim1 (c : UInt8) (l : List UInt8) : Lib.trimPrefix l [c] = if sees (isB c) l then l.drop 1 else l := by
  unfold Lib.trimPrefix
  rw [prefix1]; rfl
theorem size_mk (l : List UInt8) : (ByteArray.mk l.toArray).size = l.length := rfl
theorem at_mk (l : List UInt8) (k : Nat) : at_ ⟨l.toArray⟩ k = l.drop k := rfl
end LxC
end Go.Proofs.YtnlbhnmiekanfaaGreatDoor
