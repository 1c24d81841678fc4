/-
  What readFloat reads of a real's text. Condition: none.
-/
import Derived.Test.YtldglmehchkbeaaGreatDoorLexAb
import Derived.Test.YtldglmehchkbeaaGreatDoorLexBa
namespace Go.Proofs.YtldglmehchkbeaaGreatDoor
open Go.RowKit
set_option linter.unusedVariables false
set_option linter.unusedSimpArgs false
namespace LxC
open Lx
/-- a byte of the digits of a text, as numbers -/
theorem dig_int {c : UInt8} (h : digit c = true) : (48 : Int) ≤ (c.toNat : Int) ∧ (c.toNat : Int) ≤ 57 := by
  have := digit_bd h; omega
set_option maxRecDepth 100000 in
set_option maxHeartbeats 16000000 in
theorem readFloat_ (s : ByteArray) (a b : Nat) (w : World) (hR : RealT s a b) :
    Calls Tryz.prog 143 #[.string s] w fun e w' => (∃ (m : Nat) (p : Int) (tr : Bool), m ≤ 9999999999999999999 ∧ -200000 ≤ p ∧ p ≤ 200000 ∧ e = .returned (.tuple #[.int .u64 (m : Int), .int .i64 p, .bool false, .bool tr, .bool false, .int .i64 (s.size : Int), .bool true])) ∧ w' = w := by
  have hz := hR.s40
  have ha0 := hR.a0
  have hab := hR.ab
  have hbs := hR.bs
  have h0 : 0 < s.size := by omega
  have hs3 : (2 : Int) < (s.size : Int) := by omega
  have hne : ¬ s = ByteArray.empty := by rintro rfl; exact absurd h0 (by decide)
  have hd0 := dig_int (hR.one 0 h0 ha0)
  have HR := Lib.hid hR
  clear hR
  have hx1 : ∀ h : 1 < s.size, ((s[1].toNat : Int) = 46) ∨ (48 : Int) ≤ (s[1].toNat : Int) ∧ (s[1].toNat : Int) ≤ 57 := fun h => by
    by_cases h1 : a = 1
    · subst h1; left; rw [HR.out.point h]; rfl
    · right; exact dig_int (HR.out.one 1 h (by omega))
  have h1s : 1 < s.size := by omega
  have cl : ∀ w, Calls Tryz.prog 120 #[.int .u8 (s[1].toNat : Int)] w fun e w' => (∃ r : Int, e = .returned (.int .u8 r) ∧ r ≠ 120) ∧ w = w' := fun w => by
    refine (lower_of _ _ rfl w).mono ?_
    rintro e w' ⟨h1, h2⟩
    refine ⟨⟨_, h1, ?_⟩, h2.symm⟩
    obtain ⟨c, hc⟩ : ∃ c : Nat, s[1].toNat = c := ⟨_, rfl⟩
    have hcc := hx1 h1s
    rw [hc] at hcc ⊢
    have : c = 46 ∨ c = 48 ∨ c = 49 ∨ c = 50 ∨ c = 51 ∨ c = 52 ∨ c = 53 ∨ c = 54 ∨ c = 55 ∨ c = 56 ∨ c = 57 := by omega
    rcases this with rfl | rfl | rfl | rfl | rfl | rfl | rfl | rfl | rfl | rfl | rfl <;> decide
  clear hx1
  have B43 : ((s[0].toNat : Int) == 43) = false := by rw [beq_eq_false_iff_ne]; omega
  have B45 : ((s[0].toNat : Int) == 45) = false := by rw [beq_eq_false_iff_ne]; omega
  by_cases h48 : (s[0].toNat : Int) = 48
  all_goals
    go_enter Tryz.func143, Tryz.ntmps143
    go_wp2_with (go_at_call 120; refine (cl _).mono ?_; rintro e w' ⟨⟨r, rfl, hr⟩, rfl⟩; have hr' : (r == 120) = false := by (rw [beq_eq_false_iff_ne]; exact hr))
    go_step3
    go_wp2_with (go_at_call 120; refine (cl _).mono ?_; rintro e w' ⟨⟨r, rfl, hr⟩, rfl⟩; have hr' : (r == 120) = false := by (rw [beq_eq_false_iff_ne]; exact hr))
    go_step3
    go_wp2_with fail
    go_loopg [2, 5, 7, 9, 13, 14, 15, 16, 17] s.size (fun gg vm vt vi vu vd vg vn vM vp wr => ∃ (k mant nd ndM : Nat) (dp : Int) (dot tr : Bool), s.size - k ≤ gg ∧ k ≤ b ∧ vm = .int .u64 (mant : Int) ∧ vt = .bool tr ∧ vi = .int .i64 (k : Int) ∧ vu = .bool false ∧ vd = .bool dot ∧ vg = .bool (decide (0 < k)) ∧ vn = .int .i64 (nd : Int) ∧ vM = .int .i64 (ndM : Int) ∧ vp = .int .i64 dp ∧ wr = w ∧ nd ≤ k ∧ ndM ≤ 19 ∧ -(k : Int) ≤ dp ∧ dp ≤ k ∧ Aside (dot = decide (a < k)) ∧ Aside (mant < 10 ^ ndM))
    case atStart => exact ⟨0, 0, 0, 0, 0, false, false, by omega, by omega, rfl, rfl, rfl, rfl, rfl, rfl, rfl, rfl, rfl, rfl, by omega, by omega, by omega, by omega, (decide_eq_false (by omega)).symm, by show 0 < 10 ^ 0; decide⟩
    case round =>
      obtain ⟨k, mant, nd, ndM, dp, dot, tr, hgg, hk, rfl, rfl, rfl, rfl, rfl, rfl, rfl, rfl, rfl, rfl, hnd, hM, hdp1, hdp2, A1, A2⟩ := hrel
      by_cases hkb : k < b
      · have hlt : k < s.size := by omega
        by_cases hka : k = a
        · subst hka
          have hc : (s[k].toNat : Int) = 46 := by rw [HR.out.point hlt]; rfl
          have B95 : ((s[k].toNat : Int) == 95) = false := by rw [beq_eq_false_iff_ne]; omega
          have B46 : ((s[k].toNat : Int) == 46) = true := by rw [beq_iff_eq]; omega
          have A3 : Aside (dot = false) := by show dot = false; rw [A1.out]; exact decide_eq_false (by omega)
          obtain rfl : dot = false := A3.out
          clear hc A1 A3
          go_wp2
          go_roundg (s.size - (k + 1))
          case measure => omega
          case rel => exact ⟨k + 1, mant, nd, ndM, (nd : Int), true, tr, by omega, by omega, by go_num, rfl, by go_num, rfl, rfl, (by first | (simp; done) | (rw [decide_eq_true (show 0 < k by omega)]; simp)), by go_num, by go_num, by go_num, rfl, by omega, by omega, by omega, by omega, (decide_eq_true (by omega)).symm, A2.out⟩
        · have hdig : digit s[k] = true := by
            rcases Nat.lt_or_ge k a with h | h
            · exact HR.out.one k hlt h
            · exact HR.out.two k hlt (by omega) hkb
          have hdi := dig_int hdig
          have B95 : ((s[k].toNat : Int) == 95) = false := by rw [beq_eq_false_iff_ne]; omega
          have B46 : ((s[k].toNat : Int) == 46) = false := by rw [beq_eq_false_iff_ne]; omega
          have D1 : decide ((48 : Int) ≤ (s[k].toNat : Int)) = true := decide_eq_true hdi.1
          have D2 : decide ((s[k].toNat : Int) ≤ 57) = true := decide_eq_true hdi.2
          have A3 : Aside (dot = decide (a < k + 1)) := by
            show dot = _
            rw [A1.out, Bool.eq_iff_iff, decide_eq_true_eq, decide_eq_true_eq]; omega
          clear hdig A1
          by_cases hz0 : (s[k].toNat : Int) = 48 ∧ nd = 0
          · have B48 : ((s[k].toNat : Int) == 48) = true := by rw [beq_iff_eq]; exact hz0.1
            obtain rfl := hz0.2
            clear hz0 hdi
            go_wp2
            go_roundg (s.size - (k + 1))
            case measure => omega
            case rel => exact ⟨k + 1, mant, 0, ndM, (dp - 1), dot, tr, by omega, by omega, by go_num, rfl, by go_num, rfl, rfl, (by first | (simp; done) | (rw [decide_eq_true (show 0 < k by omega)]; simp)), by go_num, by go_num, by go_num, rfl, by omega, by omega, by omega, by omega, A3.out, A2.out⟩
          · have BB : (((s[k].toNat : Int) == 48) && ((nd : Int) == 0)) = false := by
              rw [Bool.and_eq_false_iff, beq_eq_false_iff_ne, beq_eq_false_iff_ne]; omega
            by_cases h19 : ndM < 19
            · have A4 : Aside (mant ≤ 999999999999999999) := by
                have h1 : 10 ^ ndM ≤ 10 ^ 18 := Nat.pow_le_pow_right (by omega) (by omega)
                have h2 := A2.out
                have e : (10 : Nat) ^ 18 = 1000000000000000000 := by decide
                show mant ≤ 999999999999999999
                omega
              have A5 : Aside (mant * 10 + (s[k].toNat - 48) < 10 ^ (ndM + 1)) := by
                have := A2.out
                show _ < _
                rw [Nat.pow_succ]; omega
              have hm : (mant : Int) ≤ 999999999999999999 := by have := A4.out; omega
              by_cases hz1 : (s[k].toNat : Int) = 48
              · have B48 : ((s[k].toNat : Int) == 48) = true := by rw [beq_iff_eq]; exact hz1
                have hn0 : ((nd : Int) == 0) = false := by rw [beq_eq_false_iff_ne]; omega
                clear hz0 BB A4
                go_wp2
                go_roundg (s.size - (k + 1))
                case measure => omega
                case rel => exact ⟨k + 1, (mant * 10 + (s[k].toNat - 48)), (nd + 1), (ndM + 1), dp, dot, tr, by omega, by omega, by go_num, rfl, by go_num, rfl, rfl, (by first | (simp; done) | (rw [decide_eq_true (show 0 < k by omega)]; simp)), by go_num, by go_num, by go_num, rfl, by omega, by omega, by omega, by omega, A3.out, A5.out⟩
              · have B48 : ((s[k].toNat : Int) == 48) = false := by rw [beq_eq_false_iff_ne]; exact hz1
                clear hz0 BB A4
                go_wp2
                go_roundg (s.size - (k + 1))
                case measure => omega
                case rel => exact ⟨k + 1, (mant * 10 + (s[k].toNat - 48)), (nd + 1), (ndM + 1), dp, dot, tr, by omega, by omega, by go_num, rfl, by go_num, rfl, rfl, (by first | (simp; done) | (rw [decide_eq_true (show 0 < k by omega)]; simp)), by go_num, by go_num, by go_num, rfl, by omega, by omega, by omega, by omega, A3.out, A5.out⟩
            · have h19' : ¬ ((ndM : Int) < 19) := by omega
              by_cases hz1 : (s[k].toNat : Int) = 48
              · have B48 : ((s[k].toNat : Int) == 48) = true := by rw [beq_iff_eq]; exact hz1
                have hn0 : ((nd : Int) == 0) = false := by rw [beq_eq_false_iff_ne]; omega
                clear hz0 BB
                go_wp2
                go_roundg (s.size - (k + 1))
                case measure => omega
                case rel => exact ⟨k + 1, mant, (nd + 1), ndM, dp, dot, tr, by omega, by omega, by go_num, rfl, by go_num, rfl, rfl, (by first | (simp; done) | (rw [decide_eq_true (show 0 < k by omega)]; simp)), by go_num, by go_num, by go_num, rfl, by omega, by omega, by omega, by omega, A3.out, A2.out⟩
              · have B48 : ((s[k].toNat : Int) == 48) = false := by rw [beq_eq_false_iff_ne]; exact hz1
                clear hz0 BB
                go_wp2
                go_roundg (s.size - (k + 1))
                case measure => omega
                case rel => exact ⟨k + 1, mant, (nd + 1), ndM, dp, dot, true, by omega, by omega, by go_num, rfl, by go_num, rfl, rfl, (by first | (simp; done) | (rw [decide_eq_true (show 0 < k by omega)]; simp)), by go_num, by go_num, by go_num, rfl, by omega, by omega, by omega, by omega, A3.out, A2.out⟩
      · obtain rfl : k = b := by omega
        have A3 : Aside (dot = true) := by show dot = true; rw [A1.out]; exact decide_eq_true (by omega)
        obtain rfl : dot = true := A3.out
        have HMB : Hid (mant ≤ 9999999999999999999) := by
          have h1 : 10 ^ ndM ≤ 10 ^ 19 := Nat.pow_le_pow_right (by omega) hM
          have h2 := A2.out
          have e : (10 : Nat) ^ 19 = 10000000000000000000 := by decide
          show mant ≤ 9999999999999999999
          omega
        have D0 : decide (0 < k) = true := decide_eq_true (by omega)
        clear A1 A2 A3
        rcases HR.out.tail with hT | ⟨⟨hlt, hc⟩, c, hc1, hc2, hc3, hc4⟩
        · have hend : ¬ ((k : Int) < (s.size : Int)) := by omega
          by_cases hm0 : mant = 0
          · subst hm0
            go_wp2
            try rw [Exit.noGoto_ret]
            exact bodyPost_ret (v := .tuple #[.int .u64 0, .int .i64 0, .bool false, .bool tr, .bool false, .int .i64 (s.size : Int), .bool true]) (by simp [results, Tryz.results143, go_sem]) rfl ⟨⟨0, 0, tr, by omega, by omega, by omega, rfl⟩, rfl⟩
          · have D5 : ((mant : Int) == 0) = false := by rw [beq_eq_false_iff_ne]; omega
            go_wp2
            try rw [Exit.noGoto_ret]
            exact bodyPost_ret (v := .tuple #[.int .u64 (mant : Int), .int .i64 (dp - (ndM : Int)), .bool false, .bool tr, .bool false, .int .i64 (s.size : Int), .bool true]) (by simp [results, Tryz.results143, go_sem]) rfl ⟨⟨mant, dp - (ndM : Int), tr, HMB.out, by omega, by omega, rfl⟩, rfl⟩
        · have hc' : (s[k].toNat : Int) = 101 := by omega
          have cl2 : ∀ w, Calls Tryz.prog 120 #[.int .u8 101] w fun e w' => e = .returned (.int .u8 101) ∧ w = w' := fun w => (lower_of 101 101 (by kernel_rfl) w).mono fun e w' h => ⟨h.1, h.2.symm⟩
          have cl3 : ∀ w, Calls Tryz.prog 120 #[.int .u8 (s[k].toNat : Int)] w fun e w' => e = .returned (.int .u8 101) ∧ w = w' := by rw [hc']; exact cl2
          have HC4 := Lib.hid hc4
          have B95 : ((s[k].toNat : Int) == 95) = false := by rw [beq_eq_false_iff_ne]; omega
          have B46 : ((s[k].toNat : Int) == 46) = false := by rw [beq_eq_false_iff_ne]; omega
          have B57 : decide ((s[k].toNat : Int) ≤ 57) = false := decide_eq_false (by omega)
          have B48' : decide ((48 : Int) ≤ (s[k].toNat : Int)) = true := decide_eq_true (by omega)
          clear hc hc4 hc'
          rcases hc3 with rfl | ⟨rfl, hp, hpm⟩
          · have hk1 : k + 1 < s.size := hc2
            have hd3 := dig_int (HC4.out (k + 1) hk1 (Nat.le_refl _))
            have C43 : ((s[k + 1].toNat : Int) == 43) = false := by rw [beq_eq_false_iff_ne]; omega
            have C45 : ((s[k + 1].toNat : Int) == 45) = false := by rw [beq_eq_false_iff_ne]; omega
            have C48 : ¬ ((s[k + 1].toNat : Int) < 48) := by omega
            have C57 : ¬ ((s[k + 1].toNat : Int) > 57) := by omega
            have hk1a : (k : Int) + 1 < (s.size : Int) := by omega
            obtain ⟨c, hcc⟩ : ∃ c, c = k + 1 := ⟨_, rfl⟩
            rw [← hcc] at HC4
            have hcc1 : c ≤ k + 1 := by omega
            have hcc2 : k + 1 ≤ c := by omega
            clear hcc
            go_wp2_with ((first | with_reducible refine (cl2 _).mono ?_ | with_reducible refine (cl3 _).mono ?_); rintro e w' ⟨rfl, rfl⟩)
            all_goals try (go_step3; go_wp2_with fail)
            try any_goals (exfalso; omega)
            go_loopg [7, 9, 20] s.size (fun gg vi vu ve ww => ∃ i x : Nat, s.size - i ≤ gg ∧ c ≤ i ∧ i ≤ s.size ∧ x ≤ 99999 ∧ vi = .int .i64 (i : Int) ∧ vu = .bool false ∧ ve = .int .i64 (x : Int) ∧ ww = wr)
            case atStart => exact ⟨c, 0, by omega, by omega, by omega, by omega, by go_num, rfl, rfl, rfl⟩
            case round =>
              obtain ⟨i, x, hgg2, hi1, hi2, hx, rfl, rfl, rfl, rfl⟩ := hrel
              by_cases hil : i < s.size
              · have hd4 := dig_int (HC4.out i hil hi1)
                have E1 : decide ((48 : Int) ≤ (s[i].toNat : Int)) = true := decide_eq_true hd4.1
                have E2 : decide ((s[i].toNat : Int) ≤ 57) = true := decide_eq_true hd4.2
                have E3 : ((s[i].toNat : Int) == 95) = false := by rw [beq_eq_false_iff_ne]; omega
                by_cases hx4 : x < 10000
                · have hx5 : (x : Int) < 10000 := by omega
                  go_wp2
                  go_roundg (s.size - (i + 1))
                  case measure => omega
                  case rel => exact ⟨i + 1, x * 10 + (s[i].toNat - 48), by omega, by omega, by omega, by omega, by go_num, rfl, by go_num, rfl⟩
                · have hx5 : ¬ ((x : Int) < 10000) := by omega
                  go_wp2
                  go_roundg (s.size - (i + 1))
                  case measure => omega
                  case rel => exact ⟨i + 1, x, by omega, by omega, by omega, by omega, by go_num, rfl, by go_num, rfl⟩
              · obtain rfl : i = s.size := by omega
                by_cases hm0 : mant = 0
                · subst hm0
                  go_wp2
                  try rw [Exit.noGoto_ret]
                  exact bodyPost_ret (v := .tuple #[.int .u64 0, .int .i64 0, .bool false, .bool tr, .bool false, .int .i64 (s.size : Int), .bool true]) (by simp [results, Tryz.results143, go_sem]) rfl ⟨⟨0, 0, tr, by omega, by omega, by omega, rfl⟩, rfl⟩
                · have D5 : ((mant : Int) == 0) = false := by rw [beq_eq_false_iff_ne]; omega
                  go_wp2
                  try rw [Exit.noGoto_ret]
                  exact bodyPost_ret (v := .tuple #[.int .u64 (mant : Int), .int .i64 (dp + (x : Int) - (ndM : Int)), .bool false, .bool tr, .bool false, .int .i64 (s.size : Int), .bool true]) (by simp [results, Tryz.results143, go_sem]) rfl ⟨⟨mant, dp + (x : Int) - (ndM : Int), tr, HMB.out, by omega, by omega, rfl⟩, rfl⟩
          · have hk2 : k + 2 < s.size := hc2
            have hd3 := dig_int (HC4.out (k + 2) hk2 (Nat.le_refl _))
            rcases hpm with hpm | hpm
            · have hpm' : (s[k + 1].toNat : Int) = 43 := by omega
              have C43 : ((s[k + 1].toNat : Int) == 43) = true := by rw [beq_iff_eq]; omega
              have C45 : ((s[k + 1].toNat : Int) == 45) = false := by rw [beq_eq_false_iff_ne]; omega
              have C48 : ¬ ((s[k + 2].toNat : Int) < 48) := by omega
              have C57 : ¬ ((s[k + 2].toNat : Int) > 57) := by omega
              have hk2a : (k : Int) + 1 + 1 < (s.size : Int) := by omega
              have hk2b : (k : Int) + 2 < (s.size : Int) := by omega
              have hk2c : k + 1 + 1 < s.size := hk2
              have C48a : ¬ ((s[k + 1 + 1].toNat : Int) < 48) := C48
              have C57a : ¬ ((s[k + 1 + 1].toNat : Int) > 57) := C57
              have D48a : decide ((s[k + 1 + 1].toNat : Int) < 48) = false := decide_eq_false C48a
              have D57a : decide ((s[k + 1 + 1].toNat : Int) > 57) = false := decide_eq_false C57a
              obtain ⟨c, hcc⟩ : ∃ c, c = k + 2 := ⟨_, rfl⟩
              rw [← hcc] at HC4
              have hcc1 : c ≤ k + 2 := by omega
              have hcc2 : k + 2 ≤ c := by omega
              clear hcc
              clear hpm hpm'
              go_wp2_with ((first | with_reducible refine (cl2 _).mono ?_ | with_reducible refine (cl3 _).mono ?_); rintro e w' ⟨rfl, rfl⟩)
              all_goals try (go_step3; go_wp2_with fail)
              try any_goals (exfalso; omega)
              go_loopg [7, 9, 20] s.size (fun gg vi vu ve ww => ∃ i x : Nat, s.size - i ≤ gg ∧ c ≤ i ∧ i ≤ s.size ∧ x ≤ 99999 ∧ vi = .int .i64 (i : Int) ∧ vu = .bool false ∧ ve = .int .i64 (x : Int) ∧ ww = wr)
              case atStart => exact ⟨c, 0, by omega, by omega, by omega, by omega, by go_num, rfl, rfl, rfl⟩
              case round =>
                obtain ⟨i, x, hgg2, hi1, hi2, hx, rfl, rfl, rfl, rfl⟩ := hrel
                by_cases hil : i < s.size
                · have hd4 := dig_int (HC4.out i hil hi1)
                  have E1 : decide ((48 : Int) ≤ (s[i].toNat : Int)) = true := decide_eq_true hd4.1
                  have E2 : decide ((s[i].toNat : Int) ≤ 57) = true := decide_eq_true hd4.2
                  have E3 : ((s[i].toNat : Int) == 95) = false := by rw [beq_eq_false_iff_ne]; omega
                  by_cases hx4 : x < 10000
                  · have hx5 : (x : Int) < 10000 := by omega
                    go_wp2
                    go_roundg (s.size - (i + 1))
                    case measure => omega
                    case rel => exact ⟨i + 1, x * 10 + (s[i].toNat - 48), by omega, by omega, by omega, by omega, by go_num, rfl, by go_num, rfl⟩
                  · have hx5 : ¬ ((x : Int) < 10000) := by omega
                    go_wp2
                    go_roundg (s.size - (i + 1))
                    case measure => omega
                    case rel => exact ⟨i + 1, x, by omega, by omega, by omega, by omega, by go_num, rfl, by go_num, rfl⟩
                · obtain rfl : i = s.size := by omega
                  by_cases hm0 : mant = 0
                  · subst hm0
                    go_wp2
                    try rw [Exit.noGoto_ret]
                    exact bodyPost_ret (v := .tuple #[.int .u64 0, .int .i64 0, .bool false, .bool tr, .bool false, .int .i64 (s.size : Int), .bool true]) (by simp [results, Tryz.results143, go_sem]) rfl ⟨⟨0, 0, tr, by omega, by omega, by omega, rfl⟩, rfl⟩
                  · have D5 : ((mant : Int) == 0) = false := by rw [beq_eq_false_iff_ne]; omega
                    go_wp2
                    try rw [Exit.noGoto_ret]
                    exact bodyPost_ret (v := .tuple #[.int .u64 (mant : Int), .int .i64 (dp + (x : Int) - (ndM : Int)), .bool false, .bool tr, .bool false, .int .i64 (s.size : Int), .bool true]) (by simp [results, Tryz.results143, go_sem]) rfl ⟨⟨mant, dp + (x : Int) - (ndM : Int), tr, HMB.out, by omega, by omega, rfl⟩, rfl⟩
            · have hpm' : (s[k + 1].toNat : Int) = 45 := by omega
              have C43 : ((s[k + 1].toNat : Int) == 43) = false := by rw [beq_eq_false_iff_ne]; omega
              have C45 : ((s[k + 1].toNat : Int) == 45) = true := by rw [beq_iff_eq]; omega
              have C48 : ¬ ((s[k + 2].toNat : Int) < 48) := by omega
              have C57 : ¬ ((s[k + 2].toNat : Int) > 57) := by omega
              have hk2a : (k : Int) + 1 + 1 < (s.size : Int) := by omega
              have hk2b : (k : Int) + 2 < (s.size : Int) := by omega
              have hk2c : k + 1 + 1 < s.size := hk2
              have C48a : ¬ ((s[k + 1 + 1].toNat : Int) < 48) := C48
              have C57a : ¬ ((s[k + 1 + 1].toNat : Int) > 57) := C57
              have D48a : decide ((s[k + 1 + 1].toNat : Int) < 48) = false := decide_eq_false C48a
              have D57a : decide ((s[k + 1 + 1].toNat : Int) > 57) = false := decide_eq_false C57a
              obtain ⟨c, hcc⟩ : ∃ c, c = k + 2 := ⟨_, rfl⟩
              rw [← hcc] at HC4
              have hcc1 : c ≤ k + 2 := by omega
              have hcc2 : k + 2 ≤ c := by omega
              clear hcc
              clear hpm hpm'
              go_wp2_with ((first | with_reducible refine (cl2 _).mono ?_ | with_reducible refine (cl3 _).mono ?_); rintro e w' ⟨rfl, rfl⟩)
              all_goals try (go_step3; go_wp2_with fail)
              try any_goals (exfalso; omega)
              go_loopg [7, 9, 20] s.size (fun gg vi vu ve ww => ∃ i x : Nat, s.size - i ≤ gg ∧ c ≤ i ∧ i ≤ s.size ∧ x ≤ 99999 ∧ vi = .int .i64 (i : Int) ∧ vu = .bool false ∧ ve = .int .i64 (x : Int) ∧ ww = wr)
              case atStart => exact ⟨c, 0, by omega, by omega, by omega, by omega, by go_num, rfl, rfl, rfl⟩
              case round =>
                obtain ⟨i, x, hgg2, hi1, hi2, hx, rfl, rfl, rfl, rfl⟩ := hrel
                by_cases hil : i < s.size
                · have hd4 := dig_int (HC4.out i hil hi1)
                  have E1 : decide ((48 : Int) ≤ (s[i].toNat : Int)) = true := decide_eq_true hd4.1
                  have E2 : decide ((s[i].toNat : Int) ≤ 57) = true := decide_eq_true hd4.2
                  have E3 : ((s[i].toNat : Int) == 95) = false := by rw [beq_eq_false_iff_ne]; omega
                  by_cases hx4 : x < 10000
                  · have hx5 : (x : Int) < 10000 := by omega
                    go_wp2
                    go_roundg (s.size - (i + 1))
                    case measure => omega
                    case rel => exact ⟨i + 1, x * 10 + (s[i].toNat - 48), by omega, by omega, by omega, by omega, by go_num, rfl, by go_num, rfl⟩
                  · have hx5 : ¬ ((x : Int) < 10000) := by omega
                    go_wp2
                    go_roundg (s.size - (i + 1))
                    case measure => omega
                    case rel => exact ⟨i + 1, x, by omega, by omega, by omega, by omega, by go_num, rfl, by go_num, rfl⟩
                · obtain rfl : i = s.size := by omega
                  by_cases hm0 : mant = 0
                  · subst hm0
                    go_wp2
                    try rw [Exit.noGoto_ret]
                    exact bodyPost_ret (v := .tuple #[.int .u64 0, .int .i64 0, .bool false, .bool tr, .bool false, .int .i64 (s.size : Int), .bool true]) (by simp [results, Tryz.results143, go_sem]) rfl ⟨⟨0, 0, tr, by omega, by omega, by omega, rfl⟩, rfl⟩
                  · have D5 : ((mant : Int) == 0) = false := by rw [beq_eq_false_iff_ne]; omega
                    go_wp2
                    try rw [Exit.noGoto_ret]
                    exact bodyPost_ret (v := .tuple #[.int .u64 (mant : Int), .int .i64 (dp + -(x : Int) - (ndM : Int)), .bool false, .bool tr, .bool false, .int .i64 (s.size : Int), .bool true]) (by simp [results, Tryz.results143, go_sem]) rfl ⟨⟨mant, dp + -(x : Int) - (ndM : Int), tr, HMB.out, by omega, by omega, rfl⟩, rfl⟩
end LxC
end Go.Proofs.YtldglmehchkbeaaGreatDoor
