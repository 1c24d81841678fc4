/-
  What a decimal is set to by a real's text. No condition.
-/
import Derived.Test.YtldglmehchkbeaaGreatDoorLexBm
import Derived.WalkMore
import Derived.StillTailTactics
namespace Go.Proofs.YtldglmehchkbeaaGreatDoor
open Go.RowKit
set_option linter.unusedVariables false
set_option linter.unusedSimpArgs false
namespace LxC
open Lx
/-- none, or a number's digits -/
def Vz (c : Nat → Nat) (nd : Nat) : Prop := nd = 0 ∨ Vd c nd
theorem Vz.put {c : Nat → Nat} {nd x : Nat} (h : Vz c nd) (h8 : nd < 800) (h1 : 48 ≤ x) (h2 : x ≤ 57) (h0 : nd = 0 → x ≠ 48) : Vz (upd c nd x) (nd + 1) := by
  right
  refine ⟨by omega, by omega, fun i hi => ?_, fun i hi => ?_, ?_⟩
  · by_cases e : i = nd
    · subst e; rw [upd_same]; exact h1
    · rw [upd_ne _ _ e]
      rcases h with h | h
      · omega
      · exact h.lo i (by omega)
  · by_cases e : i = nd
    · subst e; rw [upd_same]; exact h2
    · rw [upd_ne _ _ e]
      rcases h with h | h
      · omega
      · exact h.hi i (by omega)
  · by_cases e : nd = 0
    · subst e; rw [upd_same]; have := h0 rfl; omega
    · rw [upd_ne _ _ (by omega)]
      rcases h with h | h
      · omega
      · exact h.top
def SetPost (G : Nat) (w : World) (e : Ending) (w' : World) : Prop := e = .returned (.bool true) ∧ (∃ (c : Nat → Nat) (nd : Nat) (dp : Int) (tr : Bool), DcAt w' G c nd dp false tr ∧ Vz c nd ∧ -1000000 ≤ dp ∧ dp ≤ 1000000) ∧ Below G w w'
set_option maxRecDepth 100000 in
set_option maxHeartbeats 16000000 in
theorem set_ (s : ByteArray) (a b : Nat) (w : World) (G : Nat) (hR : RealT s a b) (h : DcAt w G (fun _ => 0) 0 0 false false) :
    Calls Tryz.prog 149 #[.pointer (some ⟨G, 0, none⟩), .string s] w (SetPost G w) := by
  have hz := hR.s40
  have ha0 := hR.a0
  have hab := hR.ab
  have hbs := hR.bs
  have h0 : 0 < s.size := by omega
  have hne : ¬ s = ByteArray.empty := by rintro rfl; exact absurd h0 (by decide)
  have hd0 := dig_int (hR.one 0 h0 ha0)
  have HR := Lib.hid hR
  have B43 : ((s[0].toNat : Int) == 43) = false := by rw [beq_eq_false_iff_ne]; omega
  have B45 : ((s[0].toNat : Int) == 45) = false := by rw [beq_eq_false_iff_ne]; omega
  have k2 := h.ng_
  have k3 := h.tr_
  have f2 := h.free 802
  have f3 : (w.setCell ⟨G, 802, none⟩ (.bool false)).frozen? ⟨G, 803, none⟩ = false := (h.ngSet false).free 803
  have A0 : Hid (DcAt ((w.setCell ⟨G, 802, none⟩ (.bool false)).setCell ⟨G, 803, none⟩ (.bool false)) G (fun _ => 0) 0 0 false false) := (h.ngSet false).trSet false
  have E0 : Hid (Below G w ((w.setCell ⟨G, 802, none⟩ (.bool false)).setCell ⟨G, 803, none⟩ (.bool false))) := ((Below.refl _ _).setCell (p := ⟨G, 802, none⟩) (Nat.le_refl _) _).setCell (p := ⟨G, 803, none⟩) (Nat.le_refl _) _
  clear hR h hd0
  go_enter Tryz.func149, Tryz.ntmps149
  go_wp2
  clear k2 k3 f2 f3 B43 B45
  go_loopg [5, 6, 7] s.size (fun gg v5 v6 v7 wr => ∃ (k nd : Nat) (c : Nat → Nat) (dp : Int), s.size - k ≤ gg ∧ k ≤ b ∧ v5 = .int .i64 (k : Int) ∧ v6 = .bool (decide (a < k)) ∧ v7 = .bool (decide (0 < k)) ∧ nd ≤ k ∧ -100 ≤ dp + k ∧ dp ≤ 100 ∧ Aside (DcAt wr G c nd dp false false) ∧ Aside (Vz c nd) ∧ Aside (Below G w wr))
  case atStart => exact ⟨0, 0, _, 0, by omega, by omega, rfl, by rw [decide_eq_false (by omega)], by rw [decide_eq_false (by omega)], by omega, by omega, by omega, A0.out, .inl rfl, E0.out⟩
  case round =>
    clear A0 E0
    obtain ⟨k, nd, c, dp, hgg, hk, rfl, rfl, rfl, hnd, hdp1, hdp2, A1, A2, A3⟩ := hrel
    have k0 := A1.out.nd_
    have k1 := A1.out.dp_
    by_cases hkb : k < b
    · have hlt : k < s.size := by omega
      by_cases hka : k = a
      · have hc : (s[k].toNat : Int) = 46 := by subst hka; rw [HR.out.point hlt]; rfl
        have B95 : ((s[k].toNat : Int) == 95) = false := by rw [beq_eq_false_iff_ne]; omega
        have B46 : ((s[k].toNat : Int) == 46) = true := by rw [beq_iff_eq]; omega
        have hak : k ≤ a := by omega
        have hak2 : ¬ (a < k) := by omega
        have D2 : (decide (a < k + 1) : Bool) = true := decide_eq_true (by omega)
        have D3 : (decide (0 < k) : Bool) = true := decide_eq_true (by omega)
        have D4 : (decide (0 < k + 1) : Bool) = true := decide_eq_true (by omega)
        have f1 := A1.out.free 801
        have A4 : Aside (DcAt (wr.setCell ⟨G, 801, none⟩ (.int .i64 (nd : Int))) G c nd (nd : Int) false false) := A1.out.dpSet _
        have A5 : Aside (Below G w (wr.setCell ⟨G, 801, none⟩ (.int .i64 (nd : Int)))) := A3.out.setCell (p := ⟨G, 801, none⟩) (Nat.le_refl _) _
        have HD2 := Lib.hid D2
        have HD4 := Lib.hid D4
        clear hc hka D2 D4
        go_wp2
        go_roundg (s.size - (k + 1))
        case measure => omega
        case rel => exact ⟨k + 1, nd, c, (nd : Int), by omega, by omega, by go_num, by rw [HD2.out], by rw [HD4.out, D3], by omega, by omega, by omega, A4.out, A2.out, A5.out⟩
      · have hdig : digit s[k] = true := by
          rcases Nat.lt_or_ge k a with h | h
          · exact HR.out.one k hlt h
          · exact HR.out.two k hlt (by omega) hkb
        have hdi := dig_int hdig
        have B95 : ((s[k].toNat : Int) == 95) = false := by rw [beq_eq_false_iff_ne]; omega
        have B46 : ((s[k].toNat : Int) == 46) = false := by rw [beq_eq_false_iff_ne]; omega
        have D1 : decide ((48 : Int) ≤ (s[k].toNat : Int)) = true := decide_eq_true hdi.1
        have D2 : decide ((s[k].toNat : Int) ≤ 57) = true := decide_eq_true hdi.2
        have HD2 : Hid ((decide (a < k + 1) : Bool) = decide (a < k)) := by
          show _ = _
          rw [Bool.eq_iff_iff, decide_eq_true_eq, decide_eq_true_eq]; omega
        have HD4 : Hid ((decide (0 < k + 1) : Bool) = true) := by show _ = _; exact decide_eq_true (by omega)
        have hdn : 48 ≤ s[k].toNat ∧ s[k].toNat ≤ 57 := by omega
        clear hdig hka
        by_cases hz0 : (s[k].toNat : Int) = 48 ∧ nd = 0
        · have B48 : ((s[k].toNat : Int) == 48) = true := by rw [beq_iff_eq]; exact hz0.1
          obtain rfl := hz0.2
          have f1 := A1.out.free 801
          have A4 : Aside (DcAt (wr.setCell ⟨G, 801, none⟩ (.int .i64 (dp - 1))) G c 0 (dp - 1) false false) := A1.out.dpSet _
          have A5 : Aside (Below G w (wr.setCell ⟨G, 801, none⟩ (.int .i64 (dp - 1)))) := A3.out.setCell (p := ⟨G, 801, none⟩) (Nat.le_refl _) _
          clear hz0 hdi
          go_wp2
          go_roundg (s.size - (k + 1))
          case measure => omega
          case rel => exact ⟨k + 1, 0, c, dp - 1, by omega, by omega, by go_num, by rw [HD2.out], by rw [HD4.out], by omega, by omega, by omega, A4.out, A2.out, A5.out⟩
        · have h08 : (nd : Int) < 800 := by omega
          have h08n : nd < 800 := by omega
          obtain ⟨v0, hv0⟩ : ∃ v, wr.cell? ⟨G, nd, none⟩ = some v := ⟨_, A1.out.byte (by omega)⟩
          have hv1 : wr.drew.cell? ⟨G, nd, none⟩ = some v0 := hv0
          have fn : wr.drew.frozen? ⟨G, nd, none⟩ = false := A1.out.free nd
          have A4 : Aside (DcAt (wr.setCell ⟨G, nd, none⟩ (.int .u8 (s[k].toNat : Int))) G (upd c nd s[k].toNat) nd dp false false) := A1.out.byteSet (by omega) _
          have f8 : (wr.setCell ⟨G, nd, none⟩ (.int .u8 (s[k].toNat : Int))).drew.frozen? ⟨G, 800, none⟩ = false := A4.out.free 800
          have f9 : (wr.setCell ⟨G, nd, none⟩ (.int .u8 (s[k].toNat : Int))).frozen? ⟨G, 800, none⟩ = false := A4.out.free 800
          have A4c : DcAt ((wr.setCell ⟨G, nd, none⟩ (.int .u8 (s[k].toNat : Int))).setCell ⟨G, 800, none⟩ (.int .i64 ((nd + 1 : Nat) : Int))) G (upd c nd s[k].toNat) (nd + 1) dp false false := A4.out.ndSet _
          have A4b : Aside (DcAt ((wr.setCell ⟨G, nd, none⟩ (.int .u8 (s[k].toNat : Int))).setCell ⟨G, 800, none⟩ (.int .i64 ((nd + 1 : Nat) : Int))).drew G (upd c nd s[k].toNat) (nd + 1) dp false false) := ⟨A4c.row⟩
          have B1 : Below G w ((wr.setCell ⟨G, nd, none⟩ (.int .u8 (s[k].toNat : Int))).setCell ⟨G, 800, none⟩ (.int .i64 ((nd + 1 : Nat) : Int))) := Below.setCell (p := ⟨G, 800, none⟩) (Below.setCell (p := ⟨G, nd, none⟩) A3.out (Nat.le_refl _) _) (Nat.le_refl _) _
          have B2 : Below G w ((wr.setCell ⟨G, nd, none⟩ (.int .u8 (s[k].toNat : Int))).setCell ⟨G, 800, none⟩ (.int .i64 ((nd + 1 : Nat) : Int))).drew := ⟨B1.os, B1.tape, B1.output, B1.size, B1.block⟩
          have A5 := Lib.hid B2
          clear A4c B1 B2 A4
          have A6 : Aside (Vz (upd c nd s[k].toNat) (nd + 1)) := A2.out.put (by omega) hdn.1 hdn.2 (fun h => by omega)
          by_cases hz1 : (s[k].toNat : Int) = 48
          · have B48 : ((s[k].toNat : Int) == 48) = true := by rw [beq_iff_eq]; exact hz1
            have hn0 : ((nd : Int) == 0) = false := by rw [beq_eq_false_iff_ne]; omega
            rw [hz1] at f8 f9 A4b A5
            clear hz0
            go_wp2
            go_still_tail 11, (by kernel_rfl)
            go_wp2
            go_roundg (s.size - (k + 1))
            case measure => omega
            case rel => exact ⟨k + 1, nd + 1, _, dp, by omega, by omega, by go_num, by rw [HD2.out], by rw [HD4.out], by omega, by omega, by omega, A4b.out, A6.out, A5.out⟩
          · have B48 : ((s[k].toNat : Int) == 48) = false := by rw [beq_eq_false_iff_ne]; exact hz1
            clear hz0
            go_wp2
            go_still_tail 11, (by kernel_rfl)
            go_wp2
            go_roundg (s.size - (k + 1))
            case measure => omega
            case rel => exact ⟨k + 1, nd + 1, _, dp, by omega, by omega, by go_num, by rw [HD2.out], by rw [HD4.out], by omega, by omega, by omega, A4b.out, A6.out, A5.out⟩
    · obtain rfl : k = b := by omega
      have ha1 : a < k := by omega
      have hk0 : 0 < k := by omega
      rcases HR.out.tail with hT | ⟨⟨hlt, hc⟩, c0, hc1, hc2, hc3, hc4⟩
      · have hend : ¬ ((k : Int) < (s.size : Int)) := by omega
        clear hT
        go_wp2
        go_ret
        exact ⟨rfl, ⟨c, nd, dp, false, A1.out, A2.out, by omega, by omega⟩, A3.out⟩
      · have hc' : (s[k].toNat : Int) = 101 := by omega
        have cl2 : ∀ w, Calls Tryz.prog 120 #[.int .u8 101] w fun e w' => e = .returned (.int .u8 101) ∧ w = w' := fun w => (lower_of 101 101 (by kernel_rfl) w).mono fun e w' h => ⟨h.1, h.2.symm⟩
        have cl3 : ∀ w, Calls Tryz.prog 120 #[.int .u8 (s[k].toNat : Int)] w fun e w' => e = .returned (.int .u8 101) ∧ w = w' := by rw [hc']; exact cl2
        have HC4 := Lib.hid hc4
        have B95 : ((s[k].toNat : Int) == 95) = false := by rw [beq_eq_false_iff_ne]; omega
        have B46 : ((s[k].toNat : Int) == 46) = false := by rw [beq_eq_false_iff_ne]; omega
        have B57 : decide ((s[k].toNat : Int) ≤ 57) = false := decide_eq_false (by omega)
        have B48' : decide ((48 : Int) ≤ (s[k].toNat : Int)) = true := decide_eq_true (by omega)
        clear hc hc4 hc'
        rcases hc3 with rfl | ⟨rfl, hp, hpm⟩
        · have hk1 : k + 1 < s.size := hc2
          have hd3 := dig_int (HC4.out (k + 1) hk1 (Nat.le_refl _))
          have C43 : ((s[k + 1].toNat : Int) == 43) = false := by rw [beq_eq_false_iff_ne]; omega
          have C45 : ((s[k + 1].toNat : Int) == 45) = false := by rw [beq_eq_false_iff_ne]; omega
          have C48 : ¬ ((s[k + 1].toNat : Int) < 48) := by omega
          have C57 : ¬ ((s[k + 1].toNat : Int) > 57) := by omega
          have hk1a : (k : Int) + 1 < (s.size : Int) := by omega
          obtain ⟨c0, hcc⟩ : ∃ c0, c0 = k + 1 := ⟨_, rfl⟩
          rw [← hcc] at HC4
          have hcc1 : c0 ≤ k + 1 := by omega
          have hcc2 : k + 1 ≤ c0 := by omega
          clear hcc
          go_wp2_with ((first | with_reducible refine (cl2 _).mono ?_ | with_reducible refine (cl3 _).mono ?_); rintro e w' ⟨rfl, rfl⟩)
          try any_goals (exfalso; omega)
          go_loopg [5, 9] s.size (fun gg v5 v9 wz => ∃ i x : Nat, s.size - i ≤ gg ∧ c0 ≤ i ∧ i ≤ s.size ∧ x ≤ 99999 ∧ v5 = .int .i64 (i : Int) ∧ v9 = .int .i64 (x : Int) ∧ wz = wr)
          case atStart => exact ⟨c0, 0, by omega, by omega, by omega, by omega, by go_num, rfl, rfl⟩
          case round =>
            obtain ⟨i, x, hgg2, hi1, hi2, hx, rfl, rfl, rfl⟩ := hrel
            by_cases hil : i < s.size
            · have hd4 := dig_int (HC4.out i hil hi1)
              have E1 : decide ((48 : Int) ≤ (s[i].toNat : Int)) = true := decide_eq_true hd4.1
              have E2 : decide ((s[i].toNat : Int) ≤ 57) = true := decide_eq_true hd4.2
              have E3 : ((s[i].toNat : Int) == 95) = false := by rw [beq_eq_false_iff_ne]; omega
              by_cases hx4 : x < 10000
              · have hx5 : (x : Int) < 10000 := by omega
                go_wp2
                go_roundg (s.size - (i + 1))
                case measure => omega
                case rel => exact ⟨i + 1, x * 10 + (s[i].toNat - 48), by omega, by omega, by omega, by omega, by go_num, by go_num, rfl⟩
              · have hx5 : ¬ ((x : Int) < 10000) := by omega
                go_wp2
                go_roundg (s.size - (i + 1))
                case measure => omega
                case rel => exact ⟨i + 1, x, by omega, by omega, by omega, by omega, by go_num, rfl, rfl⟩
            · obtain rfl : i = s.size := by omega
              have k1 := A1.out.dp_
              have f1 := A1.out.free 801
              have A4 : Aside (DcAt (wr.setCell ⟨G, 801, none⟩ (.int .i64 (dp + (x : Int)))) G c nd (dp + (x : Int)) false false) := A1.out.dpSet _
              have A5 : Aside (Below G w (wr.setCell ⟨G, 801, none⟩ (.int .i64 (dp + (x : Int))))) := A3.out.setCell (p := ⟨G, 801, none⟩) (Nat.le_refl _) _
              have hmul : (x : Int) * (-1) = -(x : Int) := by omega
              have hsub : dp + -(x : Int) = dp - (x : Int) := by omega
              go_wp2
              go_ret
              exact ⟨rfl, ⟨c, nd, _, false, A4.out, A2.out, by omega, by omega⟩, A5.out⟩
        · have hk2 : k + 2 < s.size := hc2
          have hd3 := dig_int (HC4.out (k + 2) hk2 (Nat.le_refl _))
          have C48 : ¬ ((s[k + 2].toNat : Int) < 48) := by omega
          have C57 : ¬ ((s[k + 2].toNat : Int) > 57) := by omega
          have hk2a : (k : Int) + 1 + 1 < (s.size : Int) := by omega
          have hk2b : (k : Int) + 2 < (s.size : Int) := by omega
          have hk2c : k + 1 + 1 < s.size := hk2
          have C48a : ¬ ((s[k + 1 + 1].toNat : Int) < 48) := C48
          have C57a : ¬ ((s[k + 1 + 1].toNat : Int) > 57) := C57
          have D48a : decide ((s[k + 1 + 1].toNat : Int) < 48) = false := decide_eq_false C48a
          have D57a : decide ((s[k + 1 + 1].toNat : Int) > 57) = false := decide_eq_false C57a
          obtain ⟨c0, hcc⟩ : ∃ c0, c0 = k + 2 := ⟨_, rfl⟩
          rw [← hcc] at HC4
          have hcc1 : c0 ≤ k + 2 := by omega
          have hcc2 : k + 2 ≤ c0 := by omega
          clear hcc
          rcases hpm with hpm | hpm
          · have hpm' : (s[k + 1].toNat : Int) = 43 := by omega
            have C43 : ((s[k + 1].toNat : Int) == 43) = true := by rw [beq_iff_eq]; omega
            have C45 : ((s[k + 1].toNat : Int) == 45) = false := by rw [beq_eq_false_iff_ne]; omega
            clear hpm hpm'
            go_wp2_with ((first | with_reducible refine (cl2 _).mono ?_ | with_reducible refine (cl3 _).mono ?_); rintro e w' ⟨rfl, rfl⟩)
            try any_goals (exfalso; omega)
            go_loopg [5, 9] s.size (fun gg v5 v9 wz => ∃ i x : Nat, s.size - i ≤ gg ∧ c0 ≤ i ∧ i ≤ s.size ∧ x ≤ 99999 ∧ v5 = .int .i64 (i : Int) ∧ v9 = .int .i64 (x : Int) ∧ wz = wr)
            case atStart => exact ⟨c0, 0, by omega, by omega, by omega, by omega, by go_num, rfl, rfl⟩
            case round =>
              obtain ⟨i, x, hgg2, hi1, hi2, hx, rfl, rfl, rfl⟩ := hrel
              by_cases hil : i < s.size
              · have hd4 := dig_int (HC4.out i hil hi1)
                have E1 : decide ((48 : Int) ≤ (s[i].toNat : Int)) = true := decide_eq_true hd4.1
                have E2 : decide ((s[i].toNat : Int) ≤ 57) = true := decide_eq_true hd4.2
                have E3 : ((s[i].toNat : Int) == 95) = false := by rw [beq_eq_false_iff_ne]; omega
                by_cases hx4 : x < 10000
                · have hx5 : (x : Int) < 10000 := by omega
                  go_wp2
                  go_roundg (s.size - (i + 1))
                  case measure => omega
                  case rel => exact ⟨i + 1, x * 10 + (s[i].toNat - 48), by omega, by omega, by omega, by omega, by go_num, by go_num, rfl⟩
                · have hx5 : ¬ ((x : Int) < 10000) := by omega
                  go_wp2
                  go_roundg (s.size - (i + 1))
                  case measure => omega
                  case rel => exact ⟨i + 1, x, by omega, by omega, by omega, by omega, by go_num, rfl, rfl⟩
              · obtain rfl : i = s.size := by omega
                have k1 := A1.out.dp_
                have f1 := A1.out.free 801
                have A4 : Aside (DcAt (wr.setCell ⟨G, 801, none⟩ (.int .i64 (dp + (x : Int)))) G c nd (dp + (x : Int)) false false) := A1.out.dpSet _
                have A5 : Aside (Below G w (wr.setCell ⟨G, 801, none⟩ (.int .i64 (dp + (x : Int))))) := A3.out.setCell (p := ⟨G, 801, none⟩) (Nat.le_refl _) _
                have hmul : (x : Int) * (-1) = -(x : Int) := by omega
                have hsub : dp + -(x : Int) = dp - (x : Int) := by omega
                go_wp2
                go_ret
                exact ⟨rfl, ⟨c, nd, _, false, A4.out, A2.out, by omega, by omega⟩, A5.out⟩
          · have hpm' : (s[k + 1].toNat : Int) = 45 := by omega
            have C43 : ((s[k + 1].toNat : Int) == 43) = false := by rw [beq_eq_false_iff_ne]; omega
            have C45 : ((s[k + 1].toNat : Int) == 45) = true := by rw [beq_iff_eq]; omega
            clear hpm hpm'
            go_wp2_with ((first | with_reducible refine (cl2 _).mono ?_ | with_reducible refine (cl3 _).mono ?_); rintro e w' ⟨rfl, rfl⟩)
            try any_goals (exfalso; omega)
            go_loopg [5, 9] s.size (fun gg v5 v9 wz => ∃ i x : Nat, s.size - i ≤ gg ∧ c0 ≤ i ∧ i ≤ s.size ∧ x ≤ 99999 ∧ v5 = .int .i64 (i : Int) ∧ v9 = .int .i64 (x : Int) ∧ wz = wr)
            case atStart => exact ⟨c0, 0, by omega, by omega, by omega, by omega, by go_num, rfl, rfl⟩
            case round =>
              obtain ⟨i, x, hgg2, hi1, hi2, hx, rfl, rfl, rfl⟩ := hrel
              by_cases hil : i < s.size
              · have hd4 := dig_int (HC4.out i hil hi1)
                have E1 : decide ((48 : Int) ≤ (s[i].toNat : Int)) = true := decide_eq_true hd4.1
                have E2 : decide ((s[i].toNat : Int) ≤ 57) = true := decide_eq_true hd4.2
                have E3 : ((s[i].toNat : Int) == 95) = false := by rw [beq_eq_false_iff_ne]; omega
                by_cases hx4 : x < 10000
                · have hx5 : (x : Int) < 10000 := by omega
                  go_wp2
                  go_roundg (s.size - (i + 1))
                  case measure => omega
                  case rel => exact ⟨i + 1, x * 10 + (s[i].toNat - 48), by omega, by omega, by omega, by omega, by go_num, by go_num, rfl⟩
                · have hx5 : ¬ ((x : Int) < 10000) := by omega
                  go_wp2
                  go_roundg (s.size - (i + 1))
                  case measure => omega
                  case rel => exact ⟨i + 1, x, by omega, by omega, by omega, by omega, by go_num, rfl, rfl⟩
              · obtain rfl : i = s.size := by omega
                have k1 := A1.out.dp_
                have f1 := A1.out.free 801
                have A4 : Aside (DcAt (wr.setCell ⟨G, 801, none⟩ (.int .i64 (dp - (x : Int)))) G c nd (dp - (x : Int)) false false) := A1.out.dpSet _
                have A5 : Aside (Below G w (wr.setCell ⟨G, 801, none⟩ (.int .i64 (dp - (x : Int))))) := A3.out.setCell (p := ⟨G, 801, none⟩) (Nat.le_refl _) _
                have hmul : (x : Int) * (-1) = -(x : Int) := by omega
                have hsub : dp + -(x : Int) = dp - (x : Int) := by omega
                go_wp2
                go_ret
                exact ⟨rfl, ⟨c, nd, _, false, A4.out, A2.out, by omega, by omega⟩, A5.out⟩
end LxC
end Go.Proofs.YtldglmehchkbeaaGreatDoor
