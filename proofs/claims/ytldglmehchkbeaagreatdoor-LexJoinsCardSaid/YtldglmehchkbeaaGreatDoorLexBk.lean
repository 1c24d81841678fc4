/-
  Decimals in memory, moved to the right. No condition.
-/
import Derived.Test.YtldglmehchkbeaaGreatDoorLexBj
namespace Go.Proofs.YtldglmehchkbeaaGreatDoor
open Go.RowKit
set_option linter.unusedVariables false
set_option linter.unusedSimpArgs false
namespace LxC
open Lx
theorem u64_mask (n m k : Nat) (hn : n < 18446744073709551616) (hk : k ≤ 63) (hm : m = 2 ^ k - 1) : bits .and .u64 (n : Int) (m : Int) = ((n % 2 ^ k : Nat) : Int) := by
  have h64 : (2 : Nat) ^ 64 = 18446744073709551616 := by decide
  have hp : 2 ^ k ≤ 2 ^ 63 := Nat.pow_le_pow_right (by omega) hk
  have h63 : (2 : Nat) ^ 63 = 9223372036854775808 := by decide
  have hp0 : 0 < 2 ^ k := Nat.pow_pos (by omega)
  have e1 : (BitVec.ofInt 64 (n : Int)).toNat = n := by rw [BitVec.toNat_ofInt, h64]; omega
  have e2 : (BitVec.ofInt 64 (m : Int)).toNat = 2 ^ k - 1 := by rw [BitVec.toNat_ofInt, h64, hm]; omega
  have hl : n % 2 ^ k ≤ n := Nat.mod_le _ _
  show IntKind.u64.wrap ((BitVec.ofInt 64 (n : Int) &&& BitVec.ofInt 64 (m : Int)).toNat : Nat) = _
  rw [BitVec.toNat_and, e1, e2, Nat.and_two_pow_sub_one_eq_mod]
  exact u64w _ (by omega) (by omega)
def RightPost (G nd : Nat) (c : Nat → Nat) (dp : Int) (ng : Bool) (w : World) (e : Ending) (w' : World) : Prop := e = .returned (.tuple #[]) ∧ (∃ (c' : Nat → Nat) (nd' ρ : Nat) (tr' : Bool), DcAt w' G c' nd' (dp - (ρ : Int)) ng tr' ∧ Vd c' nd' ∧ ρ ≤ 900 ∧ (ρ = 0 → c' 0 < c 0)) ∧ Below G w w'
/-- what has been put down on the way to the right: x digits -/
structure REnd (c c1 : Nat → Nat) (x n P ρ : Nat) : Prop where
  lo : ∀ i, i < x → 48 ≤ c1 i
  hi : ∀ i, i < x → c1 i ≤ 57
  first : x = 0 → P ≤ n ∧ (ρ = 0 → n = c 0 - 48)
  top : 1 ≤ x → 49 ≤ c1 0 ∧ (ρ = 0 → c1 0 < c 0)
theorem REnd.set {c c1 : Nat → Nat} {x n P ρ D : Nat} (n' : Nat) (h : REnd c c1 x n P ρ) (hP : 2 ≤ P) (hD : D = n / P) (hn : n < 10 * P) (hc : 49 ≤ c 0) : REnd c (upd c1 x (D + 48)) (x + 1) n' P ρ := by
  have hD9 : D < 10 := by rw [hD, Nat.div_lt_iff_lt_mul (by omega)]; exact hn
  refine ⟨fun i hi => ?_, fun i hi => ?_, fun h0 => by omega, fun _ => ?_⟩
  · by_cases e : i = x
    · subst e; rw [upd_same]; omega
    · rw [upd_ne _ _ e]; exact h.lo i (by omega)
  · by_cases e : i = x
    · subst e; rw [upd_same]; omega
    · rw [upd_ne _ _ e]; exact h.hi i (by omega)
  · by_cases e : x = 0
    · subst e
      obtain ⟨h1, h2⟩ := h.first rfl
      have h3 : 1 ≤ D := by rw [hD, Nat.le_div_iff_mul_le (by omega)]; omega
      rw [upd_same]
      refine ⟨by omega, fun h0 => ?_⟩
      have h4 := h2 h0
      have h5 : D * 2 ≤ n := by
        have := Nat.div_mul_le_self n P
        rw [← hD] at this
        exact Nat.le_trans (Nat.mul_le_mul_left D hP) this
      omega
    · rw [upd_ne _ _ (by omega)]; exact h.top (by omega)
theorem REnd.keep {c c1 : Nat → Nat} {x n P ρ : Nat} (n' : Nat) (h : REnd c c1 x n P ρ) (hx : 1 ≤ x) : REnd c c1 x n' P ρ := ⟨h.lo, h.hi, fun h0 => by omega, h.top⟩
set_option maxRecDepth 100000 in
set_option maxHeartbeats 8000000 in
theorem right_ (w : World) (G nd k : Nat) (c : Nat → Nat) (dp : Int) (ng tr : Bool) (h : DcAt w G c nd dp ng tr) (hv : Vd c nd) (hk1 : 1 ≤ k) (hk2 : k ≤ 60) (hdp1 : -1000000000 ≤ dp) (hdp2 : dp ≤ 1000000000) :
    Calls Tryz.prog 178 #[.pointer (some ⟨G, 0, none⟩), .int .u64 (k : Int)] w (RightPost G nd c dp ng w) := by
  have H0 := Lib.hid h
  have HV := Lib.hid hv
  have hnd1 := hv.one
  have hnd8 := hv.most
  have hp : 2 ^ k ≤ 2 ^ 60 := Nat.pow_le_pow_right (by omega) hk2
  have hp1 : 2 ^ 1 ≤ 2 ^ k := Nat.pow_le_pow_right (by omega) hk1
  have hp2 : 2 ^ k ≤ 1152921504606846976 := hp
  obtain ⟨P, hP⟩ : ∃ P : Nat, P = 2 ^ k := ⟨_, rfl⟩
  have hPi : ((2 : Int) ^ k) = (P : Int) := by rw [hP]; push_cast; rfl
  have HPi := Lib.hid hPi
  rw [← hP] at hp2 hp1
  have hp3 : 2 ≤ P := hp1
  have HP := Lib.hid hP
  have HB := Lib.hid hp2
  have HB2 := Lib.hid hp3
  have kk1 : (k : Int) < 61 := by omega
  have kk0 : (0 : Int) ≤ (k : Int) := by omega
  clear h hv hp hp1 hp2 hp3 hP hPi
  go_enter Tryz.func178, Tryz.ntmps178
  go_wp2
  go_loopg [4, 6] nd (fun gg v4 v6 wr => ∃ (r n : Nat), nd - r ≤ gg ∧ r ≤ nd ∧ v4 = .int .i64 (r : Int) ∧ v6 = .int .u64 (n : Int) ∧ wr = w ∧ Aside ((r = 0 → n = 0) ∧ (1 ≤ r → 1 ≤ n) ∧ n < 10 * P ∧ (r = 1 → n = c 0 - 48)))
  case atStart => exact ⟨0, 0, by omega, by omega, rfl, rfl, rfl, fun _ => rfl, by omega, by have := HB2.out; omega, by omega⟩
  case round =>
    obtain ⟨r, n, hgg, hr, rfl, rfl, rfl, A1⟩ := hrel
    obtain ⟨D, hD⟩ : ∃ D, D = n / P := ⟨_, rfl⟩
    have w1 : (n : Int) / 2 ^ k = (D : Int) := by rw [HPi.out, hD]; omega
    have HD := Lib.hid hD
    have k0 := H0.out.nd_
    have hn64 : n < 18446744073709551616 := by have := A1.out.2.2.1; have := HB.out; omega
    have hn10 : n < 11529215046068469760 := by have := A1.out.2.2.1; have := HB.out; omega
    have hDn : D ≤ n := by rw [hD]; exact Nat.div_le_self _ _
    clear hD hn64
    by_cases hnP : n < P
    · have hD0 : D = 0 := by rw [HD.out]; exact Nat.div_eq_of_lt hnP
      have B0 : ((D : Int) == 0) = true := by rw [beq_iff_eq]; omega
      clear hD0
      by_cases hrn : r < nd
      · have hrn2 : ¬ ((r : Int) ≥ (nd : Int)) := by omega
        have hrn3 : ¬ (nd ≤ r) := by omega
        obtain ⟨d, hd, hd9⟩ : ∃ d, c r = d + 48 ∧ d ≤ 9 := ⟨c r - 48, by have := HV.out.lo r hrn; omega, by have := HV.out.hi r hrn; omega⟩
        have k1 : wr.cell? ⟨G, r, none⟩ = some (.int .u8 ((d + 48 : Nat) : Int)) := by rw [H0.out.byte (by omega), hd]
        have hr8 : r < 800 := by omega
        have hPb := HB.out
        have w2 : IntKind.u64.wrap ((n : Int) * 10) = (n : Int) * 10 := u64w _ (by omega) (by omega)
        have w3 : IntKind.u64.wrap ((n : Int) * 10 + ((d : Int) + 48)) = (n : Int) * 10 + ((d : Int) + 48) := u64w _ (by omega) (by omega)
        have w4 : IntKind.u64.wrap ((n : Int) * 10 + ((d : Int) + 48) - 48) = ((n * 10 + d : Nat) : Int) := by rw [u64w _ (by omega) (by omega)]; omega
        have A2 : Aside ((r + 1 = 0 → n * 10 + d = 0) ∧ (1 ≤ r + 1 → 1 ≤ n * 10 + d) ∧ n * 10 + d < 10 * P ∧ (r + 1 = 1 → n * 10 + d = c 0 - 48)) := by
          obtain ⟨a1, a2, a3, a4⟩ := A1.out
          refine ⟨by omega, fun _ => ?_, by omega, fun h => ?_⟩
          · by_cases h0 : r = 0
            · subst h0
              have := HV.out.top
              omega
            · have := a2 (by omega); omega
          · obtain rfl : r = 0 := by omega
            have := a1 rfl
            omega
        clear hd hnP hPb
        go_wp2
        go_roundg (nd - (r + 1))
        case measure => omega
        case rel => exact ⟨r + 1, n * 10 + d, by omega, by omega, by go_num, by go_num, rfl, A2.out⟩
      · have hrn2 : ((r : Int) ≥ (nd : Int)) := by omega
        have hrn3 : nd ≤ r := by omega
        have hn1 : 1 ≤ n := A1.out.2.1 (by omega)
        have N0 : ((n : Int) == 0) = false := by rw [beq_eq_false_iff_ne]; omega
        have A2 : Aside (1 ≤ n ∧ n < 10 * P) := ⟨hn1, A1.out.2.2.1⟩
        have A3 : Aside (r = 1 → n = c 0 - 48) := A1.out.2.2.2
        clear hn1 hnP
        go_wp2
        go_loopg [4, 6] P (fun gg v4 v6 w2 => ∃ (t n2 : Nat), P - n2 ≤ gg ∧ t ≤ 19 ∧ v4 = .int .i64 ((r : Int) + (t : Int)) ∧ v6 = .int .u64 (n2 : Int) ∧ w2 = wr ∧ Aside (10 ^ t ≤ n2 ∧ n2 < 10 * P ∧ (t = 0 → n2 = n)))
        case atStart => exact ⟨0, n, by omega, by omega, by go_num, rfl, rfl, by have := A2.out; exact this.1, A2.out.2, fun _ => rfl⟩
        case round =>
          clear B0 w1 HD
          obtain ⟨t, n, hgg2, ht, rfl, rfl, rfl, A4⟩ := hrel
          obtain ⟨D, hD⟩ : ∃ D, D = n / P := ⟨_, rfl⟩
          have w1 : (n : Int) / 2 ^ k = (D : Int) := by rw [HPi.out, hD]; omega
          by_cases hnP : n < P
          · have B0 : ((D : Int) == 0) = true := by rw [beq_iff_eq, hD, Nat.div_eq_of_lt hnP]; rfl
            have hP2 := HB.out
            have hn20 : 1 ≤ n := by have := A4.out.1; have := Nat.pow_pos (a := 10) (n := t) (by omega); omega
            have w2 : IntKind.u64.wrap ((n : Int) * 10) = ((n * 10 : Nat) : Int) := by rw [u64w _ (by omega) (by omega)]; omega
            have ht19 : t + 1 ≤ 19 := by
              refine Nat.le_of_not_lt fun h => ?_
              have h1 : 10 ^ 19 ≤ 10 ^ t := Nat.pow_le_pow_right (by omega) (by omega)
              have h2 : (10 : Nat) ^ 19 = 10000000000000000000 := by decide
              have := A4.out.1
              omega
            have A5 : Aside (10 ^ (t + 1) ≤ n * 10 ∧ n * 10 < 10 * P) := ⟨by rw [Nat.pow_succ]; have := A4.out.1; omega, by omega⟩
            clear hD hP2
            go_wp2
            go_roundg (P - n * 10)
            case measure => omega
            case rel => exact ⟨t + 1, n * 10, by omega, by omega, by go_num, by go_num, rfl, A5.out.1, A5.out.2, fun h => absurd h (by omega)⟩
          · have B0 : ((D : Int) == 0) = false := by
              rw [beq_eq_false_iff_ne, hD]
              have : 1 ≤ n / P := by rw [Nat.le_div_iff_mul_le (by have := HB2.out; omega)]; omega
              omega
            have hrr : (r : Int) + (t : Int) = ((r + t : Nat) : Int) := by push_cast; rfl
            have hr0 : 1 ≤ r + t := by omega
            have hrr2 : r + t ≤ 819 := by omega
            have hnlo : P ≤ n := by omega
            have hnhi : n < 10 * P := A4.out.2.1
            have hr1 : r + t = 1 → n = c 0 - 48 := fun h => by
              obtain rfl : t = 0 := by omega
              rw [A4.out.2.2 rfl]
              exact A3.out (by omega)
            clear hD A4 A2 A3 A1 hn10 N0 hDn
            rw [hrr]
            clear hrr hr hgg hrn hrn2 hrn3 hgg2 ht
            generalize r + t = r at hr0 hrr2 hr1 ⊢
            obtain ⟨ρ, rfl⟩ : ∃ ρ, r = ρ + 1 := ⟨r - 1, by omega⟩
            have k1 := H0.out.dp_
            have f1 := H0.out.free 801
            have D1 : Aside (DcAt (wr.setCell ⟨G, 801, none⟩ (.int .i64 (dp - (ρ : Int)))) G c nd (dp - (ρ : Int)) ng tr) := H0.out.dpSet _
            have E1 : Aside (Below G wr (wr.setCell ⟨G, 801, none⟩ (.int .i64 (dp - (ρ : Int))))) := (Below.refl _ _).setCell (p := ⟨G, 801, none⟩) (Nat.le_refl _) _
            have hP1 := HB2.out
            have hP2 := HB.out
            obtain ⟨m, hm⟩ : ∃ m, m = P - 1 := ⟨_, rfl⟩
            have w5 : IntKind.u64.wrap ((2 : Int) ^ k) = (P : Int) := by rw [HPi.out]; exact u64w _ (by omega) (by omega)
            have w6 : IntKind.u64.wrap ((P : Int) - 1) = (m : Int) := by rw [u64w _ (by omega) (by omega)]; omega
            have HM : Hid (∀ n : Nat, n < 11529215046068469760 → bits .and .u64 (n : Int) (m : Int) = ((n % P : Nat) : Int)) := fun n hn => by rw [HP.out]; exact u64_mask n m k (by omega) (by omega) (by rw [hm, HP.out])
            have A2 : Aside (REnd c c 0 n P ρ) := ⟨fun i hi => by omega, fun i hi => by omega, fun _ => ⟨hnlo, fun h0 => hr1 (by omega)⟩, fun h0 => by omega⟩
            have A3 : Aside (n < 10 * P) := hnhi
            have hc0 : Hid (49 ≤ c 0) := HV.out.top
            clear hm hnlo hnhi hr1 hP1 hP2
            go_wp2
            clear w5 w6 k1 f1
            go_loopg [4, 5, 6] nd (fun gg v4 v5 v6 wz => ∃ (r x n : Nat) (c1 : Nat → Nat), nd - r ≤ gg ∧ v4 = .int .i64 (r : Int) ∧ v5 = .int .i64 (x : Int) ∧ v6 = .int .u64 (n : Int) ∧ r ≤ 900 ∧ x ≤ 799 ∧ x < r ∧ Aside (n < 10 * P) ∧ Aside (∀ i, r ≤ i → i < nd → c1 i = c i) ∧ Aside (DcAt wz G c1 nd (dp - (ρ : Int)) ng tr) ∧ Aside (Below G wr wz) ∧ Aside (REnd c c1 x n P ρ))
            case atStart => exact ⟨ρ + 1, 0, n, c, by omega, by go_num, by go_num, rfl, by omega, by omega, by omega, A3.out, fun i _ _ => rfl, D1.out, E1.out, A2.out⟩
            case round =>
              clear A2 A3 D1 E1
              obtain ⟨r, x, n, c1, hgg, rfl, rfl, rfl, hr9, hx7, hxr, A1, A2, A3, A4, A5⟩ := hrel
              obtain ⟨D, hD⟩ : ∃ D, D = n / P := ⟨_, rfl⟩
              obtain ⟨R, hR⟩ : ∃ R, R = n % P := ⟨_, rfl⟩
              have hn10 : n < 10 * P := A1.out
              have hP1 := HB2.out
              have hP2 := HB.out
              have hD9 : D < 10 := by rw [hD, Nat.div_lt_iff_lt_mul (by omega)]; exact hn10
              have hRP : R < P := by rw [hR]; exact Nat.mod_lt _ (by omega)
              have w1 : (n : Int) / 2 ^ k = (D : Int) := by rw [HPi.out, hD]; omega
              have w2 : bits .and .u64 (n : Int) (m : Int) = (R : Int) := by rw [HM.out n (by omega), hR]
              have w3 : IntKind.u64.wrap ((D : Int) + 48) % 256 = ((D + 48 : Nat) : Int) := by rw [u64w _ (by omega) (by omega)]; omega
              have k0 := A3.out.nd_
              by_cases hrn : r < nd
              · have hrn2 : ((r : Int) < (nd : Int)) := by omega
                obtain ⟨d, hd, hd9⟩ : ∃ d, c r = d + 48 ∧ d ≤ 9 := ⟨c r - 48, by have := HV.out.lo r hrn; omega, by have := HV.out.hi r hrn; omega⟩
                have k1 : wr.cell? ⟨G, r, none⟩ = some (.int .u8 ((d + 48 : Nat) : Int)) := by rw [A3.out.byte (by omega), A2.out r (Nat.le_refl _) hrn, hd]
                have hr8 : r < 800 := by omega
                have w4 : IntKind.u64.wrap ((R : Int) * 10) = (R : Int) * 10 := u64w _ (by omega) (by omega)
                have w5 : IntKind.u64.wrap ((R : Int) * 10 + ((d : Int) + 48)) = (R : Int) * 10 + ((d : Int) + 48) := u64w _ (by omega) (by omega)
                have w6 : IntKind.u64.wrap ((R : Int) * 10 + ((d : Int) + 48) - 48) = ((R * 10 + d : Nat) : Int) := by rw [u64w _ (by omega) (by omega)]; omega
                have hx8 : x < 800 := by omega
                obtain ⟨v0, hv0⟩ : ∃ v, wr.cell? ⟨G, x, none⟩ = some v := ⟨_, A3.out.byte (by omega)⟩
                have hf := A3.out.free x
                have B1 : Aside (R * 10 + d < 10 * P) := by show R * 10 + d < 10 * P; omega
                have B2 : Aside (∀ i, r + 1 ≤ i → i < nd → upd c1 x (D + 48) i = c i) := fun i h1 h2 => by rw [upd_ne _ _ (by omega)]; exact A2.out i (by omega) h2
                have B3 : Aside (DcAt (wr.setCell ⟨G, x, none⟩ (.int .u8 ((D + 48 : Nat) : Int))) G (upd c1 x (D + 48)) nd (dp - (ρ : Int)) ng tr) := A3.out.byteSet (by omega) _
                have B4 : Aside (Below G _ (wr.setCell ⟨G, x, none⟩ (.int .u8 ((D + 48 : Nat) : Int)))) := A4.out.setCell (p := ⟨G, x, none⟩) (Nat.le_refl _) _
                have B5 : Aside (REnd c (upd c1 x (D + 48)) (x + 1) (R * 10 + d) P ρ) := A5.out.set _ hP1 hD hn10 hc0.out
                clear hd hD hR hn10 hP1 hP2 hRP hD9
                go_wp2
                go_roundg (nd - (r + 1))
                case measure => omega
                case rel => exact ⟨r + 1, x + 1, R * 10 + d, _, by omega, by go_num, by go_num, by go_num, by omega, by omega, by omega, B1.out, B2.out, B3.out, B4.out, B5.out⟩
              · have hrn2 : ¬ ((r : Int) < (nd : Int)) := by omega
                clear hD hR hn10 hP1 hP2 hRP hD9 w1 w2 w3
                go_wp2
                obtain ⟨j0, hj0⟩ : ∃ j : Nat, j = 0 := ⟨0, rfl⟩
                go_loopg [5, 6] (k + 2) (fun gg v5 v6 wz => ∃ (x n j : Nat) (c1 : Nat → Nat) (t1 : Bool), (n = 0 ∨ (j ≤ k ∧ 2 ^ j ∣ n ∧ k + 1 - j ≤ gg)) ∧ v5 = .int .i64 (x : Int) ∧ v6 = .int .u64 (n : Int) ∧ x ≤ 800 ∧ Aside (n < 10 * P) ∧ Aside (DcAt wz G c1 nd (dp - (ρ : Int)) ng t1) ∧ Aside (Below G _ wz) ∧ Aside (REnd c c1 x n P ρ))
                case atStart => exact ⟨x, n, 0, c1, tr, .inr ⟨by omega, ⟨n, by simp⟩, by omega⟩, by go_num, rfl, by omega, A1.out, A3.out, A4.out, A5.out⟩
                case round =>
                  clear A1 A2 A3 A4 A5 k0 hrn hrn2 hj0
                  obtain ⟨x, n, j, c1, t1, hor, rfl, rfl, hx8, A1, A3, A4, A5⟩ := hrel
                  by_cases hn0 : n = 0
                  · have hng : ¬ ((n : Int) > 0) := by omega
                    have hx1 : 1 ≤ x := by
                      rcases Nat.eq_zero_or_pos x with h | h
                      · have := (A5.out.first h).1
                        have := HB2.out
                        omega
                      · exact h
                    have k0 := A3.out.nd_
                    have f0 := A3.out.free 800
                    have D3 : Aside (DcAt (wr.setCell ⟨G, 800, none⟩ (.int .i64 (x : Int))) G c1 x (dp - (ρ : Int)) ng t1) := A3.out.ndSet x
                    have E3 : Aside (Below G _ (wr.setCell ⟨G, 800, none⟩ (.int .i64 (x : Int)))) := A4.out.setCell (p := ⟨G, 800, none⟩) (Nat.le_refl _) _
                    have ct := trim_ _ G x c1 (dp - (ρ : Int)) ng t1 D3.out ⟨hx1, hx8, fun i hi => A5.out.lo i hi, fun i hi => A5.out.hi i hi, (A5.out.top hx1).1⟩
                    have HTp := Lib.hid (A5.out.top hx1).2
                    clear hn0 hor
                    go_wp2_with ((with_reducible refine ct.mono ?_); rintro e' w' ⟨rfl, hD, hB⟩; have HD := Lib.hid hD; have HBB := Lib.hid hB; clear hD hB)
                    go_end0
                    obtain ⟨nd', d1, d2⟩ := HD.out
                    exact ⟨rfl, ⟨c1, nd', ρ, t1, d1, d2, by omega, HTp.out⟩, E3.out.trans HBB.out⟩
                  · obtain ⟨hjk, hdv, hjg⟩ := hor.resolve_left hn0
                    obtain ⟨D, hD⟩ : ∃ D, D = n / P := ⟨_, rfl⟩
                    obtain ⟨R, hR⟩ : ∃ R, R = n % P := ⟨_, rfl⟩
                    have hn10 : n < 10 * P := A1.out
                    have hP1 := HB2.out
                    have hP2 := HB.out
                    have hD9 : D < 10 := by rw [hD, Nat.div_lt_iff_lt_mul (by omega)]; exact hn10
                    have hRP : R < P := by rw [hR]; exact Nat.mod_lt _ (by omega)
                    have w1 : (n : Int) / 2 ^ k = (D : Int) := by rw [HPi.out, hD]; omega
                    have w2 : bits .and .u64 (n : Int) (m : Int) = (R : Int) := by rw [HM.out n (by omega), hR]
                    have w3 : IntKind.u64.wrap ((D : Int) + 48) % 256 = ((D + 48 : Nat) : Int) := by rw [u64w _ (by omega) (by omega)]; omega
                    have w4 : IntKind.u64.wrap ((R : Int) * 10) = ((R * 10 : Nat) : Int) := by rw [u64w _ (by omega) (by omega)]; omega
                    have hng : ((n : Int) > 0) := by omega
                    have B1 : Aside (R * 10 < 10 * P) := by show R * 10 < 10 * P; omega
                    have B0 : Aside (R * 10 = 0 ∨ (j + 1 ≤ k ∧ 2 ^ (j + 1) ∣ R * 10 ∧ k + 1 - (j + 1) ≤ k - j)) := by
                      rw [hR, HP.out]
                      rcases Nat.lt_or_ge j k with hlt | hge
                      · exact .inr ⟨hlt, Dc.dvd_step k j n hjk hdv, by omega⟩
                      · obtain rfl : j = k := by omega
                        exact .inl (Dc.dvd_end j n hdv)
                    by_cases hx : x < 800
                    · have hx2 : (x : Int) < 800 := by omega
                      obtain ⟨v0, hv0⟩ : ∃ v, wr.cell? ⟨G, x, none⟩ = some v := ⟨_, A3.out.byte hx⟩
                      have hf := A3.out.free x
                      have B3 : Aside (DcAt (wr.setCell ⟨G, x, none⟩ (.int .u8 ((D + 48 : Nat) : Int))) G (upd c1 x (D + 48)) nd (dp - (ρ : Int)) ng t1) := A3.out.byteSet hx _
                      have B4 : Aside (Below G _ (wr.setCell ⟨G, x, none⟩ (.int .u8 ((D + 48 : Nat) : Int)))) := A4.out.setCell (p := ⟨G, x, none⟩) (Nat.le_refl _) _
                      have B5 : Aside (REnd c (upd c1 x (D + 48)) (x + 1) (R * 10) P ρ) := A5.out.set _ hP1 hD hn10 hc0.out
                      clear hD hR hn10 hP1 hP2 hRP hD9 hor hn0 hdv
                      go_wp2
                      go_roundg (k - j)
                      case measure => omega
                      case rel => exact ⟨x + 1, R * 10, j + 1, _, t1, B0.out, by go_num, by go_num, by omega, B1.out, B3.out, B4.out, B5.out⟩
                    · have hx2 : ¬ ((x : Int) < 800) := by omega
                      have B5 : Aside (REnd c c1 x (R * 10) P ρ) := A5.out.keep _ (by omega)
                      by_cases hD0 : D = 0
                      · have hD1 : ¬ ((D : Int) > 0) := by omega
                        clear hD hR hn10 hP1 hP2 hRP hD9 hor hn0 hdv hD0
                        go_wp2
                        go_roundg (k - j)
                        case measure => omega
                        case rel => exact ⟨x, R * 10, j + 1, _, t1, B0.out, rfl, by go_num, by omega, B1.out, A3.out, A4.out, B5.out⟩
                      · have hD1 : ((D : Int) > 0) := by omega
                        have k3 := A3.out.tr_
                        have hf := A3.out.free 803
                        have B3 : Aside (DcAt (wr.setCell ⟨G, 803, none⟩ (.bool true)) G c1 nd (dp - (ρ : Int)) ng true) := A3.out.trSet true
                        have B4 : Aside (Below G _ (wr.setCell ⟨G, 803, none⟩ (.bool true))) := A4.out.setCell (p := ⟨G, 803, none⟩) (Nat.le_refl _) _
                        clear hD hR hn10 hP1 hP2 hRP hD9 hor hn0 hdv hD0
                        go_wp2
                        go_roundg (k - j)
                        case measure => omega
                        case rel => exact ⟨x, R * 10, j + 1, _, true, B0.out, rfl, by go_num, by omega, B1.out, B3.out, B4.out, B5.out⟩
    · have B0 : ((D : Int) == 0) = false := by
        rw [beq_eq_false_iff_ne, HD.out]
        have : 1 ≤ n / P := by rw [Nat.le_div_iff_mul_le (by have := HB2.out; omega)]; omega
        omega
      have hr0 : 1 ≤ r := by
        rcases Nat.eq_zero_or_pos r with h | h
        · have := A1.out.1 h
          have := HB2.out
          omega
        · exact h
      have hrr2 : r ≤ 819 := by omega
      have hnlo : P ≤ n := by omega
      have hnhi : n < 10 * P := A1.out.2.2.1
      have hr1 : r = 1 → n = c 0 - 48 := A1.out.2.2.2
      clear A1
      obtain ⟨ρ, rfl⟩ : ∃ ρ, r = ρ + 1 := ⟨r - 1, by omega⟩
      have k1 := H0.out.dp_
      have f1 := H0.out.free 801
      have D1 : Aside (DcAt (wr.setCell ⟨G, 801, none⟩ (.int .i64 (dp - (ρ : Int)))) G c nd (dp - (ρ : Int)) ng tr) := H0.out.dpSet _
      have E1 : Aside (Below G wr (wr.setCell ⟨G, 801, none⟩ (.int .i64 (dp - (ρ : Int))))) := (Below.refl _ _).setCell (p := ⟨G, 801, none⟩) (Nat.le_refl _) _
      have hP1 := HB2.out
      have hP2 := HB.out
      obtain ⟨m, hm⟩ : ∃ m, m = P - 1 := ⟨_, rfl⟩
      have w5 : IntKind.u64.wrap ((2 : Int) ^ k) = (P : Int) := by rw [HPi.out]; exact u64w _ (by omega) (by omega)
      have w6 : IntKind.u64.wrap ((P : Int) - 1) = (m : Int) := by rw [u64w _ (by omega) (by omega)]; omega
      have HM : Hid (∀ n : Nat, n < 11529215046068469760 → bits .and .u64 (n : Int) (m : Int) = ((n % P : Nat) : Int)) := fun n hn => by rw [HP.out]; exact u64_mask n m k (by omega) (by omega) (by rw [hm, HP.out])
      have A2 : Aside (REnd c c 0 n P ρ) := ⟨fun i hi => by omega, fun i hi => by omega, fun _ => ⟨hnlo, fun h0 => hr1 (by omega)⟩, fun h0 => by omega⟩
      have A3 : Aside (n < 10 * P) := hnhi
      have hc0 : Hid (49 ≤ c 0) := HV.out.top
      clear hm hnlo hnhi hr1 hP1 hP2
      go_wp2
      clear w5 w6 k1 f1
      go_loopg [4, 5, 6] nd (fun gg v4 v5 v6 wz => ∃ (r x n : Nat) (c1 : Nat → Nat), nd - r ≤ gg ∧ v4 = .int .i64 (r : Int) ∧ v5 = .int .i64 (x : Int) ∧ v6 = .int .u64 (n : Int) ∧ r ≤ 900 ∧ x ≤ 799 ∧ x < r ∧ Aside (n < 10 * P) ∧ Aside (∀ i, r ≤ i → i < nd → c1 i = c i) ∧ Aside (DcAt wz G c1 nd (dp - (ρ : Int)) ng tr) ∧ Aside (Below G wr wz) ∧ Aside (REnd c c1 x n P ρ))
      case atStart => exact ⟨ρ + 1, 0, n, c, by omega, by go_num, by go_num, rfl, by omega, by omega, by omega, A3.out, fun i _ _ => rfl, D1.out, E1.out, A2.out⟩
      case round =>
        clear A2 A3 D1 E1
        obtain ⟨r, x, n, c1, hgg, rfl, rfl, rfl, hr9, hx7, hxr, A1, A2, A3, A4, A5⟩ := hrel
        obtain ⟨D, hD⟩ : ∃ D, D = n / P := ⟨_, rfl⟩
        obtain ⟨R, hR⟩ : ∃ R, R = n % P := ⟨_, rfl⟩
        have hn10 : n < 10 * P := A1.out
        have hP1 := HB2.out
        have hP2 := HB.out
        have hD9 : D < 10 := by rw [hD, Nat.div_lt_iff_lt_mul (by omega)]; exact hn10
        have hRP : R < P := by rw [hR]; exact Nat.mod_lt _ (by omega)
        have w1 : (n : Int) / 2 ^ k = (D : Int) := by rw [HPi.out, hD]; omega
        have w2 : bits .and .u64 (n : Int) (m : Int) = (R : Int) := by rw [HM.out n (by omega), hR]
        have w3 : IntKind.u64.wrap ((D : Int) + 48) % 256 = ((D + 48 : Nat) : Int) := by rw [u64w _ (by omega) (by omega)]; omega
        have k0 := A3.out.nd_
        by_cases hrn : r < nd
        · have hrn2 : ((r : Int) < (nd : Int)) := by omega
          obtain ⟨d, hd, hd9⟩ : ∃ d, c r = d + 48 ∧ d ≤ 9 := ⟨c r - 48, by have := HV.out.lo r hrn; omega, by have := HV.out.hi r hrn; omega⟩
          have k1 : wr.cell? ⟨G, r, none⟩ = some (.int .u8 ((d + 48 : Nat) : Int)) := by rw [A3.out.byte (by omega), A2.out r (Nat.le_refl _) hrn, hd]
          have hr8 : r < 800 := by omega
          have w4 : IntKind.u64.wrap ((R : Int) * 10) = (R : Int) * 10 := u64w _ (by omega) (by omega)
          have w5 : IntKind.u64.wrap ((R : Int) * 10 + ((d : Int) + 48)) = (R : Int) * 10 + ((d : Int) + 48) := u64w _ (by omega) (by omega)
          have w6 : IntKind.u64.wrap ((R : Int) * 10 + ((d : Int) + 48) - 48) = ((R * 10 + d : Nat) : Int) := by rw [u64w _ (by omega) (by omega)]; omega
          have hx8 : x < 800 := by omega
          obtain ⟨v0, hv0⟩ : ∃ v, wr.cell? ⟨G, x, none⟩ = some v := ⟨_, A3.out.byte (by omega)⟩
          have hf := A3.out.free x
          have B1 : Aside (R * 10 + d < 10 * P) := by show R * 10 + d < 10 * P; omega
          have B2 : Aside (∀ i, r + 1 ≤ i → i < nd → upd c1 x (D + 48) i = c i) := fun i h1 h2 => by rw [upd_ne _ _ (by omega)]; exact A2.out i (by omega) h2
          have B3 : Aside (DcAt (wr.setCell ⟨G, x, none⟩ (.int .u8 ((D + 48 : Nat) : Int))) G (upd c1 x (D + 48)) nd (dp - (ρ : Int)) ng tr) := A3.out.byteSet (by omega) _
          have B4 : Aside (Below G _ (wr.setCell ⟨G, x, none⟩ (.int .u8 ((D + 48 : Nat) : Int)))) := A4.out.setCell (p := ⟨G, x, none⟩) (Nat.le_refl _) _
          have B5 : Aside (REnd c (upd c1 x (D + 48)) (x + 1) (R * 10 + d) P ρ) := A5.out.set _ hP1 hD hn10 hc0.out
          clear hd hD hR hn10 hP1 hP2 hRP hD9
          go_wp2
          go_roundg (nd - (r + 1))
          case measure => omega
          case rel => exact ⟨r + 1, x + 1, R * 10 + d, _, by omega, by go_num, by go_num, by go_num, by omega, by omega, by omega, B1.out, B2.out, B3.out, B4.out, B5.out⟩
        · have hrn2 : ¬ ((r : Int) < (nd : Int)) := by omega
          clear hD hR hn10 hP1 hP2 hRP hD9 w1 w2 w3
          go_wp2
          obtain ⟨j0, hj0⟩ : ∃ j : Nat, j = 0 := ⟨0, rfl⟩
          go_loopg [5, 6] (k + 2) (fun gg v5 v6 wz => ∃ (x n j : Nat) (c1 : Nat → Nat) (t1 : Bool), (n = 0 ∨ (j ≤ k ∧ 2 ^ j ∣ n ∧ k + 1 - j ≤ gg)) ∧ v5 = .int .i64 (x : Int) ∧ v6 = .int .u64 (n : Int) ∧ x ≤ 800 ∧ Aside (n < 10 * P) ∧ Aside (DcAt wz G c1 nd (dp - (ρ : Int)) ng t1) ∧ Aside (Below G _ wz) ∧ Aside (REnd c c1 x n P ρ))
          case atStart => exact ⟨x, n, 0, c1, tr, .inr ⟨by omega, ⟨n, by simp⟩, by omega⟩, by go_num, rfl, by omega, A1.out, A3.out, A4.out, A5.out⟩
          case round =>
            clear A1 A2 A3 A4 A5 k0 hrn hrn2 hj0
            obtain ⟨x, n, j, c1, t1, hor, rfl, rfl, hx8, A1, A3, A4, A5⟩ := hrel
            by_cases hn0 : n = 0
            · have hng : ¬ ((n : Int) > 0) := by omega
              have hx1 : 1 ≤ x := by
                rcases Nat.eq_zero_or_pos x with h | h
                · have := (A5.out.first h).1
                  have := HB2.out
                  omega
                · exact h
              have k0 := A3.out.nd_
              have f0 := A3.out.free 800
              have D3 : Aside (DcAt (wr.setCell ⟨G, 800, none⟩ (.int .i64 (x : Int))) G c1 x (dp - (ρ : Int)) ng t1) := A3.out.ndSet x
              have E3 : Aside (Below G _ (wr.setCell ⟨G, 800, none⟩ (.int .i64 (x : Int)))) := A4.out.setCell (p := ⟨G, 800, none⟩) (Nat.le_refl _) _
              have ct := trim_ _ G x c1 (dp - (ρ : Int)) ng t1 D3.out ⟨hx1, hx8, fun i hi => A5.out.lo i hi, fun i hi => A5.out.hi i hi, (A5.out.top hx1).1⟩
              have HTp := Lib.hid (A5.out.top hx1).2
              clear hn0 hor
              go_wp2_with ((with_reducible refine ct.mono ?_); rintro e' w' ⟨rfl, hD, hB⟩; have HD := Lib.hid hD; have HBB := Lib.hid hB; clear hD hB)
              go_end0
              obtain ⟨nd', d1, d2⟩ := HD.out
              exact ⟨rfl, ⟨c1, nd', ρ, t1, d1, d2, by omega, HTp.out⟩, E3.out.trans HBB.out⟩
            · obtain ⟨hjk, hdv, hjg⟩ := hor.resolve_left hn0
              obtain ⟨D, hD⟩ : ∃ D, D = n / P := ⟨_, rfl⟩
              obtain ⟨R, hR⟩ : ∃ R, R = n % P := ⟨_, rfl⟩
              have hn10 : n < 10 * P := A1.out
              have hP1 := HB2.out
              have hP2 := HB.out
              have hD9 : D < 10 := by rw [hD, Nat.div_lt_iff_lt_mul (by omega)]; exact hn10
              have hRP : R < P := by rw [hR]; exact Nat.mod_lt _ (by omega)
              have w1 : (n : Int) / 2 ^ k = (D : Int) := by rw [HPi.out, hD]; omega
              have w2 : bits .and .u64 (n : Int) (m : Int) = (R : Int) := by rw [HM.out n (by omega), hR]
              have w3 : IntKind.u64.wrap ((D : Int) + 48) % 256 = ((D + 48 : Nat) : Int) := by rw [u64w _ (by omega) (by omega)]; omega
              have w4 : IntKind.u64.wrap ((R : Int) * 10) = ((R * 10 : Nat) : Int) := by rw [u64w _ (by omega) (by omega)]; omega
              have hng : ((n : Int) > 0) := by omega
              have B1 : Aside (R * 10 < 10 * P) := by show R * 10 < 10 * P; omega
              have B0 : Aside (R * 10 = 0 ∨ (j + 1 ≤ k ∧ 2 ^ (j + 1) ∣ R * 10 ∧ k + 1 - (j + 1) ≤ k - j)) := by
                rw [hR, HP.out]
                rcases Nat.lt_or_ge j k with hlt | hge
                · exact .inr ⟨hlt, Dc.dvd_step k j n hjk hdv, by omega⟩
                · obtain rfl : j = k := by omega
                  exact .inl (Dc.dvd_end j n hdv)
              by_cases hx : x < 800
              · have hx2 : (x : Int) < 800 := by omega
                obtain ⟨v0, hv0⟩ : ∃ v, wr.cell? ⟨G, x, none⟩ = some v := ⟨_, A3.out.byte hx⟩
                have hf := A3.out.free x
                have B3 : Aside (DcAt (wr.setCell ⟨G, x, none⟩ (.int .u8 ((D + 48 : Nat) : Int))) G (upd c1 x (D + 48)) nd (dp - (ρ : Int)) ng t1) := A3.out.byteSet hx _
                have B4 : Aside (Below G _ (wr.setCell ⟨G, x, none⟩ (.int .u8 ((D + 48 : Nat) : Int)))) := A4.out.setCell (p := ⟨G, x, none⟩) (Nat.le_refl _) _
                have B5 : Aside (REnd c (upd c1 x (D + 48)) (x + 1) (R * 10) P ρ) := A5.out.set _ hP1 hD hn10 hc0.out
                clear hD hR hn10 hP1 hP2 hRP hD9 hor hn0 hdv
                go_wp2
                go_roundg (k - j)
                case measure => omega
                case rel => exact ⟨x + 1, R * 10, j + 1, _, t1, B0.out, by go_num, by go_num, by omega, B1.out, B3.out, B4.out, B5.out⟩
              · have hx2 : ¬ ((x : Int) < 800) := by omega
                have B5 : Aside (REnd c c1 x (R * 10) P ρ) := A5.out.keep _ (by omega)
                by_cases hD0 : D = 0
                · have hD1 : ¬ ((D : Int) > 0) := by omega
                  clear hD hR hn10 hP1 hP2 hRP hD9 hor hn0 hdv hD0
                  go_wp2
                  go_roundg (k - j)
                  case measure => omega
                  case rel => exact ⟨x, R * 10, j + 1, _, t1, B0.out, rfl, by go_num, by omega, B1.out, A3.out, A4.out, B5.out⟩
                · have hD1 : ((D : Int) > 0) := by omega
                  have k3 := A3.out.tr_
                  have hf := A3.out.free 803
                  have B3 : Aside (DcAt (wr.setCell ⟨G, 803, none⟩ (.bool true)) G c1 nd (dp - (ρ : Int)) ng true) := A3.out.trSet true
                  have B4 : Aside (Below G _ (wr.setCell ⟨G, 803, none⟩ (.bool true))) := A4.out.setCell (p := ⟨G, 803, none⟩) (Nat.le_refl _) _
                  clear hD hR hn10 hP1 hP2 hRP hD9 hor hn0 hdv hD0
                  go_wp2
                  go_roundg (k - j)
                  case measure => omega
                  case rel => exact ⟨x, R * 10, j + 1, _, true, B0.out, rfl, by go_num, by omega, B1.out, B3.out, B4.out, B5.out⟩
end LxC
end Go.Proofs.YtldglmehchkbeaaGreatDoor
