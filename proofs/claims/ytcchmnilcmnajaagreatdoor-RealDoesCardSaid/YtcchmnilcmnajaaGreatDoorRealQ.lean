import Derived.Test.YtcchmnilcmnajaaGreatDoorRealZ
import Derived.Test.YtcchmnilcmnajaaGreatDoorRealY
import Derived.IntWalk
import Derived.Deep.DeepCutAuto
namespace Go.Proofs.YtcchmnilcmnajaaGreatDoor
open Go.RowKit
set_option linter.unusedVariables false
namespace RN
open RM
theorem asm_a {l : Int} (h : 2047 ≤ l + 1 + 1075) : ((asm l 9007199254740992 : Nat) : Int) = 9218868437227405312 := by unfold asm; rw [if_pos rfl, if_pos h]; rfl
theorem asm_b {l : Int} (h : l + 1 + 1075 < 2047) (h0 : -1074 ≤ l) : ((asm l 9007199254740992 : Nat) : Int) = (l + 1 + 1075) * 4503599627370496 := by unfold asm; rw [if_pos rfl, if_neg (by omega)]; omega
theorem asm_c {l : Int} {q : Nat} (h : q < 4503599627370496) : ((asm l q : Nat) : Int) = q := by unfold asm; rw [if_neg (by omega), if_pos h]
theorem asm_d {l : Int} {q : Nat} (h : 4503599627370496 ≤ q) (h1 : q ≠ 9007199254740992) (h2 : 2047 ≤ l + 1075) : ((asm l q : Nat) : Int) = 9218868437227405312 := by unfold asm; rw [if_neg h1, if_neg (by omega), if_pos h2]; rfl
theorem asm_e {l : Int} {q : Nat} (h : 4503599627370496 ≤ q) (h1 : q ≠ 9007199254740992) (h2 : l + 1075 < 2047) (h0 : -1074 ≤ l) : ((asm l q : Nat) : Int) = (l + 1075) * 4503599627370496 + q - 4503599627370496 := by unfold asm; rw [if_neg h1, if_neg (by omega), if_neg (by omega)]; omega
/-- a quotient and what is left -/
def DivT (w : World) (Q R M : Nat) (e : Ending) (w' : World) : Prop := ∃ v, e = .returned (.tuple #[.int .i64 ((Q : Nat) : Int), v]) ∧ NumT w' v R M ∧ Below w.heap.size w w'
theorem divideT (w : World) (va vb : Value) (A B M : Nat) (ha : NumT w va A M) (hb : NumT w vb B M) (hM : M ≤ 5000) (hB : 0 < B) (hlt : A < B * 2 ^ 57) : Calls Tryz.prog 58 #[va, vb] w (DivT w (A / B) (A % B) (M + 4)) :=
  (divide w va vb A B M ha hb hM hB hlt).mono fun _ _ ⟨v, m, a1, a2, a3, a4, a5⟩ => ⟨v, a1, ⟨m, a2, a3, a4⟩, a5⟩
theorem q54 {X Y t : Nat} (h : X < Y * 2 ^ (52 + t)) (ht : t ≤ 2) (hy : 0 < Y) : X / Y < 2 ^ 54 ∧ X < Y * 2 ^ 57 := by
  have h2 : 2 ^ (52 + t) ≤ 2 ^ 54 := Nat.pow_le_pow_right (by omega) (by omega)
  have h3 := Nat.mul_le_mul_left Y h2
  have h4 : Y * 2 ^ 54 ≤ Y * 2 ^ 57 := Nat.mul_le_mul_left Y (by decide)
  constructor
  · rw [Nat.div_lt_iff_lt_mul hy, Nat.mul_comm (2 ^ 54)]
    exact Nat.lt_of_lt_of_le h h3
  · exact Nat.lt_of_lt_of_le h (Nat.le_trans h3 h4)
/-- what nearest leaves -/
def NearRes (w : World) (A B : Nat) (x : Int) (e : Ending) (w' : World) : Prop := ∃ r : Nat, e = .returned (.int .u64 (r : Int)) ∧ (A = 0 → r = 0) ∧ (0 < A → Near A B x r) ∧ Below w.heap.size w w'
theorem nearest0 (w : World) (va vb : Value) (B : Nat) (x : Int) (ha : NumT w va 0 400) : Calls Tryz.prog 32 #[va, vb, .int .i64 x] w (NearRes w 0 B x) := by
  obtain ⟨n, h1, h2, _⟩ := ha
  have hn : n = 0 := by
    rcases h2 with c | c
    · exact c
    · have := P_pos (n - 1); omega
  subst hn
  obtain ⟨pa, ca, rfl, _, _⟩ := h1.open_
  go_enter Tryz.func32, Tryz.ntmps32
  go_wp2
  go_ret
  exact ⟨0, rfl, fun _ => rfl, fun h => absurd h (by omega), Below.refl _ _⟩
set_option maxHeartbeats 8000000 in
theorem nearest1 (w : World) (va vb : Value) (A B : Nat) (x : Int) (ha : NumT w va A 400) (hb : NumT w vb B 400) (hA : 0 < A) (hB : 0 < B) (hx1 : -5000 ≤ x) (hx2 : x ≤ 5000) :
    Calls Tryz.prog 32 #[va, vb, .int .i64 x] w (NearRes w A B x) := by
  have Ha := Lib.hid ha
  have Hb := Lib.hid hb
  have HA := Lib.hid hA
  have HB := Lib.hid hB
  obtain ⟨n, h1, h2, h3⟩ := ha
  obtain ⟨pa, ca, rfl, l2, l3⟩ := h1.open_
  have hn : n ≠ 0 := by
    rintro rfl
    have := h1.1; simp at this; omega
  have hnb : ((n : Int) == 0) = false := by rw [beq_eq_false_iff_ne]; omega
  have sa := Lib.hid (sizeT w _ A 400 Ha.out (by omega))
  have sb := Lib.hid (sizeT w _ B 400 Hb.out (by omega))
  clear h1 h2 hA hB hb hn
  go_enter Tryz.func32, Tryz.ntmps32
  go_wp2_with (go_at_call 57; (first
    | (with_reducible refine sa.out.mono ?_; rintro e w' ⟨⟨na, rfl, ba, la⟩, rfl⟩; have Ba := Lib.hid ba; clear ba)
    | (with_reducible refine sb.out.mono ?_; rintro e w' ⟨⟨nb, rfl, bb, lb⟩, rfl⟩; have Bb := Lib.hid bb; clear bb)))
  go_loopw [7, 8, 9, 10, 11, 12] (fun up q lf xv yv ag wr => ∃ (u : Int) (t : Nat), up = .int .i64 u ∧ 1 ≤ t ∧ t ≤ 2 ∧ -7000 + t ≤ u ∧ u ≤ 7000 ∧ Hid (Inv A B u t) ∧ Below w.heap.size w wr) (fun up _ _ _ _ _ _ => (intOf up + 8000).toNat)
  case atStart =>
    have h1 := Ba.out.2 HA.out
    have h2 := Bb.out.2 HB.out
    exact ⟨53 - (na : Int) + nb, 2, rfl, by omega, by omega, by omega, by omega, Lib.hid (Inv.first h1.1 h1.2.1 h1.2.2 h2.1 h2.2.1 h2.2.2), Below.refl _ _⟩
  case round =>
    obtain ⟨u, t, rfl, t1, t2, u1, u2, hinv, hbel⟩ := hrel
    go_upto_if 25 with fail
    go_cut [7] (fun s7 wx => wx = wr ∧ ∃ v : Int, s7 = .int .i64 v ∧ v ≤ u ∧ -1074 ≤ x - v ∧ (v = u ∨ x - v = -1074) ∧ Hid (sx A v < sy B v * 2 ^ (52 + t) ∧ (4503599627370496 ≤ sx A v / sy B v ∨ x - v = -1074)))
    case first =>
      by_cases c : x - u < -1074
      · have H := Lib.hid (show sx A (x + 1074) < sy B (x + 1074) * 2 ^ (52 + t) ∧ (4503599627370496 ≤ sx A (x + 1074) / sy B (x + 1074) ∨ x - (x + 1074) = -1074) from ⟨mono' HB.out hinv.out.1 (by omega), .inr (by omega)⟩)
        go_wp2
        go_meet
        exact ⟨rfl, x + 1074, rfl, by omega, by omega, .inr (by omega), H⟩
      · have H := Lib.hid (show sx A u < sy B u * 2 ^ (52 + t) ∧ (4503599627370496 ≤ sx A u / sy B u ∨ x - u = -1074) from ⟨hinv.out.1, .inl hinv.out.2⟩)
        go_wp2
        go_meet
        exact ⟨rfl, u, rfl, by omega, by omega, .inl rfl, H⟩
    case rest =>
      obtain ⟨rfl, v, rfl, hvu, hv1, hvd, hcl⟩ := hcut
      go_upto_if 31 with fail
      have vlo : -7000 ≤ v := by omega
      go_cut [10, 11] (fun s10 s11 wx => Below w.heap.size w wx ∧ Hid (NumT wx s10 (sx A v) 900) ∧ Hid (NumT wx s11 (sy B v) 900))
      case first =>
        by_cases c : 0 < v
        · have e1 : sx A v = A * 2 ^ v.toNat := rfl
          have e2 : sy B v = B := by unfold sy; rw [show (-v).toNat = 0 by omega, Nat.pow_zero, Nat.mul_one]
          have tx := twiceT wc _ A 400 v.toNat (Ha.out.below hbel (Nat.le_refl _)) (by omega) (by omega)
          rw [show ((v.toNat : Nat) : Int) = v by omega] at tx
          have Tx := Lib.hid tx
          have E1 := Lib.hid e1
          have E2 := Lib.hid e2
          clear tx e1 e2
          go_wp2_with (go_at_call 54; refine Tx.out.mono ?_; rintro e w1 ⟨xv, rfl, hx, hb1⟩; have Hx := Lib.hid hx; clear hx)
          go_meet
          refine ⟨hbel.trans (hb1.mono hbel.size), ?_, ?_⟩
          · rw [E1.out]; obtain ⟨k, k1, k2, k3⟩ := Hx.out; exact Lib.hid ⟨k, k1, k2, by omega⟩
          · rw [E2.out]; obtain ⟨k, k1, k2, k3⟩ := (Hb.out.below hbel (Nat.le_refl _)).below hb1 (Nat.le_refl _); exact Lib.hid ⟨k, k1, k2, by omega⟩
        · have e1 : sx A v = A := by unfold sx; rw [show v.toNat = 0 by omega, Nat.pow_zero, Nat.mul_one]
          have e2 : sy B v = B * 2 ^ (-v).toNat := rfl
          have ty : ∀ z : Int, z = -v → Calls Tryz.prog 54 #[vb, .int .i64 z] wc (ResT wc (B * 2 ^ (-v).toNat) (400 + 1 + (-v).toNat / 16)) := fun z hz => by
            have := twiceT wc _ B 400 (-v).toNat (Hb.out.below hbel (Nat.le_refl _)) (by omega) (by omega)
            rw [show (((-v).toNat : Nat) : Int) = z by omega] at this
            exact this
          have Ty := Lib.hid ty
          have E1 := Lib.hid e1
          have E2 := Lib.hid e2
          clear ty e1 e2
          go_wp2_with (go_at_call 54; refine (Ty.out _ (by omega)).mono ?_; rintro e w1 ⟨yv, rfl, hy, hb1⟩; have Hy := Lib.hid hy; clear hy)
          go_meet
          refine ⟨hbel.trans (hb1.mono hbel.size), ?_, ?_⟩
          · rw [E1.out]; obtain ⟨k, k1, k2, k3⟩ := (Ha.out.below hbel (Nat.le_refl _)).below hb1 (Nat.le_refl _); exact Lib.hid ⟨k, k1, k2, by omega⟩
          · rw [E2.out]; obtain ⟨k, k1, k2, k3⟩ := Hy.out; exact Lib.hid ⟨k, k1, k2, by omega⟩
      case rest =>
        obtain ⟨hbel2, hX, hY⟩ := hcut
        have hyp := sy_pos HB.out v
        obtain ⟨hq54, hlt57⟩ := q54 hcl.out.1 t2 hyp
        have dv := Lib.hid (divideT wc _ _ (sx A v) (sy B v) 900 hX.out hY.out (by omega) hyp hlt57)
        have hrnd : rnd (sx A v) (sy B v) = sx A v / sy B v + (up1 (sx A v) (sy B v)).toNat := rfl
        have hnear : sx A v / sy B v < 9007199254740992 → Near A B x (asm (x - v) (rnd (sx A v) (sy B v))) := fun h => near_asm HB.out hv1 h hcl.out.2
        have hpred : 9007199254740992 ≤ sx A v / sy B v → t = 2 ∧ Inv A B (v - 1) 1 := fun h => by
          have h1 := hcl.out.1
          have ht2 : t = 2 := by
            rcases (show t = 1 ∨ t = 2 by omega) with rfl | rfl
            · rw [Nat.mul_comm] at h1
              have := (Nat.div_lt_iff_lt_mul hyp).2 h1
              omega
            · rfl
          subst ht2
          exact ⟨rfl, Inv.pred HB.out h1 h⟩
        have hup : up1 (sx A v) (sy B v) = (decide (sy B v < 2 * (sx A v % sy B v)) || (decide (sy B v = 2 * (sx A v % sy B v)) && decide (sx A v / sy B v % 2 = 1))) := rfl
        have Hrnd := Lib.hid hrnd
        have Hnear := Lib.hid hnear
        have Hpred := Lib.hid hpred
        have Hup := Lib.hid hup
        have Hyp := Lib.hid hyp
        clear hrnd hnear hpred hup hlt57 hyp hX
        generalize sx A v = X at *
        generalize sy B v = Y at *
        generalize hQ : X / Y = Q at *
        generalize hR : X % Y = R at *
        have HQ := Lib.hid hQ
        have HR := Lib.hid hR
        clear hQ hR
        rcases Nat.lt_or_ge Q 9007199254740992 with hq | hq
        · have hqd : decide ((Q : Int) < 9007199254740992) = true := decide_eq_true (by omega)
          have hn := Hnear.out hq
          have ctw := fun (w3 : World) (lv : Value) (h : NumT w3 lv R 904) => twiceT w3 lv R 904 1 h (by omega) (by omega)
          have Ctw := Lib.hid ctw
          have ccm := fun (w4 : World) (tv : Value) (h : NumT w4 tv (R * 2 ^ 1) 905) (hb : Below wc.heap.size wc w4) => compareT w4 tv u11 (R * 2 ^ 1) Y 905 h (by obtain ⟨k, k1, k2, k3⟩ := hY.out.below hb (Nat.le_refl _); exact ⟨k, k1, k2, by omega⟩) (by omega)
          have Ccm := Lib.hid ccm
          clear ctw ccm
          -- how the left over stands to the half
          obtain ⟨c, b, hc, hb, hcb⟩ : ∃ (c : Int) (b : Bool), cmpI (R * 2 ^ 1) Y = c ∧ up1 X Y = b ∧ ((c = 1 ∧ b = true) ∨ (c = 0 ∧ Q % 2 = 1 ∧ b = true) ∨ (c = 0 ∧ Q % 2 = 0 ∧ b = false) ∨ (c = -1 ∧ b = false)) := by
            refine ⟨_, _, rfl, rfl, ?_⟩
            rw [Hup.out, Nat.pow_one]
            unfold cmpI
            rcases Nat.lt_trichotomy (R * 2) Y with h | h | h
            · right; right; right
              rw [if_pos h, decide_eq_false (by omega), decide_eq_false (by omega)]; exact ⟨rfl, rfl⟩
            · rw [if_neg (by omega), if_pos h, decide_eq_false (by omega), decide_eq_true (by omega)]
              rcases (show Q % 2 = 1 ∨ Q % 2 = 0 by omega) with h2 | h2
              · right; left; rw [h2]; exact ⟨rfl, rfl, rfl⟩
              · right; right; left; rw [h2]; exact ⟨rfl, rfl, rfl⟩
            · left
              rw [if_neg (by omega), if_neg (by omega), decide_eq_true (by omega)]; exact ⟨rfl, rfl⟩
          have hrq : rnd X Y = Q + b.toNat := by rw [Hrnd.out, hb]
          rw [hrq] at hn
          have Hn := Lib.hid hn
          have Hc := Lib.hid hc
          clear hn hc hb hrq hq54
          have Hq2 := Lib.hid hq
          have hcb2 : (c = 1 ∧ b = true) ∨ (c = 0 ∧ ((Q : Int) % 2 == 1) = true ∧ b = true) ∨ (c = 0 ∧ ((Q : Int) % 2 == 1) = false ∧ b = false) ∨ (c = -1 ∧ b = false) := by
            rcases hcb with h | ⟨h1, h2, h3⟩ | ⟨h1, h2, h3⟩ | h
            · exact .inl h
            · exact .inr (.inl ⟨h1, by rw [beq_iff_eq]; omega, h3⟩)
            · exact .inr (.inr (.inl ⟨h1, by rw [beq_eq_false_iff_ne]; omega, h3⟩))
            · exact .inr (.inr (.inr h))
          clear hcb
          rcases hcb2 with ⟨rfl, rfl⟩ | ⟨rfl, hodd, rfl⟩ | ⟨rfl, hev, rfl⟩ | ⟨rfl, rfl⟩
          · rcases (show Q = 9007199254740991 ∨ Q < 9007199254740991 by omega) with h | h
            · have hn2 : Near A B x (asm (x - v) 9007199254740992) := (show Q + true.toNat = 9007199254740992 by simp [h]) ▸ Hn.out
              have Hn2 := Lib.hid hn2
              clear hn2
              subst h
              rcases (show 2047 ≤ x - v + 1 + 1075 ∨ x - v + 1 + 1075 < 2047 by omega) with h2 | h2
              · have E := Lib.hid (asm_a h2)
                (go_wp2_with (first
              | (go_at_call 58; refine dv.out.mono ?_; rintro e w3 ⟨lv, rfl, hl, hb3⟩; have Hl := Lib.hid hl; clear hl)
              | (go_at_call 54; refine (Ctw.out _ _ Hl.out).mono ?_; rintro e w4 ⟨tv, rfl, ht4, hb4⟩; have Ht := Lib.hid ht4; clear ht4)
              | (go_at_call 55; refine (Ccm.out _ _ Ht.out (hb3.trans (hb4.mono hb3.size))).mono ?_; rw [Hc.out]; rintro e w5 ⟨rfl, rfl⟩)))
                go_ret
                exact ⟨_, congrArg (fun z => Ending.returned (Value.int .u64 z)) (E.out).symm, fun h => absurd (h ▸ HA.out) (Nat.lt_irrefl 0), fun _ => Hn2.out, hbel2.trans ((hb3.trans (hb4.mono hb3.size)).mono hbel2.size)⟩
              · have E := Lib.hid (asm_b h2 hv1)
                (go_wp2_with (first
              | (go_at_call 58; refine dv.out.mono ?_; rintro e w3 ⟨lv, rfl, hl, hb3⟩; have Hl := Lib.hid hl; clear hl)
              | (go_at_call 54; refine (Ctw.out _ _ Hl.out).mono ?_; rintro e w4 ⟨tv, rfl, ht4, hb4⟩; have Ht := Lib.hid ht4; clear ht4)
              | (go_at_call 55; refine (Ccm.out _ _ Ht.out (hb3.trans (hb4.mono hb3.size))).mono ?_; rw [Hc.out]; rintro e w5 ⟨rfl, rfl⟩)))
                go_ret
                exact ⟨_, congrArg (fun z => Ending.returned (Value.int .u64 z)) (E.out).symm, fun h => absurd (h ▸ HA.out) (Nat.lt_irrefl 0), fun _ => Hn2.out, hbel2.trans ((hb3.trans (hb4.mono hb3.size)).mono hbel2.size)⟩
            · obtain ⟨r, hr, hrn⟩ : ∃ r : Nat, (Q : Int) + 1 = r ∧ r = Q + 1 := ⟨Q + 1, by omega, rfl⟩
              have hn2 : Near A B x (asm (x - v) r) := (show Q + true.toNat = r by rw [hrn]; rfl) ▸ Hn.out
              have Hn2 := Lib.hid hn2
              clear hn2
              have W0 : IntKind.i64.wrap (r : Int) = r := by rw [IntKind.wrap_i64]; omega
              have W1 : IntKind.u64.wrap (r : Int) = r := by rw [IntKind.wrap_u64]; omega
              have d2 : ((r : Int) == 9007199254740992) = false := by rw [beq_eq_false_iff_ne]; omega
              rcases (show r < 4503599627370496 ∨ 4503599627370496 ≤ r by omega) with h3 | h3
              · have d1 : decide ((r : Int) < 4503599627370496) = true := decide_eq_true (by omega)
                have E : Hid (((asm (x - v) r : Nat) : Int) = r) := Lib.hid (asm_c h3)
                clear h3 hrn h hq
                (go_wp2_with (first
              | (go_at_call 58; refine dv.out.mono ?_; rintro e w3 ⟨lv, rfl, hl, hb3⟩; have Hl := Lib.hid hl; clear hl)
              | (go_at_call 54; refine (Ctw.out _ _ Hl.out).mono ?_; rintro e w4 ⟨tv, rfl, ht4, hb4⟩; have Ht := Lib.hid ht4; clear ht4)
              | (go_at_call 55; refine (Ccm.out _ _ Ht.out (hb3.trans (hb4.mono hb3.size))).mono ?_; rw [Hc.out]; rintro e w5 ⟨rfl, rfl⟩)))
                go_ret
                exact ⟨_, congrArg (fun z => Ending.returned (Value.int .u64 z)) (E.out).symm, fun h => absurd (h ▸ HA.out) (Nat.lt_irrefl 0), fun _ => Hn2.out, hbel2.trans ((hb3.trans (hb4.mono hb3.size)).mono hbel2.size)⟩
              · have d1 : decide ((r : Int) < 4503599627370496) = false := decide_eq_false (by omega)
                have hne : r ≠ 9007199254740992 := by omega
                rcases (show 2047 ≤ x - v + 1075 ∨ x - v + 1075 < 2047 by omega) with h2 | h2
                · have E := Lib.hid (asm_d h3 hne h2)
                  clear h3 hne hrn h hq
                  (go_wp2_with (first
              | (go_at_call 58; refine dv.out.mono ?_; rintro e w3 ⟨lv, rfl, hl, hb3⟩; have Hl := Lib.hid hl; clear hl)
              | (go_at_call 54; refine (Ctw.out _ _ Hl.out).mono ?_; rintro e w4 ⟨tv, rfl, ht4, hb4⟩; have Ht := Lib.hid ht4; clear ht4)
              | (go_at_call 55; refine (Ccm.out _ _ Ht.out (hb3.trans (hb4.mono hb3.size))).mono ?_; rw [Hc.out]; rintro e w5 ⟨rfl, rfl⟩)))
                  go_ret
                  exact ⟨_, congrArg (fun z => Ending.returned (Value.int .u64 z)) (E.out).symm, fun h => absurd (h ▸ HA.out) (Nat.lt_irrefl 0), fun _ => Hn2.out, hbel2.trans ((hb3.trans (hb4.mono hb3.size)).mono hbel2.size)⟩
                · have e0 := asm_e h3 hne h2 hv1
                  obtain ⟨k, hk⟩ : ∃ k : Int, x - v + 1075 = k := ⟨_, rfl⟩
                  obtain ⟨m, hm⟩ : ∃ m : Int, k * 4503599627370496 = m := ⟨_, rfl⟩
                  obtain ⟨z, hz⟩ : ∃ z : Int, m + (r : Int) = z := ⟨_, rfl⟩
                  have W5 : IntKind.u64.wrap k = k := by rw [IntKind.wrap_u64]; omega
                  have W6 : IntKind.i64.wrap k = k := by rw [IntKind.wrap_i64]; omega
                  have W2 : IntKind.u64.wrap m = m := by rw [IntKind.wrap_u64]; omega
                  have K : decide (2047 ≤ k) = false := decide_eq_false (by omega)
                  obtain ⟨y, hy⟩ : ∃ y : Int, z - 4503599627370496 = y := ⟨_, rfl⟩
                  have W3 : IntKind.u64.wrap z = z := by rw [IntKind.wrap_u64]; omega
                  have W4 : IntKind.u64.wrap y = y := by rw [IntKind.wrap_u64]; omega
                  have E : Hid (((asm (x - v) r : Nat) : Int) = y) := Lib.hid (by omega)
                  clear e0
                  clear h3 hne h2 hrn h hq
                  (go_wp2_with (first
              | (go_at_call 58; refine dv.out.mono ?_; rintro e w3 ⟨lv, rfl, hl, hb3⟩; have Hl := Lib.hid hl; clear hl)
              | (go_at_call 54; refine (Ctw.out _ _ Hl.out).mono ?_; rintro e w4 ⟨tv, rfl, ht4, hb4⟩; have Ht := Lib.hid ht4; clear ht4)
              | (go_at_call 55; refine (Ccm.out _ _ Ht.out (hb3.trans (hb4.mono hb3.size))).mono ?_; rw [Hc.out]; rintro e w5 ⟨rfl, rfl⟩)))
                  go_ret
                  exact ⟨_, congrArg (fun z => Ending.returned (Value.int .u64 z)) (E.out).symm, fun h => absurd (h ▸ HA.out) (Nat.lt_irrefl 0), fun _ => Hn2.out, hbel2.trans ((hb3.trans (hb4.mono hb3.size)).mono hbel2.size)⟩
          · rcases (show Q = 9007199254740991 ∨ Q < 9007199254740991 by omega) with h | h
            · have hn2 : Near A B x (asm (x - v) 9007199254740992) := (show Q + true.toNat = 9007199254740992 by simp [h]) ▸ Hn.out
              have Hn2 := Lib.hid hn2
              clear hn2
              subst h
              rcases (show 2047 ≤ x - v + 1 + 1075 ∨ x - v + 1 + 1075 < 2047 by omega) with h2 | h2
              · have E := Lib.hid (asm_a h2)
                (go_wp2_with (first
              | (go_at_call 58; refine dv.out.mono ?_; rintro e w3 ⟨lv, rfl, hl, hb3⟩; have Hl := Lib.hid hl; clear hl)
              | (go_at_call 54; refine (Ctw.out _ _ Hl.out).mono ?_; rintro e w4 ⟨tv, rfl, ht4, hb4⟩; have Ht := Lib.hid ht4; clear ht4)
              | (go_at_call 55; refine (Ccm.out _ _ Ht.out (hb3.trans (hb4.mono hb3.size))).mono ?_; rw [Hc.out]; rintro e w5 ⟨rfl, rfl⟩)))
                go_ret
                exact ⟨_, congrArg (fun z => Ending.returned (Value.int .u64 z)) (E.out).symm, fun h => absurd (h ▸ HA.out) (Nat.lt_irrefl 0), fun _ => Hn2.out, hbel2.trans ((hb3.trans (hb4.mono hb3.size)).mono hbel2.size)⟩
              · have E := Lib.hid (asm_b h2 hv1)
                (go_wp2_with (first
              | (go_at_call 58; refine dv.out.mono ?_; rintro e w3 ⟨lv, rfl, hl, hb3⟩; have Hl := Lib.hid hl; clear hl)
              | (go_at_call 54; refine (Ctw.out _ _ Hl.out).mono ?_; rintro e w4 ⟨tv, rfl, ht4, hb4⟩; have Ht := Lib.hid ht4; clear ht4)
              | (go_at_call 55; refine (Ccm.out _ _ Ht.out (hb3.trans (hb4.mono hb3.size))).mono ?_; rw [Hc.out]; rintro e w5 ⟨rfl, rfl⟩)))
                go_ret
                exact ⟨_, congrArg (fun z => Ending.returned (Value.int .u64 z)) (E.out).symm, fun h => absurd (h ▸ HA.out) (Nat.lt_irrefl 0), fun _ => Hn2.out, hbel2.trans ((hb3.trans (hb4.mono hb3.size)).mono hbel2.size)⟩
            · obtain ⟨r, hr, hrn⟩ : ∃ r : Nat, (Q : Int) + 1 = r ∧ r = Q + 1 := ⟨Q + 1, by omega, rfl⟩
              have hn2 : Near A B x (asm (x - v) r) := (show Q + true.toNat = r by rw [hrn]; rfl) ▸ Hn.out
              have Hn2 := Lib.hid hn2
              clear hn2
              have W0 : IntKind.i64.wrap (r : Int) = r := by rw [IntKind.wrap_i64]; omega
              have W1 : IntKind.u64.wrap (r : Int) = r := by rw [IntKind.wrap_u64]; omega
              have d2 : ((r : Int) == 9007199254740992) = false := by rw [beq_eq_false_iff_ne]; omega
              rcases (show r < 4503599627370496 ∨ 4503599627370496 ≤ r by omega) with h3 | h3
              · have d1 : decide ((r : Int) < 4503599627370496) = true := decide_eq_true (by omega)
                have E : Hid (((asm (x - v) r : Nat) : Int) = r) := Lib.hid (asm_c h3)
                clear h3 hrn h hq
                (go_wp2_with (first
              | (go_at_call 58; refine dv.out.mono ?_; rintro e w3 ⟨lv, rfl, hl, hb3⟩; have Hl := Lib.hid hl; clear hl)
              | (go_at_call 54; refine (Ctw.out _ _ Hl.out).mono ?_; rintro e w4 ⟨tv, rfl, ht4, hb4⟩; have Ht := Lib.hid ht4; clear ht4)
              | (go_at_call 55; refine (Ccm.out _ _ Ht.out (hb3.trans (hb4.mono hb3.size))).mono ?_; rw [Hc.out]; rintro e w5 ⟨rfl, rfl⟩)))
                go_ret
                exact ⟨_, congrArg (fun z => Ending.returned (Value.int .u64 z)) (E.out).symm, fun h => absurd (h ▸ HA.out) (Nat.lt_irrefl 0), fun _ => Hn2.out, hbel2.trans ((hb3.trans (hb4.mono hb3.size)).mono hbel2.size)⟩
              · have d1 : decide ((r : Int) < 4503599627370496) = false := decide_eq_false (by omega)
                have hne : r ≠ 9007199254740992 := by omega
                rcases (show 2047 ≤ x - v + 1075 ∨ x - v + 1075 < 2047 by omega) with h2 | h2
                · have E := Lib.hid (asm_d h3 hne h2)
                  clear h3 hne hrn h hq
                  (go_wp2_with (first
              | (go_at_call 58; refine dv.out.mono ?_; rintro e w3 ⟨lv, rfl, hl, hb3⟩; have Hl := Lib.hid hl; clear hl)
              | (go_at_call 54; refine (Ctw.out _ _ Hl.out).mono ?_; rintro e w4 ⟨tv, rfl, ht4, hb4⟩; have Ht := Lib.hid ht4; clear ht4)
              | (go_at_call 55; refine (Ccm.out _ _ Ht.out (hb3.trans (hb4.mono hb3.size))).mono ?_; rw [Hc.out]; rintro e w5 ⟨rfl, rfl⟩)))
                  go_ret
                  exact ⟨_, congrArg (fun z => Ending.returned (Value.int .u64 z)) (E.out).symm, fun h => absurd (h ▸ HA.out) (Nat.lt_irrefl 0), fun _ => Hn2.out, hbel2.trans ((hb3.trans (hb4.mono hb3.size)).mono hbel2.size)⟩
                · have e0 := asm_e h3 hne h2 hv1
                  obtain ⟨k, hk⟩ : ∃ k : Int, x - v + 1075 = k := ⟨_, rfl⟩
                  obtain ⟨m, hm⟩ : ∃ m : Int, k * 4503599627370496 = m := ⟨_, rfl⟩
                  obtain ⟨z, hz⟩ : ∃ z : Int, m + (r : Int) = z := ⟨_, rfl⟩
                  have W5 : IntKind.u64.wrap k = k := by rw [IntKind.wrap_u64]; omega
                  have W6 : IntKind.i64.wrap k = k := by rw [IntKind.wrap_i64]; omega
                  have W2 : IntKind.u64.wrap m = m := by rw [IntKind.wrap_u64]; omega
                  have K : decide (2047 ≤ k) = false := decide_eq_false (by omega)
                  obtain ⟨y, hy⟩ : ∃ y : Int, z - 4503599627370496 = y := ⟨_, rfl⟩
                  have W3 : IntKind.u64.wrap z = z := by rw [IntKind.wrap_u64]; omega
                  have W4 : IntKind.u64.wrap y = y := by rw [IntKind.wrap_u64]; omega
                  have E : Hid (((asm (x - v) r : Nat) : Int) = y) := Lib.hid (by omega)
                  clear e0
                  clear h3 hne h2 hrn h hq
                  (go_wp2_with (first
              | (go_at_call 58; refine dv.out.mono ?_; rintro e w3 ⟨lv, rfl, hl, hb3⟩; have Hl := Lib.hid hl; clear hl)
              | (go_at_call 54; refine (Ctw.out _ _ Hl.out).mono ?_; rintro e w4 ⟨tv, rfl, ht4, hb4⟩; have Ht := Lib.hid ht4; clear ht4)
              | (go_at_call 55; refine (Ccm.out _ _ Ht.out (hb3.trans (hb4.mono hb3.size))).mono ?_; rw [Hc.out]; rintro e w5 ⟨rfl, rfl⟩)))
                  go_ret
                  exact ⟨_, congrArg (fun z => Ending.returned (Value.int .u64 z)) (E.out).symm, fun h => absurd (h ▸ HA.out) (Nat.lt_irrefl 0), fun _ => Hn2.out, hbel2.trans ((hb3.trans (hb4.mono hb3.size)).mono hbel2.size)⟩
          · have hn2 : Near A B x (asm (x - v) Q) := Hn.out
            have Hn2 := Lib.hid hn2
            clear hn2
            have W1 : IntKind.u64.wrap (Q : Int) = Q := by rw [IntKind.wrap_u64]; omega
            have d2 : ((Q : Int) == 9007199254740992) = false := by rw [beq_eq_false_iff_ne]; omega
            rcases (show Q < 4503599627370496 ∨ 4503599627370496 ≤ Q by omega) with h3 | h3
            · have d1 : decide ((Q : Int) < 4503599627370496) = true := decide_eq_true (by omega)
              have E : Hid (((asm (x - v) Q : Nat) : Int) = Q) := Lib.hid (asm_c h3)
              clear h3 hq
              (go_wp2_with (first
              | (go_at_call 58; refine dv.out.mono ?_; rintro e w3 ⟨lv, rfl, hl, hb3⟩; have Hl := Lib.hid hl; clear hl)
              | (go_at_call 54; refine (Ctw.out _ _ Hl.out).mono ?_; rintro e w4 ⟨tv, rfl, ht4, hb4⟩; have Ht := Lib.hid ht4; clear ht4)
              | (go_at_call 55; refine (Ccm.out _ _ Ht.out (hb3.trans (hb4.mono hb3.size))).mono ?_; rw [Hc.out]; rintro e w5 ⟨rfl, rfl⟩)))
              go_ret
              exact ⟨_, congrArg (fun z => Ending.returned (Value.int .u64 z)) (E.out).symm, fun h => absurd (h ▸ HA.out) (Nat.lt_irrefl 0), fun _ => Hn2.out, hbel2.trans ((hb3.trans (hb4.mono hb3.size)).mono hbel2.size)⟩
            · have d1 : decide ((Q : Int) < 4503599627370496) = false := decide_eq_false (by omega)
              have hne : Q ≠ 9007199254740992 := by omega
              rcases (show 2047 ≤ x - v + 1075 ∨ x - v + 1075 < 2047 by omega) with h2 | h2
              · have E := Lib.hid (asm_d h3 hne h2)
                clear h3 hne hq
                (go_wp2_with (first
              | (go_at_call 58; refine dv.out.mono ?_; rintro e w3 ⟨lv, rfl, hl, hb3⟩; have Hl := Lib.hid hl; clear hl)
              | (go_at_call 54; refine (Ctw.out _ _ Hl.out).mono ?_; rintro e w4 ⟨tv, rfl, ht4, hb4⟩; have Ht := Lib.hid ht4; clear ht4)
              | (go_at_call 55; refine (Ccm.out _ _ Ht.out (hb3.trans (hb4.mono hb3.size))).mono ?_; rw [Hc.out]; rintro e w5 ⟨rfl, rfl⟩)))
                go_ret
                exact ⟨_, congrArg (fun z => Ending.returned (Value.int .u64 z)) (E.out).symm, fun h => absurd (h ▸ HA.out) (Nat.lt_irrefl 0), fun _ => Hn2.out, hbel2.trans ((hb3.trans (hb4.mono hb3.size)).mono hbel2.size)⟩
              · have e0 := asm_e h3 hne h2 hv1
                obtain ⟨k, hk⟩ : ∃ k : Int, x - v + 1075 = k := ⟨_, rfl⟩
                obtain ⟨m, hm⟩ : ∃ m : Int, k * 4503599627370496 = m := ⟨_, rfl⟩
                obtain ⟨z, hz⟩ : ∃ z : Int, m + (Q : Int) = z := ⟨_, rfl⟩
                have W5 : IntKind.u64.wrap k = k := by rw [IntKind.wrap_u64]; omega
                have W6 : IntKind.i64.wrap k = k := by rw [IntKind.wrap_i64]; omega
                have W2 : IntKind.u64.wrap m = m := by rw [IntKind.wrap_u64]; omega
                have K : decide (2047 ≤ k) = false := decide_eq_false (by omega)
                obtain ⟨y, hy⟩ : ∃ y : Int, z - 4503599627370496 = y := ⟨_, rfl⟩
                have W3 : IntKind.u64.wrap z = z := by rw [IntKind.wrap_u64]; omega
                have W4 : IntKind.u64.wrap y = y := by rw [IntKind.wrap_u64]; omega
                have E : Hid (((asm (x - v) Q : Nat) : Int) = y) := Lib.hid (by omega)
                clear e0
                clear h3 hne h2 hq
                (go_wp2_with (first
              | (go_at_call 58; refine dv.out.mono ?_; rintro e w3 ⟨lv, rfl, hl, hb3⟩; have Hl := Lib.hid hl; clear hl)
              | (go_at_call 54; refine (Ctw.out _ _ Hl.out).mono ?_; rintro e w4 ⟨tv, rfl, ht4, hb4⟩; have Ht := Lib.hid ht4; clear ht4)
              | (go_at_call 55; refine (Ccm.out _ _ Ht.out (hb3.trans (hb4.mono hb3.size))).mono ?_; rw [Hc.out]; rintro e w5 ⟨rfl, rfl⟩)))
                go_ret
                exact ⟨_, congrArg (fun z => Ending.returned (Value.int .u64 z)) (E.out).symm, fun h => absurd (h ▸ HA.out) (Nat.lt_irrefl 0), fun _ => Hn2.out, hbel2.trans ((hb3.trans (hb4.mono hb3.size)).mono hbel2.size)⟩
          · have hn2 : Near A B x (asm (x - v) Q) := Hn.out
            have Hn2 := Lib.hid hn2
            clear hn2
            have W1 : IntKind.u64.wrap (Q : Int) = Q := by rw [IntKind.wrap_u64]; omega
            have d2 : ((Q : Int) == 9007199254740992) = false := by rw [beq_eq_false_iff_ne]; omega
            rcases (show Q < 4503599627370496 ∨ 4503599627370496 ≤ Q by omega) with h3 | h3
            · have d1 : decide ((Q : Int) < 4503599627370496) = true := decide_eq_true (by omega)
              have E : Hid (((asm (x - v) Q : Nat) : Int) = Q) := Lib.hid (asm_c h3)
              clear h3 hq
              (go_wp2_with (first
              | (go_at_call 58; refine dv.out.mono ?_; rintro e w3 ⟨lv, rfl, hl, hb3⟩; have Hl := Lib.hid hl; clear hl)
              | (go_at_call 54; refine (Ctw.out _ _ Hl.out).mono ?_; rintro e w4 ⟨tv, rfl, ht4, hb4⟩; have Ht := Lib.hid ht4; clear ht4)
              | (go_at_call 55; refine (Ccm.out _ _ Ht.out (hb3.trans (hb4.mono hb3.size))).mono ?_; rw [Hc.out]; rintro e w5 ⟨rfl, rfl⟩)))
              go_ret
              exact ⟨_, congrArg (fun z => Ending.returned (Value.int .u64 z)) (E.out).symm, fun h => absurd (h ▸ HA.out) (Nat.lt_irrefl 0), fun _ => Hn2.out, hbel2.trans ((hb3.trans (hb4.mono hb3.size)).mono hbel2.size)⟩
            · have d1 : decide ((Q : Int) < 4503599627370496) = false := decide_eq_false (by omega)
              have hne : Q ≠ 9007199254740992 := by omega
              rcases (show 2047 ≤ x - v + 1075 ∨ x - v + 1075 < 2047 by omega) with h2 | h2
              · have E := Lib.hid (asm_d h3 hne h2)
                clear h3 hne hq
                (go_wp2_with (first
              | (go_at_call 58; refine dv.out.mono ?_; rintro e w3 ⟨lv, rfl, hl, hb3⟩; have Hl := Lib.hid hl; clear hl)
              | (go_at_call 54; refine (Ctw.out _ _ Hl.out).mono ?_; rintro e w4 ⟨tv, rfl, ht4, hb4⟩; have Ht := Lib.hid ht4; clear ht4)
              | (go_at_call 55; refine (Ccm.out _ _ Ht.out (hb3.trans (hb4.mono hb3.size))).mono ?_; rw [Hc.out]; rintro e w5 ⟨rfl, rfl⟩)))
                go_ret
                exact ⟨_, congrArg (fun z => Ending.returned (Value.int .u64 z)) (E.out).symm, fun h => absurd (h ▸ HA.out) (Nat.lt_irrefl 0), fun _ => Hn2.out, hbel2.trans ((hb3.trans (hb4.mono hb3.size)).mono hbel2.size)⟩
              · have e0 := asm_e h3 hne h2 hv1
                obtain ⟨k, hk⟩ : ∃ k : Int, x - v + 1075 = k := ⟨_, rfl⟩
                obtain ⟨m, hm⟩ : ∃ m : Int, k * 4503599627370496 = m := ⟨_, rfl⟩
                obtain ⟨z, hz⟩ : ∃ z : Int, m + (Q : Int) = z := ⟨_, rfl⟩
                have W5 : IntKind.u64.wrap k = k := by rw [IntKind.wrap_u64]; omega
                have W6 : IntKind.i64.wrap k = k := by rw [IntKind.wrap_i64]; omega
                have W2 : IntKind.u64.wrap m = m := by rw [IntKind.wrap_u64]; omega
                have K : decide (2047 ≤ k) = false := decide_eq_false (by omega)
                obtain ⟨y, hy⟩ : ∃ y : Int, z - 4503599627370496 = y := ⟨_, rfl⟩
                have W3 : IntKind.u64.wrap z = z := by rw [IntKind.wrap_u64]; omega
                have W4 : IntKind.u64.wrap y = y := by rw [IntKind.wrap_u64]; omega
                have E : Hid (((asm (x - v) Q : Nat) : Int) = y) := Lib.hid (by omega)
                clear e0
                clear h3 hne h2 hq
                (go_wp2_with (first
              | (go_at_call 58; refine dv.out.mono ?_; rintro e w3 ⟨lv, rfl, hl, hb3⟩; have Hl := Lib.hid hl; clear hl)
              | (go_at_call 54; refine (Ctw.out _ _ Hl.out).mono ?_; rintro e w4 ⟨tv, rfl, ht4, hb4⟩; have Ht := Lib.hid ht4; clear ht4)
              | (go_at_call 55; refine (Ccm.out _ _ Ht.out (hb3.trans (hb4.mono hb3.size))).mono ?_; rw [Hc.out]; rintro e w5 ⟨rfl, rfl⟩)))
                go_ret
                exact ⟨_, congrArg (fun z => Ending.returned (Value.int .u64 z)) (E.out).symm, fun h => absurd (h ▸ HA.out) (Nat.lt_irrefl 0), fun _ => Hn2.out, hbel2.trans ((hb3.trans (hb4.mono hb3.size)).mono hbel2.size)⟩
        · have hqd : decide ((Q : Int) < 9007199254740992) = false := decide_eq_false (by omega)
          obtain ⟨ht2, hinv2⟩ := Hpred.out hq
          subst ht2
          have Hi2 := Lib.hid hinv2
          clear hq hq54 hinv2
          go_wp2_with (go_at_call 58; refine dv.out.mono ?_; rintro e w3 ⟨lv, rfl, hl, hb3⟩; have Hl := Lib.hid hl; clear hl)
          exact ⟨⟨v - 1, 1, rfl, by omega, by omega, by omega, by omega, Hi2, hbel2.trans (hb3.mono hbel2.size)⟩, by simp [intOf]; omega⟩
theorem nearest (w : World) (va vb : Value) (A B : Nat) (x : Int) (ha : NumT w va A 400) (hb : NumT w vb B 400) (hB : 0 < B) (hx1 : -5000 ≤ x) (hx2 : x ≤ 5000) :
    Calls Tryz.prog 32 #[va, vb, .int .i64 x] w (NearRes w A B x) := by
  rcases Nat.eq_zero_or_pos A with h | h
  · subst h
    exact nearest0 w va vb B x ha
  · exact nearest1 w va vb A B x ha hb h hB hx1 hx2
end RN
end Go.Proofs.YtcchmnilcmnajaaGreatDoor
