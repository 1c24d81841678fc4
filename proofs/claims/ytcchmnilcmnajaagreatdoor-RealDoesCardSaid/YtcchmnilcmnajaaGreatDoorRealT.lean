/-
  The reference's sum of two numbers, a contract. Conditions: bits of 64, finite, not both zero.
-/
import Derived.Test.YtcchmnilcmnajaaGreatDoorRealJ
import Derived.Test.YtcchmnilcmnajaaGreatDoorRealI
namespace Go.Proofs.YtcchmnilcmnajaaGreatDoor
open Go.RowKit
set_option linter.unusedVariables false
set_option linter.unusedSimpArgs false
namespace RT
open RM RC RB RN RF RJ RI
theorem pl_le {x : Nat} (h : rg x < 9218868437227405312) : pl x ≤ 971 := by unfold pl; split <;> omega
theorem twZ (w : World) (v : Value) (A M n : Nat) (z : Int) (hz : z = (n : Int)) (h : NumT w v A M) (hM : M ≤ 10000) (hn : n ≤ 100000) : Calls Tryz.prog 54 #[v, .int .i64 z] w (ResT w (A * 2 ^ n) (M + 1 + n / 16)) := by
  subst hz; exact twiceT w v A M n h hM hn
theorem sgI_ne {s t : Bool} (h : s ≠ t) : (sgI s == sgI t) = false := by
  cases s <;> cases t <;> first | rfl | exact absurd rfl h
theorem sg_c (s : Bool) (r : Nat) (h : r < 9223372036854775808) (v : Int) (hv : sgI s = v) (w : World) : Calls Tryz.prog 30 #[.int .u64 v, .int .u64 (r : Int)] w fun e w' => e = .returned (.int .u64 ((Ieee.double.word s r : Nat) : Int)) ∧ w = w' := by
  subst hv; exact signed_ s r h w
theorem bd_big {x y : Nat} : big x y = mg x * 2 ^ (pl x - min (pl x) (pl y)).toNat := rfl
set_option maxRecDepth 100000 in
set_option maxHeartbeats 4000000 in
theorem sum_ (x y : Nat) (hx : W x) (hy : W y) (h1 : rg x < 9218868437227405312) (h2 : rg y < 9218868437227405312) (h0 : ¬ (rg x = 0 ∧ rg y = 0)) (w : World) :
    Calls Tryz.prog 29 #[.int .u64 (x : Int), .int .u64 (y : Int)] w fun e w' => e = .returned (.int .u64 ((fadd x y : Nat) : Int)) ∧ Below w.heap.size w w' := by
  have hq1 := parts x hx
  have hq2 := parts y hy
  have hn1 := number_ x hx
  have hn2 := number_ y hy
  rw [sB_sgI hx] at hq1
  rw [sB_sgI hy] at hq2
  have p1 := pl_ge x
  have p2 := pl_ge y
  have p3 := pl_le h1
  have p4 := pl_le h2
  have m1 := mg_lt x
  have m2 := mg_lt y
  have HS := Lib.hid (add_same h1 h2 · h0)
  have HD := Lib.hid (add_diff h1 h2)
  obtain ⟨l, hl⟩ : ∃ l, min (pl x) (pl y) = l := ⟨_, rfl⟩
  obtain ⟨D, hD⟩ : ∃ D : Nat, (pl x - l).toNat = D := ⟨_, rfl⟩
  obtain ⟨E, hE⟩ : ∃ E : Nat, (pl y - l).toNat = E := ⟨_, rfl⟩
  have e1 : pl x = l + D := by omega
  have e2 : pl y = l + E := by omega
  have hbx : big x y = mg x * 2 ^ D := by unfold big; rw [hl, hD]
  have hby : big' x y = mg y * 2 ^ E := by unfold big'; rw [hl, hE]
  rw [hl, hbx, hby] at HS HD
  have l1 : -1074 ≤ l ∧ l ≤ 971 := by omega
  have hDE : D = 0 ∨ E = 0 := by omega
  have hDb : D ≤ 2100 ∧ E ≤ 2100 := by omega
  rw [e1] at hn1
  rw [e2] at hn2
  have o1 : ∀ w, Calls Tryz.prog 34 #[.int .i64 1] w (ResT w 1 4) := fun w => ofT w 1 (by omega)
  have om := fun w => ofT w (mg x) (by omega)
  have on := fun w => ofT w (mg y) (by omega)
  have hs1 := fun r h w => sg_c (sgn x) r h _ rfl w
  have hs2 := fun r h w => sg_c (sgn y) r h _ rfl w
  have hne : sgn x ≠ sgn y → (sgI (sgn x) == sgI (sgn y)) = false := sgI_ne
  have heq : sgn x = sgn y → sgI (sgn x) = sgI (sgn y) := fun h => by rw [h]
  clear hl hD hE e1 e2 hbx hby p1 p2 p3 p4 h0
  generalize mg x = m at *
  generalize mg y = n at *
  generalize eB x = ex at *
  generalize eB y = ey at *
  generalize rB x = rx at *
  generalize rB y = ry at *
  generalize fadd x y = R at *
  generalize sgn x = sx at *
  generalize sgn y = sy at *
  have hsplit : (E < D ∧ E = 0) ∨ (¬ E < D ∧ D = 0) := by omega
  have LLE : E = 0 → l + (E : Int) = l := fun h => by omega
  have LLD : D = 0 → l + (D : Int) = l := fun h => by omega
  have HLE := Lib.hid LLE
  have HLD := Lib.hid LLD
  clear LLE LLD
  by_cases hs : sx = sy
  · have HR := Lib.hid (HS.out hs)
    have hss := heq hs
    rw [← hss] at hq2
    clear HS HD hne heq hs hss hs2
    generalize sgI sx = s at *
    have HSG := Lib.hid hs1
    clear hs1 hDE
    rcases hsplit with ⟨c, h⟩ | ⟨c, h⟩
    · have LL := Lib.hid (HLE.out h)
      replace h := Nat.le_of_eq h
      go_enter Tryz.func29, Tryz.ntmps29
      go_wp2_with (first
        | ((with_reducible refine (hq1 _).mono ?_); rintro e w' ⟨rfl, rfl⟩)
        | ((with_reducible refine (hq2 _).mono ?_); rintro e w' ⟨rfl, rfl⟩)
        | ((with_reducible refine (hn1 _).mono ?_); rintro e w' ⟨rfl, rfl⟩)
        | ((with_reducible refine (hn2 _).mono ?_); rintro e w' ⟨rfl, rfl⟩)
        | (go_at_call 34; (with_reducible refine (om _).mono ?_); rintro e w1 ⟨v1, rfl, n1, b1⟩; have N1 := Lib.hid n1; clear n1 om)
        | (go_at_call 34; (with_reducible refine (on _).mono ?_); rintro e w3 ⟨v3, rfl, n3, b3⟩; have N3 := Lib.hid n3; clear n3 on)
        | (go_at_call 34; (with_reducible refine (o1 _).mono ?_); rintro e w6 ⟨v6, rfl, n6, b6⟩; have N6 := Lib.hid n6; clear n6 o1)
        | (go_at_call 54; (refine (twZ _ v3 n 4 E _ (by omega) N3.out (by decide) (by omega)).mono ?_); rintro e w4 ⟨v4, rfl, n4, b4⟩; have N4 := Lib.hid n4; have N2b := Lib.hid (NumT.le (N2.out.below (b3.trans (b4.mono b3.size)) (Nat.le_refl _)) (show 4 + 1 + D / 16 ≤ 200 by omega)); have N4b := Lib.hid (NumT.le n4 (show 4 + 1 + E / 16 ≤ 200 by omega)); clear n4)
        | (go_at_call 54; (refine (twZ _ v1 m 4 D _ (by omega) N1.out (by decide) (by omega)).mono ?_); rintro e w2 ⟨v2, rfl, n2, b2⟩; have N2 := Lib.hid n2; clear n2)
        | (go_at_call 49; (refine (plusT _ v2 v4 (m * 2 ^ D) (n * 2 ^ E) 200 N2b.out N4b.out (by decide)).mono ?_); rintro e w5 ⟨v5, rfl, n5, b5⟩; have N5 := Lib.hid n5; clear n5)
        | (go_at_call 32; (refine (near1 _ _ _ (m * 2 ^ D + n * 2 ^ E) _ (NumT.le (N5.out.below b6 (Nat.le_refl _)) (by decide)) (NumT.le N6.out (by decide)) (by omega) (by omega)).mono ?_); rintro e w7 ⟨rfl, b7⟩)
        | (go_at_call 30; (refine (HSG.out _ (rungOf_lt _ _) _).mono ?_); rintro e w8 ⟨rfl, rfl⟩))
      go_ret
      have B2 := b1.trans (b2.mono b1.size)
      have B3 := B2.trans (b3.mono B2.size)
      have B4 := B3.trans (b4.mono B3.size)
      have B5 := B4.trans (b5.mono B4.size)
      have B6 := B5.trans (b6.mono B5.size)
      exact ⟨ret_int (by rw [HR.out, LL.out]), B6.trans (b7.mono B6.size)⟩
    · have LL := Lib.hid (HLD.out h)
      replace h := Nat.le_of_eq h
      go_enter Tryz.func29, Tryz.ntmps29
      go_wp2_with (first
        | ((with_reducible refine (hq1 _).mono ?_); rintro e w' ⟨rfl, rfl⟩)
        | ((with_reducible refine (hq2 _).mono ?_); rintro e w' ⟨rfl, rfl⟩)
        | ((with_reducible refine (hn1 _).mono ?_); rintro e w' ⟨rfl, rfl⟩)
        | ((with_reducible refine (hn2 _).mono ?_); rintro e w' ⟨rfl, rfl⟩)
        | (go_at_call 34; (with_reducible refine (om _).mono ?_); rintro e w1 ⟨v1, rfl, n1, b1⟩; have N1 := Lib.hid n1; clear n1 om)
        | (go_at_call 34; (with_reducible refine (on _).mono ?_); rintro e w3 ⟨v3, rfl, n3, b3⟩; have N3 := Lib.hid n3; clear n3 on)
        | (go_at_call 34; (with_reducible refine (o1 _).mono ?_); rintro e w6 ⟨v6, rfl, n6, b6⟩; have N6 := Lib.hid n6; clear n6 o1)
        | (go_at_call 54; (refine (twZ _ v3 n 4 E _ (by omega) N3.out (by decide) (by omega)).mono ?_); rintro e w4 ⟨v4, rfl, n4, b4⟩; have N4 := Lib.hid n4; have N2b := Lib.hid (NumT.le (N2.out.below (b3.trans (b4.mono b3.size)) (Nat.le_refl _)) (show 4 + 1 + D / 16 ≤ 200 by omega)); have N4b := Lib.hid (NumT.le n4 (show 4 + 1 + E / 16 ≤ 200 by omega)); clear n4)
        | (go_at_call 54; (refine (twZ _ v1 m 4 D _ (by omega) N1.out (by decide) (by omega)).mono ?_); rintro e w2 ⟨v2, rfl, n2, b2⟩; have N2 := Lib.hid n2; clear n2)
        | (go_at_call 49; (refine (plusT _ v2 v4 (m * 2 ^ D) (n * 2 ^ E) 200 N2b.out N4b.out (by decide)).mono ?_); rintro e w5 ⟨v5, rfl, n5, b5⟩; have N5 := Lib.hid n5; clear n5)
        | (go_at_call 32; (refine (near1 _ _ _ (m * 2 ^ D + n * 2 ^ E) _ (NumT.le (N5.out.below b6 (Nat.le_refl _)) (by decide)) (NumT.le N6.out (by decide)) (by omega) (by omega)).mono ?_); rintro e w7 ⟨rfl, b7⟩)
        | (go_at_call 30; (refine (HSG.out _ (rungOf_lt _ _) _).mono ?_); rintro e w8 ⟨rfl, rfl⟩))
      go_ret
      have B2 := b1.trans (b2.mono b1.size)
      have B3 := B2.trans (b3.mono B2.size)
      have B4 := B3.trans (b4.mono B3.size)
      have B5 := B4.trans (b5.mono B4.size)
      have B6 := B5.trans (b6.mono B5.size)
      exact ⟨ret_int (by rw [HR.out, LL.out]), B6.trans (b7.mono B6.size)⟩
  · have hd := Lib.hid (HD.out hs)
    have hss := hne hs
    clear HS HD hne heq hs
    have HS1 := Lib.hid hs1
    have HS2 := Lib.hid hs2
    clear hs1 hs2 hDE
    generalize sgI sx = s at *
    generalize sgI sy = z at *
    rcases Nat.lt_trichotomy (m * 2 ^ D) (n * 2 ^ E) with t | t | t
    · have HR := Lib.hid (hd.out.trans ((if_neg (Nat.ne_of_lt t)).trans (if_neg (Nat.lt_asymm t))))
      have hcmp : cmpI (m * 2 ^ D) (n * 2 ^ E) = -1 := if_pos t
      have HSG := HS2
      have Hlt := Lib.hid t
      clear hd HS1 HS2 t
      rcases hsplit with ⟨c, h⟩ | ⟨c, h⟩
      · have LL := Lib.hid (HLE.out h)
        replace h := Nat.le_of_eq h
        go_enter Tryz.func29, Tryz.ntmps29
        go_wp2_with (first
          | ((with_reducible refine (hq1 _).mono ?_); rintro e w' ⟨rfl, rfl⟩)
          | ((with_reducible refine (hq2 _).mono ?_); rintro e w' ⟨rfl, rfl⟩)
          | ((with_reducible refine (hn1 _).mono ?_); rintro e w' ⟨rfl, rfl⟩)
          | ((with_reducible refine (hn2 _).mono ?_); rintro e w' ⟨rfl, rfl⟩)
          | (go_at_call 34; (with_reducible refine (om _).mono ?_); rintro e w1 ⟨v1, rfl, n1, b1⟩; have N1 := Lib.hid n1; clear n1 om)
          | (go_at_call 34; (with_reducible refine (on _).mono ?_); rintro e w3 ⟨v3, rfl, n3, b3⟩; have N3 := Lib.hid n3; clear n3 on)
          | (go_at_call 34; (with_reducible refine (o1 _).mono ?_); rintro e w6 ⟨v6, rfl, n6, b6⟩; have N6 := Lib.hid n6; clear n6 o1)
          | (go_at_call 54; (refine (twZ _ v3 n 4 E _ (by omega) N3.out (by decide) (by omega)).mono ?_); rintro e w4 ⟨v4, rfl, n4, b4⟩; have N4 := Lib.hid n4; have N2b := Lib.hid (NumT.le (N2.out.below (b3.trans (b4.mono b3.size)) (Nat.le_refl _)) (show 4 + 1 + D / 16 ≤ 200 by omega)); have N4b := Lib.hid (NumT.le n4 (show 4 + 1 + E / 16 ≤ 200 by omega)); clear n4)
          | (go_at_call 54; (refine (twZ _ v1 m 4 D _ (by omega) N1.out (by decide) (by omega)).mono ?_); rintro e w2 ⟨v2, rfl, n2, b2⟩; have N2 := Lib.hid n2; clear n2)
          | (go_at_call 55; (refine (compareT _ v2 v4 (m * 2 ^ D) (n * 2 ^ E) 200 N2b.out N4b.out (by decide)).mono ?_); rw [hcmp]; rintro e w' ⟨rfl, rfl⟩)
          | (go_at_call 56; (refine (minusT _ v4 v2 (n * 2 ^ E) (m * 2 ^ D) 200 N4b.out N2b.out (by decide) (Nat.le_of_lt Hlt.out)).mono ?_); rintro e w5 ⟨v5, rfl, n5, b5⟩; have N5 := Lib.hid n5; clear n5)
          | (go_at_call 32; (refine (near1 _ _ _ (n * 2 ^ E - m * 2 ^ D) _ (NumT.le (N5.out.below b6 (Nat.le_refl _)) (by decide)) (NumT.le N6.out (by decide)) (by omega) (by omega)).mono ?_); rintro e w7 ⟨rfl, b7⟩)
          | (go_at_call 30; (refine (HSG.out _ (rungOf_lt _ _) _).mono ?_); rintro e w8 ⟨rfl, rfl⟩))
        go_ret
        have B2 := b1.trans (b2.mono b1.size)
        have B3 := B2.trans (b3.mono B2.size)
        have B4 := B3.trans (b4.mono B3.size)
        have B5 := B4.trans (b5.mono B4.size)
        have B6 := B5.trans (b6.mono B5.size)
        exact ⟨ret_int (by rw [HR.out, LL.out]), B6.trans (b7.mono B6.size)⟩
      · have LL := Lib.hid (HLD.out h)
        replace h := Nat.le_of_eq h
        go_enter Tryz.func29, Tryz.ntmps29
        go_wp2_with (first
          | ((with_reducible refine (hq1 _).mono ?_); rintro e w' ⟨rfl, rfl⟩)
          | ((with_reducible refine (hq2 _).mono ?_); rintro e w' ⟨rfl, rfl⟩)
          | ((with_reducible refine (hn1 _).mono ?_); rintro e w' ⟨rfl, rfl⟩)
          | ((with_reducible refine (hn2 _).mono ?_); rintro e w' ⟨rfl, rfl⟩)
          | (go_at_call 34; (with_reducible refine (om _).mono ?_); rintro e w1 ⟨v1, rfl, n1, b1⟩; have N1 := Lib.hid n1; clear n1 om)
          | (go_at_call 34; (with_reducible refine (on _).mono ?_); rintro e w3 ⟨v3, rfl, n3, b3⟩; have N3 := Lib.hid n3; clear n3 on)
          | (go_at_call 34; (with_reducible refine (o1 _).mono ?_); rintro e w6 ⟨v6, rfl, n6, b6⟩; have N6 := Lib.hid n6; clear n6 o1)
          | (go_at_call 54; (refine (twZ _ v3 n 4 E _ (by omega) N3.out (by decide) (by omega)).mono ?_); rintro e w4 ⟨v4, rfl, n4, b4⟩; have N4 := Lib.hid n4; have N2b := Lib.hid (NumT.le (N2.out.below (b3.trans (b4.mono b3.size)) (Nat.le_refl _)) (show 4 + 1 + D / 16 ≤ 200 by omega)); have N4b := Lib.hid (NumT.le n4 (show 4 + 1 + E / 16 ≤ 200 by omega)); clear n4)
          | (go_at_call 54; (refine (twZ _ v1 m 4 D _ (by omega) N1.out (by decide) (by omega)).mono ?_); rintro e w2 ⟨v2, rfl, n2, b2⟩; have N2 := Lib.hid n2; clear n2)
          | (go_at_call 55; (refine (compareT _ v2 v4 (m * 2 ^ D) (n * 2 ^ E) 200 N2b.out N4b.out (by decide)).mono ?_); rw [hcmp]; rintro e w' ⟨rfl, rfl⟩)
          | (go_at_call 56; (refine (minusT _ v4 v2 (n * 2 ^ E) (m * 2 ^ D) 200 N4b.out N2b.out (by decide) (Nat.le_of_lt Hlt.out)).mono ?_); rintro e w5 ⟨v5, rfl, n5, b5⟩; have N5 := Lib.hid n5; clear n5)
          | (go_at_call 32; (refine (near1 _ _ _ (n * 2 ^ E - m * 2 ^ D) _ (NumT.le (N5.out.below b6 (Nat.le_refl _)) (by decide)) (NumT.le N6.out (by decide)) (by omega) (by omega)).mono ?_); rintro e w7 ⟨rfl, b7⟩)
          | (go_at_call 30; (refine (HSG.out _ (rungOf_lt _ _) _).mono ?_); rintro e w8 ⟨rfl, rfl⟩))
        go_ret
        have B2 := b1.trans (b2.mono b1.size)
        have B3 := B2.trans (b3.mono B2.size)
        have B4 := B3.trans (b4.mono B3.size)
        have B5 := B4.trans (b5.mono B4.size)
        have B6 := B5.trans (b6.mono B5.size)
        exact ⟨ret_int (by rw [HR.out, LL.out]), B6.trans (b7.mono B6.size)⟩
    · have HR := Lib.hid (hd.out.trans (if_pos t))
      have hcmp : cmpI (m * 2 ^ D) (n * 2 ^ E) = 0 := (if_neg (by omega)).trans (if_pos t)
      clear hd HS1 HS2 t
      rcases hsplit with ⟨c, h⟩ | ⟨c, h⟩
      · have LL := Lib.hid (HLE.out h)
        replace h := Nat.le_of_eq h
        go_enter Tryz.func29, Tryz.ntmps29
        go_wp2_with (first
          | ((with_reducible refine (hq1 _).mono ?_); rintro e w' ⟨rfl, rfl⟩)
          | ((with_reducible refine (hq2 _).mono ?_); rintro e w' ⟨rfl, rfl⟩)
          | ((with_reducible refine (hn1 _).mono ?_); rintro e w' ⟨rfl, rfl⟩)
          | ((with_reducible refine (hn2 _).mono ?_); rintro e w' ⟨rfl, rfl⟩)
          | (go_at_call 34; (with_reducible refine (om _).mono ?_); rintro e w1 ⟨v1, rfl, n1, b1⟩; have N1 := Lib.hid n1; clear n1 om)
          | (go_at_call 34; (with_reducible refine (on _).mono ?_); rintro e w3 ⟨v3, rfl, n3, b3⟩; have N3 := Lib.hid n3; clear n3 on)
          | (go_at_call 34; (with_reducible refine (o1 _).mono ?_); rintro e w6 ⟨v6, rfl, n6, b6⟩; have N6 := Lib.hid n6; clear n6 o1)
          | (go_at_call 54; (refine (twZ _ v3 n 4 E _ (by omega) N3.out (by decide) (by omega)).mono ?_); rintro e w4 ⟨v4, rfl, n4, b4⟩; have N4 := Lib.hid n4; have N2b := Lib.hid (NumT.le (N2.out.below (b3.trans (b4.mono b3.size)) (Nat.le_refl _)) (show 4 + 1 + D / 16 ≤ 200 by omega)); have N4b := Lib.hid (NumT.le n4 (show 4 + 1 + E / 16 ≤ 200 by omega)); clear n4)
          | (go_at_call 54; (refine (twZ _ v1 m 4 D _ (by omega) N1.out (by decide) (by omega)).mono ?_); rintro e w2 ⟨v2, rfl, n2, b2⟩; have N2 := Lib.hid n2; clear n2)
          | (go_at_call 55; (refine (compareT _ v2 v4 (m * 2 ^ D) (n * 2 ^ E) 200 N2b.out N4b.out (by decide)).mono ?_); rw [hcmp]; rintro e w' ⟨rfl, rfl⟩))
        go_ret
        have B2 := b1.trans (b2.mono b1.size)
        have B3 := B2.trans (b3.mono B2.size)
        exact ⟨ret_int (by rw [HR.out]; rfl), B3.trans (b4.mono B3.size)⟩
      · have LL := Lib.hid (HLD.out h)
        replace h := Nat.le_of_eq h
        go_enter Tryz.func29, Tryz.ntmps29
        go_wp2_with (first
          | ((with_reducible refine (hq1 _).mono ?_); rintro e w' ⟨rfl, rfl⟩)
          | ((with_reducible refine (hq2 _).mono ?_); rintro e w' ⟨rfl, rfl⟩)
          | ((with_reducible refine (hn1 _).mono ?_); rintro e w' ⟨rfl, rfl⟩)
          | ((with_reducible refine (hn2 _).mono ?_); rintro e w' ⟨rfl, rfl⟩)
          | (go_at_call 34; (with_reducible refine (om _).mono ?_); rintro e w1 ⟨v1, rfl, n1, b1⟩; have N1 := Lib.hid n1; clear n1 om)
          | (go_at_call 34; (with_reducible refine (on _).mono ?_); rintro e w3 ⟨v3, rfl, n3, b3⟩; have N3 := Lib.hid n3; clear n3 on)
          | (go_at_call 34; (with_reducible refine (o1 _).mono ?_); rintro e w6 ⟨v6, rfl, n6, b6⟩; have N6 := Lib.hid n6; clear n6 o1)
          | (go_at_call 54; (refine (twZ _ v3 n 4 E _ (by omega) N3.out (by decide) (by omega)).mono ?_); rintro e w4 ⟨v4, rfl, n4, b4⟩; have N4 := Lib.hid n4; have N2b := Lib.hid (NumT.le (N2.out.below (b3.trans (b4.mono b3.size)) (Nat.le_refl _)) (show 4 + 1 + D / 16 ≤ 200 by omega)); have N4b := Lib.hid (NumT.le n4 (show 4 + 1 + E / 16 ≤ 200 by omega)); clear n4)
          | (go_at_call 54; (refine (twZ _ v1 m 4 D _ (by omega) N1.out (by decide) (by omega)).mono ?_); rintro e w2 ⟨v2, rfl, n2, b2⟩; have N2 := Lib.hid n2; clear n2)
          | (go_at_call 55; (refine (compareT _ v2 v4 (m * 2 ^ D) (n * 2 ^ E) 200 N2b.out N4b.out (by decide)).mono ?_); rw [hcmp]; rintro e w' ⟨rfl, rfl⟩))
        go_ret
        have B2 := b1.trans (b2.mono b1.size)
        have B3 := B2.trans (b3.mono B2.size)
        exact ⟨ret_int (by rw [HR.out]; rfl), B3.trans (b4.mono B3.size)⟩
    · have HR := Lib.hid (hd.out.trans ((if_neg (Nat.ne_of_gt t)).trans (if_pos t)))
      have hcmp : cmpI (m * 2 ^ D) (n * 2 ^ E) = 1 := (if_neg (Nat.lt_asymm t)).trans (if_neg (Nat.ne_of_gt t))
      have HSG := HS1
      have Hlt := Lib.hid t
      clear hd HS1 HS2 t
      rcases hsplit with ⟨c, h⟩ | ⟨c, h⟩
      · have LL := Lib.hid (HLE.out h)
        replace h := Nat.le_of_eq h
        go_enter Tryz.func29, Tryz.ntmps29
        go_wp2_with (first
          | ((with_reducible refine (hq1 _).mono ?_); rintro e w' ⟨rfl, rfl⟩)
          | ((with_reducible refine (hq2 _).mono ?_); rintro e w' ⟨rfl, rfl⟩)
          | ((with_reducible refine (hn1 _).mono ?_); rintro e w' ⟨rfl, rfl⟩)
          | ((with_reducible refine (hn2 _).mono ?_); rintro e w' ⟨rfl, rfl⟩)
          | (go_at_call 34; (with_reducible refine (om _).mono ?_); rintro e w1 ⟨v1, rfl, n1, b1⟩; have N1 := Lib.hid n1; clear n1 om)
          | (go_at_call 34; (with_reducible refine (on _).mono ?_); rintro e w3 ⟨v3, rfl, n3, b3⟩; have N3 := Lib.hid n3; clear n3 on)
          | (go_at_call 34; (with_reducible refine (o1 _).mono ?_); rintro e w6 ⟨v6, rfl, n6, b6⟩; have N6 := Lib.hid n6; clear n6 o1)
          | (go_at_call 54; (refine (twZ _ v3 n 4 E _ (by omega) N3.out (by decide) (by omega)).mono ?_); rintro e w4 ⟨v4, rfl, n4, b4⟩; have N4 := Lib.hid n4; have N2b := Lib.hid (NumT.le (N2.out.below (b3.trans (b4.mono b3.size)) (Nat.le_refl _)) (show 4 + 1 + D / 16 ≤ 200 by omega)); have N4b := Lib.hid (NumT.le n4 (show 4 + 1 + E / 16 ≤ 200 by omega)); clear n4)
          | (go_at_call 54; (refine (twZ _ v1 m 4 D _ (by omega) N1.out (by decide) (by omega)).mono ?_); rintro e w2 ⟨v2, rfl, n2, b2⟩; have N2 := Lib.hid n2; clear n2)
          | (go_at_call 55; (refine (compareT _ v2 v4 (m * 2 ^ D) (n * 2 ^ E) 200 N2b.out N4b.out (by decide)).mono ?_); rw [hcmp]; rintro e w' ⟨rfl, rfl⟩)
          | (go_at_call 56; (refine (minusT _ v2 v4 (m * 2 ^ D) (n * 2 ^ E) 200 N2b.out N4b.out (by decide) (Nat.le_of_lt Hlt.out)).mono ?_); rintro e w5 ⟨v5, rfl, n5, b5⟩; have N5 := Lib.hid n5; clear n5)
          | (go_at_call 32; (refine (near1 _ _ _ (m * 2 ^ D - n * 2 ^ E) _ (NumT.le (N5.out.below b6 (Nat.le_refl _)) (by decide)) (NumT.le N6.out (by decide)) (by omega) (by omega)).mono ?_); rintro e w7 ⟨rfl, b7⟩)
          | (go_at_call 30; (refine (HSG.out _ (rungOf_lt _ _) _).mono ?_); rintro e w8 ⟨rfl, rfl⟩))
        go_ret
        have B2 := b1.trans (b2.mono b1.size)
        have B3 := B2.trans (b3.mono B2.size)
        have B4 := B3.trans (b4.mono B3.size)
        have B5 := B4.trans (b5.mono B4.size)
        have B6 := B5.trans (b6.mono B5.size)
        exact ⟨ret_int (by rw [HR.out, LL.out]), B6.trans (b7.mono B6.size)⟩
      · have LL := Lib.hid (HLD.out h)
        replace h := Nat.le_of_eq h
        go_enter Tryz.func29, Tryz.ntmps29
        go_wp2_with (first
          | ((with_reducible refine (hq1 _).mono ?_); rintro e w' ⟨rfl, rfl⟩)
          | ((with_reducible refine (hq2 _).mono ?_); rintro e w' ⟨rfl, rfl⟩)
          | ((with_reducible refine (hn1 _).mono ?_); rintro e w' ⟨rfl, rfl⟩)
          | ((with_reducible refine (hn2 _).mono ?_); rintro e w' ⟨rfl, rfl⟩)
          | (go_at_call 34; (with_reducible refine (om _).mono ?_); rintro e w1 ⟨v1, rfl, n1, b1⟩; have N1 := Lib.hid n1; clear n1 om)
          | (go_at_call 34; (with_reducible refine (on _).mono ?_); rintro e w3 ⟨v3, rfl, n3, b3⟩; have N3 := Lib.hid n3; clear n3 on)
          | (go_at_call 34; (with_reducible refine (o1 _).mono ?_); rintro e w6 ⟨v6, rfl, n6, b6⟩; have N6 := Lib.hid n6; clear n6 o1)
          | (go_at_call 54; (refine (twZ _ v3 n 4 E _ (by omega) N3.out (by decide) (by omega)).mono ?_); rintro e w4 ⟨v4, rfl, n4, b4⟩; have N4 := Lib.hid n4; have N2b := Lib.hid (NumT.le (N2.out.below (b3.trans (b4.mono b3.size)) (Nat.le_refl _)) (show 4 + 1 + D / 16 ≤ 200 by omega)); have N4b := Lib.hid (NumT.le n4 (show 4 + 1 + E / 16 ≤ 200 by omega)); clear n4)
          | (go_at_call 54; (refine (twZ _ v1 m 4 D _ (by omega) N1.out (by decide) (by omega)).mono ?_); rintro e w2 ⟨v2, rfl, n2, b2⟩; have N2 := Lib.hid n2; clear n2)
          | (go_at_call 55; (refine (compareT _ v2 v4 (m * 2 ^ D) (n * 2 ^ E) 200 N2b.out N4b.out (by decide)).mono ?_); rw [hcmp]; rintro e w' ⟨rfl, rfl⟩)
          | (go_at_call 56; (refine (minusT _ v2 v4 (m * 2 ^ D) (n * 2 ^ E) 200 N2b.out N4b.out (by decide) (Nat.le_of_lt Hlt.out)).mono ?_); rintro e w5 ⟨v5, rfl, n5, b5⟩; have N5 := Lib.hid n5; clear n5)
          | (go_at_call 32; (refine (near1 _ _ _ (m * 2 ^ D - n * 2 ^ E) _ (NumT.le (N5.out.below b6 (Nat.le_refl _)) (by decide)) (NumT.le N6.out (by decide)) (by omega) (by omega)).mono ?_); rintro e w7 ⟨rfl, b7⟩)
          | (go_at_call 30; (refine (HSG.out _ (rungOf_lt _ _) _).mono ?_); rintro e w8 ⟨rfl, rfl⟩))
        go_ret
        have B2 := b1.trans (b2.mono b1.size)
        have B3 := B2.trans (b3.mono B2.size)
        have B4 := B3.trans (b4.mono B3.size)
        have B5 := B4.trans (b5.mono B4.size)
        have B6 := B5.trans (b6.mono B5.size)
        exact ⟨ret_int (by rw [HR.out, LL.out]), B6.trans (b7.mono B6.size)⟩
end RT
end Go.Proofs.YtcchmnilcmnajaaGreatDoor
