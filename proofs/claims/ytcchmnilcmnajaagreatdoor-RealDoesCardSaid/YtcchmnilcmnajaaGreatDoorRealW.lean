/-
  The reference's long numbers: twice, a contract. Conditions: lengths below ten thousand, doublings below a hundred thousand; no digit too many.
-/
import Derived.Test.YtcchmnilcmnajaaGreatDoorRealG
import Derived.Test.YtcchmnilcmnajaaGreatDoorRealK
import Derived.Deep.QuietTactic
import Derived.BigQuiet
namespace Go.Proofs.YtcchmnilcmnajaaGreatDoor
open Go.RowKit
set_option linter.unusedVariables false
namespace RN
theorem dg_shift_lo (B z j : Nat) (h : j < z) : dg (B * 65536 ^ z) j = 0 := by
  unfold dg
  obtain ⟨d, rfl⟩ : ∃ d, z = j + (d + 1) := ⟨z - j - 1, by omega⟩
  rw [Nat.pow_add, Nat.mul_comm B, Nat.mul_assoc, Nat.mul_div_cancel_left _ (P_pos j), Nat.pow_succ, Nat.mul_comm (65536 ^ d) 65536, Nat.mul_assoc]
  omega
theorem dg_shift_hi (B z j : Nat) : dg (B * 65536 ^ z) (z + j) = dg B j := by
  unfold dg
  rw [Nat.pow_add, ← Nat.div_div_eq_div_mul, Nat.mul_div_cancel _ (P_pos z)]
/-- the digits of a row that came from a call -/
def CellsKept (p : Option Addr) (m N lo hi : Nat) (w : World) : Prop := ∀ j, j < m → ∃ ad, p = some ad ∧ lo ≤ ad.block ∧ ad.block < hi ∧ w.cell? (ad.add j) = some (.int .i64 ((dg N j : Nat) : Int))
theorem own_below {w w2 : World} {base k : Nat} {v : Value} {xs : List Value} (h : w.ownsRow base 3 1 v k xs) (hb : Below w.heap.size w w2) : w2.ownsRow base 3 1 v k xs := by
  refine ⟨h.1, ?_⟩
  rcases h.2 with hn | ⟨g, cap, cur, hv, hbase, hg, rest⟩
  · exact .inl hn
  · refine .inr ⟨g, cap, cur, hv, hbase, ?_, rest⟩
    have : g < w.heap.size := by
      rcases Nat.lt_or_ge g w.heap.size with c | c
      · exact c
      · rw [Array.getElem?_eq_none c] at hg; cases hg
    exact (hb.block g this).trans hg
set_option maxRecDepth 100000 in
set_option maxHeartbeats 4000000 in
theorem twice (w : World) (va : Value) (A na n : Nat) (ha : Num w va A na) (ht : Tight A na) (hM : na ≤ 10000) (hn : n ≤ 100000) :
    Calls Tryz.prog 54 #[va, .int .i64 (n : Int)] w (Res w (A * 2 ^ n) (na + 1 + n / 16)) := by
  obtain ⟨i0, hi, hz0, hz1, hz2⟩ := info_parts int_info
  have Ha := Lib.hid ha
  obtain ⟨pa, ca, rfl, la2, la3⟩ := ha.open_
  by_cases h0 : na = 0
  · subst h0
    have e : A = 0 := by have := ha.1; simp at this; exact this
    subst e
    clear ha
    go_enter Tryz.func54, Tryz.ntmps54
    go_wp2
    go_ret
    exact ⟨_, 0, rfl, by rw [Nat.zero_mul]; exact zero w, .inl rfl, by omega, Below.refl _ _, fun g hg => by cases hg⟩
  · have hA : 0 < A := by
      have h1 := ht.resolve_left h0
      have := P_pos (na - 1)
      omega
    clear ha
    have hb : ((na : Int) == 0) = false := by rw [beq_eq_false_iff_ne]; omega
    obtain ⟨z, hz⟩ : ∃ z, n / 16 = z := ⟨_, rfl⟩
    obtain ⟨r, hr⟩ : ∃ r, n % 16 = r := ⟨_, rfl⟩
    have hzi : (n : Int) / 16 = (z : Int) := by omega
    have hri : (n : Int) % 16 = (r : Int) := by omega
    have hr16 : r < 16 := by omega
    have hz2' : z ≤ 10000 := by omega
    have eX : A * 2 ^ n = A * 2 ^ r * 65536 ^ z := by
      have : n = r + 16 * z := by omega
      rw [this, Nat.pow_add, Nat.pow_mul, Nat.mul_assoc]
    rw [eX, hz]
    have HA := Lib.hid hA
    have h0' := Lib.hid h0
    clear eX hz hr hA h0 ht
    go_enter Tryz.func54, Tryz.ntmps54
    go_wp2
    generalize hX : A * 2 ^ r * 65536 ^ z = X at *
    have HX := Lib.hid hX
    clear hX
    go_loopw [5, 6] (fun out i wr => ∃ k : Nat, k ≤ z ∧ i = .int .i64 (k : Int) ∧ wr.ownsRow w.heap.size 3 1 out k (dl X k) ∧ Below w.heap.size w wr) (fun _ i _ => z - (intOf i).toNat)
    case atStart => exact ⟨0, by omega, rfl, World.ownsRow_nil _ _ _ _, Below.refl _ _⟩
    case round =>
      obtain ⟨k, hk, rfl, hown, hbel⟩ := hrel
      by_cases h : k < z
      · have hd : dg X k = 0 := by rw [← HX.out]; exact dg_shift_lo _ _ _ h
        have Hd := Lib.hid hd
        clear hd
        go_wp2_with (first | (at_builtin; refine wpList_append_own _ rfl _ _ 53 rfl w.heap.size 3 i0 (.int .i64 0) 1 8 Tryz.underlying53 hi hz0 hz1 hz2 rfl (by decide) _ _ _ rfl (hown.alloc _) ⟨wr.heap.size, 0, none⟩ 1 1 [_] rfl rfl (cell_one_new _ _ _) (ints_oneCell .i64 [_]) (by unfold maxLen; omega) (by omega) (by have := hbel.size; simp; omega) ?_; intro v1 w1 hown1 hgrow1 hnil1))
        refine ⟨⟨k + 1, by omega, by go_num, ?_, own_step hbel hown hgrow1⟩, by simp [intOf]; omega⟩
        rw [dl_succ, Hd.out]; exact hown1
      · have hkz : k = z := by omega
        subst hkz
        go_wp2
        go_loop [7, 8] (fun x i => ∃ j K : Nat, j ≤ r ∧ i = .int .i64 (j : Int) ∧ x = .int .i64 (K : Int) ∧ K ≤ 32768 ∧ Hid (K = 2 ^ j)) (fun _ i => r - (intOf i).toNat)
        case atStart => exact ⟨0, 1, by omega, rfl, rfl, by omega, Lib.hid rfl⟩
        case round =>
          obtain ⟨j, K, hj, rfl, rfl, hK, HK⟩ := hrel
          by_cases hjr : j < r
          · have hK2 : K * 2 ≤ 32768 := by
              have h1 : 2 ^ (j + 1) ≤ 2 ^ 15 := Nat.pow_le_pow_right (by omega) (by omega)
              rw [Nat.pow_succ, ← HK.out] at h1
              exact h1
            go_wp2
            go_round
            case rel => exact ⟨j + 1, K * 2, by omega, by go_num, by go_num, hK2, Lib.hid (by rw [Nat.pow_succ, ← HK.out])⟩
            case measure => simp [intOf]; omega
          · have hjr2 : j = r := by omega
            subst hjr2
            have csm := small wr _ A na na K (Ha.out.below hbel (Nat.le_refl _)) (Nat.le_refl _) (by omega) (by omega)
            have Hs := Lib.hid csm
            clear csm
            go_wp2_with (go_at_call 50; refine Hs.out.mono ?_; rintro e w2 ⟨lv, m, rfl, hlow, htl, hml, hb2, hfr⟩
                         have Hlow := Lib.hid hlow
                         have Htl := Lib.hid htl
                         clear htl
                         obtain ⟨hB, pl, cl, rfl, ll2, ll3, lcells⟩ := hlow
                         have HB := Lib.hid hB
                         have hown2 := own_below hown hb2
                         have hbel2 := hbel.trans (hb2.mono hbel.size)
                         have Lc : Hid (CellsKept pl m (A * K) wr.heap.size w2.heap.size w2) := fun j hj => by
                           obtain ⟨ad, e, hlt, hcell⟩ := lcells (by omega)
                           subst e
                           exact ⟨ad, rfl, hfr ad.block rfl, hlt, hcell j hj⟩
                         have Hb2 := Lib.hid hb2
                         clear lcells hB hfr hb2)
            have HKX : Hid (A * K * 65536 ^ k = X) := Lib.hid (by rw [HK.out]; exact HX.out)
            have hsz2 := Hb2.out.size
            go_loopw [5, 36] (fun out i wr3 => ∃ q : Nat, q ≤ m ∧ i = .int .i64 (q : Int) ∧ wr3.ownsRow w.heap.size 3 1 out (k + q) (dl X (k + q)) ∧ Below w.heap.size w wr3 ∧ w2.heap.size ≤ wr3.heap.size ∧ Hid (CellsKept pl m (A * K) wr.heap.size w2.heap.size wr3) ∧ Hid (∀ g, out.ownBlock = some g → g < wr.heap.size ∨ w2.heap.size ≤ g)) (fun _ i _ => m - (intOf i).toNat)
            case atStart => exact ⟨0, by omega, rfl, hown2, hbel2, Nat.le_refl _, Lc, Lib.hid fun g hg => .inl (hown.lt g hg).2⟩
            case round =>
              obtain ⟨q, hq, rfl, hown3, hbel3, hsz3, hkept, hapart⟩ := hrel
              by_cases hqm : q < m
              · obtain ⟨ad, rfl, hlo, hhi, hc⟩ := hkept.out q hqm
                have hd : dg X (k + q) = dg (A * K) q := by rw [← HKX.out]; exact dg_shift_hi _ _ _
                have Hd := Lib.hid hd
                clear hd
                generalize dg (A * K) q = d at *
                go_wp2_with (at_builtin; refine wpList_append_lies _ rfl _ _ 53 rfl w.heap.size 3 i0 (.int .i64 0) 1 8 Tryz.underlying53 hi hz0 hz1 hz2 rfl (by decide) _ _ _ rfl (hown3.alloc _) ⟨wr.heap.size, 0, none⟩ 1 1 [.int .i64 (d : Int)] rfl rfl (cell_one_new _ _ _) (ints_oneCell .i64 [(d : Int)]) (by decide) (by unfold maxLen; omega) (by omega) (by have := hbel3.size; simp; omega) (wr.heap.size + 1) (by simp) ?_; intro gg cap w4 hown4 hgrow4 hat4 hlt4)
                have hgr : ∀ g, u5.ownBlock = some g → _ := hapart.out
                refine ⟨⟨q + 1, by omega, by go_num, ?_, ?_, ?_, ?_, ?_⟩, by simp [intOf]; omega⟩
                · rw [← Nat.add_assoc, dl_succ, Hd.out]; exact hown4
                · exact (hbel3.alloc hbel3.size _).grown hgrow4 (by have := hbel3.size; simp; omega) (fun g hg => (hown3.lt g hg).1)
                · have := hgrow4.size; simp at this; omega
                · refine Lib.hid fun j hj => ?_
                  obtain ⟨ad', e, l1, l2, hc'⟩ := hkept.out j hj
                  refine ⟨ad', e, l1, l2, ?_⟩
                  have hbk : (ad'.add j).block = ad'.block := by unfold Addr.add; split <;> rfl
                  refine (World.cell?_of_block (hgrow4.block _ (by rw [hbk]; simp; omega) (fun c => ?_))).trans ((World.cell?_alloc_lt wr _ _ (by rw [hbk]; omega)).trans hc')
                  have := hgr _ c.symm
                  rw [hbk] at this
                  omega
                · refine Lib.hid fun g hg => ?_
                  have eg : gg = g := by simpa [Value.ownBlock] using hg
                  subst eg
                  rcases hat4 with c | c
                  · exact hgr _ c
                  · right; omega
              · have hqm2 : q = m := by omega
                subst hqm2
                have hm0 : q ≠ 0 := by
                  rintro rfl
                  have h1 := HB.out
                  rw [Nat.pow_zero] at h1
                  have h2 := HK.out
                  have h3 := Nat.two_pow_pos j
                  have h4 : 0 < A * K := Nat.mul_pos HA.out (by omega)
                  omega
                have hX2 : X < 65536 ^ (k + q) := by
                  rw [← HKX.out, Nat.pow_add, Nat.mul_comm]
                  exact (Nat.mul_lt_mul_left (P_pos k)).2 HB.out
                have hT2 : Tight X (k + q) := by
                  right
                  have h1 := Htl.out.resolve_left hm0
                  rw [← HKX.out, show k + q - 1 = (q - 1) + k by omega, Nat.pow_add]
                  exact Nat.mul_le_mul_right _ h1
                have hnum := Lib.hid (Num.of_own hown3 hX2)
                have hT2' := Lib.hid hT2
                clear hX2 hT2
                go_wp2
                go_ret
                exact ⟨_, k + q, rfl, hnum.out, hT2'.out, by omega, hbel3, fun g hg => (hown3.lt g hg).1⟩
end RN
end Go.Proofs.YtcchmnilcmnajaaGreatDoor
