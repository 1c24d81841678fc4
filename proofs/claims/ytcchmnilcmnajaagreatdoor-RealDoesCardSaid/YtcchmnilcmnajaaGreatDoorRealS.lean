/-
  The reference's long numbers: plus, small, minus, each a contract. Conditions: lengths below a hundred thousand; minus: what is taken away is no more.
-/
import Derived.Test.YtcchmnilcmnajaaGreatDoorRealN
import Derived.Deep.QuietTactic
import Derived.BigQuiet
namespace Go.Proofs.YtcchmnilcmnajaaGreatDoor
open Go.RowKit
set_option linter.unusedVariables false
namespace RN
/-- the slice behind a number -/
theorem Num.open_ {w : World} {v : Value} {N n : Nat} (h : Num w v N n) : ∃ A c, v = .slice A n c ∧ n ≤ c ∧ c ≤ maxLen := by
  obtain ⟨_, A, c, e, h1, h2, _⟩ := h
  exact ⟨A, c, e, h1, h2⟩
theorem digitL (w : World) (v : Value) (N n i : Nat) (h : Num w v N n) (hn : n ≤ 1000000) (hi2 : i ≤ 2000000) : Calls Tryz.prog 72 #[v, .int .i64 (i : Int)] w fun e w' => e = .returned (.int .i64 ((dg N i : Nat) : Int)) ∧ w = w' :=
  (digit w v N n i h hn hi2).mono fun _ _ ⟨h1, h2⟩ => ⟨h1, h2.symm⟩
theorem trimL (w : World) (v : Value) (N n : Nat) (h : Num w v N n) (hn : n ≤ 1000000) : Calls Tryz.prog 73 #[v] w fun e w' => ∃ v' m, e = .returned v' ∧ w = w' ∧ Num w v' N m ∧ Tight N m ∧ m ≤ n ∧ ∀ g, v'.ownBlock = some g → v.ownBlock = some g :=
  (trim w v N n h hn).mono fun _ _ ⟨v', m, h1, h2, h3⟩ => ⟨v', m, h1, h2.symm, h3⟩
theorem own_step {w wr w1 : World} {o : Obj} {v : Value} {k : Nat} {xs : List Value} (hbel : Below w.heap.size w wr) (hown : wr.ownsRow w.heap.size 3 1 v k xs) (hg : (wr.alloc o).grownBy w1 v.ownBlock) : Below w.heap.size w w1 :=
  (hbel.alloc hbel.size o).grown hg (by have := hbel.size; simp; omega) (fun g hg => (hown.lt g hg).1)
set_option maxRecDepth 100000 in
set_option maxHeartbeats 4000000 in
theorem plus (w : World) (va vb : Value) (A B na nb M : Nat) (ha : Num w va A na) (hb : Num w vb B nb) (la : na ≤ M) (lb : nb ≤ M) (hM : M ≤ 100000) :
    Calls Tryz.prog 49 #[va, vb] w (Res w (A + B) (M + 1)) := by
  obtain ⟨i0, hi, hz0, hz1, hz2⟩ := info_parts int_info
  obtain ⟨pa, ca, rfl, la2, la3⟩ := ha.open_
  obtain ⟨pb, cb, rfl, lb2, lb3⟩ := hb.open_
  have hAM : A < 65536 ^ M := Nat.lt_of_lt_of_le ha.1 (Nat.pow_le_pow_right (by omega) la)
  have hBM : B < 65536 ^ M := Nat.lt_of_lt_of_le hb.1 (Nat.pow_le_pow_right (by omega) lb)
  have Ha := Lib.hid ha
  have Hb := Lib.hid hb
  have HA := Lib.hid hAM
  have HB := Lib.hid hBM
  clear ha hb hAM hBM
  go_enter Tryz.func49, Tryz.ntmps49
  go_wp2
  go_loopw [5, 6, 7] (fun out c i wr => ∃ k : Nat, k ≤ M + 1 ∧ i = .int .i64 (k : Int) ∧ c = .int .i64 ((crS A B k : Nat) : Int) ∧ wr.ownsRow w.heap.size 3 1 out k (dl (A + B) k) ∧ Below w.heap.size w wr) (fun _ _ i _ => M + 1 - (intOf i).toNat)
  case atStart => exact ⟨0, by omega, rfl, by rw [crS_zero]; rfl, World.ownsRow_nil _ _ _ _, Below.refl _ _⟩
  case round =>
    obtain ⟨k, hk, rfl, rfl, hown, hbel⟩ := hrel
    have da := fun wx (hx : Below w.heap.size w wx) => digitL wx _ A na k (Ha.out.below hx (Nat.le_refl _)) (by omega) (by omega)
    have db := fun wx (hx : Below w.heap.size w wx) => digitL wx _ B nb k (Hb.out.below hx (Nat.le_refl _)) (by omega) (by omega)
    have hsd := sum_dg A B k
    have hcs := crS_succ A B k
    have hce : k < M + 1 ∨ crS A B k = 0 := by
      rcases Nat.lt_or_ge k (M + 1) with c | c
      · exact .inl c
      · exact .inr (crS_stop HA.out HB.out (by omega))
    have c1 := crS_le A B k
    have lA := dg_lt A k
    have lB := dg_lt B k
    have Hs := Lib.hid hsd
    have Hc := Lib.hid hcs
    clear hsd hcs
    generalize hx : dg A k = x at *
    generalize hy : dg B k = y at *
    generalize hc : crS A B k = c at *
    have Hcc := Lib.hid hc
    clear hx hy hc
    have cont : (k < na ∨ k < nb ∨ 0 < c) ∨ ¬ (k < na ∨ k < nb ∨ 0 < c) := Decidable.em _
    rcases cont with h | h
    · have hkM : k < M + 1 := by omega
      rcases (show k < na ∨ (¬ k < na ∧ k < nb) ∨ (¬ k < na ∧ ¬ k < nb ∧ 0 < c) by omega) with h | ⟨h, h2⟩ | ⟨h, h2, h3⟩
      all_goals
        go_wp2_with (first
          | (go_at_call 72; (first | with_reducible refine (da _ hbel).mono ?_ | with_reducible refine (db _ hbel).mono ?_); rintro e w' ⟨rfl, rfl⟩)
          | (at_builtin; refine wpList_append_own _ rfl _ _ 53 rfl w.heap.size 3 i0 (.int .i64 0) 1 8 Tryz.underlying53 hi hz0 hz1 hz2 rfl (by decide) _ _ _ rfl (hown.alloc _) ⟨wr.heap.size, 0, none⟩ 1 1 [_] rfl rfl (cell_one_new _ _ _) (ints_oneCell .i64 [_]) (by unfold maxLen; omega) (by omega) (by have := hbel.size; simp; omega) ?_; intro v1 w1 hown1 hgrow1 hnil1))
        refine ⟨⟨k + 1, by omega, by go_num, by rw [← Hc.out]; exact congrArg _ (by omega), ?_, own_step hbel hown hgrow1⟩, by simp [intOf]; omega⟩
        rw [dl_succ, ← Hs.out]
        have e : ((((x + y + c) % 65536 : Nat) : Int)) = ((x : Int) + y + c) % 65536 := by omega
        rw [e]
        exact hown1
    · have h1 : ¬ k < na := by omega
      have h2 : ¬ k < nb := by omega
      have h3 : c = 0 := by omega
      subst h3
      have hfin : A + B < 65536 ^ k := crS_end (Nat.lt_of_lt_of_le Ha.out.1 (Nat.pow_le_pow_right (by omega) (by omega))) (Nat.lt_of_lt_of_le Hb.out.1 (Nat.pow_le_pow_right (by omega) (by omega))) Hcc.out
      have hnum := Num.of_own hown hfin
      have ct := trimL wr _ _ k hnum (by omega)
      clear hfin h
      go_wp2_with (go_at_call 73; refine ct.mono ?_; rintro e w' ⟨v', m, rfl, rfl, n1, n2, n3, n4⟩)
      go_ret
      exact ⟨_, m, rfl, n1, n2, by omega, hbel, fun g hg => (hown.lt g (n4 g hg)).1⟩
set_option maxRecDepth 100000 in
set_option maxHeartbeats 4000000 in
theorem small (w : World) (va : Value) (A na M K : Nat) (ha : Num w va A na) (la : na ≤ M) (hM : M ≤ 100000) (hK : K ≤ 65535) :
    Calls Tryz.prog 50 #[va, .int .i64 (K : Int)] w (Res w (A * K) (M + 1)) := by
  obtain ⟨i0, hi, hz0, hz1, hz2⟩ := info_parts int_info
  obtain ⟨pa, ca, rfl, la2, la3⟩ := ha.open_
  have hAM : A < 65536 ^ M := Nat.lt_of_lt_of_le ha.1 (Nat.pow_le_pow_right (by omega) la)
  have Ha := Lib.hid ha
  have HA := Lib.hid hAM
  clear ha hAM
  go_enter Tryz.func50, Tryz.ntmps50
  go_wp2
  go_loopw [5, 6, 7] (fun out c i wr => ∃ k : Nat, k ≤ M + 1 ∧ i = .int .i64 (k : Int) ∧ c = .int .i64 ((crM A K k : Nat) : Int) ∧ wr.ownsRow w.heap.size 3 1 out k (dl (A * K) k) ∧ Below w.heap.size w wr) (fun _ _ i _ => M + 1 - (intOf i).toNat)
  case atStart => exact ⟨0, by omega, rfl, by rw [crM_zero]; rfl, World.ownsRow_nil _ _ _ _, Below.refl _ _⟩
  case round =>
    obtain ⟨k, hk, rfl, rfl, hown, hbel⟩ := hrel
    have da := fun wx (hx : Below w.heap.size w wx) => digitL wx _ A na k (Ha.out.below hx (Nat.le_refl _)) (by omega) (by omega)
    have hsd := mul_dg A K k
    have hcs := crM_succ A K k
    have hce : k < M + 1 ∨ crM A K k = 0 := by
      rcases Nat.lt_or_ge k (M + 1) with c | c
      · exact .inl c
      · exact .inr (crM_stop HA.out hK (by omega))
    have c1 := crM_le A K k
    have lA := dg_lt A k
    have Hs := Lib.hid hsd
    have Hc := Lib.hid hcs
    clear hsd hcs
    generalize hx : dg A k = x at *
    generalize hc : crM A K k = c at *
    have Hcc := Lib.hid hc
    clear hx hc
    have xk : x * K ≤ 65535 * 65535 := Nat.mul_le_mul (by omega) hK
    have e1 : ((x * K : Nat) : Int) = (x : Int) * K := Int.natCast_mul x K
    have xk1 : (x : Int) * K ≤ 4294836225 := by omega
    have xk0 : 0 ≤ (x : Int) * K := by omega
    have E1 := Lib.hid e1
    clear e1 xk
    rcases Decidable.em (k < na ∨ 0 < c) with h | h
    · have hkM : k < M + 1 := by omega
      rcases (show k < na ∨ (¬ k < na ∧ 0 < c) by omega) with h | ⟨h, h2⟩
      all_goals
        go_wp2_with (first
          | (go_at_call 72; with_reducible refine (da _ hbel).mono ?_; rintro e w' ⟨rfl, rfl⟩)
          | (at_builtin; refine wpList_append_own _ rfl _ _ 53 rfl w.heap.size 3 i0 (.int .i64 0) 1 8 Tryz.underlying53 hi hz0 hz1 hz2 rfl (by decide) _ _ _ rfl (hown.alloc _) ⟨wr.heap.size, 0, none⟩ 1 1 [_] rfl rfl (cell_one_new _ _ _) (ints_oneCell .i64 [_]) (by unfold maxLen; omega) (by omega) (by have := hbel.size; simp; omega) ?_; intro v1 w1 hown1 hgrow1 hnil1))
        have E2 := E1.out
        refine ⟨⟨k + 1, by omega, by go_num, by rw [← Hc.out]; exact congrArg _ (by omega), ?_, own_step hbel hown hgrow1⟩, by simp [intOf]; omega⟩
        rw [dl_succ, ← Hs.out]
        have e : ((((x * K + c) % 65536 : Nat) : Int)) = ((x : Int) * K + c) % 65536 := by omega
        rw [e]
        exact hown1
    · have h1 : ¬ k < na := by omega
      have h3 : c = 0 := by omega
      subst h3
      have hfin : A * K < 65536 ^ k := crM_end (Nat.lt_of_lt_of_le Ha.out.1 (Nat.pow_le_pow_right (by omega) (by omega))) Hcc.out
      have hnum := Num.of_own hown hfin
      have ct := trimL wr _ _ k hnum (by omega)
      clear hfin h
      go_wp2_with (go_at_call 73; refine ct.mono ?_; rintro e w' ⟨v', m, rfl, rfl, n1, n2, n3, n4⟩)
      go_ret
      exact ⟨_, m, rfl, n1, n2, by omega, hbel, fun g hg => (hown.lt g (n4 g hg)).1⟩
set_option maxRecDepth 100000 in
set_option maxHeartbeats 4000000 in
theorem minus (w : World) (va vb : Value) (A B na nb M : Nat) (ha : Num w va A na) (hb : Num w vb B nb) (la : na ≤ M) (lb : nb ≤ M) (hM : M ≤ 100000) (hle : B ≤ A) :
    Calls Tryz.prog 56 #[va, vb] w (Res w (A - B) M) := by
  obtain ⟨i0, hi, hz0, hz1, hz2⟩ := info_parts int_info
  have Ha := Lib.hid ha
  have Hb := Lib.hid hb
  obtain ⟨pb, cb, rfl, lb2, lb3⟩ := hb.open_
  obtain ⟨hA, pa, ca, rfl, la2, la3, hcells⟩ := ha
  have Hcell : Hid (∀ j wx, Below w.heap.size w wx → j < na → ∃ ad, pa = some ad ∧ wx.cell? (ad.add j) = some (.int .i64 ((dg A j : Nat) : Int))) := fun j wx hx hj => by
    obtain ⟨ad, e, hlt, hcell⟩ := hcells (by omega)
    have hbk : (ad.add j).block = ad.block := by unfold Addr.add; split <;> rfl
    exact ⟨ad, e, (hx.cell (by rw [hbk]; exact hlt)).trans (hcell j hj)⟩
  have HA := Lib.hid hA
  clear hb hA hcells
  have Hle := Lib.hid hle
  clear hle
  go_enter Tryz.func56, Tryz.ntmps56
  go_wp2
  go_loopw [5, 6, 11] (fun out c i wr => ∃ k : Nat, k ≤ na ∧ i = .int .i64 (k : Int) ∧ c = .int .i64 ((brw A B k : Nat) : Int) ∧ wr.ownsRow w.heap.size 3 1 out k (dl (A - B) k) ∧ Below w.heap.size w wr) (fun _ _ i _ => na - (intOf i).toNat)
  case atStart => exact ⟨0, by omega, rfl, by rw [brw_zero]; rfl, World.ownsRow_nil _ _ _ _, Below.refl _ _⟩
  case round =>
    obtain ⟨k, hk, rfl, rfl, hown, hbel⟩ := hrel
    have da := fun wx (hx : Below w.heap.size w wx) => digit wx _ B nb k (Hb.out.below hx (Nat.le_refl _)) (by omega) (by omega)
    have hs := sub_at A B k Hle.out
    have c1 := brw_le A B k
    have lA := dg_lt A k
    have lB := dg_lt B k
    by_cases h : k < na
    · obtain ⟨ad, rfl, hc⟩ := Hcell.out k wr hbel h
      have Hs := Lib.hid hs
      clear hs
      generalize hx : dg A k = x at *
      generalize hy : dg B k = y at *
      generalize hcc : brw A B k = c at *
      clear hx hy hcc
      have hq : ∀ q, Calls Tryz.prog 72 #[Value.slice pb nb cb, Value.int IntKind.i64 (k : Int)] (wr.drewN q) fun e w'' => e = .returned (.int .i64 (y : Int)) ∧ w'' = wr.drewN q := fun q => da (wr.drewN q) ⟨hbel.os, hbel.tape, hbel.output, hbel.size, hbel.block⟩
      have hown' : ∀ q, (wr.drewN q).ownsRow w.heap.size 3 1 u5 k (dl (A - B) k) := fun q => hown
      have hbel' : ∀ q, Below w.heap.size w (wr.drewN q) := fun q => ⟨hbel.os, hbel.tape, hbel.output, hbel.size, hbel.block⟩
      by_cases hlt : x < y + c
      · obtain ⟨s1, s2⟩ := Hs.out.1 hlt
        have S1 := Lib.hid s1
        have S2 := Lib.hid s2
        clear s1 s2
        go_wp2
        go_quiet ((go_at_call 72; exact Calls.quiet_of_same (hq _)))
        go_wp2_with (first | (at_builtin; refine wpList_append_own _ rfl _ _ 53 rfl w.heap.size 3 i0 (.int .i64 0) 1 8 Tryz.underlying53 hi hz0 hz1 hz2 rfl (by decide) _ _ _ rfl ((hown' _).alloc _) ⟨wr.heap.size, 0, none⟩ 1 1 [_] rfl rfl (cell_one_new _ _ _) (ints_oneCell .i64 [_]) (by unfold maxLen; omega) (by omega) (by have := hbel.size; simp; omega) ?_; intro v1 w1 hown1 hgrow1 hnil1))
        refine ⟨⟨k + 1, by omega, by go_num, by rw [S2.out]; rfl, ?_, own_step (hbel' _) (hown' _) hgrow1⟩, by simp [intOf]; omega⟩
        rw [dl_succ, S1.out]
        have e : ((x + 65536 - y - c : Nat) : Int) = (x : Int) - y - c + 65536 := by omega
        rw [e]
        exact hown1
      · obtain ⟨s1, s2⟩ := Hs.out.2 (by omega)
        have S1 := Lib.hid s1
        have S2 := Lib.hid s2
        clear s1 s2
        go_wp2
        go_quiet ((go_at_call 72; exact Calls.quiet_of_same (hq _)))
        go_wp2_with (first | (at_builtin; refine wpList_append_own _ rfl _ _ 53 rfl w.heap.size 3 i0 (.int .i64 0) 1 8 Tryz.underlying53 hi hz0 hz1 hz2 rfl (by decide) _ _ _ rfl ((hown' _).alloc _) ⟨wr.heap.size, 0, none⟩ 1 1 [_] rfl rfl (cell_one_new _ _ _) (ints_oneCell .i64 [_]) (by unfold maxLen; omega) (by omega) (by have := hbel.size; simp; omega) ?_; intro v1 w1 hown1 hgrow1 hnil1))
        refine ⟨⟨k + 1, by omega, by go_num, by rw [S2.out]; rfl, ?_, own_step (hbel' _) (hown' _) hgrow1⟩, by simp [intOf]; omega⟩
        rw [dl_succ, S1.out]
        have e : ((x - y - c : Nat) : Int) = (x : Int) - y - c := by omega
        rw [e]
        exact hown1
    · have hkn : k = na := by omega
      subst hkn
      have hfin : A - B < 65536 ^ k := Nat.lt_of_le_of_lt (Nat.sub_le _ _) HA.out
      have hnum := Num.of_own hown hfin
      have ct := trimL wr _ _ k hnum (by omega)
      clear hfin hs
      go_wp2_with (go_at_call 73; refine ct.mono ?_; rintro e w' ⟨v', m, rfl, rfl, n1, n2, n3, n4⟩)
      go_ret
      exact ⟨_, m, rfl, n1, n2, by omega, hbel, fun g hg => (hown.lt g (n4 g hg)).1⟩
end RN
end Go.Proofs.YtcchmnilcmnajaaGreatDoor
