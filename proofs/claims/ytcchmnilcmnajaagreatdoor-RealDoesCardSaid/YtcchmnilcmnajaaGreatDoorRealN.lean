/-
  The reference's long numbers, each a contract: a row of digits of base 65536, the lowest first: trim, of, digit. Conditions: lengths below a million.
-/
import Derived.Test.YtcchmnilcmnajaaGreatDoorRows
import Derived.Test.YtcchmnilcmnajaaGreatDoorRealV
import Derived.ProofKit
import Derived.OpenShut
import Derived.WalkKit
import Derived.WalkLawsBesides
import Derived.WalkSpells
import Derived.Outline
import Derived.Below
import Derived.OwnWalk
import Derived.LoopTactic
import Derived.Laws.OwnMore
import Derived.Deep.AppendLies
import Derived.Deep.Draws
import Derived.Maps.AppendAt
import Derived.Laws.AppendOwn
import Derived.Lib.Hide
namespace Go.Proofs.YtcchmnilcmnajaaGreatDoor
open Go.RowKit
set_option linter.unusedVariables false
namespace RN
theorem dg_lt (N j : Nat) : dg N j < 65536 := Nat.mod_lt _ (by omega)
theorem dg_beyond {N n j : Nat} (h : N < 65536 ^ n) (hj : n ≤ j) : dg N j = 0 := by
  unfold dg
  rw [Nat.div_eq_of_lt (Nat.lt_of_lt_of_le h (Nat.pow_le_pow_right (by omega) hj))]
theorem lt_of_top {N m : Nat} (h : N < 65536 ^ (m + 1)) (hd : dg N m = 0) : N < 65536 ^ m := by
  have h1 := mod_succ N m
  rw [hd, Nat.mul_zero, Nat.add_zero, Nat.mod_eq_of_lt h] at h1
  rw [h1]
  exact Nat.mod_lt _ (Nat.pow_pos (by omega))
theorem ge_of_top {N m : Nat} (hd : dg N m ≠ 0) : 65536 ^ m ≤ N := by
  rcases Nat.lt_or_ge N (65536 ^ m) with c | c
  · exact absurd (dg_beyond c (Nat.le_refl _)) hd
  · exact c
theorem div_succ (N k : Nat) : N / 65536 ^ k / 65536 = N / 65536 ^ (k + 1) := by
  rw [Nat.div_div_eq_div_mul, ← Nat.pow_succ]

/-- v reads as n digits of N; N has no more -/
def Num (w : World) (v : Value) (N n : Nat) : Prop :=
  N < 65536 ^ n ∧ ∃ A c, v = .slice A n c ∧ n ≤ c ∧ c ≤ maxLen ∧ (0 < n → ∃ ad, A = some ad ∧ ad.block < w.heap.size ∧ ∀ j, j < n → w.cell? (ad.add j) = some (.int .i64 ((dg N j : Nat) : Int)))
/-- no digit too many -/
def Tight (N n : Nat) : Prop := n = 0 ∨ 65536 ^ (n - 1) ≤ N
theorem Num.below {w w' : World} {v : Value} {N n B : Nat} (h : Num w v N n) (hb : Below B w w') (hB : w.heap.size ≤ B) : Num w' v N n := by
  obtain ⟨h1, A, c, e, hc, hc2, h2⟩ := h
  refine ⟨h1, A, c, e, hc, hc2, fun hn => ?_⟩
  obtain ⟨ad, ea, hlt, hcell⟩ := h2 hn
  refine ⟨ad, ea, Nat.lt_of_lt_of_le hlt hb.size, fun j hj => ?_⟩
  have hbk : (ad.add j).block = ad.block := by unfold Addr.add; split <;> rfl
  exact (hb.cell (by rw [hbk]; omega)).trans (hcell j hj)
theorem Num.grown {w w' : World} {v : Value} {N n : Nat} {row : Option Nat} (h : Num w v N n) (hg : w.grownBy w' row) (hr : ∀ g, row = some g → w.heap.size ≤ g) : Num w' v N n := by
  obtain ⟨h1, A, c, e, hc, hc2, h2⟩ := h
  refine ⟨h1, A, c, e, hc, hc2, fun hn => ?_⟩
  obtain ⟨ad, ea, hlt, hcell⟩ := h2 hn
  refine ⟨ad, ea, Nat.lt_of_lt_of_le hlt hg.size, fun j hj => ?_⟩
  have hbk : (ad.add j).block = ad.block := by unfold Addr.add; split <;> rfl
  refine (World.cell?_of_block (hg.block _ (by rw [hbk]; exact hlt) (fun c => ?_))).trans (hcell j hj)
  have := hr _ c.symm
  rw [hbk] at this
  omega
theorem zero (w : World) : Num w (.slice none 0 0) 0 0 := ⟨by simp, none, 0, rfl, Nat.le_refl _, by unfold maxLen; omega, fun h => absurd h (by omega)⟩
theorem Tight.zero : Tight 0 0 := .inl rfl
theorem Num.nil {w : World} {v : Value} {N : Nat} (h : Num w v N 0) : N = 0 := by have := h.1; simp at this; exact this

/-- digits of N, the first k, as values -/
def dl (N k : Nat) : List Value := (List.range k).map fun j => .int .i64 ((dg N j : Nat) : Int)
theorem dl_succ (N k : Nat) : dl N (k + 1) = dl N k ++ [.int .i64 ((dg N k : Nat) : Int)] := by
  unfold dl; rw [List.range_succ, List.map_append]; rfl
theorem dl_length (N k : Nat) : (dl N k).length = k := by unfold dl; simp
theorem dl_at {N k j : Nat} (h : j < k) : (dl N k)[j]? = some (.int .i64 ((dg N j : Nat) : Int)) := by
  unfold dl; rw [List.getElem?_map, List.getElem?_range h]; rfl
theorem dl_congr {N M k : Nat} (h : ∀ j, j < k → dg N j = dg M j) : dl N k = dl M k := by
  unfold dl
  refine List.map_congr_left fun j hj => ?_
  rw [h j (List.mem_range.1 hj)]
/-- a row of the call's own that holds the digits reads as the number -/
theorem Num.of_own {w : World} {base N k : Nat} {v : Value} (h : w.ownsRow base 3 1 v k (dl N k)) (hN : N < 65536 ^ k) : Num w v N k := by
  refine ⟨hN, ?_⟩
  rcases h.2 with ⟨rfl, rfl⟩ | ⟨g, cap, cur, rfl, hb, hg, hk, hcap, hsz, htake⟩
  · exact ⟨none, 0, rfl, Nat.le_refl _, by unfold maxLen; omega, fun h => absurd h (by omega)⟩
  · refine ⟨_, cap, rfl, hk, hcap, fun hn => ⟨⟨g, 0, none⟩, rfl, ?_, fun j hj => ?_⟩⟩
    · rcases Nat.lt_or_ge g w.heap.size with c | c
      · exact c
      · rw [Array.getElem?_eq_none c] at hg; cases hg
    · have e : (⟨g, 0, none⟩ : Addr).add j = ⟨g, j, none⟩ := by
        unfold Addr.add; split
        · rename_i h0; subst h0; rfl
        · simp
      rw [e, cell_of_row w g j cur _ (0, 0) hg, ← Array.getElem?_toList]
      have h1 : (cur.toList.take (k * 1))[j]? = some (.int .i64 ((dg N j : Nat) : Int)) := by rw [htake]; exact dl_at hj
      rw [List.getElem?_take] at h1
      simpa [hj] using h1

theorem digit_in (w : World) (v : Value) (N n i : Nat) (h : Num w v N n) (hn : n ≤ 1000000) (hi : i < n) : Calls Tryz.prog 72 #[v, .int .i64 (i : Int)] w fun e w' => e = .returned (.int .i64 ((dg N i : Nat) : Int)) ∧ w' = w := by
  obtain ⟨h1, A, c, rfl, hc, hc2, h2⟩ := h
  obtain ⟨ad, rfl, hlt, hcell⟩ := h2 (by omega)
  have hd := hcell i hi
  clear hcell h2 h1
  have d : decide ((i : Int) < (n : Int)) = true := decide_eq_true (by omega)
  generalize dg N i = x at *
  go_enter Tryz.func72, Tryz.ntmps72
  go_wp2
  go_ret
  exact ⟨rfl, rfl⟩
theorem digit_out (w : World) (v : Value) (N n i : Nat) (h : Num w v N n) (hn : n ≤ 1000000) (hi : n ≤ i) (hi2 : i ≤ 2000000) : Calls Tryz.prog 72 #[v, .int .i64 (i : Int)] w fun e w' => e = .returned (.int .i64 ((dg N i : Nat) : Int)) ∧ w' = w := by
  rw [dg_beyond h.1 hi]
  obtain ⟨h1, A, c, rfl, hc, hc2, h2⟩ := h
  clear h2 h1
  have d : decide ((i : Int) < (n : Int)) = false := decide_eq_false (by omega)
  go_enter Tryz.func72, Tryz.ntmps72
  go_wp2
  go_ret
  exact ⟨rfl, rfl⟩
theorem digit (w : World) (v : Value) (N n i : Nat) (h : Num w v N n) (hn : n ≤ 1000000) (hi2 : i ≤ 2000000) : Calls Tryz.prog 72 #[v, .int .i64 (i : Int)] w fun e w' => e = .returned (.int .i64 ((dg N i : Nat) : Int)) ∧ w' = w := by
  rcases Nat.lt_or_ge i n with c | c
  · exact digit_in w v N n i h hn c
  · exact digit_out w v N n i h hn c hi2
/-- what a call leaves: a new number of at most b digits; what was there is there -/
def Res (w : World) (X b : Nat) (e : Ending) (w' : World) : Prop := ∃ v' m, e = .returned v' ∧ Num w' v' X m ∧ Tight X m ∧ m ≤ b ∧ Below w.heap.size w w' ∧ ∀ g, v'.ownBlock = some g → w.heap.size ≤ g
theorem int_info : (Tryz.prog.info? 3).map (fun i => (i.zero, i.size, i.bytes)) = some (some (.int .i64 0), 1, 8) := by kernel_rfl
set_option maxRecDepth 100000 in
theorem trim (w : World) (v : Value) (N n : Nat) (h : Num w v N n) (hn : n ≤ 1000000) : Calls Tryz.prog 73 #[v] w fun e w' => ∃ v' m, e = .returned v' ∧ w' = w ∧ Num w v' N m ∧ Tight N m ∧ m ≤ n ∧ ∀ g, v'.ownBlock = some g → v.ownBlock = some g := by
  have h' := h
  obtain ⟨h1, A, c, rfl, hc, hc2, h2⟩ := h
  have Hcell : Hid (∀ j, j < n → ∃ ad, A = some ad ∧ w.cell? (ad.add j) = some (.int .i64 ((dg N j : Nat) : Int))) := fun j hj => by
    obtain ⟨ad, e, _, hcell⟩ := h2 (by omega)
    exact ⟨ad, e, hcell j hj⟩
  have H2 := Lib.hid h2
  have H1 := Lib.hid h1
  have H' := Lib.hid h'
  clear h2 h1 h'
  unfold maxLen at hc2
  go_enter Tryz.func73, Tryz.ntmps73
  go_wp2
  go_loop [3] (fun x => ∃ m : Nat, m ≤ n ∧ x = .int .i64 (m : Int) ∧ Hid (N < 65536 ^ m)) (fun x => (intOf x).toNat)
  case atStart => exact ⟨n, Nat.le_refl _, rfl, H1⟩
  case round =>
    obtain ⟨m, hm, rfl, hN⟩ := hrel
    by_cases h0 : m = 0
    · subst h0
      go_wp2
      go_ret
      have e0 : N = 0 := by have := hN.out; simp at this; exact this
      subst e0
      exact ⟨_, rfl, rfl, 0, ⟨by simp, A, c, rfl, by omega, by unfold maxLen; omega, fun h => absurd h (by omega)⟩, .inl rfl, by omega, fun _ h => by cases A <;> exact h⟩
    · obtain ⟨q, rfl⟩ : ∃ q, m = q + 1 := ⟨m - 1, by omega⟩
      obtain ⟨ad, rfl, hcq⟩ := Hcell.out q (by omega)
      by_cases hd : dg N q = 0
      · rw [hd] at hcq
        have Hd := Lib.hid hd
        clear hd
        go_wp2
        exact ⟨⟨q, by omega, rfl, Lib.hid (lt_of_top hN.out Hd.out)⟩, by simp [intOf]⟩
      · have hb : (((dg N q : Nat) : Int) == 0) = false := by rw [beq_eq_false_iff_ne]; omega
        have Hd := Lib.hid hd
        clear hd
        generalize hx : dg N q = x at *
        have Hx := Lib.hid hx
        clear hx
        go_wp2
        go_ret
        refine ⟨_, rfl, rfl, q + 1, ⟨hN.out, some ad, c, rfl, by omega, by unfold maxLen; omega, fun _ => ?_⟩, .inr (by rw [Nat.add_sub_cancel]; exact ge_of_top (by rw [Hx.out]; exact Hd.out)), by omega, fun _ h => h⟩
        obtain ⟨ad', e, hlt, hcell⟩ := H2.out (by omega)
        cases e
        exact ⟨ad, rfl, hlt, fun j hj => hcell j (by omega)⟩
set_option maxRecDepth 100000 in
set_option maxHeartbeats 2000000 in
theorem of_ (w : World) (X : Nat) (hX : X < 9223372036854775808) : Calls Tryz.prog 34 #[.int .i64 (X : Int)] w (Res w X 4) := by
  obtain ⟨i0, hi, hz0, hz1, hz2⟩ := info_parts int_info
  have HX := Lib.hid hX
  clear hX
  go_enter Tryz.func34, Tryz.ntmps34
  go_wp2
  go_loopw [0, 3] (fun x out wr => ∃ k : Nat, k ≤ 4 ∧ x = .int .i64 ((X / 65536 ^ k : Nat) : Int) ∧ wr.ownsRow w.heap.size 3 1 out k (dl X k) ∧ Below w.heap.size w wr ∧ Hid (Tight X k)) (fun x _ _ => (intOf x).toNat)
  case atStart => exact ⟨0, by omega, by simp, World.ownsRow_nil _ _ _ _, Below.refl _ _, Lib.hid (.inl rfl)⟩
  case round =>
    obtain ⟨k, hk, rfl, hown, hbel, htight⟩ := hrel
    have hbd : X / 65536 ^ k < 9223372036854775808 := Nat.lt_of_le_of_lt (Nat.div_le_self _ _) HX.out
    have hs := div_succ X k
    have hmod : X / 65536 ^ k % 65536 = dg X k := rfl
    by_cases h0 : X / 65536 ^ k = 0
    · rw [h0]
      have hlt : X < 65536 ^ k := by
        rcases Nat.lt_or_ge X (65536 ^ k) with c | c
        · exact c
        · have := Nat.div_pos c (Nat.pow_pos (by omega)); omega
      clear hbd hs hmod h0
      go_wp2
      go_ret
      exact ⟨_, k, rfl, Num.of_own hown hlt, htight.out, hk, hbel, fun g hg => (hown.lt g hg).1⟩
    · have hge : 65536 ^ k ≤ X := by
        rcases Nat.lt_or_ge X (65536 ^ k) with c | c
        · exact absurd (Nat.div_eq_of_lt c) h0
        · exact c
      have hk3 : k ≤ 3 := by
        rcases Nat.lt_or_ge k 4 with c | c
        · omega
        · have h4 : (65536 : Nat) ^ 4 ≤ 65536 ^ k := Nat.pow_le_pow_right (by omega) c
          have := HX.out
          have e4 : (65536 : Nat) ^ 4 = 18446744073709551616 := by decide
          omega
      have Hge := Lib.hid hge
      have Hs := Lib.hid hs
      have Hm := Lib.hid hmod
      clear hge hs hmod
      generalize hv : X / 65536 ^ k = v at *
      have Hv := Lib.hid hv
      clear hv
      go_wp2_with (at_builtin; refine wpList_append_own _ rfl _ _ 53 rfl w.heap.size 3 i0 (.int .i64 0) 1 8 Tryz.underlying53 hi hz0 hz1 hz2 rfl (by decide) _ _ _ rfl (hown.alloc _) ⟨wr.heap.size, 0, none⟩ 1 1 [_] rfl rfl (cell_one_new _ _ _) (ints_oneCell .i64 [_]) (by unfold maxLen; omega) (by omega) (by have := hbel.size; simp; omega) ?_; intro v1 w1 hown1 hgrow1 hnil1)
      refine ⟨⟨k + 1, by omega, by rw [← Hs.out]; exact congrArg _ (by omega), ?_, ?_, Lib.hid (.inr (by rw [Nat.add_sub_cancel]; exact Hge.out))⟩, ?_⟩
      · rw [dl_succ, ← Hm.out]; exact hown1
      · exact (hbel.alloc hbel.size _).grown hgrow1 (by have := hbel.size; simp; omega) (fun g hg => (hown.lt g hg).1)
      · simp [intOf]; omega
end RN
end Go.Proofs.YtcchmnilcmnajaaGreatDoor
