/-
  The reference's long numbers: half, a contract. Condition: lengths below a hundred thousand.
-/
import Derived.Test.YtcchmnilcmnajaaGreatDoorRealS
import Derived.Deep.RegionHeld3
namespace Go.Proofs.YtcchmnilcmnajaaGreatDoor
open Go.RowKit
set_option linter.unusedVariables false
namespace RN
theorem belowDrew {B : Nat} {a w : World} (h : Below B a w) : Below B a w.drew := ⟨h.os, h.tape, h.output, h.size, h.block⟩
theorem keepc {w wr w1 : World} {o : Obj} {u v : Value} {k j : Nat} {xs : List Value} {ad : Addr} (hbel : Below w.heap.size w wr) (hown : wr.ownsRow w.heap.size 3 1 u k xs) (hlt : ad.block < w.heap.size)
    (hg : (wr.alloc o).drew.grownBy w1 u.ownBlock) (hc : wr.cell? (ad.add j) = some v) : w1.cell? (ad.add j) = some v := by
  have hbk : (ad.add j).block = ad.block := by unfold Addr.add; split <;> rfl
  have hsz := hbel.size
  refine (World.cell?_of_block (hg.block _ (by rw [hbk]; simp; omega) (fun c => ?_))).trans ?_
  · have := (hown.lt _ c.symm).1
    rw [hbk] at this
    omega
  · exact (World.cell?_alloc_lt wr o _ (by rw [hbk]; omega)).trans hc
theorem half_wrap (x y d : Nat) (hx : x < 65536) (hy : y < 65536) (h : x / 2 + y % 2 * 32768 = d) : IntKind.i64.wrap ((x : Int) / 2 + IntKind.i64.wrap ((y : Int).tmod 2 * 32768)) = (d : Int) := by
  subst h
  have e1 : ((y : Int).tmod 2) = ((y % 2 : Nat) : Int) := rfl
  rw [e1]
  have h1 := Nat.mod_lt y (show 0 < 2 by omega)
  generalize y % 2 = b at *
  have e2 : IntKind.i64.wrap ((b : Int) * 32768) = (b : Int) * 32768 := by rw [IntKind.wrap_i64]; omega
  rw [e2, IntKind.wrap_i64]
  omega
set_option maxRecDepth 100000 in
set_option maxHeartbeats 400000 in
theorem half (w : World) (va : Value) (A na M : Nat) (ha : Num w va A na) (la : na ≤ M) (hM : M ≤ 100000) :
    Calls Tryz.prog 75 #[va] w (Res w (A / 2) M) := by
  obtain ⟨i0, hi, hz0, hz1, hz2⟩ := info_parts int_info
  have Ha := Lib.hid ha
  obtain ⟨hA, pa, ca, rfl, la2, la3, hcells⟩ := ha
  have Hcell : Hid (∀ j wx, Below w.heap.size w wx → j < na → ∃ ad, pa = some ad ∧ ad.block < w.heap.size ∧ wx.cell? (ad.add j) = some (.int .i64 ((dg A j : Nat) : Int))) := fun j wx hx hj => by
    obtain ⟨ad, e, hlt, hcell⟩ := hcells (by omega)
    have hbk : (ad.add j).block = ad.block := by unfold Addr.add; split <;> rfl
    exact ⟨ad, e, hlt, (hx.cell (by rw [hbk]; exact hlt)).trans (hcell j hj)⟩
  have HA := Lib.hid hA
  clear hA hcells
  go_enter Tryz.func75, Tryz.ntmps75
  go_wp2
  go_loopw [3, 7] (fun out i wr => ∃ k : Nat, k ≤ na ∧ i = .int .i64 (k : Int) ∧ wr.ownsRow w.heap.size 3 1 out k (dl (A / 2) k) ∧ Below w.heap.size w wr) (fun _ i _ => na - (intOf i).toNat)
  case atStart => exact ⟨0, by omega, rfl, World.ownsRow_nil _ _ _ _, Below.refl _ _⟩
  case round =>
    obtain ⟨k, hk, rfl, hown, hbel⟩ := hrel
    have hs := half_dg A k
    have lA := dg_lt A k
    have lB := dg_lt A (k + 1)
    have hown' : ∀ q, (wr.drewN q).ownsRow w.heap.size 3 1 u3 k (dl (A / 2) k) := fun q => hown
    have hbel' : ∀ q, Below w.heap.size w (wr.drewN q) := fun q => ⟨hbel.os, hbel.tape, hbel.output, hbel.size, hbel.block⟩
    by_cases h : k < na
    · obtain ⟨ad, rfl, hlt, hc⟩ := Hcell.out k wr hbel h
      have da : ∀ q, Calls Tryz.prog 72 #[.slice (some ad) na ca, .int .i64 ((k + 1 : Nat) : Int)] (wr.drewN q) fun e w' => e = .returned (.int .i64 ((dg A (k + 1) : Nat) : Int)) ∧ wr.drewN q = w' := fun q => digitL _ _ A na (k + 1) (Ha.out.below (hbel' q) (Nat.le_refl _)) (by omega) (by omega)
      have da1 : Calls Tryz.prog 72 #[.slice (some ad) na ca, .int .i64 ((k + 1 : Nat) : Int)] wr.drew fun e w' => e = .returned (.int .i64 ((dg A (k + 1) : Nat) : Int)) ∧ wr.drew = w' := da 1
      have da0 : Calls Tryz.prog 72 #[.slice (some ad) na ca, .int .i64 ((k + 1 : Nat) : Int)] wr fun e w' => e = .returned (.int .i64 ((dg A (k + 1) : Nat) : Int)) ∧ wr = w' := digitL _ _ A na (k + 1) (Ha.out.below hbel (Nat.le_refl _)) (by omega) (by omega)
      have Hs := Lib.hid hs
      clear hs
      generalize hx : dg A k = x at *
      generalize hy : dg A (k + 1) = y at *
      clear hx hy
      have k1 : ((k + 1 : Nat) : Int) = (k : Int) + 1 := by omega
      rw [k1] at da da0 da1
      clear k1
      go_wp2
      have e1 : IntKind.i64.wrap ((k : Int) + 1) = (k : Int) + 1 := by rw [IntKind.wrap_i64]; omega
      have e2 : IntKind.i64.wrap ((x : Int) / 2) = (x : Int) / 2 := by rw [IntKind.wrap_i64]; omega
      generalize hd : dg (A / 2) k = d at *
      have Hd := Lib.hid hd
      clear hd
      have e3 := half_wrap x y d lA lB Hs.out
      go_region_held3 (fun w' => w'.cell? (ad.add k) = some (.int .i64 x)) (first | go_keep | exact keepc hbel hown hlt hgrow1 hc)
        ((first
          | (go_at_call 72; (first | with_reducible refine da0.mono ?_ | with_reducible refine da1.mono ?_ | with_reducible refine (da _).mono ?_); rintro e w' ⟨rfl, rfl⟩)
          | (refine step_append_lies _ (by rfl) _ _ _ (by rfl) w.heap.size 3 i0 (.int .i64 0) 1 8 Tryz.underlying53 hi hz0 hz1 hz2 rfl (by decide) u3 k (dl (A / 2) k) (by rfl) ((hown.alloc _).drew) ⟨wr.heap.size, 0, none⟩ 1 1 [.int .i64 (d : Int)] (by rfl) (by rfl) (World.news_of_block (cs := #[.int .i64 (d : Int)]) (t := 3) (fr := (0, 0)) (heap_alloc_new wr _)) (by simp [Value.oneCell']) (by decide) (by unfold maxLen; omega) (by omega) (by have := hbel.size; simp; omega) (wr.heap.size + 1) (by simp) ?_; intro gg cap w1 hown1 hgrow1 hat1 hlt1)))
      go_wp2
      refine ⟨⟨k + 1, by omega, by go_num, ?_, ?_⟩, by simp [intOf]; omega⟩
      · rw [dl_succ, Hd.out]; exact hown1
      · exact (belowDrew (hbel.alloc hbel.size _)).grown hgrow1 (by have := hbel.size; simp; omega) (fun g hg => (hown.lt g hg).1)
    · have hkn : k = na := by omega
      subst hkn
      have hfin : A / 2 < 65536 ^ k := Nat.lt_of_le_of_lt (Nat.div_le_self _ _) HA.out
      have hnum := Num.of_own hown hfin
      have ct := trimL wr _ _ k hnum (by omega)
      clear hfin hs
      go_wp2_with (go_at_call 73; refine ct.mono ?_; rintro e w' ⟨v', m, rfl, rfl, n1, n2, n3, n4⟩)
      go_ret
      exact ⟨_, m, rfl, n1, n2, by omega, hbel, fun g hg => (hown.lt g (n4 g hg)).1⟩
end RN
end Go.Proofs.YtcchmnilcmnajaaGreatDoor
