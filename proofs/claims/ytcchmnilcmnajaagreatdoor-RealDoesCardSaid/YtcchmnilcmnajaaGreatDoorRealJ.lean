/-
  The reference's product of two numbers of at most four digits, a contract.
-/
import Derived.Test.YtcchmnilcmnajaaGreatDoorRealF
import Derived.Deep.RegionHeld3
namespace Go.Proofs.YtcchmnilcmnajaaGreatDoor
open Go.RowKit
set_option linter.unusedVariables false
set_option linter.unusedSimpArgs false
namespace RJ
open RM RC RB RN RF
theorem fit {w : World} {v : Value} {N M m : Nat} (h : NumT w v N M) (hN : N < 65536 ^ m) : NumT w v N m := by
  obtain ⟨n, h1, h2, h3⟩ := h
  refine ⟨n, h1, h2, ?_⟩
  rcases h2 with h2 | h2
  · omega
  · rcases Nat.lt_or_ge m n with c | c
    · have : (65536 : Nat) ^ m ≤ 65536 ^ (n - 1) := Nat.pow_le_pow_right (by omega) (by omega)
      omega
    · exact c
theorem numDrew {w : World} {v : Value} {N M : Nat} (h : NumT w v N M) : NumT w.drew v N M := h
theorem step_val (A B m : Nat) : A * (B / 65536 ^ (m + 1)) * 2 ^ 16 + A * dg B m = A * (B / 65536 ^ m) := by
  have h := div_dg B m
  rw [h, show (2 : Nat) ^ 16 = 65536 by decide, Nat.mul_add, Nat.mul_assoc, Nat.mul_comm (B / 65536 ^ (m + 1))]
theorem small_val {A B p q k : Nat} (ha : A < 65536 ^ p) (hb : B < 65536 ^ q) : A * (B / 65536 ^ k) < 65536 ^ (p + q) := by
  have h1 : B / 65536 ^ k ≤ B := Nat.div_le_self _ _
  rw [Nat.pow_add]
  exact Nat.lt_of_le_of_lt (Nat.mul_le_mul_left A h1) (Nat.mul_lt_mul'' ha hb)
theorem pow4 {n : Nat} (h : n ≤ 4) : (65536 : Nat) ^ n ≤ 65536 ^ 4 := Nat.pow_le_pow_right (by omega) h
set_option maxRecDepth 100000 in
set_option maxHeartbeats 4000000 in
theorem times (w : World) (va vb : Value) (A B : Nat) (ha : NumT w va A 4) (hb : NumT w vb B 4) : Calls Tryz.prog 33 #[va, vb] w (ResT w (A * B) 8) := by
  obtain ⟨n, hb1, hb2, hb3⟩ := hb
  obtain ⟨p, ha1, ha2, ha3⟩ := ha
  have hA : A < 65536 ^ 4 := Nat.lt_of_lt_of_le ha1.1 (pow4 ha3)
  have hB : B < 65536 ^ 4 := Nat.lt_of_lt_of_le hb1.1 (pow4 hb3)
  have Ha := Lib.hid (show NumT w va A 4 from ⟨p, ha1, ha2, ha3⟩)
  have HA := Lib.hid hA
  have HB := Lib.hid hB
  have HBn := Lib.hid hb1.1
  obtain ⟨_, pb, cb, rfl, hc1, hc2, hcell⟩ := hb1
  unfold maxLen at hc2
  have HC := Lib.hid hcell
  clear ha1 ha2 ha3 hA hB hb2 hcell
  go_enter Tryz.func33, Tryz.ntmps33
  go_wp2
  go_loopw [5, 6] (fun out i wr => ∃ k : Nat, k ≤ n ∧ i = .int .i64 ((k : Int) - 1) ∧ Hid (NumT wr out (A * (B / 65536 ^ k)) 8) ∧ Below w.heap.size w wr) (fun _ i _ => (intOf i + 1).toNat)
  case atStart =>
    refine ⟨n, Nat.le_refl _, rfl, Lib.hid ?_, Below.refl _ _⟩
    rw [Nat.div_eq_of_lt HBn.out, Nat.mul_zero]
    exact ⟨0, zero w, Tight.zero, by omega⟩
  case round =>
    obtain ⟨k, hk, rfl, hnum, hbel⟩ := hrel
    rcases Nat.eq_zero_or_pos k with h0 | h0
    · subst h0
      have HN := Lib.hid (show NumT wr (u5) (A * B) 8 by have := hnum.out; rwa [Nat.pow_zero, Nat.div_one] at this)
      rw [show (((0 : Nat)) : Int) - 1 = -1 from rfl]
      clear hnum
      go_wp2
      go_ret
      exact ⟨_, rfl, HN.out, hbel⟩
    · obtain ⟨m, rfl⟩ : ∃ m, k = m + 1 := ⟨k - 1, by omega⟩
      rw [show (((m + 1 : Nat)) : Int) - 1 = (m : Int) by omega]
      obtain ⟨ad, rfl, hlt, hcell⟩ := HC.out (by omega)
      have hbk : (ad.add m).block = ad.block := by unfold Addr.add; split <;> rfl
      have hc : wr.cell? (ad.add m) = some (.int .i64 ((dg B m : Nat) : Int)) := (hbel.cell (by rw [hbk]; exact hlt)).trans (hcell m (by omega))
      have hlt2 : (ad.add m).block < wr.heap.size := by rw [hbk]; have := hbel.size; omega
      have hdl := dg_lt B m
      have HV := Lib.hid (step_val A B m)
      have HL := Lib.hid (small_val (k := m) HA.out HB.out)
      have HL1 := Lib.hid (small_val (k := m + 1) HA.out HB.out)
      clear hbk hcell
      generalize dg B m = x at *
      generalize A * (B / 65536 ^ (m + 1)) = O at *
      generalize hO' : A * (B / 65536 ^ m) = O' at *
      have HO := Lib.hid hO'
      clear hO'
      have k2 : Calls Tryz.prog 54 #[u5, .int .i64 16] wr.drew (ResT wr.drew (O * 2 ^ 16) 10) := twiceT wr.drew u5 O 8 16 (numDrew hnum.out) (by omega) (by omega)
      have k3 : ∀ w1, Below wr.drew.heap.size wr.drew w1 → Calls Tryz.prog 50 #[va, .int .i64 (x : Int)] w1 (ResT w1 (A * x) 5) := fun w1 h1 => smallT w1 va A 4 x (Ha.out.below (Below.trans (belowDrew hbel) (h1.mono hbel.size)) (Nat.le_refl _)) (by omega) (by omega)
      have mlt : decide ((m : Int) < (n : Int)) = true := decide_eq_true (by omega)
      have mi1 : (0 : Int) ≤ (m : Int) := by omega
      have mi2 : (m : Int) < (n : Int) := by omega
      have mi3 : (m : Int) ≤ (n : Int) := by omega
      have mi4 : m < n := by omega
      go_wp2
      go_region_held3 (fun w' => w'.cell? (ad.add m) = some (.int .i64 (x : Int))) (first | go_keep | exact (b1.cell hlt2).trans hc | exact (b2.cell (Nat.lt_of_lt_of_le hlt2 b1.size)).trans ((b1.cell hlt2).trans hc) | exact (b3.cell (Nat.lt_of_lt_of_le hlt2 (Nat.le_trans b1.size b2.size))).trans ((b2.cell (Nat.lt_of_lt_of_le hlt2 b1.size)).trans ((b1.cell hlt2).trans hc)))
        ((first
          | (go_at_call 54; refine k2.mono ?_; rintro e w1 ⟨t1, rfl, n1, b1⟩; have N1 := Lib.hid n1; clear n1)
          | (go_at_call 50; refine (k3 _ b1).mono ?_; rintro e w2 ⟨t2, rfl, n2, b2⟩; have N2 := Lib.hid n2; clear n2)
          | (go_at_call 49; refine (plusT _ _ _ (O * 2 ^ 16) (A * x) 10 (NumT.le (N1.out.below b2 (Nat.le_refl _)) (by decide)) (NumT.le N2.out (by decide)) (by decide)).mono ?_; rintro e w3 ⟨t3, rfl, n3, b3⟩; have N3 := Lib.hid n3; clear n3)))
      all_goals
        go_wp2
        have h3 : NumT w3 t3 O' 11 := by rw [← HV.out]; exact N3.out
        have h4 := fit h3 HL.out
        refine ⟨⟨m, by omega, rfl, Lib.hid (by rw [HO.out]; exact h4), ?_⟩, by simp [intOf]; try omega⟩
        have B0 := belowDrew hbel
        have B1 := B0.trans (b1.mono B0.size)
        have B2 := B1.trans (b2.mono B1.size)
        exact B2.trans (b3.mono B2.size)
end RJ
end Go.Proofs.YtcchmnilcmnajaaGreatDoor
