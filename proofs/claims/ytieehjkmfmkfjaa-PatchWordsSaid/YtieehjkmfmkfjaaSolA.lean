/-
  Package solderref05's Of and symbol: contracts. Conditions: the word is of 32 bits; slices are such as memory holds.
-/
import Derived.Test.YtieehjkmfmkfjaaCodeT
import Derived.Test.YtieehjkmfmkfjaaObjPt
namespace Go.Proofs.Ytieehjkmfmkfjaa
open Go.RowKit
set_option linter.unusedVariables false
set_option linter.unusedSimpArgs false
namespace SA
open OO OJ OU OPt
def rkI (op : Int) : Int := if CM.isOp op then CO.rk (CM.kd op) else 0
def KF (op q : Int) : Prop := (q = 73 ↔ (18 ≤ op ∧ op ≤ 23 ∨ 27 ≤ op ∧ op ≤ 29 ∨ op = 41 ∨ op = 43)) ∧ (q = 83 ↔ (op = 30 ∨ op = 31 ∨ op = 44)) ∧ (q = 66 ↔ (32 ≤ op ∧ op ≤ 37))
instance (op q : Int) : Decidable (KF op q) := by unfold KF; exact inferInstance
theorem kf {op : Int} (h : CM.isOp op = true) : KF op (rkI op) := by
  have := CM.all_ops (fun op => decide (KF op (rkI op))) (by decide +kernel) h
  simpa using this
theorem dec_op {x : Int} (h : CM.dec x ≠ 0) : CM.isOp (CM.dec x) = true := by
  unfold CM.dec at h ⊢
  cases e : (List.range 55).find? fun n => CM.hit ((n + 1 : Nat) : Int) x with
  | none => rw [e] at h; exact absurd rfl h
  | some n =>
    have := List.mem_of_find?_eq_some e
    rw [List.mem_range] at this
    unfold CM.isOp
    simp only [decide_eq_true_eq]
    omega
theorem row_eq (op : Int) : ∃ a b c d : Int, CO.rowV op = #[.int .u8 (rkI op), .int .i64 a, .int .i64 b, .int .i64 c, .int .i64 d] := by
  unfold CO.rowV rkI
  split
  · exact ⟨_, _, _, _, rfl⟩
  · exact ⟨_, _, _, _, rfl⟩
theorem up0 {w : World} {b : Nat} {T : TypeId} {p q r s t : Value} (h : w.heap[b]? = some (.cells #[p, q, r, s, t] T (0, 0))) : ∀ o, (w.alloc o).cell? ⟨b, 0, none⟩ = some p := fun o =>
  (World.cell?_alloc_lt w o _ (by obtain ⟨hl, -⟩ := Array.getElem?_eq_some_iff.1 h; exact hl)).trans (cell_of_row _ _ _ _ _ _ h)
theorem up4 {w : World} {b : Nat} {T : TypeId} {p q r s t : Value} (h : w.heap[b]? = some (.cells #[p, q, r, s, t] T (0, 0))) : ∀ o, (w.alloc o).cell? ⟨b, 4, none⟩ = some t := fun o =>
  (World.cell?_alloc_lt w o _ (by obtain ⟨hl, -⟩ := Array.getElem?_eq_some_iff.1 h; exact hl)).trans (cell_of_row _ _ _ _ _ _ h)
set_option maxRecDepth 100000 in
set_option maxHeartbeats 8000000 in
theorem of_ (k x : Int) (h0 : 0 ≤ x) (h1 : x < 4294967296) (w : World) :
    Calls Try.prog 46 #[.int .i64 k, .int .u32 x] w fun e w' => e = .returned (.bool (patB k x)) ∧ Below w.heap.size w w' := by
  have c1 := fun w => CT.decode_ x h0 h1 w
  have c2 := fun w => CO.of_ (CD.dOp x) w
  obtain ⟨ra, rb, rc, rd, hr⟩ := row_eq (CD.dOp x)
  have HK := Lib.hid (show CD.dOp x ≠ 0 → KF (CD.dOp x) (rkI (CD.dOp x)) from fun h => kf (dec_op h))
  have HP := Lib.hid (show patB k x = (decide (CD.dOp x ≠ 0) && (decide (CD.dImm x = 0) && kindB k (CD.dOp x))) by
    unfold patB CD.dE CD.dOp
    by_cases h : CM.dec x = 0 <;> simp [h])
  have hok : (!(CM.dec x == 0)) = decide (CD.dOp x ≠ 0) := by unfold CD.dOp; by_cases h : CM.dec x = 0 <;> simp [h]
  rw [hok] at c1
  rw [hr] at c2
  clear hok hr
  generalize patB k x = b at *
  generalize CD.dOp x = op at *
  generalize CD.dImm x = im at *
  generalize CD.dRd x = r0 at *
  generalize CD.dRs1 x = r1 at *
  generalize CD.dRs2 x = r2 at *
  generalize rkI op = q at *
  unfold CW.iv at c1
  clear h0 h1
  by_cases e1 : op = 0
  · subst e1
    rw [show decide ((0 : Int) ≠ 0) = false from rfl] at c1
    go_enter Try.func46, Try.ntmps46
    go_wp2_with (first
      | (go_at_call 47; (with_reducible refine (c1 _).mono ?_); rintro e w1 ⟨rfl, hb⟩; have HB := Lib.hid hb; clear hb)
      | (go_at_call 71; (with_reducible refine (c2 _).mono ?_); rintro e w2 ⟨rfl, hb⟩; have HB2 := Lib.hid hb; obtain ⟨hrow, -⟩ := CT.row1 hb; clear hb; have g0 := up0 hrow; have g4 := up4 hrow; have HR := Lib.hid hrow; clear hrow))
    go_ret
    exact ⟨ret_bool (by rw [HP.out]; rfl), ((HB.out.alloc HB.out.size _).trans (HB2.out.mono (by have := HB.out.size; simp only [World.size_alloc]; omega))).alloc (by have := HB.out.size; have := HB2.out.size; simp only [World.size_alloc] at *; omega) _⟩
  · rw [show decide (op ≠ 0) = true from decide_eq_true e1] at c1
    have HKF := Lib.hid (HK.out e1)
    have HE := Lib.hid e1
    clear e1
    by_cases e2 : im = 0
    all_goals
      have HI := Lib.hid e2
      go_enter Try.func46, Try.ntmps46
      go_wp2_with (first
        | (go_at_call 47; (with_reducible refine (c1 _).mono ?_); rintro e w1 ⟨rfl, hb⟩; have HB := Lib.hid hb; clear hb)
        | (go_at_call 71; (with_reducible refine (c2 _).mono ?_); rintro e w2 ⟨rfl, hb⟩; have HB2 := Lib.hid hb; obtain ⟨hrow, -⟩ := CT.row1 hb; clear hb; have g0 := up0 hrow; have g4 := up4 hrow; have HR := Lib.hid hrow; clear hrow))
      all_goals
        go_ret
        refine ⟨ret_bool ?_, ((HB.out.alloc HB.out.size _).trans (HB2.out.mono (by have := HB.out.size; simp only [World.size_alloc]; omega))).alloc (by have := HB.out.size; have := HB2.out.size; simp only [World.size_alloc] at *; omega) _⟩
        have k1 := HKF.out
        have k2 := HE.out
        have k3 := HI.out
        rw [HP.out, Bool.eq_iff_iff]
        unfold kindB
        unfold KF at k1
        simp only [Bool.and_eq_true, decide_eq_true_eq, beq_iff_eq, beq_eq_false_iff_ne, Bool.false_eq_true, false_iff, iff_false] at *
        omega
set_option maxRecDepth 100000 in
set_option maxHeartbeats 8000000 in
theorem symbol_ {nt nd n2 n3 q0 q1 q2 q3 : Nat} {p0 p1 p2 p3 : Option Addr} (s : SymV) (w : World) (h0 : nt ≤ maxLen) (h1 : nd ≤ maxLen) :
    Calls Try.prog 56 #[.agg #[.slice p0 nt q0, .slice p1 nd q1, .slice p2 n2 q2, .slice p3 n3 q3], .agg #[.string s.name, .int .i64 s.sect, .int .i64 s.val, .int .i64 s.frame, .bool s.glob]] w fun e w' => e = .returned (.bool (placeB nt nd s)) ∧ Below w.heap.size w w' := by
  have hB := fun (x y : Obj) => (((Below.refl w.heap.size w).alloc (Nat.le_refl _) x).alloc (by simp) y : Below w.heap.size w ((w.alloc x).alloc y))
  have HB := Lib.hid hB
  obtain ⟨nm, sc, vl, fr, gl⟩ := s
  simp only
  unfold maxLen at h0 h1
  clear hB
  by_cases e0 : sc = 0
  · by_cases e1 : vl = 0
    all_goals by_cases e2 : fr = 0
    all_goals cases gl
    all_goals
      have HE := Lib.hid (⟨e0, e1, e2⟩ : _ ∧ _ ∧ _)
      go_enter Try.func56, Try.ntmps56
      go_wp2
      go_ret
      exact ⟨ret_bool (by unfold placeB; have := HE.out; simp; first | omega | (rw [Bool.eq_iff_iff]; simp; omega)), HB.out _ _⟩
  · by_cases e1 : sc = 1
    · subst e1
      have ht := fun h => Int.tmod_eq_emod_of_nonneg (b := 16) (a := fr) h
      by_cases a1 : 0 ≤ vl
      all_goals by_cases a2 : vl ≤ (nt : Int)
      all_goals by_cases a3 : 0 ≤ fr
      all_goals by_cases a4 : fr ≤ 1048576
      all_goals by_cases a5 : fr.tmod 16 = 0
      all_goals try (exfalso; omega)
      all_goals
        have HE := Lib.hid (⟨a1, a2, a3, a4, a5⟩ : _ ∧ _ ∧ _ ∧ _ ∧ _)
        have HT := Lib.hid ht
        clear ht
        go_enter Try.func56, Try.ntmps56
        go_wp2
        go_ret
        exact ⟨ret_bool (by unfold placeB; have := HE.out; have ht := HT.out; rw [Bool.eq_iff_iff]; simp; try omega), HB.out _ _⟩
    · by_cases e2 : sc = 2
      · subst e2
        by_cases a1 : 0 ≤ vl
        all_goals by_cases a2 : vl ≤ (nd : Int)
        all_goals by_cases a3 : fr = 0
        all_goals try (exfalso; omega)
        all_goals
          have HE := Lib.hid (⟨a1, a2, a3⟩ : _ ∧ _ ∧ _)
          go_enter Try.func56, Try.ntmps56
          go_wp2
          go_ret
          exact ⟨ret_bool (by unfold placeB; have := HE.out; rw [Bool.eq_iff_iff]; simp; try omega), HB.out _ _⟩
      · have HE := Lib.hid (⟨e0, e1, e2⟩ : _ ∧ _ ∧ _)
        go_enter Try.func56, Try.ntmps56
        go_wp2
        go_ret
        exact ⟨ret_bool (by unfold placeB; have := HE.out; rw [Bool.eq_iff_iff]; simp; try omega), HB.out _ _⟩
end SA
end Go.Proofs.Ytieehjkmfmkfjaa
