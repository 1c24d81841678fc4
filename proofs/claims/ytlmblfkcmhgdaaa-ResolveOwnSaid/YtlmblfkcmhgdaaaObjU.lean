/-
  Check's small parts: isFromTo, isOfKind, rise, isSymbol: contracts. Conditions: strings and slices are such as memory holds.
-/
import Derived.Test.YtlmblfkcmhgdaaaObjR
import Derived.Test.YtlmblfkcmhgdaaaObjN
namespace Go.Proofs.Ytlmblfkcmhgdaaa
open Go.RowKit
set_option linter.unusedVariables false
set_option linter.unusedSimpArgs false
namespace OU
open OO OJ OM ON
theorem ret_bool {a b : Bool} (h : a = b) : Ending.returned (.bool a) = .returned (.bool b) := by rw [h]
def fromB (n l m : Int) : Bool := decide (l ≤ n ∧ n ≤ m)
def kindB (k p : Int) : Bool := decide ((p = 38 ∧ k = 1) ∨ ((18 ≤ p ∧ p ≤ 23 ∨ 27 ≤ p ∧ p ≤ 29 ∨ p = 41 ∨ p = 43) ∧ k = 2) ∨ ((p = 30 ∨ p = 31 ∨ p = 44) ∧ k = 3) ∨ (p = 40 ∧ k = 4) ∨ (32 ≤ p ∧ p ≤ 37 ∧ k = 5))
def riseB (s t : RelV) : Bool := decide (s.sect < t.sect ∨ s.sect = t.sect ∧ s.place < t.place)
def placeB (nt nd : Nat) (s : SymV) : Bool := decide ((s.sect = 0 ∧ s.val = 0 ∧ s.frame = 0 ∧ s.glob = true) ∨ (s.sect = 1 ∧ 0 ≤ s.val ∧ s.val ≤ nt ∧ 0 ≤ s.frame ∧ s.frame ≤ 1048576 ∧ s.frame % 16 = 0) ∨ (s.sect = 2 ∧ 0 ≤ s.val ∧ s.val ≤ nd ∧ s.frame = 0))
def symOk (nt nd : Nat) (s : SymV) : Bool := nameB s.name && placeB nt nd s
set_option maxRecDepth 100000 in
set_option maxHeartbeats 1000000 in
theorem fromto_ (n l m : Int) (w : World) :
    Calls Try.prog 25 #[.int .i64 n, .int .i64 l, .int .i64 m] w fun e w' => e = .returned (.bool (fromB n l m)) ∧ w = w' := by
  go_enter Try.func25, Try.ntmps25
  go_wp2
  all_goals
    go_ret
    exact ⟨ret_bool (by rw [Bool.eq_iff_iff]; unfold fromB; simp; try omega), rfl⟩
theorem fromto_yes {n l m : Int} (h : l ≤ n ∧ n ≤ m) (w : World) : Calls Try.prog 25 #[.int .i64 n, .int .i64 l, .int .i64 m] w fun e w' => e = .returned (.bool true) ∧ w = w' := by
  have := fromto_ n l m w
  rwa [show fromB n l m = true from decide_eq_true h] at this
theorem fromto_no {n l m : Int} (h : ¬ (l ≤ n ∧ n ≤ m)) (w : World) : Calls Try.prog 25 #[.int .i64 n, .int .i64 l, .int .i64 m] w fun e w' => e = .returned (.bool false) ∧ w = w' := by
  have := fromto_ n l m w
  rwa [show fromB n l m = false from decide_eq_false h] at this
set_option maxRecDepth 100000 in
set_option maxHeartbeats 4000000 in
theorem kind_ (k p : Int) (w : World) :
    Calls Try.prog 31 #[.int .i64 k, .int .i64 p] w fun e w' => e = .returned (.bool (kindB k p)) ∧ w = w' := by
  go_enter Try.func31, Try.ntmps31
  go_wp2
  all_goals
    go_ret
    exact ⟨ret_bool (by rw [Bool.eq_iff_iff]; unfold kindB; simp only [beq_iff_eq, beq_eq_false_iff_ne, decide_eq_true_eq, Bool.false_eq_true, false_iff] at *; omega), rfl⟩
set_option maxRecDepth 100000 in
set_option maxHeartbeats 4000000 in
theorem rise_ (s t : RelV) (w : World) :
    Calls Try.prog 22 #[.agg #[.int .i64 s.sect, .int .i64 s.place, .int .i64 s.kind, .int .i64 s.sym, .int .i64 s.add], .agg #[.int .i64 t.sect, .int .i64 t.place, .int .i64 t.kind, .int .i64 t.sym, .int .i64 t.add]] w fun e w' => e = .returned (.bool (riseB s t)) ∧ Below w.heap.size w w' := by
  obtain ⟨s0, s1, s2, s3, s4⟩ := s
  obtain ⟨t0, t1, t2, t3, t4⟩ := t
  by_cases h1 : s0 < t0
  all_goals by_cases h2 : s0 = t0
  all_goals by_cases h3 : s1 < t1
  all_goals first
    | (exfalso; omega)
    | (have b1 : decide (s0 < t0) = decide (s0 < t0) := rfl
       go_enter Try.func22, Try.ntmps22
       go_wp2
       go_ret
       exact ⟨ret_bool (by unfold riseB; simp; try omega), ((Below.refl _ _).alloc (Nat.le_refl _) _).alloc (by simp) _⟩)
set_option maxRecDepth 100000 in
set_option maxHeartbeats 8000000 in
theorem symbol_ {nt nd n2 n3 q0 q1 q2 q3 : Nat} {p0 p1 p2 p3 : Option Addr} (s : SymV) (w : World) (hn : s.name.size ≤ maxLen) (h0 : nt ≤ maxLen) (h1 : nd ≤ maxLen) :
    Calls Try.prog 21 #[.agg #[.slice p0 nt q0, .slice p1 nd q1, .slice p2 n2 q2, .slice p3 n3 q3], .agg #[.string s.name, .int .i64 s.sect, .int .i64 s.val, .int .i64 s.frame, .bool s.glob]] w fun e w' => e = .returned (.bool (symOk nt nd s)) ∧ Below w.heap.size w w' := by
  have c1 := fun w => ON.name_ s.name w hn
  have hB := fun (x y : Obj) => (((Below.refl w.heap.size w).alloc (Nat.le_refl _) x).alloc (by simp) y : Below w.heap.size w ((w.alloc x).alloc y))
  have HB := Lib.hid hB
  obtain ⟨nm, sc, vl, fr, gl⟩ := s
  simp only at c1 hn ⊢
  unfold maxLen at h0 h1
  clear hB hn
  have HX : ∃ x, x = nameB nm := ⟨_, rfl⟩
  obtain ⟨x, hx⟩ := HX
  rw [← hx] at c1
  have HX := Lib.hid hx
  clear hx
  cases x with
  | false =>
    go_enter Try.func21, Try.ntmps21
    go_wp2_with (go_at_call 24; (with_reducible refine (c1 _).mono ?_); rintro e w1 ⟨rfl, rfl⟩)
    go_ret
    exact ⟨ret_bool (by unfold symOk; rw [← HX.out]; rfl), HB.out _ _⟩
  | true =>
    by_cases e0 : sc = 0
    · by_cases e1 : vl = 0
      all_goals by_cases e2 : fr = 0
      all_goals cases gl
      all_goals
        have HE := Lib.hid (⟨e0, e1, e2⟩ : _ ∧ _ ∧ _)
        go_enter Try.func21, Try.ntmps21
        go_wp2_with (go_at_call 24; (with_reducible refine (c1 _).mono ?_); rintro e w1 ⟨rfl, rfl⟩)
        go_ret
        exact ⟨ret_bool (by unfold symOk placeB; rw [← HX.out]; have := HE.out; simp; first | omega | (rw [Bool.eq_iff_iff]; simp; omega)), HB.out _ _⟩
    · by_cases e1 : sc = 1
      · subst e1
        by_cases hv : 0 ≤ vl ∧ vl ≤ (nt : Int)
        · have c2 := fromto_yes hv
          by_cases hf : 0 ≤ fr ∧ fr ≤ 1048576
          · have c3 := fromto_yes hf
            have ht := Int.tmod_eq_emod_of_nonneg (b := 16) hf.1
            by_cases hm : fr.tmod 16 = 0
            all_goals
              have HE := Lib.hid (⟨hv, hf, ht, hm⟩ : _ ∧ _ ∧ _ ∧ _)
              clear hv hf ht
              go_enter Try.func21, Try.ntmps21
              go_wp2_with (first
                | (go_at_call 24; (with_reducible refine (c1 _).mono ?_); rintro e w1 ⟨rfl, rfl⟩)
                | (go_at_call 25; (with_reducible refine (c2 _).mono ?_); rintro e w1 ⟨rfl, rfl⟩)
                | (go_at_call 25; (with_reducible refine (c3 _).mono ?_); rintro e w1 ⟨rfl, rfl⟩))
              go_ret
              exact ⟨ret_bool (by unfold symOk placeB; rw [← HX.out]; have := HE.out; simp; first | omega | (rw [Bool.eq_iff_iff]; simp; omega)), HB.out _ _⟩
          · have c3 := fromto_no hf
            have HE := Lib.hid (⟨hv, hf⟩ : _ ∧ _)
            clear hv hf
            go_enter Try.func21, Try.ntmps21
            go_wp2_with (first
              | (go_at_call 24; (with_reducible refine (c1 _).mono ?_); rintro e w1 ⟨rfl, rfl⟩)
              | (go_at_call 25; (with_reducible refine (c2 _).mono ?_); rintro e w1 ⟨rfl, rfl⟩)
              | (go_at_call 25; (with_reducible refine (c3 _).mono ?_); rintro e w1 ⟨rfl, rfl⟩))
            go_ret
            exact ⟨ret_bool (by unfold symOk placeB; rw [← HX.out]; have := HE.out; simp; first | omega | (rw [Bool.eq_iff_iff]; simp; omega)), HB.out _ _⟩
        · have c2 := fromto_no hv
          have c3 := c2
          have HE := Lib.hid hv
          clear hv
          go_enter Try.func21, Try.ntmps21
          go_wp2_with (first
            | (go_at_call 24; (with_reducible refine (c1 _).mono ?_); rintro e w1 ⟨rfl, rfl⟩)
            | (go_at_call 25; (with_reducible refine (c2 _).mono ?_); rintro e w1 ⟨rfl, rfl⟩)
            | (go_at_call 25; (with_reducible refine (c3 _).mono ?_); rintro e w1 ⟨rfl, rfl⟩))
          go_ret
          exact ⟨ret_bool (by unfold symOk placeB; rw [← HX.out]; have := HE.out; simp; first | omega | (rw [Bool.eq_iff_iff]; simp; omega)), HB.out _ _⟩
      · by_cases e2 : sc = 2
        · subst e2
          by_cases hv : 0 ≤ vl ∧ vl ≤ (nd : Int)
          · have c2 := fromto_yes hv
            have c3 := c2
            by_cases hf : fr = 0
            all_goals
              have HE := Lib.hid (⟨hv, hf⟩ : _ ∧ _)
              clear hv
              go_enter Try.func21, Try.ntmps21
              go_wp2_with (first
                | (go_at_call 24; (with_reducible refine (c1 _).mono ?_); rintro e w1 ⟨rfl, rfl⟩)
                | (go_at_call 25; (with_reducible refine (c2 _).mono ?_); rintro e w1 ⟨rfl, rfl⟩)
                | (go_at_call 25; (with_reducible refine (c3 _).mono ?_); rintro e w1 ⟨rfl, rfl⟩))
              go_ret
              exact ⟨ret_bool (by unfold symOk placeB; rw [← HX.out]; have := HE.out; simp; first | omega | (rw [Bool.eq_iff_iff]; simp; omega)), HB.out _ _⟩
          · have c2 := fromto_no hv
            have c3 := c2
            have HE := Lib.hid hv
            clear hv
            go_enter Try.func21, Try.ntmps21
            go_wp2_with (first
              | (go_at_call 24; (with_reducible refine (c1 _).mono ?_); rintro e w1 ⟨rfl, rfl⟩)
              | (go_at_call 25; (with_reducible refine (c2 _).mono ?_); rintro e w1 ⟨rfl, rfl⟩)
              | (go_at_call 25; (with_reducible refine (c3 _).mono ?_); rintro e w1 ⟨rfl, rfl⟩))
            go_ret
            exact ⟨ret_bool (by unfold symOk placeB; rw [← HX.out]; have := HE.out; simp; first | omega | (rw [Bool.eq_iff_iff]; simp; omega)), HB.out _ _⟩
        · have c2 := c1
          have c3 := c1
          have HE := Lib.hid (⟨e0, e1, e2⟩ : _ ∧ _ ∧ _)
          go_enter Try.func21, Try.ntmps21
          go_wp2_with (first
            | (go_at_call 24; (with_reducible refine (c1 _).mono ?_); rintro e w1 ⟨rfl, rfl⟩)
            | (go_at_call 25; (with_reducible refine (c2 _).mono ?_); rintro e w1 ⟨rfl, rfl⟩)
            | (go_at_call 25; (with_reducible refine (c3 _).mono ?_); rintro e w1 ⟨rfl, rfl⟩))
          go_ret
          exact ⟨ret_bool (by unfold symOk placeB; rw [← HX.out]; have := HE.out; simp; first | omega | (rw [Bool.eq_iff_iff]; simp; omega)), HB.out _ _⟩
end OU
end Go.Proofs.Ytlmblfkcmhgdaaa
