/-
  The statement that gathers a target, whatever its order: what holds while it is carried out. Condition: none.
-/
import Derived.Test.YtlmblfkcmhgdaaaResV
namespace Go.Proofs.Ytlmblfkcmhgdaaa
open Go.RowKit Go.Maps Go.WideMaps
set_option linter.unusedVariables false
set_option linter.unusedSimpArgs false
namespace RsV
open OO OJ RsM RsI RsP RsR RsD RsS RsT RsN OCk
open OI hiding Mid Did
def val14 (O n b xi nb : Nat) (ta tb : Int) (v : Value) : Nat → Value
  | 0 => .slice (some ⟨O, 0, none⟩) n n | 1 => .pointer (some ⟨b, 0, none⟩) | 2 => .int .i64 (xi : Int) | 3 => .slice (some ⟨O, 0, none⟩) n n | 4 => .pointer (some ⟨b, 0, none⟩) | 5 => .int .i64 (xi : Int)
  | 6 => .pointer (some ⟨O, xi, none⟩) | 7 => v | 8 => .agg #[.int .i64 ta, .int .i64 tb] | 9 => .slice (some ⟨nb, 0, none⟩) 1 1 | _ => .pointer (some ⟨O, xi, none⟩)
structure Inv14 (W0 : World) (O base n b xi : Nat) (ta tb : Int) (v : Value) (m : Nat) (xs : List Value) (a0 : Act) (L : Array Bool) (a : Act) (w : World) : Prop where
  d : a.defers = a0.defers
  sz : a.tmps.size = a0.tmps.size
  oth : ∀ k, k < 47 → a.tmps.getD k undef = a0.tmps.getD k undef
  f : ∀ i, i < 12 → i ≠ 10 → L.getD i false = true → a.tmps.getD (47 + i) undef = val14 O n b xi W0.heap.size ta tb v i
  w0 : L.getD 9 false = false → w = W0
  w1 : L.getD 9 false = true → L.getD 10 false = false → w = W0.alloc (.cells #[.int .i64 ta, .int .i64 tb] TT)
  w2 : L.getD 10 false = true → ∃ v' w', App base (W0.alloc (.cells #[.int .i64 ta, .int .i64 tb] TT)) v m xs (ta, tb) v' w' ∧ a.tmps.getD 57 undef = v' ∧ w = (if L.getD 12 false then w'.setCell ⟨O, xi, none⟩ v' else w')
  o1 : L.getD 10 false = true → L.getD 9 false = true ∧ L.getD 7 false = true
  o2 : L.getD 12 false = true → L.getD 10 false = true
section
variable {W0 : World} {O base n b xi : Nat} {ta tb : Int} {v : Value} {m : Nat} {xs : List Value} {a0 : Act} {L : Array Bool} {a : Act} {w : World}
theorem Inv14.next (h : Inv14 W0 O base n b xi ta tb v m xs a0 L a w) (hL : L.size = 13) (h61 : a0.tmps.size = 61) (i : Nat) (hi : i < 12) (h9 : i ≠ 9) (h10 : i ≠ 10) (u : Value) (hu : u = val14 O n b xi W0.heap.size ta tb v i) :
    Inv14 W0 O base n b xi ta tb v m xs a0 (L.setIfInBounds i true) (a.put (some (47 + i)) u) w := by
  have sg := fun j => set_at (listed := L) (i := i) (j := j) (by omega)
  have pg := put_get (a := a) (d := 47 + i) (v := u) (by rw [h.sz, h61]; omega)
  have s9 : (L.setIfInBounds i true).getD 9 false = L.getD 9 false := by rw [sg, if_neg (fun e => h9 e.symm)]
  have s10 : (L.setIfInBounds i true).getD 10 false = L.getD 10 false := by rw [sg, if_neg (fun e => h10 e.symm)]
  have s12 : (L.setIfInBounds i true).getD 12 false = L.getD 12 false := by rw [sg, if_neg (by omega)]
  refine ⟨h.d, by show (a.tmps.setIfInBounds _ _).size = _; rw [Array.size_setIfInBounds]; exact h.sz, fun k hk => by rw [pg, if_neg (by omega)]; exact h.oth k hk, fun j hj hj10 hl => ?_, by rw [s9]; exact h.w0, by rw [s9, s10]; exact h.w1, ?_, by rw [s9, s10]; exact fun e => ⟨(h.o1 e).1, by rw [sg]; split; rfl; exact (h.o1 e).2⟩, by rw [s12, s10]; exact h.o2⟩
  · rw [pg]
    by_cases e : j = i
    · subst e; rw [if_pos rfl]; exact hu
    · rw [if_neg (by omega)]
      rw [sg, if_neg e] at hl
      exact h.f j hj hj10 hl
  · rw [s10, s12]
    intro hl
    obtain ⟨v', w', hA, ht, hw⟩ := h.w2 hl
    exact ⟨v', w', hA, by rw [pg, if_neg (by omega)]; exact ht, hw⟩
theorem Inv14.next9 (h : Inv14 W0 O base n b xi ta tb v m xs a0 L a w) (hL : L.size = 13) (h61 : a0.tmps.size = 61) (h0 : L.getD 9 false = false) :
    w = W0 ∧ Inv14 W0 O base n b xi ta tb v m xs a0 (L.setIfInBounds 9 true) (a.put (some 56) (.slice (some ⟨W0.heap.size, 0, none⟩) 1 1)) (W0.alloc (.cells #[.int .i64 ta, .int .i64 tb] TT)) := by
  have sg := fun j => set_at (listed := L) (i := 9) (j := j) (by omega)
  have pg := put_get (a := a) (d := 56) (v := .slice (some ⟨W0.heap.size, 0, none⟩) 1 1) (by rw [h.sz, h61]; omega)
  have n10 : L.getD 10 false = false := by
    cases e : L.getD 10 false with
    | false => rfl
    | true => rw [(h.o1 e).1] at h0; cases h0
  have n12 : L.getD 12 false = false := by
    cases e : L.getD 12 false with
    | false => rfl
    | true => rw [h.o2 e] at n10; cases n10
  have s10 : (L.setIfInBounds 9 true).getD 10 false = false := by rw [sg, if_neg (by omega)]; exact n10
  have s12 : (L.setIfInBounds 9 true).getD 12 false = false := by rw [sg, if_neg (by omega)]; exact n12
  refine ⟨h.w0 h0, h.d, by show (a.tmps.setIfInBounds _ _).size = _; rw [Array.size_setIfInBounds]; exact h.sz, fun k hk => by rw [pg, if_neg (by omega)]; exact h.oth k hk, fun j hj hj10 hl => ?_, (by rw [sg, if_pos rfl]; intro e; cases e), fun _ _ => rfl, (by rw [s10]; intro e; cases e), (by rw [s10]; intro e; cases e), (by rw [s12]; intro e; cases e)⟩
  rw [pg]
  by_cases e : j = 9
  · subst e; rw [if_pos rfl]; rfl
  · rw [if_neg (by omega)]
    rw [sg, if_neg e] at hl
    exact h.f j hj hj10 hl
theorem Inv14.next10 (h : Inv14 W0 O base n b xi ta tb v m xs a0 L a w) (hL : L.size = 13) (h61 : a0.tmps.size = 61) (h9 : L.getD 9 false = true) (h7 : L.getD 7 false = true) (h0 : L.getD 10 false = false) {v' : Value} {w' : World} (hA : App base (W0.alloc (.cells #[.int .i64 ta, .int .i64 tb] TT)) v m xs (ta, tb) v' w') :
    Inv14 W0 O base n b xi ta tb v m xs a0 (L.setIfInBounds 10 true) (a.put (some 57) v') w' := by
  have sg := fun j => set_at (listed := L) (i := 10) (j := j) (by omega)
  have pg := put_get (a := a) (d := 57) (v := v') (by rw [h.sz, h61]; omega)
  have n12 : L.getD 12 false = false := by
    cases e : L.getD 12 false with
    | false => rfl
    | true => rw [h.o2 e] at h0; cases h0
  have s9 : (L.setIfInBounds 10 true).getD 9 false = true := by rw [sg, if_neg (by omega)]; exact h9
  have s10 : (L.setIfInBounds 10 true).getD 10 false = true := by rw [sg, if_pos rfl]
  have s12 : (L.setIfInBounds 10 true).getD 12 false = false := by rw [sg, if_neg (by omega)]; exact n12
  refine ⟨h.d, by show (a.tmps.setIfInBounds _ _).size = _; rw [Array.size_setIfInBounds]; exact h.sz, fun k hk => by rw [pg, if_neg (by omega)]; exact h.oth k hk, fun j hj hj10 hl => ?_, (by rw [s9]; intro e; cases e), (by rw [s10]; intro _ e; cases e), fun _ => ⟨v', w', hA, by rw [pg, if_pos rfl], by rw [s12]; rfl⟩, fun _ => ⟨s9, by rw [sg, if_neg (by omega)]; exact h7⟩, (by rw [s12]; intro e; cases e)⟩
  rw [pg, if_neg (by omega)]
  rw [sg, if_neg hj10] at hl
  exact h.f j hj hj10 hl
theorem Inv14.next12 (h : Inv14 W0 O base n b xi ta tb v m xs a0 L a w) (hL : L.size = 13) (h10 : L.getD 10 false = true) (h0 : L.getD 12 false = false) {v' : Value} (hv : a.tmps.getD 57 undef = v') :
    Inv14 W0 O base n b xi ta tb v m xs a0 (L.setIfInBounds 12 true) a (w.setCell ⟨O, xi, none⟩ v') := by
  have sg := fun j => set_at (listed := L) (i := 12) (j := j) (by omega)
  have s9 : (L.setIfInBounds 12 true).getD 9 false = true := by rw [sg, if_neg (by omega)]; exact (h.o1 h10).1
  have s10 : (L.setIfInBounds 12 true).getD 10 false = true := by rw [sg, if_neg (by omega)]; exact h10
  have s12 : (L.setIfInBounds 12 true).getD 12 false = true := by rw [sg, if_pos rfl]
  obtain ⟨u, w', hA, ht, hw⟩ := h.w2 h10
  rw [h0] at hw
  simp only [Bool.false_eq_true, if_false] at hw
  subst hw
  have huv : u = v' := ht.symm.trans hv
  subst huv
  refine ⟨h.d, h.sz, h.oth, fun j hj hj10 hl => ?_, (by rw [s9]; intro e; cases e), (by rw [s10]; intro _ e; cases e), fun _ => ⟨u, w, hA, ht, by rw [s12]; rfl⟩, fun _ => ⟨s9, by rw [sg, if_neg (by omega)]; exact (h.o1 h10).2⟩, fun _ => s10⟩
  rw [sg, if_neg (by omega)] at hl
  exact h.f j hj hj10 hl
theorem Inv14.size (h : Inv14 W0 O base n b xi ta tb v m xs a0 L a w) : W0.heap.size ≤ w.heap.size := by
  cases e10 : L.getD 10 false with
  | true =>
    obtain ⟨v', w', hA, -, rfl⟩ := h.w2 e10
    have := hA.grown.size
    simp only [World.size_alloc] at this
    split
    · rw [World.size_setCell]; omega
    · omega
  | false =>
    cases e9 : L.getD 9 false with
    | true => rw [h.w1 e9 e10]; simp
    | false => rw [h.w0 e9]; exact Nat.le_refl _
/-- the blocks that it reads stay as they were -/
theorem Inv14.same (h : Inv14 W0 O base n b xi ta tb v m xs a0 L a w) (k : Nat) (hk : k < W0.heap.size) (hO : k ≠ O) (hv : v.ownBlock ≠ some k) : w.heap[k]? = W0.heap[k]? := by
  cases e10 : L.getD 10 false with
  | true =>
    obtain ⟨v', w', hA, -, rfl⟩ := h.w2 e10
    have h1 : w'.heap[k]? = W0.heap[k]? := (hA.grown.block k (by simp only [World.size_alloc]; omega) (fun e => hv e.symm)).trans (Lib.alloc_old _ _ _ hk)
    split
    · exact (Below.heap_setCell _ _ _ _ (by exact hO)).trans h1
    · exact h1
  | false =>
    cases e9 : L.getD 9 false with
    | true => rw [h.w1 e9 e10]; exact Lib.alloc_old _ _ _ hk
    | false => rw [h.w0 e9]
theorem Inv14.outer (h : Inv14 W0 O base n b xi ta tb v m xs a0 L a w) (h12 : L.getD 12 false = false) (hk : O < W0.heap.size) (hv : v.ownBlock ≠ some O) : w.heap[O]? = W0.heap[O]? := by
  cases e10 : L.getD 10 false with
  | true =>
    obtain ⟨v', w', hA, -, rfl⟩ := h.w2 e10
    rw [h12]
    exact (hA.grown.block O (by simp only [World.size_alloc]; omega) (fun e => hv e.symm)).trans (Lib.alloc_old _ _ _ hk)
  | false =>
    cases e9 : L.getD 9 false with
    | true => rw [h.w1 e9 e10]; exact Lib.alloc_old _ _ _ hk
    | false => rw [h.w0 e9]
theorem Inv14.slot (h : Inv14 W0 O base n b xi ta tb v m xs a0 L a w) (i : Nat) (hi : i < 12) (h10 : i ≠ 10) (hl : L.getD i false = true) : a.tmps[47 + i]?.getD undef = val14 O n b xi W0.heap.size ta tb v i :=
  (Array.getD_eq_getD_getElem?).symm.trans (h.f i hi h10 hl)
end
/-- the rule for this statement -/
theorem reg14_ {F : Fence} {nF : Nat} {P : Program} {ops : Array Oper} {Q : Exit → Act → World → Prop} {id : Nat} {a0 : Act} {W : World} {O base n b xi : Nat} {ta tb : Int} {v : Value} {m : Nat} {xs : List Value} (hm : P.follows .mixedOrders = true) (hA : Ahead ops) (hn : ops.size = 13)
    (step : ∀ (i : Nat) (o : Oper), ops[i]? = some o → ∀ L a w, L.size = 13 → L.getD i false = false → (∀ e ∈ o.after, Region.binds .any e = true → L.getD e.on false = true) → Inv14 W.drew O base n b xi ta tb v m xs a0 L a w → wpOpIn F nF P ops Q i (fun a' w' => Inv14 W.drew O base n b xi ta tb v m xs a0 (L.setIfInBounds i true) a' w') a w)
    (done : ∀ L a w, (∀ j, j < 13 → L.getD j false = true) → Inv14 W.drew O base n b xi ta tb v m xs a0 L a w → Q .normal a w) : (Code.region id ops true).wpIn F nF P Q a0 W := by
  refine regionIn_ (Inv := fun L a w => Inv14 W.drew O base n b xi ta tb v m xs a0 L a w) hm hA ?_ (fun i o ho L a w hs h0 haft hI => step i o ho L a w (hs.trans hn) (by
    rw [Array.getD_eq_getD_getElem?] at h0 ⊢
    cases e : L[i]? with
    | none => rw [e] at h0; cases h0
    | some x => rw [e] at h0; exact h0) haft hI) (fun L a w hall hI => done L a w (fun j hj => hall j (hn ▸ hj)) hI)
  have no : ∀ j, (Array.replicate ops.size false).getD j false = false := fun j => by
    rw [Array.getD_eq_getD_getElem?, Array.getElem?_replicate]; split <;> rfl
  refine ⟨rfl, rfl, fun _ _ => rfl, (fun i _ _ h => by rw [no] at h; cases h), fun _ => rfl, (fun h => by rw [no] at h; cases h), (fun h => by rw [no] at h; cases h), (fun h => by rw [no] at h; cases h), (fun h => by rw [no] at h; cases h)⟩
end RsV
end Go.Proofs.Ytlmblfkcmhgdaaa
