/-
  The statement that gathers a name, whatever its order: what holds while it is carried out. Condition: none.
-/
import Derived.Test.YtieehjkmfmkfjaaResJ
import Derived.Test.YtieehjkmfmkfjaaResN
namespace Go.Proofs.Ytieehjkmfmkfjaa
open Go.RowKit Go.Maps Go.WideMaps
set_option linter.unusedVariables false
set_option linter.unusedSimpArgs false
namespace RsJ
open OO OJ RsM RsI RsP RsR RsD RsS RsT RsN OCk
open OI hiding Mid Did
structure Inv7 (W0 : World) (B base d : Nat) (nm : ByteArray) (v : Value) (m : Nat) (xs : List Value) (a0 : Act) (L : Array Bool) (a : Act) (w : World) : Prop where
  df : a.defers = a0.defers
  sz : a.tmps.size = a0.tmps.size
  oth : ∀ k, k < 30 → a.tmps.getD k undef = a0.tmps.getD k undef
  s0 : L.getD 0 false = true → a.tmps.getD 30 undef = v
  s1 : L.getD 1 false = true → a.tmps.getD 31 undef = .pointer (some ⟨d, 0, none⟩)
  s2 : L.getD 2 false = true → a.tmps.getD 32 undef = .string nm
  s3 : L.getD 3 false = true → a.tmps.getD 33 undef = .string nm
  s4 : L.getD 4 false = true → L.getD 5 false = false → ∃ g, a.tmps.getD 34 undef = .slice (some ⟨g, 0, none⟩) 1 1 ∧ w.heap[g]? = some (.cells #[.string nm] TST (0, 0))
  w0 : L.getD 5 false = false → Below W0.heap.size W0 w
  w5 : L.getD 5 false = true → ∃ v' w5 wA, Below W0.heap.size W0 w5 ∧ wA.ownsRow base TST 1 v' (m + 1) (xs ++ [.string nm]) ∧ w5.grownBy wA v.ownBlock ∧ a.tmps.getD 35 undef = v' ∧ w = (if L.getD 6 false then wA.setCell ⟨B, 0, none⟩ v' else wA)
  o5 : L.getD 5 false = true → L.getD 0 false = true ∧ L.getD 4 false = true
  o4 : L.getD 4 false = true → L.getD 3 false = true
  o3 : L.getD 3 false = true → L.getD 2 false = true
  o2 : L.getD 2 false = true → L.getD 1 false = true
  o6 : L.getD 6 false = true → L.getD 5 false = true
section
variable {W0 : World} {B base d : Nat} {nm : ByteArray} {v : Value} {m : Nat} {xs : List Value} {a0 : Act} {L : Array Bool} {a : Act} {w : World}
theorem Inv7.n5 (h : Inv7 W0 B base d nm v m xs a0 L a w) (i : Nat) (hi : i < 5) (h0 : L.getD i false = false) : L.getD 5 false = false := by
  cases e : L.getD 5 false with
  | false => rfl
  | true =>
    have h5 := h.o5 e
    have h3 := h.o4 h5.2
    have h2 := h.o3 h3
    have h1 := h.o2 h2
    have : i = 0 ∨ i = 1 ∨ i = 2 ∨ i = 3 ∨ i = 4 := by omega
    rcases this with rfl | rfl | rfl | rfl | rfl
    · rw [h5.1] at h0; cases h0
    · rw [h1] at h0; cases h0
    · rw [h2] at h0; cases h0
    · rw [h3] at h0; cases h0
    · rw [h5.2] at h0; cases h0
/-- one of the first five: the world goes on, nothing that was there is changed -/
theorem Inv7.next (h : Inv7 W0 B base d nm v m xs a0 L a w) (hL : L.size = 7) (hz : a0.tmps.size = 40) (i : Nat) (hi : i < 5) (h0 : L.getD i false = false) (u : Value) {w' : World} (hb : Below w.heap.size w w')
    (hu : (i = 0 → u = v) ∧ (i = 1 → u = .pointer (some ⟨d, 0, none⟩)) ∧ (i = 2 → u = .string nm) ∧ (i = 3 → u = .string nm) ∧ (i = 4 → ∃ g, u = .slice (some ⟨g, 0, none⟩) 1 1 ∧ w'.heap[g]? = some (.cells #[.string nm] TST (0, 0))))
    (hp : (i = 2 → L.getD 1 false = true) ∧ (i = 3 → L.getD 2 false = true) ∧ (i = 4 → L.getD 3 false = true)) :
    Inv7 W0 B base d nm v m xs a0 (L.setIfInBounds i true) (a.put (some (30 + i)) u) w' := by
  have n5 := h.n5 i hi h0
  have n6 : L.getD 6 false = false := by
    cases e : L.getD 6 false with
    | false => rfl
    | true => rw [h.o6 e] at n5; cases n5
  have sg := fun j => set_at (listed := L) (i := i) (j := j) (by omega)
  have pg := put_get (a := a) (d := 30 + i) (v := u) (by rw [h.sz, hz]; omega)
  have s5 : (L.setIfInBounds i true).getD 5 false = false := by rw [sg, if_neg (by omega)]; exact n5
  have s6 : (L.setIfInBounds i true).getD 6 false = false := by rw [sg, if_neg (by omega)]; exact n6
  have old : ∀ j, j < 5 → j ≠ i → (L.setIfInBounds i true).getD j false = true → L.getD j false = true := fun j hj hne hl => by rw [sg, if_neg hne] at hl; exact hl
  have keep : ∀ j, j < 5 → j ≠ i → (a.put (some (30 + i)) u).tmps.getD (30 + j) undef = a.tmps.getD (30 + j) undef := fun j hj hne => by rw [pg, if_neg (by omega)]
  have new : (a.put (some (30 + i)) u).tmps.getD (30 + i) undef = u := by rw [pg, if_pos rfl]
  have up : ∀ j, L.getD j false = true → (L.setIfInBounds i true).getD j false = true := fun j hl => by rw [sg]; split; rfl; exact hl
  refine ⟨h.df, by show (a.tmps.setIfInBounds _ _).size = _; rw [Array.size_setIfInBounds]; exact h.sz, fun k hk => by rw [pg, if_neg (by omega)]; exact h.oth k hk, ?_, ?_, ?_, ?_, ?_, fun _ => (h.w0 n5).trans (hb.mono (h.w0 n5).size), (by rw [s5]; intro e; cases e), (by rw [s5]; intro e; cases e), ?_, ?_, ?_, (by rw [s6]; intro e; cases e)⟩
  · intro hl
    by_cases e : i = 0
    · subst e; rw [show (30 : Nat) = 30 + 0 from rfl, new]; exact hu.1 rfl
    · rw [show (30 : Nat) = 30 + 0 from rfl, keep 0 (by omega) (fun x => e x.symm)]; exact h.s0 (old 0 (by omega) (fun x => e x.symm) hl)
  · intro hl
    by_cases e : i = 1
    · subst e; rw [show (31 : Nat) = 30 + 1 from rfl, new]; exact hu.2.1 rfl
    · rw [show (31 : Nat) = 30 + 1 from rfl, keep 1 (by omega) (fun x => e x.symm)]; exact h.s1 (old 1 (by omega) (fun x => e x.symm) hl)
  · intro hl
    by_cases e : i = 2
    · subst e; rw [show (32 : Nat) = 30 + 2 from rfl, new]; exact hu.2.2.1 rfl
    · rw [show (32 : Nat) = 30 + 2 from rfl, keep 2 (by omega) (fun x => e x.symm)]; exact h.s2 (old 2 (by omega) (fun x => e x.symm) hl)
  · intro hl
    by_cases e : i = 3
    · subst e; rw [show (33 : Nat) = 30 + 3 from rfl, new]; exact hu.2.2.2.1 rfl
    · rw [show (33 : Nat) = 30 + 3 from rfl, keep 3 (by omega) (fun x => e x.symm)]; exact h.s3 (old 3 (by omega) (fun x => e x.symm) hl)
  · intro hl _
    by_cases e : i = 4
    · subst e; rw [show (34 : Nat) = 30 + 4 from rfl, new]; exact hu.2.2.2.2 rfl
    · obtain ⟨g, e1, e2⟩ := h.s4 (old 4 (by omega) (fun x => e x.symm) hl) n5
      refine ⟨g, ?_, (hb.block g (lt_heap e2)).trans e2⟩
      rw [show (34 : Nat) = 30 + 4 from rfl, keep 4 (by omega) (fun x => e x.symm)]; exact e1
  · intro hl
    by_cases e : i = 4
    · subst e; exact up 3 (hp.2.2 rfl)
    · exact up 3 (h.o4 (old 4 (by omega) (fun x => e x.symm) hl))
  · intro hl
    by_cases e : i = 3
    · subst e; exact up 2 (hp.2.1 rfl)
    · exact up 2 (h.o3 (old 3 (by omega) (fun x => e x.symm) hl))
  · intro hl
    by_cases e : i = 2
    · subst e; exact up 1 (hp.1 rfl)
    · exact up 1 (h.o2 (old 2 (by omega) (fun x => e x.symm) hl))
/-- the append -/
theorem Inv7.next5 (h : Inv7 W0 B base d nm v m xs a0 L a w) (hL : L.size = 7) (hz : a0.tmps.size = 40) (h0 : L.getD 5 false = false) (l0 : L.getD 0 false = true) (l4 : L.getD 4 false = true) {v' : Value} {wA : World}
    (hr : wA.ownsRow base TST 1 v' (m + 1) (xs ++ [.string nm])) (hg : w.grownBy wA v.ownBlock) :
    Inv7 W0 B base d nm v m xs a0 (L.setIfInBounds 5 true) (a.put (some 35) v') wA := by
  have n6 : L.getD 6 false = false := by
    cases e : L.getD 6 false with
    | false => rfl
    | true => rw [h.o6 e] at h0; cases h0
  have sg := fun j => set_at (listed := L) (i := 5) (j := j) (by omega)
  have pg := put_get (a := a) (d := 35) (v := v') (by rw [h.sz, hz]; omega)
  have s5 : (L.setIfInBounds 5 true).getD 5 false = true := by rw [sg, if_pos rfl]
  have s6 : (L.setIfInBounds 5 true).getD 6 false = false := by rw [sg, if_neg (by omega)]; exact n6
  have o : ∀ j, j < 5 → (L.setIfInBounds 5 true).getD j false = L.getD j false := fun j hj => by rw [sg, if_neg (by omega)]
  refine ⟨h.df, by show (a.tmps.setIfInBounds _ _).size = _; rw [Array.size_setIfInBounds]; exact h.sz, fun k hk => by rw [pg, if_neg (by omega)]; exact h.oth k hk, ?_, ?_, ?_, ?_, (by rw [s5]; intro _ e; cases e), (by rw [s5]; intro e; cases e), ?_, (by rw [o 0 (by omega), o 4 (by omega)]; exact fun _ => ⟨l0, l4⟩), (by rw [o 3 (by omega), o 4 (by omega)]; exact h.o4), (by rw [o 3 (by omega), o 2 (by omega)]; exact h.o3), (by rw [o 1 (by omega), o 2 (by omega)]; exact h.o2), (by rw [s6]; intro e; cases e)⟩
  · rw [o 0 (by omega), pg, if_neg (by omega)]; exact h.s0
  · rw [o 1 (by omega), pg, if_neg (by omega)]; exact h.s1
  · rw [o 2 (by omega), pg, if_neg (by omega)]; exact h.s2
  · rw [o 3 (by omega), pg, if_neg (by omega)]; exact h.s3
  · intro _
    rw [s6]
    exact ⟨v', w, wA, h.w0 h0, hr, hg, by rw [pg, if_pos rfl], rfl⟩
/-- the store -/
theorem Inv7.next6 (h : Inv7 W0 B base d nm v m xs a0 L a w) (hL : L.size = 7) (h0 : L.getD 6 false = false) (l5 : L.getD 5 false = true) {v' : Value} (hv : a.tmps.getD 35 undef = v') :
    Inv7 W0 B base d nm v m xs a0 (L.setIfInBounds 6 true) a (w.setCell ⟨B, 0, none⟩ v') := by
  have sg := fun j => set_at (listed := L) (i := 6) (j := j) (by omega)
  have s6 : (L.setIfInBounds 6 true).getD 6 false = true := by rw [sg, if_pos rfl]
  have o : ∀ j, j < 6 → (L.setIfInBounds 6 true).getD j false = L.getD j false := fun j hj => by rw [sg, if_neg (by omega)]
  refine ⟨h.df, h.sz, h.oth, by rw [o 0 (by omega)]; exact h.s0, by rw [o 1 (by omega)]; exact h.s1, by rw [o 2 (by omega)]; exact h.s2, by rw [o 3 (by omega)]; exact h.s3, (by rw [o 5 (by omega), l5]; intro _ e; cases e), (by rw [o 5 (by omega), l5]; intro e; cases e), ?_, by rw [o 5 (by omega), o 0 (by omega), o 4 (by omega)]; exact h.o5, by rw [o 3 (by omega), o 4 (by omega)]; exact h.o4, by rw [o 3 (by omega), o 2 (by omega)]; exact h.o3, by rw [o 1 (by omega), o 2 (by omega)]; exact h.o2, fun _ => by rw [o 5 (by omega)]; exact l5⟩
  intro _
  obtain ⟨u, w5, wA, h1, h2, h3, h4, h5⟩ := h.w5 l5
  rw [h0] at h5
  rw [h4] at hv
  subst hv
  refine ⟨u, w5, wA, h1, h2, h3, h4, ?_⟩
  rw [s6]
  simp only [Bool.false_eq_true, if_false] at h5
  simp [h5]
theorem Inv7.slot (h : Inv7 W0 B base d nm v m xs a0 L a w) {k : Nat} {u : Value} (e : a.tmps.getD k undef = u) : a.tmps[k]?.getD undef = u := (Array.getD_eq_getD_getElem?).symm.trans e
end
/-- the rule for this statement -/
theorem reg7_ {F : Fence} {nF : Nat} {P : Program} {ops : Array Oper} {Q : Exit → Act → World → Prop} {id : Nat} {a0 : Act} {W : World} {B base d : Nat} {nm : ByteArray} {v : Value} {m : Nat} {xs : List Value} (hm : P.follows .mixedOrders = true) (hA : Ahead ops) (hn : ops.size = 7)
    (step : ∀ (i : Nat) (o : Oper), ops[i]? = some o → ∀ L a w, L.size = 7 → L.getD i false = false → (∀ e ∈ o.after, Region.binds .any e = true → L.getD e.on false = true) → Inv7 W.drew B base d nm v m xs a0 L a w → wpOpIn F nF P ops Q i (fun a' w' => Inv7 W.drew B base d nm v m xs a0 (L.setIfInBounds i true) a' w') a w)
    (done : ∀ L a w, (∀ j, j < 7 → L.getD j false = true) → Inv7 W.drew B base d nm v m xs a0 L a w → Q .normal a w) : (Code.region id ops true).wpIn F nF P Q a0 W := by
  refine regionIn_ (Inv := fun L a w => Inv7 W.drew B base d nm v m xs a0 L a w) hm hA ?_ (fun i o ho L a w hs h0 haft hI => step i o ho L a w (hs.trans hn) (by
    rw [Array.getD_eq_getD_getElem?] at h0 ⊢
    cases e : L[i]? with
    | none => rw [e] at h0; cases h0
    | some x => rw [e] at h0; exact h0) haft hI) (fun L a w hall hI => done L a w (fun j hj => hall j (hn ▸ hj)) hI)
  have no : ∀ j, (Array.replicate ops.size false).getD j false = false := fun j => by
    rw [Array.getD_eq_getD_getElem?, Array.getElem?_replicate]; split <;> rfl
  refine ⟨rfl, rfl, fun _ _ => rfl, ?_, ?_, ?_, ?_, ?_, fun _ => Below.refl _ _, ?_, ?_, ?_, ?_, ?_, ?_⟩
  all_goals (intro h; rw [no] at h; cases h)
end RsJ
end Go.Proofs.Ytieehjkmfmkfjaa
