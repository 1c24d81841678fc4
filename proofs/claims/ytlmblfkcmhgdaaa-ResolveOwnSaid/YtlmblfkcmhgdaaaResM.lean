/-
  Lists of objects, plainly: all their symbols in order, with their places; where the objects lie in memory. No condition.
-/
import Derived.Test.YtlmblfkcmhgdaaaObjR
namespace Go.Proofs.Ytlmblfkcmhgdaaa
open Go.RowKit
set_option linter.unusedVariables false
set_option linter.unusedSimpArgs false
namespace RsM
open OO OJ
structure Ent where
  i : Nat
  k : Nat
  s : SymV
def noSym : SymV := ⟨⟨#[]⟩, 0, 0, 0, false⟩
def noObj : ObjV := ⟨[], [], [], []⟩
def ssAt (objs : List ObjV) (i : Nat) : List SymV := (objs.getD i noObj).ss
def row (objs : List ObjV) (i : Nat) : List Ent := (List.range (ssAt objs i).length).map fun k => ⟨i, k, (ssAt objs i).getD k noSym⟩
def flatTo (objs : List ObjV) (i : Nat) : List Ent := (List.range i).flatMap (row objs)
/-- all symbols of the objects, in order -/
def flat (objs : List ObjV) : List Ent := flatTo objs objs.length
def pos (objs : List ObjV) (i k : Nat) : Nat := (flatTo objs i).length + k
theorem row_length (objs : List ObjV) (i : Nat) : (row objs i).length = (ssAt objs i).length := by simp [row]
theorem flatTo_succ (objs : List ObjV) (i : Nat) : flatTo objs (i + 1) = flatTo objs i ++ row objs i := by
  unfold flatTo
  rw [List.range_succ, List.flatMap_append]
  simp
theorem flat_split (objs : List ObjV) (i : Nat) : ∀ n, i < n → ∃ R, flatTo objs n = flatTo objs i ++ (row objs i ++ R) := by
  intro n
  induction n with
  | zero => intro h; omega
  | succ n ih =>
    intro h
    rw [flatTo_succ]
    by_cases e : i = n
    · subst e
      exact ⟨[], by simp⟩
    · obtain ⟨R, hR⟩ := ih (by omega)
      exact ⟨R ++ row objs n, by rw [hR]; simp⟩
theorem pos_zero (objs : List ObjV) : pos objs 0 0 = 0 := by simp [pos, flatTo]
theorem pos_succ (objs : List ObjV) (i : Nat) : pos objs (i + 1) 0 = pos objs i (ssAt objs i).length := by
  unfold pos
  rw [flatTo_succ, List.length_append, row_length]
  omega
theorem pos_end (objs : List ObjV) : pos objs objs.length 0 = (flat objs).length := by simp [pos, flat]
theorem pos_lt {objs : List ObjV} {i k : Nat} (hi : i < objs.length) (hk : k < (ssAt objs i).length) : pos objs i k < (flat objs).length := by
  obtain ⟨R, hR⟩ := flat_split objs i objs.length hi
  unfold flat pos
  rw [hR, List.length_append, List.length_append, row_length]
  omega
theorem pos_le {objs : List ObjV} {i k : Nat} (hi : i < objs.length) (hk : k ≤ (ssAt objs i).length) : pos objs i k ≤ (flat objs).length := by
  obtain ⟨R, hR⟩ := flat_split objs i objs.length hi
  unfold flat pos
  rw [hR, List.length_append, List.length_append, row_length]
  omega
theorem flat_at {objs : List ObjV} {i k : Nat} (hi : i < objs.length) (hk : k < (ssAt objs i).length) : (flat objs)[pos objs i k]'(pos_lt hi hk) = ⟨i, k, (ssAt objs i)[k]⟩ := by
  have h : (flat objs)[pos objs i k]? = some ⟨i, k, (ssAt objs i)[k]⟩ := by
    obtain ⟨R, hR⟩ := flat_split objs i objs.length hi
    unfold flat pos
    rw [hR, List.getElem?_append_right (by omega), Nat.add_sub_cancel_left, List.getElem?_append_left (by rw [row_length]; exact hk)]
    unfold row
    rw [List.getElem?_map, List.getElem?_range hk]
    simp [List.getD_eq_getElem?_getD, List.getElem?_eq_getElem hk]
  exact (List.getElem?_eq_some_iff.1 h).2
theorem mem_flat {objs : List ObjV} {x : Ent} (h : x ∈ flat objs) : ∃ o, objs[x.i]? = some o ∧ o.ss[x.k]? = some x.s := by
  unfold flat flatTo at h
  obtain ⟨i, hi, hx⟩ := List.mem_flatMap.1 h
  have hi := List.mem_range.1 hi
  unfold row at hx
  obtain ⟨k, hk, rfl⟩ := List.mem_map.1 hx
  have hk := List.mem_range.1 hk
  refine ⟨objs[i], List.getElem?_eq_getElem hi, ?_⟩
  have e : ssAt objs i = objs[i].ss := by unfold ssAt; rw [List.getD_eq_getElem?_getD, List.getElem?_eq_getElem hi]; rfl
  rw [← e]
  show (ssAt objs i)[k]? = some ((ssAt objs i).getD k noSym)
  rw [List.getD_eq_getElem?_getD, List.getElem?_eq_getElem hk]; rfl
theorem ssAt_eq {objs : List ObjV} {i : Nat} (hi : i < objs.length) : ssAt objs i = objs[i].ss := by
  unfold ssAt; rw [List.getD_eq_getElem?_getD, List.getElem?_eq_getElem hi]; rfl
theorem flat_get {objs : List ObjV} {i k : Nat} (hi : i < objs.length) (hk : k < objs[i].ss.length) : ∃ h : pos objs i k < (flat objs).length, (flat objs)[pos objs i k] = ⟨i, k, objs[i].ss[k]⟩ := by
  have hk' : k < (ssAt objs i).length := by rw [ssAt_eq hi]; exact hk
  refine ⟨pos_lt hi hk', (flat_at hi hk').trans ?_⟩
  congr 1
  exact List.getElem_of_eq (ssAt_eq hi) hk'
/-! ### the first c of N -/
def upto (m k : Nat) (h : k ≤ m) : List (Fin m) := (List.finRange m).take k
theorem upto_succ (m k : Nat) (h : k < m) : upto m (k + 1) h = upto m k (Nat.le_of_lt h) ++ [⟨k, h⟩] := by
  unfold upto
  rw [List.take_succ_eq_append_getElem (by simpa using h)]
  simp
theorem upto_length (m k : Nat) (h : k ≤ m) : (upto m k h).length = k := by simp [upto, h]
theorem upto_all (m : Nat) : upto m m (Nat.le_refl _) = List.finRange m := by
  unfold upto
  rw [List.take_of_length_le (by simp)]
theorem upto_eq (m : Nat) {k j : Nat} (h : k ≤ m) (e : k = j) : upto m k h = upto m j (e ▸ h) := by subst e; rfl
theorem map_upto (objs : List ObjV) (k : Nat) (h : k ≤ (flat objs).length) : (upto (flat objs).length k h).map (fun x => (flat objs)[x.1]) = (flat objs).take k := by
  unfold upto
  rw [List.map_take]
  congr 1
  apply List.ext_getElem
  · simp
  · intro i h1 h2
    simp
/-! ### where they lie -/
theorem cell_same {w w' : World} {b : Nat} (h : w'.heap[b]? = w.heap[b]?) (o : Nat) : w'.cell? ⟨b, o, none⟩ = w.cell? ⟨b, o, none⟩ := by
  unfold World.cell?
  rw [show w'.heap[(⟨b, o, none⟩ : Addr).block]? = w.heap[(⟨b, o, none⟩ : Addr).block]? from h]
def Same (n₀ : Nat) (w w' : World) : Prop := ∀ k, k < n₀ → w'.heap[k]? = w.heap[k]?
theorem Same.refl (n₀ : Nat) (w : World) : Same n₀ w w := fun _ _ => rfl
theorem Same.trans {n₀ : Nat} {u v w : World} (h : Same n₀ u v) (k : Same n₀ v w) : Same n₀ u w := fun i hi => (k i hi).trans (h i hi)
theorem Same.of {n₀ n : Nat} {w w' : World} (h : Below n w w') (hn : n₀ ≤ n) : Same n₀ w w' := fun k hk => h.block k (by omega)
section
variable {n₀ : Nat} {w w' : World}
theorem sl_same {v : Value} {n : Nat} {F G : Nat → Nat → Prop} (h : Sl n₀ v n F) (hF : ∀ b o, b < n₀ → F b o → G b o) : Sl n₀ v n G := h.mono (Nat.le_refl _) hF
theorem row_same {k : IntKind} {b o : Nat} {xs : List Int} (h : Row k w b o xs) (hs : Same n₀ w w') (hlt : b < n₀) : Row k w' b o xs := fun j x hj => (cell_same (hs b hlt) _).trans (h j x hj)
theorem sym_same {b o : Nat} {s : SymV} (h : SymAt w b o s) (hs : Same n₀ w w') (hlt : b < n₀) : SymAt w' b o s :=
  ⟨(cell_same (hs b hlt) _).trans h.c0, (cell_same (hs b hlt) _).trans h.c1, (cell_same (hs b hlt) _).trans h.c2, (cell_same (hs b hlt) _).trans h.c3, (cell_same (hs b hlt) _).trans h.c4⟩
theorem rel_same {b o : Nat} {s : RelV} (h : RelAt w b o s) (hs : Same n₀ w w') (hlt : b < n₀) : RelAt w' b o s :=
  ⟨(cell_same (hs b hlt) _).trans h.c0, (cell_same (hs b hlt) _).trans h.c1, (cell_same (hs b hlt) _).trans h.c2, (cell_same (hs b hlt) _).trans h.c3, (cell_same (hs b hlt) _).trans h.c4⟩
theorem obj_same {v0 v1 v2 v3 : Value} {o : ObjV} (h : ObjAt n₀ w v0 v1 v2 v3 o) (hs : Same n₀ w w') : ObjAt n₀ w' v0 v1 v2 v3 o :=
  ⟨sl_same h.ws fun b o hlt hr => row_same hr hs hlt, sl_same h.ds fun b o hlt hr => row_same hr hs hlt,
   sl_same h.ss fun b o hlt hr j s hj => sym_same (hr j s hj) hs hlt, sl_same h.rs fun b o hlt hr j s hj => rel_same (hr j s hj) hs hlt⟩
/-- the object at a place -/
def ObjIn (n₀ : Nat) (w : World) (b o : Nat) (x : ObjV) : Prop :=
  ∃ v0 v1 v2 v3, w.cell? ⟨b, o, none⟩ = some v0 ∧ w.cell? ⟨b, o + 1, none⟩ = some v1 ∧ w.cell? ⟨b, o + 2, none⟩ = some v2 ∧ w.cell? ⟨b, o + 3, none⟩ = some v3 ∧ ObjAt n₀ w v0 v1 v2 v3 x
def ObjsAt (n₀ : Nat) (w : World) (v : Value) (objs : List ObjV) : Prop := Sl n₀ v objs.length fun b o => ∀ i x, objs[i]? = some x → ObjIn n₀ w b (o + i * 4) x
theorem ObjIn.same {b o : Nat} {x : ObjV} (h : ObjIn n₀ w b o x) (hs : Same n₀ w w') (hlt : b < n₀) : ObjIn n₀ w' b o x := by
  obtain ⟨v0, v1, v2, v3, c0, c1, c2, c3, ho⟩ := h
  exact ⟨v0, v1, v2, v3, (cell_same (hs b hlt) _).trans c0, (cell_same (hs b hlt) _).trans c1, (cell_same (hs b hlt) _).trans c2, (cell_same (hs b hlt) _).trans c3, obj_same ho hs⟩
theorem ObjsAt.same {v : Value} {objs : List ObjV} (h : ObjsAt n₀ w v objs) (hs : Same n₀ w w') : ObjsAt n₀ w' v objs :=
  sl_same h fun b o hlt hr i x hi => (hr i x hi).same hs hlt
theorem ObjIn.up {n₁ b o : Nat} {x : ObjV} (h : ObjIn n₀ w b o x) (hn : n₀ ≤ n₁) : ObjIn n₁ w b o x := by
  obtain ⟨v0, v1, v2, v3, c0, c1, c2, c3, ho⟩ := h
  exact ⟨v0, v1, v2, v3, c0, c1, c2, c3, ho.up hn⟩
theorem ObjsAt.up {n₁ : Nat} {v : Value} {objs : List ObjV} (h : ObjsAt n₀ w v objs) (hn : n₀ ≤ n₁) : ObjsAt n₁ w v objs :=
  Sl.mono h hn fun b o hlt hr i x hi => (hr i x hi).up hn
end
end RsM
end Go.Proofs.Ytlmblfkcmhgdaaa
