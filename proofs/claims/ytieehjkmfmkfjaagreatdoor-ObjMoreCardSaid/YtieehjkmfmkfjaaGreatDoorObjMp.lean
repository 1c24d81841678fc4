/-
  An object with a symbol more, plainly: it is one just if the name is a name and new; its text is longer. No condition but that the object is one, and has few symbols.
-/
import Derived.Test.YtieehjkmfmkfjaaGreatDoorObjPr
namespace Go.Proofs.YtieehjkmfmkfjaaGreatDoor
open Go.RowKit
set_option linter.unusedVariables false
set_option linter.unusedSimpArgs false
namespace OMp
open OO OJ OCk OU OPr ORl OL
def newS (n : ByteArray) : SymV := ⟨n, 0, 0, 0, true⟩
def more (o : ObjV) (n : ByteArray) : ObjV := ⟨o.ws, o.ds, o.ss ++ [newS n], o.rs⟩
def there (ss : List SymV) (n : ByteArray) : Bool := ss.any fun s => decide (s.name = n)
theorem symAt_app {nt nd : Nat} {ss : List SymV} {s : SymV} {k : Nat} (hk : k < ss.length) : symAt nt nd (ss ++ [s]) k = symAt nt nd ss k := by
  unfold symAt
  rw [List.getElem?_append_left hk, List.take_append_of_le_length (by omega)]
theorem symAt_last {nt nd : Nat} {ss : List SymV} {n : ByteArray} : symAt nt nd (ss ++ [newS n]) ss.length = (!(there ss n) && OM.nameB n) := by
  unfold symAt
  rw [List.getElem?_append_right (Nat.le_refl _)]
  simp only [Nat.sub_self, List.getElem?_cons_zero, List.take_left']
  unfold symOk placeB newS there
  simp
theorem all_congr {f g : Nat → Bool} {k : Nat} (h : ∀ i, i < k → f i = g i) : (List.range k).all f = (List.range k).all g := by
  rw [Bool.eq_iff_iff, List.all_eq_true, List.all_eq_true]
  constructor
  · intro hf i hi; rw [← h i (List.mem_range.1 hi)]; exact hf i hi
  · intro hf i hi; rw [h i (List.mem_range.1 hi)]; exact hf i hi
theorem syms_more {nt nd : Nat} {ss : List SymV} {n : ByteArray} (h : symsTo nt nd ss ss.length = true) : symsTo nt nd (ss ++ [newS n]) (ss ++ [newS n]).length = (!(there ss n) && OM.nameB n) := by
  rw [List.length_append, List.length_cons, List.length_nil, symsTo_succ, symAt_last]
  have : symsTo nt nd (ss ++ [newS n]) ss.length = symsTo nt nd ss ss.length := all_congr fun i hi => symAt_app hi
  rw [this, h]; simp
theorem rel_more {ws : List Int} {nd ns : Nat} {r : RelV} (h : relOk ws nd ns r = true) : relOk ws nd (ns + 1) r = true := by
  unfold relOk at h ⊢
  rw [Bool.and_eq_true] at h ⊢
  refine ⟨?_, h.2⟩
  have := of_decide_eq_true h.1
  exact decide_eq_true (by omega)
theorem rels_more {ws : List Int} {nd ns : Nat} {rs : List RelV} (h : relsTo ws nd ns rs rs.length = true) : relsTo ws nd (ns + 1) rs rs.length = true := by
  unfold relsTo at h ⊢
  rw [List.all_eq_true] at h ⊢
  intro k hk
  have := h k hk
  unfold relAt at this ⊢
  split at this
  · cases this
  · rw [Bool.and_eq_true] at this ⊢
    exact ⟨this.1, rel_more this.2⟩
theorem chk_more {o : ObjV} {n : ByteArray} (h : chk o = true) (hf : o.ss.length ≤ 60) : chk (more o n) = (OM.nameB n && !(there o.ss n)) := by
  obtain ⟨⟨a, b, c⟩, ⟨d, e⟩, f, g⟩ := chk_parts h
  unfold chk more lensB
  simp only
  rw [decide_eq_true (⟨a, b, c⟩ : _ ∧ _ ∧ _), decide_eq_true (⟨by rw [List.length_append]; simp; omega, e⟩ : _ ∧ _), syms_more f, show (o.ss ++ [newS n]).length = o.ss.length + 1 by simp, rels_more g]
  cases OM.nameB n <;> cases there o.ss n <;> rfl
theorem digits_le : ∀ n : Nat, n ≤ 60 → (Lib.itoa (n : Int)).length ≤ (Lib.itoa ((n : Int) + 1)).length := by
  have : ∀ n : Fin 61, (Lib.itoa ((n.1 : Nat) : Int)).length ≤ (Lib.itoa (((n.1 : Nat) : Int) + 1)).length := by decide +kernel
  intro n h
  exact this ⟨n, by omega⟩
theorem numsL_one (n : Int) : (numsL [n]).length = (Lib.itoa n).length + 1 := by
  simp [numsL]
theorem text_more {o : ObjV} {n : ByteArray} (hf : o.ss.length ≤ 60) : (objL o).length < (objL (more o n)).length := by
  have hd := digits_le o.ss.length hf
  have hs : (symsL (o.ss ++ [newS n])).length = (symsL o.ss).length + (symL (newS n)).length := by
    unfold symsL
    rw [List.flatMap_append, List.length_append]
    simp
  have h1 : 1 ≤ (symL (newS n)).length := by
    unfold symL lineL
    simp only [List.length_append, List.length_cons, List.length_nil]
    omega
  have h3 : (t3 o).length ≤ (t3 (more o n)).length := by
    unfold t3 lineL more
    simp only [List.length_append, numsL_one, List.length_cons, List.length_nil]
    have : ((o.ss.length + 1 : Nat) : Int) = (o.ss.length : Int) + 1 := by omega
    rw [show ((o.ss.length + (0 + 1) : Nat) : Int) = (o.ss.length : Int) + 1 by omega]
    omega
  have e1 : t1 (more o n) = t1 o := rfl
  have e2 : t2 (more o n) = t2 o := rfl
  have e4 : t4 (more o n) = t4 o := rfl
  unfold objL
  rw [e1, e2, e4]
  show _ < (t1 o ++ wordsL o.ws ++ t2 o ++ dataL o.ds _ ++ t3 (more o n) ++ symsL (o.ss ++ [newS n]) ++ t4 o ++ relsL o.rs ++ t5).length
  simp only [List.length_append, hs]
  have : (more o n).ds = o.ds := rfl
  rw [this]
  omega
end OMp
end Go.Proofs.YtieehjkmfmkfjaaGreatDoor
