/-
  An object more that hands nothing out: what Resolve means of the others. It speaks of no program.
-/
import Derived.Test.YtlmblfkcmhgdaaaResB
namespace Go.Proofs.Ytlmblfkcmhgdaaa
open Go.RowKit Go.Maps
set_option linter.unusedVariables false
set_option linter.unusedSimpArgs false
namespace RsE
open OO OJ RsM RsP RsS RsT RsY RsQ OCk
theorem ssAt_left {objs more : List ObjV} {i : Nat} (h : i < objs.length) : ssAt (objs ++ more) i = ssAt objs i := by
  have e := List.getElem?_eq_getElem h
  rw [ssAt_some e, ssAt_some (objs := objs ++ more) (o := objs[i]) (by rw [List.getElem?_append_left h]; exact e)]
theorem row_left {objs more : List ObjV} {i : Nat} (h : i < objs.length) : row (objs ++ more) i = row objs i := by
  unfold row; rw [ssAt_left h]
theorem flatTo_left {objs more : List ObjV} : ∀ i, i ≤ objs.length → flatTo (objs ++ more) i = flatTo objs i
  | 0, _ => by simp [flatTo]
  | i + 1, h => by rw [flatTo_succ, flatTo_succ, flatTo_left i (by omega), row_left (by omega)]
theorem flat_snoc (objs : List ObjV) (m : ObjV) : flat (objs ++ [m]) = flat objs ++ row (objs ++ [m]) objs.length := by
  unfold flat
  rw [List.length_append, show objs.length + [m].length = objs.length + 1 from rfl, flatTo_succ, flatTo_left _ (Nat.le_refl _)]
theorem look_more {l r : List Ent} (hr : ∀ x ∈ r, defs x.s = false) (n : ByteArray) : RsP.look (l ++ r) n = RsP.look l n := by
  unfold RsP.look
  rw [List.find?_append]
  have : r.find? (fun x => defs x.s && decide (x.s.name = n)) = none := List.find?_eq_none.2 fun x hx => by rw [hr x hx]; simp
  rw [this]
  cases l.find? (fun x => defs x.s && decide (x.s.name = n)) <;> rfl
theorem again_more {l : List Ent} : ∀ r : List Ent, (∀ x ∈ r, defs x.s = false) → againL (l ++ r) = againL l := by
  intro r
  induction r using snoc_ind with
  | nil => intro _; rw [List.append_nil]
  | append_singleton r x ih =>
    intro h
    rw [← List.append_assoc, againL_snoc, ih fun y hy => h y (List.mem_append_left _ hy), h x (by simp)]
    simp
theorem tgI_more {l r : List Ent} (hr : ∀ x ∈ r, defs x.s = false) (x : Ent) : tgI (l ++ r) x = tgI l x := by
  unfold tgI
  rw [look_more hr]
theorem bad_more {l r : List Ent} (hr : ∀ x ∈ r, defs x.s = false) (x : Ent) : RsT.bad (l ++ r) x = RsT.bad l x := by
  unfold RsT.bad
  rw [tgI_more hr]
theorem tgs_more {l r : List Ent} (hr : ∀ x ∈ r, defs x.s = false) (x : Ent) : tgs (l ++ r) x = tgs l x := by
  unfold tgs
  rw [tgI_more hr]
theorem find_more {l r : List Ent} (hr : ∀ x ∈ r, defs x.s = false) (hs : ∀ x ∈ r, x.s.sect ≠ 0) : (l ++ r).find? (RsT.bad (l ++ r)) = l.find? (RsT.bad l) := by
  have e : RsT.bad (l ++ r) = RsT.bad l := funext fun x => bad_more hr x
  rw [e, List.find?_append]
  have : r.find? (RsT.bad l) = none := List.find?_eq_none.2 fun x hx => by
    unfold RsT.bad tgI
    rw [if_neg (hs x hx)]
    simp
  rw [this]
  cases l.find? (RsT.bad l) <;> rfl
/-- the symbols of the object more -/
theorem row_more {objs : List ObjV} {m : ObjV} {P : SymV → Prop} (h : ∀ s ∈ m.ss, P s) : ∀ x ∈ row (objs ++ [m]) objs.length, P x.s := by
  intro x hx
  have := (mem_row.1 hx).2
  rw [ssAt_some (o := m) (by simp)] at this
  exact h _ (List.mem_of_getElem? this)
theorem none_more {objs : List ObjV} {m : ObjV} (h : chk m = true) : 0 ≤ noneFrom (objs ++ [m]) 0 ↔ 0 ≤ noneFrom objs 0 := by
  rw [none_iff, none_iff]
  constructor
  · rintro ⟨o, ho, hc⟩
    rcases List.mem_append.1 ho with ho | ho
    · exact ⟨o, ho, hc⟩
    · rw [List.mem_singleton.1 ho, h] at hc; cases hc
  · rintro ⟨o, ho, hc⟩
    exact ⟨o, List.mem_append_left _ ho, hc⟩
/-- the error is the same -/
theorem code_more {objs : List ObjV} {m : ObjV} (hc : chk m = true) (hd : ∀ s ∈ m.ss, defs s = false) (hs : ∀ s ∈ m.ss, s.sect ≠ 0) : resCode (objs ++ [m]) = resCode objs := by
  have hr := row_more (objs := objs) hd
  have hr2 := row_more (objs := objs) hs
  unfold resCode
  rw [flat_snoc, again_more _ hr, find_more hr hr2]
  by_cases h0 : 0 ≤ noneFrom objs 0
  · rw [if_pos h0, if_pos ((none_more hc).2 h0)]
  · rw [if_neg h0, if_neg (fun h => h0 ((none_more hc).1 h))]
/-- and so are the targets -/
theorem rows_more {objs : List ObjV} {m : ObjV} (hd : ∀ s ∈ m.ss, defs s = false) {i : Nat} (hi : i < objs.length) :
    RsT.rowAt (flat (objs ++ [m])) (flat (objs ++ [m])) i = RsT.rowAt (flat objs) (flat objs) i := by
  have hr := row_more (objs := objs) hd
  rw [rowAt_row hi, rowAt_row (by rw [List.length_append]; omega), row_left hi]
  refine List.map_congr_left fun x _ => ?_
  rw [flat_snoc, tgs_more hr]
end RsE
end Go.Proofs.Ytlmblfkcmhgdaaa
