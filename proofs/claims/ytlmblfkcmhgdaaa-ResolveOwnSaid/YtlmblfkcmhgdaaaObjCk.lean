/-
  What an object is, plainly: chk: its names known so far as a set; its symbols and relocations one by one. It speaks of no program but for the keys' type.
-/
import Derived.Test.YtlmblfkcmhgdaaaObjRl
import Derived.Maps.OwnSet
namespace Go.Proofs.Ytlmblfkcmhgdaaa
open Go.RowKit Go.Maps
set_option linter.unusedVariables false
set_option linter.unusedSimpArgs false
namespace OCk
open OO OJ OU ORl
def key (s : SymV) : Lit := .string s.name.data.toList
def symAt (nt nd : Nat) (ss : List SymV) (k : Nat) : Bool := match ss[k]? with
  | none => false
  | some s => !((ss.take k).any fun t => decide (t.name = s.name)) && symOk nt nd s
def symsTo (nt nd : Nat) (ss : List SymV) (k : Nat) : Bool := (List.range k).all (symAt nt nd ss)
def relAt (ws : List Int) (nd ns : Nat) (rs : List RelV) (k : Nat) : Bool := match rs[k]? with
  | none => false
  | some r => (decide (k = 0) || (match rs[k - 1]? with | none => false | some q => riseB q r)) && relOk ws nd ns r
def relsTo (ws : List Int) (nd ns : Nat) (rs : List RelV) (k : Nat) : Bool := (List.range k).all (relAt ws nd ns rs)
def lensB (o : ObjV) : Bool := decide (o.ws.length ≤ 65536 ∧ o.ds.length ≤ 65536 ∧ o.ds.length % 8 = 0) && decide (o.ss.length ≤ 600 ∧ o.rs.length ≤ 65536)
/-- is it an object? -/
def chk (o : ObjV) : Bool := lensB o && (symsTo o.ws.length o.ds.length o.ss o.ss.length && relsTo o.ws o.ds.length o.ss.length o.rs o.rs.length)
theorem all_succ (f : Nat → Bool) (k : Nat) : (List.range (k + 1)).all f = ((List.range k).all f && f k) := by
  rw [List.range_succ, List.all_append]; simp
theorem all_no {f : Nat → Bool} {k n : Nat} (hk : k < n) (h : f k = false) : (List.range n).all f = false := by
  rw [List.all_eq_false]
  exact ⟨k, List.mem_range.2 hk, by simp [h]⟩
theorem symsTo_succ (nt nd : Nat) (ss : List SymV) (k : Nat) : symsTo nt nd ss (k + 1) = (symsTo nt nd ss k && symAt nt nd ss k) := all_succ _ _
theorem relsTo_succ (ws : List Int) (nd ns : Nat) (rs : List RelV) (k : Nat) : relsTo ws nd ns rs (k + 1) = (relsTo ws nd ns rs k && relAt ws nd ns rs k) := all_succ _ _
theorem chk_lens {o : ObjV} (h : lensB o = false) : chk o = false := by unfold chk; rw [h]; rfl
theorem chk_sym {o : ObjV} {k : Nat} (hk : k < o.ss.length) (h : symAt o.ws.length o.ds.length o.ss k = false) : chk o = false := by
  unfold chk
  rw [show symsTo o.ws.length o.ds.length o.ss o.ss.length = false from all_no hk h]
  simp
theorem chk_rel {o : ObjV} {k : Nat} (hk : k < o.rs.length) (h : relAt o.ws o.ds.length o.ss.length o.rs k = false) : chk o = false := by
  unfold chk
  rw [show relsTo o.ws o.ds.length o.ss.length o.rs o.rs.length = false from all_no hk h]
  simp
theorem chk_yes {o : ObjV} (h0 : lensB o = true) (h1 : symsTo o.ws.length o.ds.length o.ss o.ss.length = true) (h2 : relsTo o.ws o.ds.length o.ss.length o.rs o.rs.length = true) : chk o = true := by
  unfold chk; rw [h0, h1, h2]; rfl
theorem symAt_eq {nt nd : Nat} {ss : List SymV} {k : Nat} (hk : k < ss.length) : symAt nt nd ss k = (!((ss.take k).any fun t => decide (t.name = ss[k].name)) && symOk nt nd ss[k]) := by
  unfold symAt; rw [List.getElem?_eq_getElem hk]
theorem relAt_zero {ws : List Int} {nd ns : Nat} {rs : List RelV} (hk : 0 < rs.length) : relAt ws nd ns rs 0 = relOk ws nd ns rs[0] := by
  unfold relAt; rw [List.getElem?_eq_getElem hk]; simp
theorem relAt_succ {ws : List Int} {nd ns : Nat} {rs : List RelV} {k : Nat} (hk : k + 1 < rs.length) : relAt ws nd ns rs (k + 1) = (riseB rs[k] rs[k + 1] && relOk ws nd ns rs[k + 1]) := by
  unfold relAt; rw [List.getElem?_eq_getElem hk]
  simp only [Nat.add_sub_cancel, List.getElem?_eq_getElem (Nat.lt_of_succ_lt hk)]
  rfl
/-! ### the names so far -/
def names (ss : List SymV) (k : Nat) : DataW Unit := (ss.take k).foldl (fun D s => D.put (key s) (.agg [])) (.map [])
theorem names_succ (ss : List SymV) (k : Nat) (h : k < ss.length) : names ss (k + 1) = (names ss k).put (key ss[k]) (.agg []) := by
  unfold names
  rw [List.take_succ_eq_append_getElem h, List.foldl_append]; rfl
theorem isMap_fold (l : List SymV) : ∀ D : DataW Unit, IsMap D → IsMap (l.foldl (fun D s => D.put (key s) (.agg [])) D) := by
  induction l with
  | nil => intro D h; exact h
  | cons s l ih => intro D h; exact ih _ (h.put _ _)
theorem key_ne {s t : SymV} (h : t.name ≠ s.name) : key s ≠ key t := by
  intro e
  unfold key at e
  injection e with e
  exact h (ByteArray.ext (Array.toList_inj.1 e)).symm
theorem has_fold (s : SymV) (l : List SymV) : ∀ D : DataW Unit, IsMap D → Maps.has (l.foldl (fun D s => D.put (key s) (.agg [])) D) (key s) = (l.any (fun t => decide (t.name = s.name)) || Maps.has D (key s)) := by
  induction l with
  | nil => intro D h; simp
  | cons t l ih =>
    intro D h
    rw [List.foldl_cons, ih _ (h.put _ _), List.any_cons]
    by_cases e : t.name = s.name
    · have hk : key t = key s := by unfold key; rw [e]
      rw [hk, has_put_same h (by unfold key; exact trivial)]
      simp [e]
    · rw [has_put_other (key_ne e)]
      simp [e]
theorem has_names (ss : List SymV) (k : Nat) (s : SymV) : Maps.has (names ss k) (key s) = (ss.take k).any fun t => decide (t.name = s.name) := by
  unfold names
  rw [has_fold s _ _ isMap_empty]
  simp [Maps.has]
end OCk
end Go.Proofs.Ytlmblfkcmhgdaaa
