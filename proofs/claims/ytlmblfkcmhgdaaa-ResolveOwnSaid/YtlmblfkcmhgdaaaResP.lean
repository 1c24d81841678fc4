/-
  What names mean, plainly: the names that are defined, as a map; those that define one again; targets. No condition.
-/
import Derived.Test.YtlmblfkcmhgdaaaResM
import Derived.Test.YtlmblfkcmhgdaaaObjCk
namespace Go.Proofs.Ytlmblfkcmhgdaaa
open Go.RowKit Go.Maps
set_option linter.unusedVariables false
set_option linter.unusedSimpArgs false
namespace RsP
open OO OJ RsM OCk
theorem snoc_ind {α : Type} {P : List α → Prop} (nil : P []) (append_singleton : ∀ l x, P l → P (l ++ [x])) (l : List α) : P l := by
  have : ∀ l : List α, P l.reverse := by
    intro l
    induction l with
    | nil => exact nil
    | cons x l ih => rw [List.reverse_cons]; exact append_singleton _ _ ih
  have h := this l.reverse
  rwa [List.reverse_reverse] at h
/-- does it define its name? -/
def defs (s : SymV) : Bool := s.glob && !(s.sect == 0)
def tgtV (i k : Int) : Value := .agg #[.int .i64 i, .int .i64 k]
def tgtD (i k : Int) : DataW Unit := .agg [.lit (.int .i64 i), .lit (.int .i64 k)]
def tgtR (v : Value) : Option (DataW Unit × List MemPlace) :=
  match v with
  | .agg cs => match cs.toList with
    | [.int .i64 a, .int .i64 b] => some (tgtD a b, [])
    | _ => none
  | _ => none
theorem tgtR_mk (a b : Int) : tgtR (tgtV a b) = some (tgtD a b, []) := rfl
theorem tgtR_inv {v : Value} {z : DataW Unit × List MemPlace} (h : tgtR v = some z) : ∃ a b, v = tgtV a b ∧ z = (tgtD a b, []) := by
  unfold tgtR at h
  split at h
  · rename_i cs
    split at h
    · rename_i a b e
      refine ⟨a, b, ?_, ?_⟩
      · unfold tgtV
        have : cs = cs.toList.toArray := by simp
        rw [this, e]
      · exact (Option.some.inj h).symm
    · cases h
  · cases h
theorem tgtD_inj {a b c d : Int} (h : tgtD a b = tgtD c d) : a = c ∧ b = d := by
  unfold tgtD at h
  injection h with h
  injection h with h1 h2
  injection h1 with h1
  injection h2 with h2 _
  injection h2 with h2
  injection h1 with _ h1
  injection h2 with _ h2
  exact ⟨h1, h2⟩
/-- the first that defines a name -/
def look (l : List Ent) (n : ByteArray) : Option Ent := l.find? fun x => defs x.s && decide (x.s.name = n)
def step (D : DataW Unit) (x : Ent) : DataW Unit := if defs x.s && !Maps.has D (key x.s) then D.put (key x.s) (tgtD x.i x.k) else D
/-- the names that are defined -/
def namesD (l : List Ent) : DataW Unit := l.foldl step (.map [])
def nkey (n : ByteArray) : Lit := .string n.data.toList
theorem key_eq (s : SymV) : key s = nkey s.name := rfl
theorem nkey_ne {m n : ByteArray} (h : m ≠ n) : nkey m ≠ nkey n := by
  intro e
  unfold nkey at e
  injection e with e
  exact h (ByteArray.ext (Array.toList_inj.1 e))
theorem isMap_step {D : DataW Unit} (h : IsMap D) (x : Ent) : IsMap (step D x) := by
  unfold step
  split
  · exact h.put _ _
  · exact h
theorem isMap_names (l : List Ent) : IsMap (namesD l) := by
  unfold namesD
  have : ∀ (l : List Ent) (D : DataW Unit), IsMap D → IsMap (l.foldl step D) := by
    intro l
    induction l with
    | nil => intro D h; exact h
    | cons x l ih => intro D h; exact ih _ (isMap_step h x)
  exact this l _ isMap_empty
theorem namesD_snoc (l : List Ent) (x : Ent) : namesD (l ++ [x]) = step (namesD l) x := by
  unfold namesD; rw [List.foldl_append]; rfl
theorem look_snoc (l : List Ent) (x : Ent) (n : ByteArray) : look (l ++ [x]) n = (look l n).or (if defs x.s && decide (x.s.name = n) then some x else none) := by
  unfold look
  rw [List.find?_append]
  congr 1
  simp [List.find?_cons]
  split <;> simp_all
theorem names_look (l : List Ent) (n : ByteArray) : Maps.has (namesD l) (nkey n) = (look l n).isSome ∧ ∀ z, (namesD l).atKey (nkey n) z = match look l n with | some x => tgtD x.i x.k | none => z := by
  induction l using snoc_ind with
  | nil => exact ⟨rfl, fun z => rfl⟩
  | append_singleton l x ih =>
    rw [namesD_snoc, look_snoc]
    by_cases e : x.s.name = n
    · subst e
      rw [decide_eq_true rfl, Bool.and_true]
      cases hl : look l x.s.name with
      | some y =>
        have h1 : Maps.has (namesD l) (nkey x.s.name) = true := by rw [ih.1, hl]; rfl
        have hs : step (namesD l) x = namesD l := by unfold step; rw [key_eq, h1]; simp
        rw [hs, ih.1, hl]
        refine ⟨rfl, fun z => ?_⟩
        rw [ih.2, hl]; rfl
      | none =>
        have h1 : Maps.has (namesD l) (nkey x.s.name) = false := by rw [ih.1, hl]; rfl
        cases hd : defs x.s with
        | true =>
          have hs : step (namesD l) x = (namesD l).put (nkey x.s.name) (tgtD x.i x.k) := by unfold step; rw [key_eq, h1, hd]; rfl
          rw [hs, has_put_same (isMap_names l) (by unfold nkey; exact trivial)]
          refine ⟨rfl, fun z => ?_⟩
          rw [atKey_put_same (isMap_names l) (by unfold nkey; exact trivial)]
          rfl
        | false =>
          have hs : step (namesD l) x = namesD l := by unfold step; rw [hd]; rfl
          rw [hs, ih.1, hl]
          refine ⟨rfl, fun z => ?_⟩
          rw [ih.2, hl]; rfl
    · have hx : (if defs x.s && decide (x.s.name = n) then some x else none) = none := by rw [decide_eq_false e]; simp
      rw [hx, Option.or_none]
      unfold step
      split
      · rw [key_eq, has_put_other (nkey_ne (fun h => e h.symm)), ih.1]
        refine ⟨rfl, fun z => ?_⟩
        rw [atKey_put_other (nkey_ne (fun h => e h.symm)), ih.2]
      · exact ih
/-- those that define a name again -/
def againTo : DataW Unit → List Ent → List Ent
  | _, [] => []
  | D, x :: l => (if defs x.s && Maps.has D (key x.s) then [x] else []) ++ againTo (step D x) l
theorem againTo_snoc (l : List Ent) (x : Ent) : ∀ D, againTo D (l ++ [x]) = againTo D l ++ (if defs x.s && Maps.has (l.foldl step D) (key x.s) then [x] else []) := by
  induction l with
  | nil => intro D; simp [againTo]
  | cons y l ih => intro D; show (if _ then _ else _) ++ againTo (step D y) (l ++ [x]) = _; rw [ih]; simp [againTo]
def againL (l : List Ent) : List Ent := againTo (.map []) l
theorem againL_snoc (l : List Ent) (x : Ent) : againL (l ++ [x]) = againL l ++ (if defs x.s && Maps.has (namesD l) (key x.s) then [x] else []) := againTo_snoc l x _
theorem againL_le (l : List Ent) : (againL l).length ≤ l.length := by
  induction l using snoc_ind with
  | nil => exact Nat.le_refl _
  | append_singleton l x ih =>
    rw [againL_snoc, List.length_append, List.length_append]
    split <;> simp <;> omega
def entCells (l : List Ent) : List Value := l.flatMap fun x => [Value.int .i64 (x.i : Int), .int .i64 (x.k : Int)]
theorem entCells_snoc (l : List Ent) (x : Ent) : entCells (l ++ [x]) = entCells l ++ [.int .i64 (x.i : Int), .int .i64 (x.k : Int)] := by
  unfold entCells; rw [List.flatMap_append]; rfl
end RsP
end Go.Proofs.Ytlmblfkcmhgdaaa
