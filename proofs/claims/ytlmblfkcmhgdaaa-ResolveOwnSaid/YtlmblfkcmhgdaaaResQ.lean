/-
  Objects the other way round: what Resolve means of them. It speaks of no program.
-/
import Derived.Test.YtlmblfkcmhgdaaaResY
namespace Go.Proofs.Ytlmblfkcmhgdaaa
open Go.RowKit Go.Maps
set_option linter.unusedVariables false
set_option linter.unusedSimpArgs false
namespace RsQ
open OO OJ RsM RsP RsS RsT RsY OCk
theorem mem_row {objs : List ObjV} {i : Nat} {x : Ent} : x ∈ row objs i ↔ x.i = i ∧ (ssAt objs i)[x.k]? = some x.s := by
  unfold row
  rw [List.mem_map]
  constructor
  · rintro ⟨k, hk, rfl⟩
    have hk := List.mem_range.1 hk
    refine ⟨rfl, ?_⟩
    show (ssAt objs i)[k]? = some ((ssAt objs i).getD k noSym)
    rw [List.getD_eq_getElem?_getD, List.getElem?_eq_getElem hk]; rfl
  · rintro ⟨rfl, h⟩
    refine ⟨x.k, List.mem_range.2 (List.getElem?_eq_some_iff.1 h).1, ?_⟩
    rw [List.getD_eq_getElem?_getD, h]
    rfl
theorem ssAt_some {objs : List ObjV} {i : Nat} {o : ObjV} (h : objs[i]? = some o) : ssAt objs i = o.ss := by
  unfold ssAt
  simp [h]
theorem mem_iff {objs : List ObjV} {x : Ent} : x ∈ flat objs ↔ ∃ o, objs[x.i]? = some o ∧ o.ss[x.k]? = some x.s := by
  constructor
  · exact mem_flat
  · rintro ⟨o, h1, h2⟩
    unfold flat flatTo
    exact List.mem_flatMap.2 ⟨x.i, List.mem_range.2 (List.getElem?_eq_some_iff.1 h1).1, mem_row.2 ⟨rfl, by rw [ssAt_some h1]; exact h2⟩⟩
theorem row_nodup (objs : List ObjV) (i : Nat) : (row objs i).Nodup := by
  unfold row
  refine List.Pairwise.map _ (fun a b h e => h ?_) List.nodup_range
  exact congrArg Ent.k e
theorem flatTo_nodup (objs : List ObjV) (i : Nat) : (flatTo objs i).Nodup ∧ ∀ x ∈ flatTo objs i, x.i < i := by
  induction i with
  | zero => exact ⟨by simp [flatTo], fun x hx => by simp [flatTo] at hx⟩
  | succ i ih =>
    rw [flatTo_succ]
    refine ⟨List.nodup_append.2 ⟨ih.1, row_nodup objs i, fun a ha b hb e => ?_⟩, fun x hx => ?_⟩
    · have h1 := ih.2 a ha
      have h2 := (mem_row.1 hb).1
      subst e
      omega
    · rcases List.mem_append.1 hx with h | h
      · have := ih.2 x h; omega
      · have := (mem_row.1 h).1; omega
theorem flat_nodup (objs : List ObjV) : (flat objs).Nodup := (flatTo_nodup objs _).1
/-- no name is defined twice -/
def Uniq (F : List Ent) : Prop := ∀ x ∈ F, ∀ y ∈ F, defs x.s = true → defs y.s = true → x.s.name = y.s.name → x = y
theorem look_none {l : List Ent} {n : ByteArray} : RsP.look l n = none ↔ ∀ x ∈ l, defs x.s = true → x.s.name ≠ n := by
  unfold RsP.look
  rw [List.find?_eq_none]
  constructor
  · intro h x hx hd e
    exact h x hx (by simp [hd, e])
  · intro h x hx hp
    simp only [Bool.and_eq_true, decide_eq_true_eq] at hp
    exact h x hx hp.1 hp.2
theorem look_some {l : List Ent} {n : ByteArray} {y : Ent} (h : RsP.look l n = some y) : y ∈ l ∧ defs y.s = true ∧ y.s.name = n := by
  unfold RsP.look at h
  have h1 := List.find?_some h
  simp only [Bool.and_eq_true, decide_eq_true_eq] at h1
  exact ⟨List.mem_of_find?_eq_some h, h1.1, h1.2⟩
theorem look_uniq {l : List Ent} (hu : Uniq l) {n : ByteArray} {y : Ent} (h1 : y ∈ l) (h2 : defs y.s = true) (h3 : y.s.name = n) : RsP.look l n = some y := by
  cases h : RsP.look l n with
  | none => exact absurd h3 (look_none.1 h y h1 h2)
  | some z =>
    obtain ⟨a, b, c⟩ := look_some h
    rw [hu z a y h1 b h2 (c.trans h3.symm)]
theorem again_uniq {l : List Ent} (hn : l.Nodup) : againL l = [] ↔ Uniq l := by
  induction l using snoc_ind with
  | nil => exact ⟨fun _ x hx => by simp at hx, fun _ => rfl⟩
  | append_singleton l x ih =>
    obtain ⟨n1, -, n3⟩ := List.nodup_append.1 hn
    have hx : x ∉ l := fun h => n3 x h x (by simp) rfl
    have ih := ih n1
    rw [againL_snoc, List.append_eq_nil_iff, ih, key_eq, (names_look l x.s.name).1]
    constructor
    · rintro ⟨hu, he⟩ a ha b hb da db e
      have hno : ∀ y ∈ l, defs y.s = true → defs x.s = true → y.s.name ≠ x.s.name := fun y hy dy dx => by
        rw [dx] at he
        cases h : RsP.look l x.s.name with
        | none => exact look_none.1 h y hy dy
        | some z => rw [h] at he; simp at he
      rcases List.mem_append.1 ha with ha | ha
      · rcases List.mem_append.1 hb with hb | hb
        · exact hu a ha b hb da db e
        · rw [List.mem_singleton.1 hb] at db e
          exact absurd e (hno a ha da db)
      · rw [List.mem_singleton.1 ha] at da e ⊢
        rcases List.mem_append.1 hb with hb | hb
        · exact absurd e.symm (hno b hb db da)
        · exact (List.mem_singleton.1 hb).symm
    · intro hu
      refine ⟨fun a ha b hb => hu a (List.mem_append_left _ ha) b (List.mem_append_left _ hb), ?_⟩
      cases hd : defs x.s with
      | false => rfl
      | true =>
        cases h : RsP.look l x.s.name with
        | none => rfl
        | some z =>
          obtain ⟨a, b, c⟩ := look_some h
          exact absurd (hu z (List.mem_append_left _ a) x (by simp) b hd c) (fun e => hx (e ▸ a))
/-- the same symbol, where the objects stand the other way round -/
def flip (n : Nat) (x : Ent) : Ent := ⟨n - 1 - x.i, x.k, x.s⟩
theorem flip_mem {objs : List ObjV} {x : Ent} (h : x ∈ flat objs) : flip objs.length x ∈ flat objs.reverse := by
  obtain ⟨o, h1, h2⟩ := mem_iff.1 h
  have hi := (List.getElem?_eq_some_iff.1 h1).1
  refine mem_iff.2 ⟨o, ?_, h2⟩
  show objs.reverse[objs.length - 1 - x.i]? = some o
  rw [List.getElem?_reverse (by omega)]
  rw [show objs.length - 1 - (objs.length - 1 - x.i) = x.i by omega]
  exact h1
theorem flip_flip {objs : List ObjV} {x : Ent} (h : x ∈ flat objs) : flip objs.length (flip objs.length x) = x := by
  obtain ⟨o, h1, h2⟩ := mem_iff.1 h
  have hi := (List.getElem?_eq_some_iff.1 h1).1
  unfold flip
  simp only [show objs.length - 1 - (objs.length - 1 - x.i) = x.i by omega]
theorem flip_mem' {objs : List ObjV} {x : Ent} (h : x ∈ flat objs.reverse) : flip objs.length x ∈ flat objs := by
  have := flip_mem h
  rwa [List.reverse_reverse, List.length_reverse] at this
theorem flip_flip' {objs : List ObjV} {x : Ent} (h : x ∈ flat objs.reverse) : flip objs.length (flip objs.length x) = x := by
  have := flip_flip h
  rwa [List.length_reverse] at this
theorem uniq_rev {objs : List ObjV} (h : Uniq (flat objs)) : Uniq (flat objs.reverse) := fun x hx y hy dx dy e => by
  rw [← flip_flip' hx, ← flip_flip' hy, h _ (flip_mem' hx) _ (flip_mem' hy) dx dy e]
theorem look_rev {objs : List ObjV} (hu : Uniq (flat objs)) (n : ByteArray) : RsP.look (flat objs.reverse) n = (RsP.look (flat objs) n).map (flip objs.length) := by
  cases h : RsP.look (flat objs) n with
  | none =>
    exact look_none.2 fun x hx hd => look_none.1 h (flip objs.length x) (flip_mem' hx) hd
  | some y =>
    obtain ⟨a, b, c⟩ := look_some h
    exact look_uniq (uniq_rev hu) (flip_mem a) b c
theorem tgI_rev {objs : List ObjV} (hu : Uniq (flat objs)) {x : Ent} (hx : x ∈ flat objs) (hb : RsT.bad (flat objs) x = false) :
    tgs (flat objs.reverse) (flip objs.length x) = ((objs.length : Int) - 1 - (tgs (flat objs) x).1, (tgs (flat objs) x).2) := by
  have li : ∀ y : Ent, y ∈ flat objs → ((objs.length - 1 - y.i : Nat) : Int) = (objs.length : Int) - 1 - (y.i : Int) := fun y hy => by
    obtain ⟨o, h1, h2⟩ := mem_iff.1 hy
    have hi := (List.getElem?_eq_some_iff.1 h1).1
    omega
  unfold RsT.bad tgI at hb
  unfold tgs tgI
  by_cases hs : x.s.sect = 0
  · rw [if_pos hs] at hb
    rw [if_pos (show (flip objs.length x).s.sect = 0 from hs), if_pos hs]
    rw [show (flip objs.length x).s.name = x.s.name from rfl, look_rev hu]
    cases h : RsP.look (flat objs) x.s.name with
    | none => rw [h] at hb; cases hb
    | some y =>
      simp only [Option.map_some]
      rw [show (flip objs.length y).i = objs.length - 1 - y.i from rfl, li y (look_some h).1]
      rfl
  · rw [if_neg (show ¬ (flip objs.length x).s.sect = 0 from hs), if_neg hs]
    simp only
    rw [show (flip objs.length x).i = objs.length - 1 - x.i from rfl, li x hx]
    rfl
theorem bad_rev {objs : List ObjV} (hu : Uniq (flat objs)) {x : Ent} : RsT.bad (flat objs.reverse) (flip objs.length x) = RsT.bad (flat objs) x := by
  unfold RsT.bad tgI
  by_cases hs : x.s.sect = 0
  · rw [if_pos (show (flip objs.length x).s.sect = 0 from hs), if_pos hs]
    rw [show (flip objs.length x).s.name = x.s.name from rfl, look_rev hu]
    cases h : RsP.look (flat objs) x.s.name <;> rfl
  · rw [if_neg (show ¬ (flip objs.length x).s.sect = 0 from hs), if_neg hs]
theorem none_iff {objs : List ObjV} : 0 ≤ noneFrom objs 0 ↔ ∃ o ∈ objs, chk o = false := by
  unfold noneFrom
  rw [List.drop_zero]
  cases h : objs.findIdx? (fun o => !chk o) with
  | none =>
    have h := List.findIdx?_eq_none_iff.1 h
    refine ⟨fun h' => absurd h' (by simp), fun ⟨o, ho, hc⟩ => ?_⟩
    have := h o ho
    rw [hc] at this
    cases this
  | some i =>
    refine ⟨fun _ => ?_, fun _ => by simp⟩
    obtain ⟨hi, hp, -⟩ := List.findIdx?_eq_some_iff_getElem.1 h
    exact ⟨objs[i], List.getElem_mem hi, by simpa using hp⟩
theorem none_rev {objs : List ObjV} : 0 ≤ noneFrom objs.reverse 0 ↔ 0 ≤ noneFrom objs 0 := by
  rw [none_iff, none_iff]
  simp only [List.mem_reverse]
theorem again_rev {objs : List ObjV} : againL (flat objs.reverse) = [] ↔ againL (flat objs) = [] := by
  rw [again_uniq (flat_nodup _), again_uniq (flat_nodup _)]
  refine ⟨fun h => ?_, uniq_rev⟩
  have := uniq_rev h
  rwa [List.reverse_reverse] at this
theorem find_rev {objs : List ObjV} (hu : Uniq (flat objs)) : (flat objs.reverse).find? (RsT.bad (flat objs.reverse)) = none ↔ (flat objs).find? (RsT.bad (flat objs)) = none := by
  rw [List.find?_eq_none, List.find?_eq_none]
  constructor
  · intro h x hx
    rw [← bad_rev hu]
    exact h _ (flip_mem hx)
  · intro h x hx
    rw [← flip_flip' hx, bad_rev hu]
    exact h _ (flip_mem' hx)
theorem code_rev {objs : List ObjV} : resCode objs.reverse = resCode objs := by
  unfold resCode
  by_cases h0 : 0 ≤ noneFrom objs 0
  · rw [if_pos h0, if_pos (none_rev.2 h0)]
  · rw [if_neg h0, if_neg (fun h => h0 (none_rev.1 h))]
    cases h1 : againL (flat objs) with
    | cons x l =>
      cases h2 : againL (flat objs.reverse) with
      | cons y m => rfl
      | nil => rw [again_rev.1 h2] at h1; cases h1
    | nil =>
      rw [again_rev.2 h1]
      have hu := (again_uniq (flat_nodup objs)).1 h1
      cases h3 : (flat objs).find? (RsT.bad (flat objs)) with
      | none => rw [(find_rev hu).2 h3]
      | some x =>
        cases h4 : (flat objs.reverse).find? (RsT.bad (flat objs.reverse)) with
        | none => rw [(find_rev hu).1 h4] at h3; cases h3
        | some y => rfl
theorem row_filter (objs : List ObjV) (i j : Nat) : (row objs j).filter (fun x => decide (x.i = i)) = if j = i then row objs j else [] := by
  by_cases h : j = i
  · rw [if_pos h]
    exact List.filter_eq_self.2 fun x hx => by rw [(mem_row.1 hx).1]; exact decide_eq_true h
  · rw [if_neg h]
    exact List.filter_eq_nil_iff.2 fun x hx => by rw [(mem_row.1 hx).1]; simpa using h
theorem flatTo_filter (objs : List ObjV) (i m : Nat) : (flatTo objs m).filter (fun x => decide (x.i = i)) = if i < m then row objs i else [] := by
  induction m with
  | zero => simp [flatTo]
  | succ m ih =>
    rw [flatTo_succ, List.filter_append, ih, row_filter]
    by_cases h1 : i < m
    · rw [if_pos h1, if_neg (by omega), if_pos (by omega), List.append_nil]
    · by_cases h2 : m = i
      · subst h2
        rw [if_neg h1, if_pos rfl, if_pos (by omega), List.nil_append]
      · rw [if_neg h1, if_neg h2, if_neg (by omega)]; rfl
/-- an object's targets -/
theorem rowAt_row {objs : List ObjV} {i : Nat} (hi : i < objs.length) : RsT.rowAt (flat objs) (flat objs) i = (row objs i).map (tgs (flat objs)) := by
  unfold RsT.rowAt
  rw [show (flat objs).filter (fun x => decide (x.i = i)) = row objs i by
    unfold flat
    rw [flatTo_filter, if_pos hi]]
theorem ssAt_rev {objs : List ObjV} {i : Nat} (hi : i < objs.length) : ssAt objs.reverse (objs.length - 1 - i) = ssAt objs i := by
  have h := List.getElem?_eq_getElem hi
  rw [ssAt_some h, ssAt_some (objs := objs.reverse) (o := objs[i])]
  rw [List.getElem?_reverse (by omega), show objs.length - 1 - (objs.length - 1 - i) = i by omega]
  exact h
theorem row_rev {objs : List ObjV} {i : Nat} (hi : i < objs.length) : row objs.reverse (objs.length - 1 - i) = (row objs i).map (flip objs.length) := by
  unfold row
  rw [ssAt_rev hi, List.map_map]
  rfl
theorem rows_rev {objs : List ObjV} (h : resCode objs = 0) {i : Nat} (hi : i < objs.length) :
    RsT.rowAt (flat objs.reverse) (flat objs.reverse) (objs.length - 1 - i) = (RsT.rowAt (flat objs) (flat objs) i).map fun t => ((objs.length : Int) - 1 - t.1, t.2) := by
  have hag := res_again h
  have hu := (again_uniq (flat_nodup objs)).1 hag
  have hf : (flat objs).find? (RsT.bad (flat objs)) = none := by
    unfold resCode at h
    split at h
    · cases h
    · rw [hag] at h
      cases hf : (flat objs).find? (RsT.bad (flat objs)) with
      | none => rfl
      | some x => rw [hf] at h; cases h
  have hb := List.find?_eq_none.1 hf
  rw [rowAt_row hi, rowAt_row (by rw [List.length_reverse]; omega), row_rev hi, List.map_map, List.map_map]
  refine List.map_congr_left fun x hx => ?_
  have hm : x ∈ flat objs := by
    unfold flat flatTo
    exact List.mem_flatMap.2 ⟨i, List.mem_range.2 hi, hx⟩
  exact tgI_rev hu hm (by simpa using hb x hm)
end RsQ
end Go.Proofs.Ytlmblfkcmhgdaaa
