/-
  The object more of ResolveMore, plainly: it defines just what nobody does; with it all is defined; a second one brings an error. It speaks of no program.
-/
import Derived.Test.YtlmblfkcmhgdaaaResZ
import Derived.Test.YtlmblfkcmhgdaaaResE
namespace Go.Proofs.Ytlmblfkcmhgdaaa
open Go.RowKit Go.Maps
set_option linter.unusedVariables false
set_option linter.unusedSimpArgs false
namespace RsH
open OO OJ RsM RsP RsS RsT RsY RsQ RsB RsJ RsZ RsE OCk OU OM
/-! ### a sorted list without what is there twice -/
theorem up_mem {d : Array (List UInt8)} : ∀ m, ∀ x, x ∈ Lib.compactUpTo d m ↔ ∃ j, j < m ∧ d[j]! = x := by
  intro m
  induction m with
  | zero => intro x; simp [Lib.compactUpTo]
  | succ m ih =>
    intro x
    rw [Lib.compactUpTo_succ, List.mem_append, ih]
    constructor
    · rintro (⟨j, hj, e⟩ | h)
      · exact ⟨j, by omega, e⟩
      · split at h
        · exact ⟨m, by omega, (List.mem_singleton.1 h).symm⟩
        · cases h
    · rintro ⟨j, hj, e⟩
      by_cases hm : j < m
      · exact .inl ⟨j, hm, e⟩
      · obtain rfl : j = m := by omega
        cases hk : Lib.keeps d j with
        | true => right; simp [e]
        | false =>
          left
          have hne : ¬ (j = 0 ∨ d[j]! ≠ d[j - 1]!) := by
            intro h
            unfold Lib.keeps at hk
            rw [decide_eq_true h] at hk
            cases hk
          have h1 : ¬ j = 0 := fun h => hne (.inl h)
          have h2 : d[j]! = d[j - 1]! := Classical.byContradiction fun h => hne (.inr h)
          exact ⟨j - 1, by omega, by rw [← h2]; exact e⟩
theorem up_nodup {d : Array (List UInt8)} (hs : ∀ i j, i ≤ j → j < d.size → d[i]! ≤ d[j]!) : ∀ m, m ≤ d.size → (Lib.compactUpTo d m).Nodup := by
  intro m
  induction m with
  | zero => intro _; simp [Lib.compactUpTo]
  | succ m ih =>
    intro hm
    rw [Lib.compactUpTo_succ]
    cases hk : Lib.keeps d m with
    | false => simpa using ih (by omega)
    | true =>
      rw [if_pos rfl, List.nodup_append]
      refine ⟨ih (by omega), by simp, fun a ha b hb => ?_⟩
      rw [List.mem_singleton.1 hb]
      intro e
      obtain ⟨j, hj, rfl⟩ := (up_mem m a).1 ha
      unfold Lib.keeps at hk
      have hk := of_decide_eq_true hk
      rcases hk with hk | hk
      · omega
      · refine hk ?_
        have h1 := hs j (m - 1) (by omega) (by omega)
        have h2 := hs (m - 1) m (by omega) (by omega)
        rw [e] at h1
        exact List.le_antisymm h1 h2
theorem sort_le (ks : List (List UInt8)) : ∀ i j, i ≤ j → j < (ks.mergeSort fun x y => decide (x ≤ y)).toArray.size → (ks.mergeSort fun x y => decide (x ≤ y)).toArray[i]! ≤ (ks.mergeSort fun x y => decide (x ≤ y)).toArray[j]! := by
  intro i j hij hj
  have hp : (ks.mergeSort fun x y => decide (x ≤ y)).Pairwise (fun x y => decide (x ≤ y) = true) :=
    List.pairwise_mergeSort (fun a b c h k => by simp only [decide_eq_true_eq] at *; exact List.le_trans h k) (fun a b => by simp only [Bool.or_eq_true, decide_eq_true_eq]; exact List.le_total a b) ks
  generalize (ks.mergeSort fun x y => decide (x ≤ y)) = l at *
  have hj' : j < l.length := by simpa using hj
  rw [getElem!_pos l.toArray i (by simpa using (by omega : i < l.length)), getElem!_pos l.toArray j hj]
  simp only [List.getElem_toArray]
  by_cases e : i = j
  · subst e; exact List.le_refl _
  · have := List.pairwise_iff_getElem.1 hp i j (by omega) hj' (by omega)
    exact of_decide_eq_true this
theorem sorted_nodup (ks : List (List UInt8)) : (sorted ks).Nodup := by
  unfold sorted Lib.compact
  exact up_nodup (sort_le ks) _ (by simp)
theorem sorted_mem (ks : List (List UInt8)) (x : List UInt8) : x ∈ sorted ks ↔ x ∈ ks := by
  unfold sorted Lib.compact
  rw [up_mem]
  have hm : x ∈ (ks.mergeSort fun x y => decide (x ≤ y)) ↔ x ∈ ks := List.mem_mergeSort
  rw [← hm]
  generalize (ks.mergeSort fun x y => decide (x ≤ y)) = l
  constructor
  · rintro ⟨j, hj, e⟩
    rw [getElem!_pos l.toArray j (by simpa using hj)] at e
    simp only [List.getElem_toArray] at e
    rw [← e]
    exact List.getElem_mem hj
  · intro h
    obtain ⟨j, hj, e⟩ := List.mem_iff_getElem.1 h
    refine ⟨j, hj, ?_⟩
    rw [getElem!_pos l.toArray j (by simpa using hj)]
    simpa using e
/-! ### the object more -/
def bs (n : List UInt8) : ByteArray := ⟨n.toArray⟩
theorem bs_inj {m n : List UInt8} (h : bs m = bs n) : m = n := by
  unfold bs at h
  injection h with h
  exact List.toArray_inj h
theorem bs_nmb (x : Ent) : bs (nmb x) = x.s.name := by unfold bs nmb; simp
def symM (n : List UInt8) : SymV := ⟨bs n, 1, 0, 0, true⟩
def mo (N : List (List UInt8)) : ObjV := ⟨[19], [], N.map symM, []⟩
theorem mo_get {N : List (List UInt8)} {k : Nat} (h : k < N.length) : (mo N).ss[k]? = some (symM N[k]) := by
  show (N.map symM)[k]? = _
  rw [List.getElem?_map, List.getElem?_eq_getElem h]; rfl
theorem mo_len (N : List (List UInt8)) : (mo N).ss.length = N.length := by simp [mo]
/-- what is needed -/
structure Nd (objs : List ObjV) (N : List (List UInt8)) : Prop where
  nd : N.Nodup
  mem : ∀ n, n ∈ N ↔ ∃ x ∈ flat objs, RsT.bad (flat objs) x = true ∧ nmb x = n
  chk : ∀ o ∈ objs, OCk.chk o = true
  un : Uniq (flat objs)
theorem nd_of {objs : List ObjV} (h : resCode objs = 0 ∨ resCode objs = 3) : Nd objs (needsL objs) := by
  have h0 : ¬ 0 ≤ noneFrom objs 0 := fun h0 => by
    unfold resCode at h
    rw [if_pos h0] at h
    rcases h with h | h <;> cases h
  have hag : againL (flat objs) = [] := by
    unfold resCode at h
    rw [if_neg h0] at h
    cases hag : againL (flat objs) with
    | nil => rfl
    | cons x l => rw [hag] at h; rcases h with h | h <;> cases h
  unfold needsL
  rw [if_neg h0]
  refine ⟨sorted_nodup _, fun n => ?_, fun o ho => ?_, (again_uniq (flat_nodup _)).1 hag⟩
  · rw [sorted_mem]
    unfold missL
    rw [List.mem_map]
    constructor
    · rintro ⟨x, hx, e⟩
      obtain ⟨a, b⟩ := List.mem_filter.1 hx
      exact ⟨x, a, b, e⟩
    · rintro ⟨x, a, b, e⟩
      exact ⟨x, List.mem_filter.2 ⟨a, b⟩, e⟩
  · cases e : OCk.chk o with
    | true => rfl
    | false => exact absurd (none_iff.2 ⟨o, ho, e⟩) h0
/-- it is an object -/
theorem mo_chk {objs : List ObjV} {N : List (List UInt8)} (h : Nd objs N) (hl : N.length ≤ 500) : chk (mo N) = true := by
  have hname : ∀ n ∈ N, nameB (bs n) = true := fun n hm => by
    obtain ⟨x, hx, -, rfl⟩ := (h.mem n).1 hm
    obtain ⟨o, ho, hs⟩ := RsM.mem_flat hx
    have hc := h.chk o (List.mem_of_getElem? ho)
    unfold chk at hc
    simp only [Bool.and_eq_true] at hc
    have hk : x.k < o.ss.length := (List.getElem?_eq_some_iff.1 hs).1
    have h1 := List.all_eq_true.1 hc.2.1 x.k (List.mem_range.2 hk)
    unfold symAt at h1
    rw [hs] at h1
    simp only [Bool.and_eq_true] at h1
    unfold symOk at h1
    simp only [Bool.and_eq_true] at h1
    rw [bs_nmb]
    exact h1.2.1
  have hlen := mo_len N
  refine chk_yes ?_ ?_ rfl
  · unfold lensB
    simp only [Bool.and_eq_true, decide_eq_true_eq]
    rw [hlen]
    refine ⟨?_, ?_, ?_⟩
    · simp [mo]
    · omega
    · simp [mo]
  · unfold symsTo
    rw [List.all_eq_true]
    intro k hk
    have hk := List.mem_range.1 hk
    have hkm : k < N.length := by rw [← hlen]; exact hk
    unfold symAt
    rw [mo_get hkm]
    simp only [Bool.and_eq_true, Bool.not_eq_true']
    refine ⟨?_, ?_⟩
    · rw [List.any_eq_false]
      intro t ht
      simp only [decide_eq_true_eq]
      intro e
      obtain ⟨j, hjt⟩ := List.mem_iff_getElem?.1 ht
      have hj := (List.getElem?_eq_some_iff.1 hjt).1
      have hjk : j < k := by rw [List.length_take] at hj; omega
      rw [List.getElem?_take, if_pos hjk, mo_get (by omega)] at hjt
      cases hjt
      have e2 : N[j] = N[k] := bs_inj e
      have := (List.pairwise_iff_getElem.1 h.nd) j k (by omega) hkm hjk
      exact this e2
    · unfold symOk
      rw [Bool.and_eq_true]
      refine ⟨hname _ (List.getElem_mem hkm), ?_⟩
      unfold placeB symM mo
      simp
theorem mo_defs (n : List UInt8) : defs (symM n) = true := rfl
theorem mem_mo {objs : List ObjV} {N : List (List UInt8)} {x : Ent} (h : x ∈ row (objs ++ [mo N]) objs.length) : x.i = objs.length ∧ x.k < N.length ∧ ∃ hk : x.k < N.length, x.s = symM N[x.k] := by
  obtain ⟨h1, h2⟩ := mem_row.1 h
  rw [ssAt_some (o := mo N) (by simp)] at h2
  have hk : x.k < N.length := by have := (List.getElem?_eq_some_iff.1 h2).1; rwa [mo_len] at this
  rw [mo_get hk] at h2
  exact ⟨h1, hk, hk, (Option.some.inj h2).symm⟩
theorem mo_mem {objs : List ObjV} {N : List (List UInt8)} {n : List UInt8} (h : n ∈ N) : ∃ x ∈ row (objs ++ [mo N]) objs.length, x.s = symM n := by
  obtain ⟨k, hk, rfl⟩ := List.mem_iff_getElem.1 h
  refine ⟨⟨objs.length, k, symM N[k]⟩, mem_row.2 ⟨rfl, ?_⟩, rfl⟩
  rw [ssAt_some (o := mo N) (by simp)]
  exact mo_get hk
/-- nobody defines what is needed -/
theorem bad_no {F : List Ent} {x : Ent} (h : RsT.bad F x = true) : x.s.sect = 0 ∧ RsP.look F x.s.name = none := by
  unfold RsT.bad tgI at h
  by_cases hz : x.s.sect = 0
  · rw [if_pos hz] at h
    refine ⟨hz, ?_⟩
    cases hl : RsP.look F x.s.name with
    | none => rfl
    | some y => rw [hl] at h; cases h
  · rw [if_neg hz] at h; cases h
theorem bad_iff {F : List Ent} {x : Ent} : RsT.bad F x = true ↔ x.s.sect = 0 ∧ RsP.look F x.s.name = none := by
  refine ⟨bad_no, fun ⟨hz, hl⟩ => ?_⟩
  unfold RsT.bad tgI
  rw [if_pos hz, hl]; rfl
theorem un_more {objs : List ObjV} {N : List (List UInt8)} (h : Nd objs N) : Uniq (flat (objs ++ [mo N])) := by
  rw [flat_snoc]
  have cross : ∀ x ∈ flat objs, ∀ y ∈ row (objs ++ [mo N]) objs.length, defs x.s = true → x.s.name ≠ y.s.name := fun x hx y hy dx e => by
    obtain ⟨-, -, hk, es⟩ := mem_mo hy
    obtain ⟨z, hz, hb, en⟩ := (h.mem N[y.k]).1 (List.getElem_mem hk)
    have hn := (bad_no hb).2
    refine look_none.1 hn x hx dx ?_
    rw [e, es]
    show bs N[y.k] = z.s.name
    rw [← en, bs_nmb]
  intro x hx y hy dx dy e
  rcases List.mem_append.1 hx with hx | hx
  · rcases List.mem_append.1 hy with hy | hy
    · exact h.un x hx y hy dx dy e
    · exact absurd e (cross x hx y hy dx)
  · rcases List.mem_append.1 hy with hy | hy
    · exact absurd e.symm (cross y hy x hx dy)
    · obtain ⟨i1, -, k1, s1⟩ := mem_mo hx
      obtain ⟨i2, -, k2, s2⟩ := mem_mo hy
      obtain ⟨xi, xk, xs⟩ := x
      obtain ⟨yi, yk, ys⟩ := y
      simp only at i1 i2 k1 k2 s1 s2 e
      subst i1 i2 s1 s2
      have e2 : N[xk] = N[yk] := bs_inj e
      have : xk = yk := by
        rcases Nat.lt_trichotomy xk yk with hlt | hlt | hlt
        · exact absurd e2 ((List.pairwise_iff_getElem.1 h.nd) xk yk k1 k2 hlt)
        · exact hlt
        · exact absurd e2.symm ((List.pairwise_iff_getElem.1 h.nd) yk xk k2 k1 hlt)
      subst this
      rfl
theorem look_app {l r : List Ent} {n : ByteArray} (h : RsP.look (l ++ r) n = none) : RsP.look l n = none ∧ RsP.look r n = none :=
  ⟨look_none.2 fun x hx => look_none.1 h x (List.mem_append_left _ hx), look_none.2 fun x hx => look_none.1 h x (List.mem_append_right _ hx)⟩
theorem none_no {objs : List ObjV} (h : ∀ o ∈ objs, chk o = true) : ¬ 0 ≤ noneFrom objs 0 := fun h0 => by
  obtain ⟨o, ho, hc⟩ := none_iff.1 h0
  rw [h o ho] at hc
  cases hc
/-- with the object more all is defined -/
theorem code_more {objs : List ObjV} {N : List (List UInt8)} (h : Nd objs N) (hl : N.length ≤ 500) : resCode (objs ++ [mo N]) = 0 := by
  have hc := mo_chk h hl
  have h0 : ¬ 0 ≤ noneFrom (objs ++ [mo N]) 0 := none_no fun o ho => by
    rcases List.mem_append.1 ho with ho | ho
    · exact h.chk o ho
    · rw [List.mem_singleton.1 ho]; exact hc
  have hag : againL (flat (objs ++ [mo N])) = [] := (again_uniq (flat_nodup _)).2 (un_more h)
  unfold resCode
  rw [if_neg h0, hag]
  have hf : (flat (objs ++ [mo N])).find? (RsT.bad (flat (objs ++ [mo N]))) = none := List.find?_eq_none.2 fun x hx hb => by
    obtain ⟨hz, hln⟩ := bad_no hb
    rw [flat_snoc] at hx hln
    obtain ⟨l1, l2⟩ := look_app hln
    rcases List.mem_append.1 hx with hx | hx
    · have hbx : RsT.bad (flat objs) x = true := bad_iff.2 ⟨hz, l1⟩
      have hn : nmb x ∈ N := (h.mem _).2 ⟨x, hx, hbx, rfl⟩
      obtain ⟨y, hy, es⟩ := mo_mem (objs := objs) hn
      refine look_none.1 l2 y hy (by rw [es]; rfl) ?_
      rw [es]
      exact bs_nmb x
    · obtain ⟨-, -, hk, es⟩ := mem_mo hx
      rw [es] at hz
      exact absurd hz (show ¬ (1 : Int) = 0 by decide)
  rw [hf]
/-- all that is handed out again -/
theorem again_all {l : List Ent} : ∀ r : List Ent, (∀ x ∈ r, defs x.s = true ∧ ∃ y ∈ l, defs y.s = true ∧ y.s.name = x.s.name) → againL (l ++ r) = againL l ++ r := by
  intro r
  induction r using snoc_ind with
  | nil => intro _; simp
  | append_singleton r x ih =>
    intro h
    rw [← List.append_assoc, againL_snoc, ih fun y hy => h y (List.mem_append_left _ hy)]
    obtain ⟨hd, y, hy, dy, en⟩ := h x (by simp)
    have hh : Maps.has (namesD (l ++ r)) (key x.s) = true := by
      rw [key_eq, (names_look (l ++ r) x.s.name).1]
      cases hl : RsP.look (l ++ r) x.s.name with
      | some z => rfl
      | none => exact absurd en (look_none.1 hl y (List.mem_append_left _ hy) dy)
    rw [hd, hh]
    simp
/-- what Resolve tells of a place: the first of what is wrong -/
def placeOf (objs : List ObjV) : Int × Int :=
  if 0 ≤ noneFrom objs 0 then (noneFrom objs 0, 0) else
  match againL (flat objs) with
  | x :: _ => (x.i, x.k)
  | [] => match (flat objs).find? (RsT.bad (flat objs)) with
    | some x => (x.i, x.k)
    | none => (0, 0)
theorem out_place {objs : List ObjV} {W : World} {tv : Value} {i k e : Int} (h : RsV.Out objs W tv i k e) : i = (placeOf objs).1 ∧ k = (placeOf objs).2 := by
  unfold RsV.Out at h
  unfold placeOf
  by_cases h0 : 0 ≤ noneFrom objs 0
  · rw [if_pos h0] at h ⊢
    exact ⟨h.2.1, h.2.2.1⟩
  · rw [if_neg h0] at h ⊢
    cases hag : againL (flat objs) with
    | cons x l =>
      rw [hag] at h
      exact ⟨h.2.1, h.2.2.1⟩
    | nil =>
      rw [hag] at h
      cases hf : (flat objs).find? (RsT.bad (flat objs)) with
      | some x =>
        rw [hf] at h
        exact ⟨h.2.1, h.2.2.1⟩
      | none =>
        rw [hf] at h
        exact ⟨h.1, h.2.1⟩
/-- a second one brings an error, at its own place -/
theorem code_twice {objs : List ObjV} {N : List (List UInt8)} (h : Nd objs N) (hl : N.length ≤ 500) (hne : 0 < N.length) : resCode (objs ++ [mo N] ++ [mo N]) = 4 ∧ (placeOf (objs ++ [mo N] ++ [mo N])).1 = (objs.length : Int) + 1 := by
  have hc := mo_chk h hl
  have h0 : ¬ 0 ≤ noneFrom (objs ++ [mo N] ++ [mo N]) 0 := none_no fun o ho => by
    rcases List.mem_append.1 ho with ho | ho
    · rcases List.mem_append.1 ho with ho | ho
      · exact h.chk o ho
      · rw [List.mem_singleton.1 ho]; exact hc
    · rw [List.mem_singleton.1 ho]; exact hc
  have hag : againL (flat (objs ++ [mo N])) = [] := (again_uniq (flat_nodup _)).2 (un_more h)
  have hlen1 : (objs ++ [mo N]).length = objs.length + 1 := by simp
  have hag2 : againL (flat (objs ++ [mo N] ++ [mo N])) = row (objs ++ [mo N] ++ [mo N]) (objs ++ [mo N]).length := by
    rw [flat_snoc, again_all, hag, List.nil_append]
    intro x hx
    obtain ⟨-, -, hk, es⟩ := mem_mo hx
    refine ⟨by rw [es]; rfl, ?_⟩
    obtain ⟨y, hy, ey⟩ := mo_mem (objs := objs) (List.getElem_mem hk)
    refine ⟨y, ?_, by rw [ey]; rfl, by rw [ey, es]⟩
    rw [flat_snoc]
    exact List.mem_append_right _ hy
  have hrow : row (objs ++ [mo N] ++ [mo N]) (objs ++ [mo N]).length ≠ [] := by
    intro e
    obtain ⟨x, hx, -⟩ := mo_mem (objs := objs ++ [mo N]) (List.getElem_mem (l := N) (n := 0) hne)
    rw [e] at hx
    cases hx
  unfold resCode placeOf
  rw [if_neg h0, if_neg h0, hag2]
  cases hr : row (objs ++ [mo N] ++ [mo N]) (objs ++ [mo N]).length with
  | nil => exact absurd hr hrow
  | cons x l =>
    refine ⟨rfl, ?_⟩
    have hx : x ∈ row (objs ++ [mo N] ++ [mo N]) (objs ++ [mo N]).length := by rw [hr]; simp
    have := (mem_mo hx).1
    show (x.i : Int) = _
    rw [this, hlen1]
    push_cast
    rfl
end RsH
end Go.Proofs.Ytlmblfkcmhgdaaa
