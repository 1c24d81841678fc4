/-
  Objects, and one more, where they lie in memory. Condition: none.
-/
import Derived.Test.YtlmblfkcmhgdaaaResH
import Derived.Test.YtlmblfkcmhgdaaaLayU
namespace Go.Proofs.Ytlmblfkcmhgdaaa
open Go.RowKit Go.Maps Go.WideMaps Go.Sort
set_option linter.unusedVariables false
set_option linter.unusedSimpArgs false
namespace RsC
open OO OJ RsM RsI RsP RsS RsT RsY RsQ RsB RsJ RsZ RsE RsH RsV OCk OU OM
abbrev TO : TypeId := 31
abbrev TY : TypeId := 34
abbrev TW : TypeId := 25
theorem infoO : (Try.prog.info? TO).map (fun i => (i.zero, i.size, i.bytes)) = some (some (.agg #[.slice none 0 0, .slice none 0 0, .slice none 0 0, .slice none 0 0]), 4, 96) := by kernel_rfl
theorem infoY : (Try.prog.info? TY).map (fun i => (i.zero, i.size, i.bytes)) = some (some (.agg #[.string ByteArray.empty, .int .i64 0, .int .i64 0, .int .i64 0, .bool false]), 5, 48) := by kernel_rfl
/-- the cells of objects, one by one -/
theorem objs_cells {n₀ : Nat} {w : World} {p : Option Addr} {c : Nat} {objs : List ObjV} (h : ObjsAt n₀ w (.slice p objs.length c) objs) : ∃ oc : List Value, oc.length = objs.length * 4 ∧ (∀ u ∈ oc, u.oneCell' = true) ∧
    (0 < objs.length → ∃ b o, p = some ⟨b, o, none⟩ ∧ b < n₀ ∧ ∀ j u, oc[j]? = some u → w.cell? ⟨b, o + j, none⟩ = some u) ∧
    ∀ i x, objs[i]? = some x → ∃ v0 v1 v2 v3, oc[i * 4]? = some v0 ∧ oc[i * 4 + 1]? = some v1 ∧ oc[i * 4 + 2]? = some v2 ∧ oc[i * 4 + 3]? = some v3 ∧ ObjAt n₀ w v0 v1 v2 v3 x := by
  obtain ⟨p', c', e, hh⟩ := h
  cases e
  by_cases h0 : 0 < objs.length
  · obtain ⟨b, o, rfl, hb, -, -, hall⟩ := hh h0
    have key : ∀ j, j < objs.length * 4 → ∃ u, w.cell? ⟨b, o + j, none⟩ = some u ∧ u.oneCell' = true := fun j hj => by
      have hi : j / 4 < objs.length := by omega
      obtain ⟨v0, v1, v2, v3, c0, c1, c2, c3, hoa⟩ := hall (j / 4) _ (List.getElem?_eq_getElem hi)
      obtain ⟨p0, q0, rfl, -⟩ := hoa.ws
      obtain ⟨p1, q1, rfl, -⟩ := hoa.ds
      obtain ⟨p2, q2, rfl, -⟩ := hoa.ss
      obtain ⟨p3, q3, rfl, -⟩ := hoa.rs
      have hm : j = j / 4 * 4 + j % 4 := by omega
      have hr : j % 4 = 0 ∨ j % 4 = 1 ∨ j % 4 = 2 ∨ j % 4 = 3 := by omega
      rcases hr with e | e | e | e
      · exact ⟨_, by rw [hm, e, Nat.add_zero]; exact c0, rfl⟩
      · exact ⟨_, by rw [hm, e, ← Nat.add_assoc]; exact c1, rfl⟩
      · exact ⟨_, by rw [hm, e, ← Nat.add_assoc]; exact c2, rfl⟩
      · exact ⟨_, by rw [hm, e, ← Nat.add_assoc]; exact c3, rfl⟩
    have get : ∀ j, j < objs.length * 4 → ((List.range (objs.length * 4)).map fun j => (w.cell? ⟨b, o + j, none⟩).getD undef)[j]? = w.cell? ⟨b, o + j, none⟩ := fun j hj => by
      obtain ⟨u, hu, -⟩ := key j hj
      rw [List.getElem?_map, List.getElem?_range hj, hu]
      simp [hu]
    refine ⟨(List.range (objs.length * 4)).map fun j => (w.cell? ⟨b, o + j, none⟩).getD undef, by simp, fun u hu => ?_, fun _ => ⟨b, o, rfl, hb, fun j u hj => ?_⟩, fun i x hx => ?_⟩
    · obtain ⟨j, hj, rfl⟩ := List.mem_map.1 hu
      obtain ⟨u, h1, h2⟩ := key j (List.mem_range.1 hj)
      rw [h1]
      exact h2
    · have hjl : j < objs.length * 4 := by have := (List.getElem?_eq_some_iff.1 hj).1; simpa using this
      rw [get j hjl] at hj
      exact hj
    · have hi := (List.getElem?_eq_some_iff.1 hx).1
      obtain ⟨v0, v1, v2, v3, c0, c1, c2, c3, hoa⟩ := hall i x hx
      exact ⟨v0, v1, v2, v3, by rw [get _ (by omega)]; exact c0, by rw [get _ (by omega)]; exact c1, by rw [get _ (by omega)]; exact c2, by rw [get _ (by omega)]; exact c3, hoa⟩
  · have e0 : objs = [] := List.eq_nil_of_length_eq_zero (by omega)
    subst e0
    exact ⟨[], rfl, by simp, fun h => absurd h (by simp), fun i x hx => by simp at hx⟩
/-- a row of objects' cells is objects -/
theorem objs_of {w : World} {base n : Nat} {v : Value} {objs : List ObjV} {oc : List Value} (hn : n = objs.length) (h : w.ownsRow base TO 4 v n oc)
    (hall : ∀ i x, objs[i]? = some x → ∃ v0 v1 v2 v3, oc[i * 4]? = some v0 ∧ oc[i * 4 + 1]? = some v1 ∧ oc[i * 4 + 2]? = some v2 ∧ oc[i * 4 + 3]? = some v3 ∧ ObjAt w.heap.size w v0 v1 v2 v3 x) : ObjsAt w.heap.size w v objs := by
  subst hn
  rcases h.2 with ⟨rfl, e⟩ | ⟨g, cap, cur, rfl, _, hg, h1, h2, _, _⟩
  · exact ⟨none, 0, by rw [e], fun h0 => by omega⟩
  · refine ⟨some ⟨g, 0, none⟩, cap, rfl, fun h0 => ⟨g, 0, rfl, lt_heap hg, h1, h2, fun i x hx => ?_⟩⟩
    obtain ⟨v0, v1, v2, v3, e0, e1, e2, e3, ho⟩ := hall i x hx
    have f0 := h.cells (g := g) rfl _ _ e0
    have f1 := h.cells (g := g) rfl _ _ e1
    have f2 := h.cells (g := g) rfl _ _ e2
    have f3 := h.cells (g := g) rfl _ _ e3
    rw [OO.add_plain] at f0 f1 f2 f3
    exact ⟨v0, v1, v2, v3, f0, f1, f2, f3, ho⟩
/-- one object more behind the cells of others -/
theorem more_of {n₀ : Nat} {w w' : World} {objs : List ObjV} {m : ObjV} {oc : List Value} {m0 m1 m2 m3 : Value} (hl : oc.length = objs.length * 4) (hall : ∀ i x, objs[i]? = some x → ∃ v0 v1 v2 v3, oc[i * 4]? = some v0 ∧ oc[i * 4 + 1]? = some v1 ∧ oc[i * 4 + 2]? = some v2 ∧ oc[i * 4 + 3]? = some v3 ∧ ObjAt n₀ w v0 v1 v2 v3 x) (hm : ObjAt n₀ w m0 m1 m2 m3 m) :
    (oc ++ [m0, m1, m2, m3]).length = (objs ++ [m]).length * 4 ∧ ∀ i x, (objs ++ [m])[i]? = some x → ∃ v0 v1 v2 v3, (oc ++ [m0, m1, m2, m3])[i * 4]? = some v0 ∧ (oc ++ [m0, m1, m2, m3])[i * 4 + 1]? = some v1 ∧ (oc ++ [m0, m1, m2, m3])[i * 4 + 2]? = some v2 ∧ (oc ++ [m0, m1, m2, m3])[i * 4 + 3]? = some v3 ∧ ObjAt n₀ w v0 v1 v2 v3 x := by
  refine ⟨by rw [List.length_append, List.length_append, hl]; simp; omega, fun i x hx => ?_⟩
  by_cases hi : i < objs.length
  · rw [List.getElem?_append_left hi] at hx
    obtain ⟨v0, v1, v2, v3, e0, e1, e2, e3, ho⟩ := hall i x hx
    refine ⟨v0, v1, v2, v3, ?_, ?_, ?_, ?_, ho⟩
    all_goals (rw [List.getElem?_append_left (by omega)]; assumption)
  · rw [List.getElem?_append_right (by omega)] at hx
    have h1 : i - objs.length = 0 := by
      have := (List.getElem?_eq_some_iff.1 hx).1
      simp at this
      omega
    rw [h1] at hx
    simp at hx
    subst hx
    have hi2 : i = objs.length := by omega
    subst hi2
    refine ⟨m0, m1, m2, m3, ?_, ?_, ?_, ?_, hm⟩
    all_goals rw [List.getElem?_append_right (by omega), hl]
    · rw [show objs.length * 4 - objs.length * 4 = 0 by omega]; rfl
    · rw [show objs.length * 4 + 1 - objs.length * 4 = 1 by omega]; rfl
    · rw [show objs.length * 4 + 2 - objs.length * 4 = 2 by omega]; rfl
    · rw [show objs.length * 4 + 3 - objs.length * 4 = 3 by omega]; rfl
/-! ### the symbols of the object more -/
def symC (s : SymV) : List Value := [.string s.name, .int .i64 s.sect, .int .i64 s.val, .int .i64 s.frame, .bool s.glob]
def symsC (ss : List SymV) : List Value := ss.flatMap symC
theorem symsC_snoc (ss : List SymV) (s : SymV) : symsC (ss ++ [s]) = symsC ss ++ symC s := by unfold symsC; rw [List.flatMap_append]; simp
theorem symsC_length (ss : List SymV) : (symsC ss).length = ss.length * 5 := by
  induction ss using RsP.snoc_ind with
  | nil => rfl
  | append_singleton ss s ih => rw [symsC_snoc, List.length_append, ih, List.length_append]; simp [symC]; omega
theorem symsC_get {ss : List SymV} : ∀ {j : Nat} {s : SymV}, ss[j]? = some s → ∀ q, q < 5 → (symsC ss)[j * 5 + q]? = (symC s)[q]? := by
  induction ss with
  | nil => intro j s h; simp at h
  | cons t ss ih =>
    intro j s h q hq
    have e : symsC (t :: ss) = symC t ++ symsC ss := rfl
    rw [e]
    cases j with
    | zero =>
      simp at h
      subst h
      rw [Nat.zero_mul, Nat.zero_add, List.getElem?_append_left (by simpa [symC] using hq)]
    | succ j =>
      have hl : (symC t).length = 5 := rfl
      rw [List.getElem?_append_right (by rw [hl]; omega), hl, show (j + 1) * 5 + q - 5 = j * 5 + q by omega]
      exact ih (by simpa using h) q hq
theorem syms_of {w : World} {base n : Nat} {v : Value} {ss : List SymV} (hn : n = ss.length) (h : w.ownsRow base TY 5 v n (symsC ss)) : Syms w.heap.size w v ss := by
  subst hn
  rcases h.2 with ⟨rfl, e⟩ | ⟨g, cap, cur, rfl, _, hg, h1, h2, _, _⟩
  · exact ⟨none, 0, by rw [e], fun h0 => by omega⟩
  · refine ⟨some ⟨g, 0, none⟩, cap, rfl, fun h0 => ⟨g, 0, rfl, lt_heap hg, h1, h2, fun j s hs => ?_⟩⟩
    have get := fun q (hq : q < 5) => symsC_get hs q hq
    have f0 := h.cells (g := g) rfl _ _ (get 0 (by omega))
    have f1 := h.cells (g := g) rfl _ _ (get 1 (by omega))
    have f2 := h.cells (g := g) rfl _ _ (get 2 (by omega))
    have f3 := h.cells (g := g) rfl _ _ (get 3 (by omega))
    have f4 := h.cells (g := g) rfl _ _ (get 4 (by omega))
    rw [OO.add_plain] at f0 f1 f2 f3 f4
    exact ⟨f0, f1, f2, f3, f4⟩
theorem mo_at {w : World} {base A : Nat} {v : Value} {ss : List SymV} (hA : w.heap[A]? = some (.cells #[.int .u32 19] TW (0, 0))) (h : w.ownsRow base TY 5 v ss.length (symsC ss)) : ObjAt w.heap.size w (.slice (some ⟨A, 0, none⟩) 1 1) (.slice none 0 0) v (.slice none 0 0) ⟨[19], [], ss, []⟩ :=
  ⟨⟨_, _, rfl, fun _ => ⟨A, 0, rfl, lt_heap hA, Nat.le_refl _, by decide, fun j x hj => by
      match j, hj with
      | 0, hj => cases hj; exact Lib.cell_of_heap hA 0
      | j + 1, hj => simp at hj⟩⟩, ⟨none, 0, rfl, fun h => absurd h (by simp)⟩, syms_of rfl h, ⟨none, 0, rfl, fun h => absurd h (by simp)⟩⟩
/-- what Resolve answers, with the place -/
theorem res3_ {w : World} {n₀ : Nat} {v : Value} {objs : List ObjV} (hn : n₀ ≤ w.heap.size) (ho : ObjsAt n₀ w v objs) (hw : ∀ o ∈ objs, o.Wf) (hm : objs.length ≤ 100000) (hms : ∀ o ∈ objs, o.ss.length ≤ maxLen) (hN : (flat objs).length ≤ 100000) :
    Calls Try.prog 6 #[v] w fun e w' => ∃ p c, e = .returned (.tuple #[.slice p (tgL objs).length c, .agg #[.int .i64 (placeOf objs).1, .int .i64 (placeOf objs).2], .int .i64 (resCode objs)]) ∧ TgtsAt w' (.slice p (tgL objs).length c) (tgL objs) ∧ Below w.heap.size w w' := by
  refine (resolve_ hn ho hw hm hms hN).mono ?_
  rintro e w' ⟨tv, i, k, c, rfl, hO, hb⟩
  have ht := out_tgts hO
  have hc := res_code hO
  obtain ⟨h1, h2⟩ := out_place hO
  subst hc h1 h2
  obtain ⟨p, c, rfl, -⟩ := id ht
  exact ⟨p, c, rfl, ht, hb⟩
/-- the object more keeps the limits -/
theorem mo_wf {objs : List ObjV} {N : List (List UInt8)} (h : Nd objs N) (hw : ∀ o ∈ objs, o.Wf) : (mo N).Wf := by
  refine ⟨fun x hx => ?_, (fun x hx => by cases hx), fun s hs => ?_, (fun r hr => by cases hr)⟩
  · rw [List.mem_singleton.1 hx]; omega
  · obtain ⟨n, hn, rfl⟩ := List.mem_map.1 hs
    obtain ⟨x, hx, -, rfl⟩ := (h.mem n).1 hn
    obtain ⟨o, ho, hs⟩ := RsM.mem_flat hx
    have := ((hw o (List.mem_of_getElem? ho)).ss _ (List.mem_of_getElem? hs)).name
    refine ⟨?_, by unfold symM I64; simp, by unfold symM I64; simp, by unfold symM I64; simp⟩
    show (bs (nmb x)).size ≤ maxLen
    rw [bs_nmb]; exact this
theorem flat_more (objs : List ObjV) (N : List (List UInt8)) : (flat (objs ++ [mo N])).length = (flat objs).length + N.length := by
  rw [flat_snoc, List.length_append, row_length, ssAt_some (o := mo N) (by simp), mo_len]
end RsC
end Go.Proofs.Ytlmblfkcmhgdaaa
