/-
  What a target is, plainly: a symbol that is defined and bears the name; and when nothing is needed. It speaks of no program.
-/
import Derived.Test.YtlmblfkcmhgdaaaResB
import Derived.Test.YtlmblfkcmhgdaaaResJ
namespace Go.Proofs.Ytlmblfkcmhgdaaa
open Go.RowKit Go.Maps
set_option linter.unusedVariables false
set_option linter.unusedSimpArgs false
namespace RsZ
open OO OJ RsM RsP RsS RsT RsY RsQ RsB RsJ OCk
theorem code_cases (objs : List ObjV) : resCode objs = 0 ∨ resCode objs = 2 ∨ resCode objs = 3 ∨ resCode objs = 4 := by
  unfold resCode
  split
  · exact .inr (.inl rfl)
  · split
    · exact .inr (.inr (.inr rfl))
    · split
      · exact .inr (.inr (.inl rfl))
      · exact .inl rfl
theorem code_ok {objs : List ObjV} (h : resCode objs = 0) : ¬ 0 ≤ noneFrom objs 0 ∧ againL (flat objs) = [] ∧ ∀ x ∈ flat objs, RsT.bad (flat objs) x = false := by
  unfold resCode at h
  by_cases h0 : 0 ≤ noneFrom objs 0
  · rw [if_pos h0] at h; cases h
  · rw [if_neg h0] at h
    refine ⟨h0, ?_⟩
    cases hag : againL (flat objs) with
    | cons x l => rw [hag] at h; cases h
    | nil =>
      rw [hag] at h
      cases hf : (flat objs).find? (RsT.bad (flat objs)) with
      | some x => rw [hf] at h; cases h
      | none =>
        refine ⟨rfl, fun x hx => ?_⟩
        have := List.find?_eq_none.1 hf x hx
        simpa using this
theorem miss_nil {F : List Ent} (h : ∀ x ∈ F, RsT.bad F x = false) : missL F F = [] := by
  unfold missL
  rw [List.filter_eq_nil_iff.2 (fun x hx => by rw [h x hx]; simp)]
  rfl
theorem needs_ok {objs : List ObjV} (h : resCode objs = 0) : needsL objs = [] := by
  obtain ⟨h0, -, h2⟩ := code_ok h
  unfold needsL
  rw [if_neg h0, miss_nil h2, sorted_nil]
theorem sorted_ne {ks : List (List UInt8)} (h : ks ≠ []) : sorted ks ≠ [] := by
  intro e
  unfold sorted at e
  have hl : (ks.mergeSort fun x y => decide (x ≤ y)).length = ks.length := List.length_mergeSort ks
  have h0 : 0 < ks.length := List.length_pos_iff.2 h
  have h1 : 0 < (ks.mergeSort fun x y => decide (x ≤ y)).length := by omega
  unfold Lib.compact at e
  have : ∀ m, 0 < m → (Lib.compactUpTo (ks.mergeSort fun x y => decide (x ≤ y)).toArray m).length ≠ 0 := by
    intro m hm
    induction m with
    | zero => omega
    | succ m ih =>
      rw [Lib.compactUpTo_succ, List.length_append]
      by_cases hz : m = 0
      · subst hz
        rw [if_pos (Lib.keeps_lt_one _ 0 (by omega))]
        simp
      · have := ih (by omega)
        omega
  exact this _ h1 (by rw [e]; rfl)
theorem needs_none {objs : List ObjV} (h : resCode objs = 3) : needsL objs ≠ [] := by
  unfold resCode at h
  by_cases h0 : 0 ≤ noneFrom objs 0
  · rw [if_pos h0] at h; cases h
  · rw [if_neg h0] at h
    cases hag : againL (flat objs) with
    | cons x l => rw [hag] at h; cases h
    | nil =>
      rw [hag] at h
      cases hf : (flat objs).find? (RsT.bad (flat objs)) with
      | none => rw [hf] at h; cases h
      | some x =>
        unfold needsL
        rw [if_neg h0]
        refine sorted_ne fun e => ?_
        unfold missL at e
        have hm := List.mem_of_find?_eq_some hf
        have hb := List.find?_some hf
        have : nmb x ∈ ((flat objs).filter (RsT.bad (flat objs))).map nmb := List.mem_map.2 ⟨x, List.mem_filter.2 ⟨hm, hb⟩, rfl⟩
        rw [e] at this
        cases this
theorem tgL_ne {objs : List ObjV} (h : resCode objs ≠ 0) : tgL objs = [] := by unfold tgL; rw [if_neg h]
theorem tgL_ok {objs : List ObjV} (h : resCode objs = 0) : (tgL objs).length = objs.length := by unfold tgL; rw [if_pos h]; simp
/-- the row of an object -/
theorem row_ok {objs : List ObjV} (h : resCode objs = 0) {i : Nat} {o : ObjV} (ho : objs[i]? = some o) : ∃ r, (tgL objs)[i]? = some r ∧ r.length = o.ss.length ∧
    ∀ k s, o.ss[k]? = some s → ∃ (ti tk : Nat) (o' : ObjV) (d : SymV), r[k]? = some ((ti : Int), (tk : Int)) ∧ objs[ti]? = some o' ∧ o'.ss[tk]? = some d ∧ d.name = s.name ∧ d.sect ≠ 0 ∧ (s.sect = 0 → d.glob = true) ∧ (s.sect ≠ 0 → ti = i ∧ tk = k) := by
  have hi : i < objs.length := (List.getElem?_eq_some_iff.1 ho).1
  obtain ⟨-, -, hb⟩ := code_ok h
  refine ⟨RsT.rowAt (flat objs) (flat objs) i, ?_, ?_, ?_⟩
  · unfold tgL
    rw [if_pos h, List.getElem?_map, List.getElem?_range hi]; rfl
  · rw [rowAt_row hi, List.length_map, row_length, ssAt_eq hi]
    rw [List.getElem?_eq_getElem hi] at ho
    cases ho; rfl
  · intro k s hs
    have hk : k < o.ss.length := (List.getElem?_eq_some_iff.1 hs).1
    have hss : ssAt objs i = o.ss := by
      rw [ssAt_eq hi]
      rw [List.getElem?_eq_getElem hi] at ho
      cases ho; rfl
    have hrow : (row objs i)[k]? = some ⟨i, k, s⟩ := by
      unfold row
      rw [List.getElem?_map, List.getElem?_range (by rw [hss]; exact hk)]
      simp only [Option.map_some, Option.some.injEq]
      rw [hss, List.getD_eq_getElem?_getD, hs]; rfl
    have hmem : (⟨i, k, s⟩ : Ent) ∈ flat objs := by
      unfold flat flatTo
      exact List.mem_flatMap.2 ⟨i, List.mem_range.2 hi, List.mem_of_getElem? hrow⟩
    have hbad := hb _ hmem
    rw [rowAt_row hi, List.getElem?_map, hrow]
    simp only [Option.map_some]
    unfold RsT.bad at hbad
    unfold tgs
    unfold tgI at hbad ⊢
    by_cases hz : s.sect = 0
    · rw [if_pos hz] at hbad
      cases hl : RsP.look (flat objs) s.name with
      | none => rw [hl] at hbad; cases hbad
      | some y =>
        have hy := look_some hl
        obtain ⟨oo, h1, h2⟩ := mem_flat hy.1
        refine ⟨y.i, y.k, oo, y.s, ?_, h1, h2, hy.2.2, ?_, fun _ => ?_, fun hne => absurd hz hne⟩
        · rw [if_pos hz]
        · have hd := hy.2.1
          unfold defs at hd
          simp only [Bool.and_eq_true, Bool.not_eq_true', beq_eq_false_iff_ne] at hd
          exact hd.2
        · have hd := hy.2.1
          unfold defs at hd
          simp only [Bool.and_eq_true] at hd
          exact hd.1
    · refine ⟨i, k, o, s, ?_, ho, hs, rfl, hz, fun e => absurd e hz, fun _ => ⟨rfl, rfl⟩⟩
      rw [if_neg hz]
end RsZ
end Go.Proofs.Ytlmblfkcmhgdaaa
