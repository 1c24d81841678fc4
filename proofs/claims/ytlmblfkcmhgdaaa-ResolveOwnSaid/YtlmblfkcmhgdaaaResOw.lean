/-
  The object more of ResolveOwn, plainly: it defines names that are there, for itself alone; what the others mean stays, and so does what is wrong. It speaks of no program.
-/
import Derived.Test.YtlmblfkcmhgdaaaResH
namespace Go.Proofs.Ytlmblfkcmhgdaaa
open Go.RowKit Go.Maps
set_option linter.unusedVariables false
set_option linter.unusedSimpArgs false
namespace RsOw
open OO OJ RsM RsP RsS RsT RsY RsQ RsB RsJ RsZ RsE OCk OU OM
open RsH hiding code_more
/-- one symbol more has been looked at -/
def ownStep (N : List (List UInt8)) (x : Ent) : List (List UInt8) := if nmb x ≠ [] ∧ nmb x ∉ N ∧ N.length < 500 then N ++ [nmb x] else N
def ownL (l : List Ent) : List (List UInt8) := l.foldl ownStep []
theorem ownL_snoc (l : List Ent) (x : Ent) : ownL (l ++ [x]) = ownStep (ownL l) x := by
  unfold ownL
  rw [List.foldl_append]
  rfl
structure Od (l : List Ent) (N : List (List UInt8)) : Prop where
  nd : N.Nodup
  mem : ∀ n ∈ N, n ≠ [] ∧ ∃ x ∈ l, nmb x = n
  len : N.length ≤ 500
theorem own_od (l : List Ent) : Od l (ownL l) := by
  induction l using snoc_ind with
  | nil => exact ⟨List.nodup_nil, (fun n h => by cases h), by simp [ownL]⟩
  | append_singleton l x ih =>
    rw [ownL_snoc]
    unfold ownStep
    split
    · rename_i h
      obtain ⟨h1, h2, h3⟩ := h
      refine ⟨?_, fun n hn => ?_, by rw [List.length_append]; simp; omega⟩
      · rw [List.nodup_append]
        refine ⟨ih.nd, by simp, fun a ha b hb e => ?_⟩
        rw [List.mem_singleton.1 hb] at e
        exact h2 (e ▸ ha)
      · rcases List.mem_append.1 hn with hn | hn
        · obtain ⟨e, y, hy, hyn⟩ := ih.mem n hn
          exact ⟨e, y, List.mem_append_left _ hy, hyn⟩
        · rw [List.mem_singleton.1 hn]
          exact ⟨h1, x, by simp, rfl⟩
    · exact ⟨ih.nd, (fun n hn => by
        obtain ⟨e, y, hy, hyn⟩ := ih.mem n hn
        exact ⟨e, y, List.mem_append_left _ hy, hyn⟩), ih.len⟩
def symO (n : List UInt8) : SymV := ⟨bs n, 1, 0, 0, false⟩
def moO (N : List (List UInt8)) : ObjV := ⟨[19], [], N.map symO, []⟩
theorem moO_get {N : List (List UInt8)} {k : Nat} (h : k < N.length) : (moO N).ss[k]? = some (symO N[k]) := by
  show (N.map symO)[k]? = _
  rw [List.getElem?_map, List.getElem?_eq_getElem h]; rfl
theorem moO_len (N : List (List UInt8)) : (moO N).ss.length = N.length := by simp [moO]
theorem moO_defs (N : List (List UInt8)) : ∀ s ∈ (moO N).ss, defs s = false := fun s hs => by
  obtain ⟨n, -, rfl⟩ := List.mem_map.1 hs
  rfl
theorem moO_sect (N : List (List UInt8)) : ∀ s ∈ (moO N).ss, s.sect ≠ 0 := fun s hs => by
  obtain ⟨n, -, rfl⟩ := List.mem_map.1 hs
  unfold symO
  simp
/-- it is an object, if the others are -/
theorem moO_chk {objs : List ObjV} {N : List (List UInt8)} (h : Od (flat objs) N) (hcs : ∀ o ∈ objs, chk o = true) : chk (moO N) = true := by
  have hname : ∀ n ∈ N, nameB (bs n) = true := fun n hm => by
    obtain ⟨-, x, hx, rfl⟩ := h.mem n hm
    obtain ⟨o, ho, hs⟩ := RsM.mem_flat hx
    have hc := hcs o (List.mem_of_getElem? ho)
    unfold chk at hc
    simp only [Bool.and_eq_true] at hc
    have hk : x.k < o.ss.length := (List.getElem?_eq_some_iff.1 hs).1
    have h1 := List.all_eq_true.1 hc.2.1 x.k (List.mem_range.2 hk)
    unfold symAt at h1
    rw [hs] at h1
    simp only [Bool.and_eq_true] at h1
    unfold symOk at h1
    simp only [Bool.and_eq_true] at h1
    rw [bs_nmb]
    exact h1.2.1
  have hlen := moO_len N
  have hl := h.len
  refine chk_yes ?_ ?_ rfl
  · unfold lensB
    simp only [Bool.and_eq_true, decide_eq_true_eq]
    rw [hlen]
    refine ⟨?_, ?_, ?_⟩
    · simp [moO]
    · omega
    · simp [moO]
  · unfold symsTo
    rw [List.all_eq_true]
    intro k hk
    have hk := List.mem_range.1 hk
    have hkm : k < N.length := by rw [← hlen]; exact hk
    unfold symAt
    rw [moO_get hkm]
    simp only [Bool.and_eq_true, Bool.not_eq_true']
    refine ⟨?_, ?_⟩
    · rw [List.any_eq_false]
      intro t ht
      simp only [decide_eq_true_eq]
      intro e
      obtain ⟨j, hjt⟩ := List.mem_iff_getElem?.1 ht
      have hj := (List.getElem?_eq_some_iff.1 hjt).1
      have hjk : j < k := by rw [List.length_take] at hj; omega
      rw [List.getElem?_take, if_pos hjk, moO_get (by omega)] at hjt
      cases hjt
      have e2 : N[j] = N[k] := bs_inj e
      have := (List.pairwise_iff_getElem.1 h.nd) j k (by omega) hkm hjk
      exact this e2
    · unfold symOk
      rw [Bool.and_eq_true]
      refine ⟨hname _ (List.getElem_mem hkm), ?_⟩
      unfold placeB symO moO
      simp
theorem moO_wf {objs : List ObjV} {N : List (List UInt8)} (h : Od (flat objs) N) (hw : ∀ o ∈ objs, o.Wf) : (moO N).Wf := by
  refine ⟨fun x hx => ?_, (fun x hx => by cases hx), fun s hs => ?_, (fun r hr => by cases hr)⟩
  · rw [List.mem_singleton.1 hx]; omega
  · obtain ⟨n, hn, rfl⟩ := List.mem_map.1 hs
    obtain ⟨-, x, hx, rfl⟩ := h.mem n hn
    obtain ⟨o, ho, hs⟩ := RsM.mem_flat hx
    have := ((hw o (List.mem_of_getElem? ho)).ss _ (List.mem_of_getElem? hs)).name
    refine ⟨?_, by unfold symO I64; simp, by unfold symO I64; simp, by unfold symO I64; simp⟩
    show (bs (nmb x)).size ≤ maxLen
    rw [bs_nmb]; exact this
theorem flat_own (objs : List ObjV) (N : List (List UInt8)) : (flat (objs ++ [moO N])).length = (flat objs).length + N.length := by
  rw [flat_snoc, List.length_append, row_length, ssAt_some (o := moO N) (by simp), moO_len]
/-- objects that are all objects: their error isn't Form, and the other way round -/
theorem code_form {objs : List ObjV} : resCode objs = 2 ↔ ¬ ∀ o ∈ objs, chk o = true := by
  unfold resCode
  constructor
  · intro h hall
    rw [if_neg (none_no hall)] at h
    revert h
    split
    · intro h; cases h
    · split <;> intro h <;> cases h
  · intro h
    have : 0 ≤ noneFrom objs 0 := by
      rw [none_iff]
      refine Classical.byContradiction fun hn => h fun o ho => ?_
      cases hc : chk o with
      | true => rfl
      | false => exact absurd ⟨o, ho, hc⟩ hn
    rw [if_pos this]
theorem own_code {objs : List ObjV} {N : List (List UInt8)} (h : Od (flat objs) N) (hcs : ∀ o ∈ objs, chk o = true) : resCode (objs ++ [moO N]) = resCode objs :=
  RsE.code_more (moO_chk h hcs) (moO_defs N) (moO_sect N)
theorem own_place {objs : List ObjV} {N : List (List UInt8)} (h : Od (flat objs) N) (hcs : ∀ o ∈ objs, chk o = true) : placeOf (objs ++ [moO N]) = placeOf objs := by
  have hr := row_more (objs := objs) (moO_defs N)
  have hr2 := row_more (objs := objs) (moO_sect N)
  have hc := moO_chk h hcs
  unfold placeOf
  rw [flat_snoc, again_more _ hr, find_more hr hr2, if_neg (none_no hcs), if_neg (fun h => none_no hcs ((none_more hc).1 h))]
end RsOw
end Go.Proofs.Ytlmblfkcmhgdaaa
