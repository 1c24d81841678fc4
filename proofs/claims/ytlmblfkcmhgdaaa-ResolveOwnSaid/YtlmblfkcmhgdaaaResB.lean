/-
  Two runs of Resolve side by side: the targets as lists; the objects the other way round, in memory. Condition: none.
-/
import Derived.Test.YtlmblfkcmhgdaaaResY
import Derived.Test.YtlmblfkcmhgdaaaResF
import Derived.Test.YtlmblfkcmhgdaaaResQ
namespace Go.Proofs.Ytlmblfkcmhgdaaa
open Go.RowKit Go.Maps Go.WideMaps
set_option linter.unusedVariables false
set_option linter.unusedSimpArgs false
namespace RsB
open OO OJ RsM RsI RsP RsR RsD RsS RsT RsN RsV RsY RsF RsQ OCk
open OI hiding Mid Did
theorem flatTo_len {objs : List ObjV} (h : ∀ o ∈ objs, o.ss.length ≤ 60) (i : Nat) : (flatTo objs i).length ≤ 60 * i := by
  induction i with
  | zero => simp [flatTo]
  | succ i ih =>
    rw [flatTo_succ, List.length_append, row_length]
    have : (ssAt objs i).length ≤ 60 := by
      unfold ssAt
      rw [List.getD_eq_getElem?_getD]
      cases e : objs[i]? with
      | none => exact Nat.zero_le _
      | some o => exact h o (List.mem_of_getElem? e)
    omega
theorem few_flat {objs : List ObjV} (h : fewO objs = true) : objs.length ≤ 12 ∧ (∀ o ∈ objs, o.ss.length ≤ maxLen) ∧ (flat objs).length ≤ 100000 := by
  obtain ⟨h1, h2⟩ := fewO_lim h
  have h3 : ∀ o ∈ objs, o.ss.length ≤ 60 := fun o ho => (OE.few_lim (h2 o ho)).2.2.1
  refine ⟨h1, fun o ho => by have := h3 o ho; unfold maxLen; omega, ?_⟩
  have := flatTo_len h3 objs.length
  unfold flat
  omega
/-- the targets, or none -/
def tgL (objs : List ObjV) : List (List (Int × Int)) := if resCode objs = 0 then (List.range objs.length).map (RsT.rowAt (flat objs) (flat objs)) else []
theorem tgts_none (W : World) : TgtsAt W (.slice none 0 0) [] := ⟨none, 0, rfl, fun h => absurd h (by simp)⟩
theorem out_tgts {objs : List ObjV} {W : World} {tv : Value} {i k e : Int} (h : Out objs W tv i k e) : TgtsAt W tv (tgL objs) := by
  have hc := res_code h
  unfold tgL
  unfold Out at h
  by_cases h0 : 0 ≤ noneFrom objs 0
  · rw [if_pos h0] at h
    obtain ⟨rfl, -, -, rfl⟩ := h
    rw [if_neg (by omega)]
    exact tgts_none W
  · rw [if_neg h0] at h
    cases hag : againL (flat objs) with
    | cons x l =>
      rw [hag] at h
      obtain ⟨rfl, -, -, rfl⟩ := h
      rw [if_neg (by omega)]
      exact tgts_none W
    | nil =>
      rw [hag] at h
      cases hf : (flat objs).find? (RsT.bad (flat objs)) with
      | some x =>
        rw [hf] at h
        obtain ⟨rfl, -, -, rfl⟩ := h
        rw [if_neg (by omega)]
        exact tgts_none W
      | none =>
        rw [hf] at h
        obtain ⟨-, -, rfl, h⟩ := h
        rw [if_pos (by omega)]
        exact h
theorem tgts_below {W W' : World} {tv : Value} {rows : List (List (Int × Int))} (h : TgtsAt W tv rows) (hb : Below W.heap.size W W') : TgtsAt W' tv rows := by
  unfold TgtsAt at h ⊢
  refine h.mono hb.size fun b o hlt hr i r hi => ?_
  obtain ⟨v, h1, h2⟩ := hr i r hi
  exact ⟨v, (hb.cell (p := ⟨b, o + i, none⟩) hlt).trans h1, h2.mono hb.size fun b' o' hlt' hr' j t hj => ⟨(hb.cell (p := ⟨b', o' + j * 2, none⟩) hlt').trans (hr' j t hj).1, (hb.cell (p := ⟨b', o' + j * 2 + 1, none⟩) hlt').trans (hr' j t hj).2⟩⟩
theorem res_ {w : World} {n₀ : Nat} {v : Value} {objs : List ObjV} (hn : n₀ ≤ w.heap.size) (ho : ObjsAt n₀ w v objs) (hw : ∀ o ∈ objs, o.Wf) (hm : objs.length ≤ 100000) (hms : ∀ o ∈ objs, o.ss.length ≤ maxLen) (hN : (flat objs).length ≤ 100000) :
    Calls Try.prog 6 #[v] w fun e w' => ∃ p c i k, e = .returned (.tuple #[.slice p (tgL objs).length c, .agg #[.int .i64 i, .int .i64 k], .int .i64 (resCode objs)]) ∧ TgtsAt w' (.slice p (tgL objs).length c) (tgL objs) ∧ Below w.heap.size w w' := by
  refine (resolve_ hn ho hw hm hms hN).mono ?_
  rintro e w' ⟨tv, i, k, c, rfl, hO, hb⟩
  have ht := out_tgts hO
  have hc := res_code hO
  subst hc
  obtain ⟨p, c, rfl, -⟩ := id ht
  exact ⟨p, c, i, k, rfl, ht, hb⟩
theorem tgL_len {objs : List ObjV} : (tgL objs.reverse).length = (tgL objs).length := by
  unfold tgL
  rw [code_rev]
  split <;> simp
theorem tgL_num {objs : List ObjV} {i : Nat} (h : i < (tgL objs).length) : resCode objs = 0 ∧ (tgL objs).length = objs.length := by
  unfold tgL at h ⊢
  split at h
  · rename_i h0
    rw [if_pos h0]
    exact ⟨h0, by simp⟩
  · simp at h
theorem tgL_rev {objs : List ObjV} {i : Nat} {r : List (Int × Int)} (h : (tgL objs)[i]? = some r) : (tgL objs.reverse)[objs.length - 1 - i]? = some (r.map fun t => ((objs.length : Int) - 1 - t.1, t.2)) := by
  have hi := (List.getElem?_eq_some_iff.1 h).1
  obtain ⟨h0, hl⟩ := tgL_num hi
  unfold tgL at h ⊢
  rw [if_pos h0] at h
  rw [code_rev, if_pos h0]
  rw [List.getElem?_map, List.getElem?_range (by omega)] at h
  rw [List.getElem?_map, List.getElem?_range (by rw [List.length_reverse]; omega)]
  simp only [Option.map_some, Option.some.injEq] at h ⊢
  rw [← h]
  exact rows_rev h0 (by omega)
theorem tgL_lt {objs : List ObjV} {i : Nat} {r : List (Int × Int)} (h : (tgL objs)[i]? = some r) {t : Int × Int} (ht : t ∈ r) : 0 ≤ t.1 ∧ t.1 < objs.length := by
  have hi := (List.getElem?_eq_some_iff.1 h).1
  obtain ⟨h0, hl⟩ := tgL_num hi
  unfold tgL at h
  rw [if_pos h0, List.getElem?_map, List.getElem?_range (by omega)] at h
  simp only [Option.map_some, Option.some.injEq] at h
  rw [← h, rowAt_row (by omega)] at ht
  obtain ⟨x, hx, rfl⟩ := List.mem_map.1 ht
  have hm : x ∈ flat objs := by
    unfold flat flatTo
    exact List.mem_flatMap.2 ⟨i, List.mem_range.2 (by omega), hx⟩
  have lt : ∀ y ∈ flat objs, y.i < objs.length := fun y hy => by
    obtain ⟨o, h1, -⟩ := mem_iff.1 hy
    exact (List.getElem?_eq_some_iff.1 h1).1
  have hx' := lt x hm
  unfold tgs tgI
  split
  · cases hl : RsP.look (flat objs) x.s.name with
    | none => simp only; omega
    | some y => have := lt y (look_some hl).1; simp only; omega
  · simp only; omega
/-- a cell of an object of the list -/
def srcOf (w : World) (p : Option Addr) (j q : Nat) : Option Value := match p with
  | some a => w.cell? ⟨a.block, a.off + j * 4 + q, none⟩
  | none => none
theorem back_at {w wr : World} {p : Option Addr} {c G : Nat} {cur : Array Value} {T : TypeId} {objs : List ObjV} (ho : ObjsAt w.heap.size w (.slice p objs.length c) objs) (hb : Below w.heap.size w wr) (hg : wr.heap[G]? = some (.cells cur T (0, 0)))
    (hm : objs.length ≤ maxLen) (hcur : ∀ j, j < objs.length → ∀ q, q < 4 → cur[(objs.length - 1 - j) * 4 + q]? = srcOf w p j q) : ObjsAt wr.heap.size wr (.slice (some ⟨G, 0, none⟩) objs.length objs.length) objs.reverse := by
  unfold ObjsAt
  rw [List.length_reverse]
  refine ⟨_, _, rfl, fun h0 => ⟨G, 0, rfl, lt_heap hg, Nat.le_refl _, hm, fun i x hi => ?_⟩⟩
  have hlt : i < objs.length := by
    have := (List.getElem?_eq_some_iff.1 hi).1
    rwa [List.length_reverse] at this
  rw [List.getElem?_reverse hlt] at hi
  obtain ⟨p', c', hv, hh⟩ := ho
  cases hv
  obtain ⟨b, o, rfl, hb', -, -, hall⟩ := hh h0
  obtain ⟨v0, v1, v2, v3, c0, c1, c2, c3, hat⟩ := hall _ _ hi
  have hc := hcur (objs.length - 1 - i) (by omega)
  rw [show objs.length - 1 - (objs.length - 1 - i) = i by omega] at hc
  have e0 := hc 0 (by omega)
  have e1 := hc 1 (by omega)
  have e2 := hc 2 (by omega)
  have e3 := hc 3 (by omega)
  refine ⟨v0, v1, v2, v3, ?_, ?_, ?_, ?_, (hat.below hb).up hb.size⟩
  · rw [Nat.zero_add, Lib.cell_of_heap hg]; exact e0.trans c0
  · rw [Nat.zero_add, Lib.cell_of_heap hg]; exact e1.trans c1
  · rw [Nat.zero_add, Lib.cell_of_heap hg]; exact e2.trans c2
  · rw [Nat.zero_add, Lib.cell_of_heap hg]; exact e3.trans c3
end RsB
end Go.Proofs.Ytlmblfkcmhgdaaa
