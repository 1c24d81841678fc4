/-
  Where texts and data stand, plainly: sums of sizes. No condition.
  Small parts of package layout, and of its document: contracts. Conditions: those that are written at each.
  Layout: a contract. Condition: the objects lie in memory, with not too much in each.
  A place, a symbol and a relocation as parameters: opened; and addresses, the program's and the document's: contracts. Condition: none but that the types can be read.
  Addresses, the program's and the document's: contracts. Condition: none but that the numbers are of their types.
  A slice of any kind, be it empty, appended to a row that the call owns. Conditions: those that are written at each.
-/
import Derived.Test.YtlmblfkcmhgdaaaGreatProg
import Derived.Test.YtlmblfkcmhgdaaaGreatRows
import Derived.WalkKit
import Derived.ProofKit
import Derived.OpenShut
import Derived.WalkLawsBesides
import Derived.WalkSpells
import Derived.Outline
import Derived.IntWalk
import Derived.Lib.Hide
import Derived.Test.YtlmblfkcmhgdaaaGreatObjQa
import Derived.Laws.OwnMore
import Derived.RegionTactic
import Derived.BigRegion
import Derived.Maps.AppendAt
namespace Go.Proofs.YtlmblfkcmhgdaaaGreat
set_option linter.unusedVariables false
set_option linter.unusedSimpArgs false
namespace LM
abbrev Sz := List (Nat × Nat)
def ts (l : Sz) : Nat := (l.map Prod.fst).sum
def ds (l : Sz) : Nat := (l.map Prod.snd).sum
def line (n : Nat) : Nat := (n + 7) / 8 * 8
def tend (l : Sz) : Nat := 12 + 4 * ts l
def dend (l : Sz) : Nat := line (tend l) + ds l
def textAt (l : Sz) (j : Nat) : Nat := 12 + 4 * ts (l.take j)
def dataAt (l : Sz) (j : Nat) : Nat := line (tend l) + ds (l.take j)
def ok (l : Sz) : Bool := decide (dend l ≤ 2097152)
theorem ts_app (a b : Sz) : ts (a ++ b) = ts a + ts b := by unfold ts; rw [List.map_append, List.sum_append]
theorem ds_app (a b : Sz) : ds (a ++ b) = ds a + ds b := by unfold ds; rw [List.map_append, List.sum_append]
theorem take_one {l : Sz} {j : Nat} (h : j < l.length) : l.take (j + 1) = l.take j ++ [l[j]] := by rw [List.take_succ_eq_append_getElem h]
theorem ts_succ {l : Sz} {j : Nat} (h : j < l.length) : ts (l.take (j + 1)) = ts (l.take j) + l[j].1 := by rw [take_one h, ts_app]; simp [ts]
theorem ds_succ {l : Sz} {j : Nat} (h : j < l.length) : ds (l.take (j + 1)) = ds (l.take j) + l[j].2 := by rw [take_one h, ds_app]; simp [ds]
theorem ts_all (l : Sz) : ts (l.take l.length) = ts l := by rw [List.take_length]
theorem ds_all (l : Sz) : ds (l.take l.length) = ds l := by rw [List.take_length]
theorem ts_le (l : Sz) (j : Nat) : ts (l.take j) ≤ ts l := by
  have := ts_app (l.take j) (l.drop j)
  rw [List.take_append_drop] at this
  omega
theorem ds_le (l : Sz) (j : Nat) : ds (l.take j) ≤ ds l := by
  have := ds_app (l.take j) (l.drop j)
  rw [List.take_append_drop] at this
  omega
theorem ts_mono (l : Sz) {i j : Nat} (h : i ≤ j) : ts (l.take i) ≤ ts (l.take j) := by
  have := ts_le (l.take j) i
  rwa [List.take_take, Nat.min_eq_left h] at this
theorem ds_mono (l : Sz) {i j : Nat} (h : i ≤ j) : ds (l.take i) ≤ ds (l.take j) := by
  have := ds_le (l.take j) i
  rwa [List.take_take, Nat.min_eq_left h] at this
theorem line_ge (n : Nat) : n ≤ line n ∧ line n ≤ n + 7 ∧ line n % 8 = 0 := by unfold line; omega
theorem line_lim {n : Nat} (h : n ≤ 2097152) : line n ≤ 2097152 := by unfold line; omega
theorem textAt_succ {l : Sz} {j : Nat} (h : j < l.length) : textAt l (j + 1) = textAt l j + 4 * l[j].1 := by unfold textAt; rw [ts_succ h]; omega
theorem dataAt_succ {l : Sz} {j : Nat} (h : j < l.length) : dataAt l (j + 1) = dataAt l j + l[j].2 := by unfold dataAt; rw [ds_succ h]; omega
theorem textAt_zero (l : Sz) : textAt l 0 = 12 := rfl
theorem dataAt_zero (l : Sz) : dataAt l 0 = line (tend l) := rfl
theorem textAt_end (l : Sz) : textAt l l.length = tend l := by unfold textAt tend; rw [ts_all]
theorem dataAt_end (l : Sz) : dataAt l l.length = dend l := by unfold dataAt dend; rw [ds_all]
theorem textAt_le (l : Sz) (j : Nat) : 12 ≤ textAt l j ∧ textAt l j ≤ tend l := by have := ts_le l j; unfold textAt tend; omega
theorem dataAt_le (l : Sz) (j : Nat) : line (tend l) ≤ dataAt l j ∧ dataAt l j ≤ dend l := by have := ds_le l j; unfold dataAt dend; omega
theorem textAt_mono (l : Sz) {i j : Nat} (h : i ≤ j) : textAt l i ≤ textAt l j := by have := ts_mono l h; unfold textAt; omega
theorem dataAt_mono (l : Sz) {i j : Nat} (h : i ≤ j) : dataAt l i ≤ dataAt l j := by have := ds_mono l h; unfold dataAt; omega
theorem tend_le (l : Sz) : 12 ≤ tend l ∧ tend l ≤ line (tend l) ∧ line (tend l) ≤ dend l := by
  have := line_ge (tend l)
  unfold dend
  unfold tend at *
  omega
/-- a text's end beyond the limit: no image -/
theorem bad_text {l : Sz} {j : Nat} (h : 2097152 < textAt l j) : ok l = false := by
  have h1 := (textAt_le l j).2
  have h2 := tend_le l
  unfold ok
  rw [decide_eq_false (by omega)]
theorem bad_data {l : Sz} {j : Nat} (h : 2097152 < dataAt l j) : ok l = false := by
  have h1 := (dataAt_le l j).2
  unfold ok
  rw [decide_eq_false (by omega)]
theorem good_end {l : Sz} (h : dataAt l l.length ≤ 2097152) : ok l = true := by
  rw [dataAt_end] at h
  unfold ok
  rw [decide_eq_true h]
/-- texts and data: two rows of numbers -/
def pl (l : Sz) : List (Int × Int) := (List.range l.length).map fun j => ((textAt l j : Int), (dataAt l j : Int))
/-- the start, all words and all data so far -/
def sumAt (l : Sz) (k : Nat) : Nat := 12 + 4 * ts (l.take k) + ds (l.take k)
def Small (l : Sz) : Prop := ∀ x ∈ l, x.1 ≤ 65535 ∧ x.2 ≤ 65535
/-! ### an object more -/
theorem ok_lim {l : Sz} (h : ok l = true) : dend l ≤ 2097152 := by unfold ok at h; simpa using h
end LM
end Go.Proofs.YtlmblfkcmhgdaaaGreat
namespace Go.Proofs.YtlmblfkcmhgdaaaGreat
open Go.RowKit
set_option linter.unusedVariables false
set_option linter.unusedSimpArgs false
namespace LC
open LM
theorem ret_int {k : IntKind} {a b : Int} (h : a = b) : Ending.returned (.int k a) = .returned (.int k b) := by rw [h]
theorem of_ (n : Int) (w : World) : Calls Tryz.prog 78 #[.int .i64 n] w fun e w' => e = .returned (.int .u32 (n % 4294967296)) ∧ w' = w := by
  go_enter Tryz.func78, Tryz.ntmps78
  go_wp2
  go_ret
  exact ⟨rfl, rfl⟩
theorem inLine_ (n : Nat) (h : n ≤ 1152921504606846976) (w : World) : Calls Tryz.prog 99 #[.int .i64 n] w fun e w' => e = .returned (.int .i64 (line n : Nat)) ∧ w' = w := by
  go_enter Tryz.func99, Tryz.ntmps99
  go_wp2
  go_ret
  exact ⟨ret_int (by unfold line; omega), rfl⟩
end LC
end Go.Proofs.YtlmblfkcmhgdaaaGreat
namespace Go.Proofs.YtlmblfkcmhgdaaaGreat
open Go.RowKit
set_option linter.unusedVariables false
set_option linter.unusedSimpArgs false
namespace LL
open LM OO LC
abbrev TP : TypeId := 104
abbrev TO : TypeId := 30
theorem infoP : (Tryz.prog.info? TP).map (fun i => (i.zero, i.size, i.bytes)) = some (some (.agg #[.int .i64 0, .int .i64 0]), 2, 16) := by kernel_rfl
theorem hset {w : World} {g i : Nat} {cs : Array Value} {t : TypeId} (hg : w.heap[g]? = some (.cells cs t (0, 0))) (v : Value) : (w.setCell ⟨g, i, none⟩ v).heap[g]? = some (.cells (cs.setIfInBounds i v) t (0, 0)) := heap_setCell_same w g i cs t v hg
/-- an object of so many words and bytes -/
def ObIn (w : World) (b o : Nat) (x : Nat × Nat) : Prop :=
  ∃ p0 c0 p1 c1 p2 n2 c2 p3 n3 c3, w.cell? ⟨b, o, none⟩ = some (.slice p0 x.1 c0) ∧ w.cell? ⟨b, o + 1, none⟩ = some (.slice p1 x.2 c1) ∧ w.cell? ⟨b, o + 2, none⟩ = some (.slice p2 n2 c2) ∧ w.cell? ⟨b, o + 3, none⟩ = some (.slice p3 n3 c3)
def ObAt (n₀ : Nat) (w : World) (v : Value) (l : Sz) : Prop := Sl n₀ v l.length fun b o => ∀ i x, l[i]? = some x → ObIn w b (o + i * 4) x
theorem ObIn.below {n₀ b o : Nat} {w w' : World} {x : Nat × Nat} (h : ObIn w b o x) (hb : Below n₀ w w') (hlt : b < n₀) : ObIn w' b o x := by
  obtain ⟨p0, c0, p1, c1, p2, n2, c2, p3, n3, c3, h0, h1, h2, h3⟩ := h
  exact ⟨p0, c0, p1, c1, p2, n2, c2, p3, n3, c3, (hb.cell (p := ⟨b, o, none⟩) hlt).trans h0, (hb.cell (p := ⟨b, o + 1, none⟩) hlt).trans h1, (hb.cell (p := ⟨b, o + 2, none⟩) hlt).trans h2, (hb.cell (p := ⟨b, o + 3, none⟩) hlt).trans h3⟩
theorem ObAt.below {n₀ : Nat} {w w' : World} {v : Value} {l : Sz} (h : ObAt n₀ w v l) (hb : Below n₀ w w') : ObAt n₀ w' v l :=
  Sl.mono h (Nat.le_refl _) fun b o hlt hr i x hi => (hr i x hi).below hb hlt
theorem ObAt.up {n₀ n₁ : Nat} {w : World} {v : Value} {l : Sz} (h : ObAt n₀ w v l) (hn : n₀ ≤ n₁) : ObAt n₁ w v l := Sl.mono h hn fun b o hlt hr => hr
/-- where the places lie -/
def PlAt (n₀ : Nat) (w : World) (v : Value) (l : Sz) : Prop := Sl n₀ v l.length fun b o => ∀ i, i < l.length → w.cell? ⟨b, o + i * 2, none⟩ = some (.int .i64 (textAt l i : Nat)) ∧ w.cell? ⟨b, o + i * 2 + 1, none⟩ = some (.int .i64 (dataAt l i : Nat))
theorem PlAt.below {n₀ : Nat} {w w' : World} {v : Value} {l : Sz} (h : PlAt n₀ w v l) (hb : Below n₀ w w') : PlAt n₀ w' v l :=
  Sl.mono h (Nat.le_refl _) fun b o hlt hr i hi => ⟨(hb.cell (p := ⟨b, o + i * 2, none⟩) hlt).trans (hr i hi).1, (hb.cell (p := ⟨b, o + i * 2 + 1, none⟩) hlt).trans (hr i hi).2⟩
theorem PlAt.up {n₀ n₁ : Nat} {w : World} {v : Value} {l : Sz} (h : PlAt n₀ w v l) (hn : n₀ ≤ n₁) : PlAt n₁ w v l := Sl.mono h hn fun b o hlt hr => hr
/-- what Layout answers -/
def Res (l : Sz) (w : World) (e : Ending) (w' : World) : Prop :=
  Below w.heap.size w w' ∧ ((ok l = true ∧ ∃ p c, e = .returned (.tuple #[.slice p l.length c, .int .i64 (dend l : Nat), .int .i64 0]) ∧ PlAt w'.heap.size w' (.slice p l.length c) l) ∨
    (ok l = false ∧ e = .returned (.tuple #[.slice none 0 0, .int .i64 0, .int .i64 6])))
def TPut (l : Sz) (k : Nat) (cur : Array Value) : Prop := cur.size = l.length * 2 ∧ ∀ j, j < k → cur[j * 2]? = some (.int .i64 (textAt l j : Nat))
def DPut (l : Sz) (k : Nat) (cur : Array Value) : Prop := cur.size = l.length * 2 ∧ (∀ j, j < l.length → cur[j * 2]? = some (.int .i64 (textAt l j : Nat))) ∧ ∀ j, j < k → cur[j * 2 + 1]? = some (.int .i64 (dataAt l j : Nat))
theorem TPut.next {l : Sz} {k : Nat} {cur : Array Value} (h : TPut l k cur) (hk : k < l.length) : TPut l (k + 1) (cur.setIfInBounds (k * 2) (.int .i64 (textAt l k : Nat))) := by
  refine ⟨by rw [Array.size_setIfInBounds]; exact h.1, fun j hj => ?_⟩
  have := h.1
  by_cases e : j = k
  · subst e
    rw [Array.getElem?_setIfInBounds_self_of_lt (by omega)]
  · rw [Array.getElem?_setIfInBounds_ne (by omega)]
    exact h.2 j (by omega)
theorem DPut.next {l : Sz} {k : Nat} {cur : Array Value} (h : DPut l k cur) (hk : k < l.length) : DPut l (k + 1) (cur.setIfInBounds (k * 2 + 1) (.int .i64 (dataAt l k : Nat))) := by
  have := h.1
  refine ⟨by rw [Array.size_setIfInBounds]; exact h.1, fun j hj => ?_, fun j hj => ?_⟩
  · rw [Array.getElem?_setIfInBounds_ne (by omega)]
    exact h.2.1 j hj
  · by_cases e : j = k
    · subst e
      rw [Array.getElem?_setIfInBounds_self_of_lt (by omega)]
    · rw [Array.getElem?_setIfInBounds_ne (by omega)]
      exact h.2.2 j (by omega)
set_option maxRecDepth 100000 in
set_option maxHeartbeats 4000000 in
theorem Layout_ {w : World} {n₀ : Nat} {v : Value} {l : Sz} (hn : n₀ ≤ w.heap.size) (ho : ObAt n₀ w v l) (hm : l.length ≤ 65536) (hz : ∀ x ∈ l, x.1 ≤ 4294967296 ∧ x.2 ≤ 4294967296) :
    Calls Tryz.prog 68 #[v] w (Res l w) := by
  obtain ⟨p, c, rfl, hsl⟩ := ho
  have HO := Lib.hid hsl
  have HZ := Lib.hid hz
  obtain ⟨i0, hi, hz0, hz1, hz2⟩ := info_parts infoP
  clear hsl hz
  go_enter Tryz.func68, Tryz.ntmps68
  go_wp2_with (at_make; refine wpList_make_full _ rfl _ _ 78 rfl (w.heap.size) TP i0 (.agg #[.int .i64 0, .int .i64 0]) 2 Tryz.underlying78 hi hz0 hz1 .i64 .i64 (l.length : Int) (l.length : Int) l.length rfl rfl rfl rfl (by rw [hz2]; omega) (by unfold maxLen; omega) (by simp) ?_; intro w5 hout hg5; have HOUT := Lib.hid hout; have HG5 := Lib.hid hg5; clear hout hg5)
  obtain ⟨cur0, hg0, hsz0⟩ : ∃ cur0, w5.heap[w.heap.size]? = some (.cells cur0 TP (0, 0)) ∧ cur0.size = l.length * 2 := by
    rcases HOUT.out.2 with ⟨e, -⟩ | ⟨g, cap, cur, e, -, hg, -, -, hcs, -⟩
    · simp at e
    · simp only [Value.slice.injEq, Option.some.injEq, Addr.mk.injEq, and_true, true_and] at e
      obtain ⟨rfl, rfl⟩ := e
      exact ⟨cur, hg, hcs⟩
  have hb5 : Below w.heap.size w w5 := (Below.refl _ _).grown HG5.out (Nat.le_refl _) (fun k hk => by cases hk)
  have HB5 := Lib.hid hb5
  have HG0 := Lib.hid hg0
  have HZ0 := Lib.hid hsz0
  clear hb5 hg0 hsz0 HOUT HG5
  go_loopw [6, 16] (fun e i wr => ∃ k : Nat, k ≤ l.length ∧ i = .int .i64 k ∧ e = .int .i64 (textAt l k : Nat) ∧ textAt l k ≤ 2097152 ∧ Hid (Below w.heap.size w wr) ∧ ∃ cur, Hid (wr.heap[w.heap.size]? = some (.cells cur TP (0, 0))) ∧ Hid (TPut l k cur)) (fun e i _ => l.length - (intOf i).toNat)
  case atStart => exact ⟨0, Nat.zero_le _, rfl, rfl, by rw [textAt_zero]; omega, HB5, cur0, HG0, Lib.hid ⟨HZ0.out, fun j hj => absurd hj (by omega)⟩⟩
  case round =>
    obtain ⟨k, hk, rfl, rfl, hT, HBL, cur, HG, HC⟩ := hrel
    by_cases hlt : k < l.length
    · obtain ⟨b, o, rfl, hb, -, -, hall⟩ := HO.out (by omega)
      obtain ⟨p0, c0, p1, c1, p2, n2, c2, p3, n3, c3, e0, e1, e2, e3⟩ := hall k _ (List.getElem?_eq_getElem hlt)
      have k0 := (HBL.out.cell (p := ⟨b, o + k * 4, none⟩) (by show b < w.heap.size; omega)).trans e0
      have k1 := (HBL.out.cell (p := ⟨b, o + k * 4 + 1, none⟩) (by show b < w.heap.size; omega)).trans e1
      have k2 := (HBL.out.cell (p := ⟨b, o + k * 4 + 2, none⟩) (by show b < w.heap.size; omega)).trans e2
      have k3 := (HBL.out.cell (p := ⟨b, o + k * 4 + 3, none⟩) (by show b < w.heap.size; omega)).trans e3
      have hx := HZ.out _ (List.getElem_mem hlt)
      have hs := textAt_succ hlt
      have hcz : cur.size = l.length * 2 := HC.out.1
      have hG1 : (wr.alloc (.cells #[.slice p0 l[k].1 c0, .slice p1 l[k].2 c1, .slice p2 n2 c2, .slice p3 n3 c3] TO)).heap[w.heap.size]? = some (.cells cur TP (0, 0)) := (Lib.alloc_old _ _ _ (lt_heap HG.out)).trans HG.out
      have g0 : (wr.alloc (.cells #[.slice p0 l[k].1 c0, .slice p1 l[k].2 c1, .slice p2 n2 c2, .slice p3 n3 c3] TO)).cell? ⟨w.heap.size, k * 2, none⟩ = some (cur[k * 2]'(by omega)) := (Lib.cell_of_heap hG1 _).trans (Array.getElem?_eq_getElem _)
      have f0 : (wr.alloc (.cells #[.slice p0 l[k].1 c0, .slice p1 l[k].2 c1, .slice p2 n2 c2, .slice p3 n3 c3] TO)).frozen? ⟨w.heap.size, k * 2, none⟩ = false := Lib.frozen_of_heap hG1 _
      have hlz := lt_heap HG.out
      have b0 : ((wr.alloc (.cells #[.slice p0 l[k].1 c0, .slice p1 l[k].2 c1, .slice p2 n2 c2, .slice p3 n3 c3] TO)).setCell ⟨w.heap.size, k * 2, none⟩ (.int .i64 (textAt l k : Nat))).cell? ⟨wr.heap.size, 0, none⟩ = some (.slice p0 l[k].1 c0) := Lib.cell_of_heap ((Below.heap_setCell _ _ _ _ (by show wr.heap.size ≠ w.heap.size; omega)).trans (heap_alloc_new wr _)) 0
      have HG2 : Hid (((wr.setCell ⟨w.heap.size, k * 2, none⟩ (.int .i64 (textAt l k : Nat))).alloc (.cells #[.slice p0 l[k].1 c0, .slice p1 l[k].2 c1, .slice p2 n2 c2, .slice p3 n3 c3] TO)).heap[w.heap.size]? = some (.cells (cur.setIfInBounds (k * 2) (.int .i64 (textAt l k : Nat))) TP (0, 0))) := Lib.hid ((Lib.alloc_old _ _ _ (by rw [World.size_setCell]; exact hlz)).trans (hset HG.out _))
      have hbw := HBL.out.size
      have HB1 : Hid (Below w.heap.size w ((wr.setCell ⟨w.heap.size, k * 2, none⟩ (.int .i64 (textAt l k : Nat))).alloc (.cells #[.slice p0 l[k].1 c0, .slice p1 l[k].2 c1, .slice p2 n2 c2, .slice p3 n3 c3] TO))) := Lib.hid ((HBL.out.setCell (Nat.le_refl _) _).alloc (by rw [World.size_setCell]; exact hbw) _)
      have HN := Lib.hid (HC.out.next hlt)
      have HBAD := Lib.hid (fun h => bad_text (l := l) (j := k + 1) h)
      clear hall e0 e1 e2 e3 hG1 HG hbw HBL
      generalize l[k] = x at *
      generalize hT1 : textAt l (k + 1) = t1 at *
      by_cases hbig : 2097152 < t1
      · go_wp2
        refine bodyPost_ret (v := .tuple #[.slice none 0 0, .int .i64 0, .int .i64 6]) (by simp [results, Tryz.results68, go_sem]) rfl ?_
        exact ⟨HB1.out, .inr ⟨HBAD.out hbig, rfl⟩⟩
      · go_wp2
        exact ⟨⟨k + 1, by omega, by go_num, by rw [hT1, hs]; push_cast; rfl, by omega, HB1, _, HG2, HN⟩, by simp [intOf]; omega⟩
    · obtain rfl : k = l.length := by omega
      have hTe := textAt_end l
      rw [hTe] at hT ⊢
      have hL := line_lim hT
      go_wp2_with (go_at_call 99; (with_reducible refine (inLine_ _ (by omega) _).mono ?_); rintro e w6 ⟨rfl, rfl⟩)
      clear HB5 HG0 HZ0 hk hlt
      go_loopw [6, 39] (fun e i wr => ∃ k : Nat, k ≤ l.length ∧ i = .int .i64 k ∧ e = .int .i64 (dataAt l k : Nat) ∧ dataAt l k ≤ 2097152 ∧ Hid (Below w.heap.size w wr) ∧ ∃ cur, Hid (wr.heap[w.heap.size]? = some (.cells cur TP (0, 0))) ∧ Hid (DPut l k cur)) (fun e i _ => l.length - (intOf i).toNat)
      case atStart => exact ⟨0, Nat.zero_le _, rfl, by rw [dataAt_zero], by rw [dataAt_zero]; exact hL, HBL, cur, HG, Lib.hid ⟨HC.out.1, HC.out.2, fun j hj => absurd hj (by omega)⟩⟩
      case round =>
        obtain ⟨k, hk, rfl, rfl, hT, HBL, cur, HG, HC⟩ := hrel
        by_cases hlt : k < l.length
        · obtain ⟨b, o, rfl, hb, -, -, hall⟩ := HO.out (by omega)
          obtain ⟨p0, c0, p1, c1, p2, n2, c2, p3, n3, c3, e0, e1, e2, e3⟩ := hall k _ (List.getElem?_eq_getElem hlt)
          have k0 := (HBL.out.cell (p := ⟨b, o + k * 4, none⟩) (by show b < w.heap.size; omega)).trans e0
          have k1 := (HBL.out.cell (p := ⟨b, o + k * 4 + 1, none⟩) (by show b < w.heap.size; omega)).trans e1
          have k2 := (HBL.out.cell (p := ⟨b, o + k * 4 + 2, none⟩) (by show b < w.heap.size; omega)).trans e2
          have k3 := (HBL.out.cell (p := ⟨b, o + k * 4 + 3, none⟩) (by show b < w.heap.size; omega)).trans e3
          have hx := HZ.out _ (List.getElem_mem hlt)
          have hs := dataAt_succ hlt
          have hcz : cur.size = l.length * 2 := HC.out.1
          have hG1 : (wr.alloc (.cells #[.slice p0 l[k].1 c0, .slice p1 l[k].2 c1, .slice p2 n2 c2, .slice p3 n3 c3] TO)).heap[w.heap.size]? = some (.cells cur TP (0, 0)) := (Lib.alloc_old _ _ _ (lt_heap HG.out)).trans HG.out
          have g0 : (wr.alloc (.cells #[.slice p0 l[k].1 c0, .slice p1 l[k].2 c1, .slice p2 n2 c2, .slice p3 n3 c3] TO)).cell? ⟨w.heap.size, k * 2 + 1, none⟩ = some (cur[k * 2 + 1]'(by omega)) := (Lib.cell_of_heap hG1 _).trans (Array.getElem?_eq_getElem _)
          have f0 : (wr.alloc (.cells #[.slice p0 l[k].1 c0, .slice p1 l[k].2 c1, .slice p2 n2 c2, .slice p3 n3 c3] TO)).frozen? ⟨w.heap.size, k * 2 + 1, none⟩ = false := Lib.frozen_of_heap hG1 _
          have hlz := lt_heap HG.out
          have b0 : ((wr.alloc (.cells #[.slice p0 l[k].1 c0, .slice p1 l[k].2 c1, .slice p2 n2 c2, .slice p3 n3 c3] TO)).setCell ⟨w.heap.size, k * 2 + 1, none⟩ (.int .i64 (dataAt l k : Nat))).cell? ⟨wr.heap.size, 1, none⟩ = some (.slice p1 l[k].2 c1) := Lib.cell_of_heap ((Below.heap_setCell _ _ _ _ (by show wr.heap.size ≠ w.heap.size; omega)).trans (heap_alloc_new wr _)) 1
          have HG2 : Hid (((wr.setCell ⟨w.heap.size, k * 2 + 1, none⟩ (.int .i64 (dataAt l k : Nat))).alloc (.cells #[.slice p0 l[k].1 c0, .slice p1 l[k].2 c1, .slice p2 n2 c2, .slice p3 n3 c3] TO)).heap[w.heap.size]? = some (.cells (cur.setIfInBounds (k * 2 + 1) (.int .i64 (dataAt l k : Nat))) TP (0, 0))) := Lib.hid ((Lib.alloc_old _ _ _ (by rw [World.size_setCell]; exact hlz)).trans (hset HG.out _))
          have hbw := HBL.out.size
          have HB1 : Hid (Below w.heap.size w ((wr.setCell ⟨w.heap.size, k * 2 + 1, none⟩ (.int .i64 (dataAt l k : Nat))).alloc (.cells #[.slice p0 l[k].1 c0, .slice p1 l[k].2 c1, .slice p2 n2 c2, .slice p3 n3 c3] TO))) := Lib.hid ((HBL.out.setCell (Nat.le_refl _) _).alloc (by rw [World.size_setCell]; exact hbw) _)
          have HN := Lib.hid (HC.out.next hlt)
          have HBAD := Lib.hid (fun h => bad_data (l := l) (j := k + 1) h)
          clear hall e0 e1 e2 e3 hG1 HG hbw HBL
          generalize l[k] = x at *
          generalize hT1 : dataAt l (k + 1) = t1 at *
          by_cases hbig : 2097152 < t1
          · go_wp2
            refine bodyPost_ret (v := .tuple #[.slice none 0 0, .int .i64 0, .int .i64 6]) (by simp [results, Tryz.results68, go_sem]) rfl ?_
            exact ⟨HB1.out, .inr ⟨HBAD.out hbig, rfl⟩⟩
          · go_wp2
            exact ⟨⟨k + 1, by omega, by go_num, by rw [hT1, hs]; push_cast; rfl, by omega, HB1, _, HG2, HN⟩, by simp [intOf]; omega⟩
        · obtain rfl : k = l.length := by omega
          have hG := good_end hT
          have hE := dataAt_end l
          go_wp2
          refine bodyPost_ret (v := .tuple #[.slice (some ⟨w.heap.size, 0, none⟩) l.length l.length, .int .i64 (dataAt l l.length : Nat), .int .i64 0]) (by simp [results, Tryz.results68, go_sem]) rfl ?_
          refine ⟨HBL.out, .inl ⟨hG, _, _, by rw [hE], ⟨_, _, rfl, fun h0 => ⟨w.heap.size, 0, rfl, lt_heap HG.out, Nat.le_refl _, by unfold maxLen; omega, fun i hi => ?_⟩⟩⟩⟩
          rw [Nat.zero_add]
          exact ⟨(Lib.cell_of_heap HG.out _).trans (HC.out.2.1 i hi), (Lib.cell_of_heap HG.out _).trans (HC.out.2.2 i hi)⟩
theorem Layout_yes {w : World} {n₀ : Nat} {v : Value} {l : Sz} (hok : ok l = true) (hn : n₀ ≤ w.heap.size) (ho : ObAt n₀ w v l) (hm : l.length ≤ 65536) (hz : ∀ x ∈ l, x.1 ≤ 4294967296 ∧ x.2 ≤ 4294967296) :
    Calls Tryz.prog 68 #[v] w fun e w' => ∃ p c, e = .returned (.tuple #[.slice p l.length c, .int .i64 (dend l : Nat), .int .i64 0]) ∧ PlAt w'.heap.size w' (.slice p l.length c) l ∧ Below w.heap.size w w' := by
  refine (Layout_ hn ho hm hz).mono ?_
  rintro e w' ⟨hb, ⟨-, p, c, rfl, hp⟩ | ⟨h, -⟩⟩
  · exact ⟨p, c, rfl, hp, hb⟩
  · rw [hok] at h; cases h
theorem Layout_no {w : World} {n₀ : Nat} {v : Value} {l : Sz} (hok : ok l = false) (hn : n₀ ≤ w.heap.size) (ho : ObAt n₀ w v l) (hm : l.length ≤ 65536) (hz : ∀ x ∈ l, x.1 ≤ 4294967296 ∧ x.2 ≤ 4294967296) :
    Calls Tryz.prog 68 #[v] w fun e w' => e = .returned (.tuple #[.slice none 0 0, .int .i64 0, .int .i64 6]) ∧ Below w.heap.size w w' := by
  refine (Layout_ hn ho hm hz).mono ?_
  rintro e w' ⟨hb, ⟨h, -⟩ | ⟨-, rfl⟩⟩
  · rw [hok] at h; cases h
  · exact ⟨rfl, hb⟩
theorem big {l : Sz} (h : Small l) : ∀ x ∈ l, x.1 ≤ 4294967296 ∧ x.2 ≤ 4294967296 := fun x hx => by have := h x hx; omega
end LL
end Go.Proofs.YtlmblfkcmhgdaaaGreat
namespace Go.Proofs.YtlmblfkcmhgdaaaGreat
open Go.RowKit Go.ChangeShapes Go.WideShapes Go.ChangeAt Go.Deep Go.Joins
set_option linter.unusedVariables false
set_option linter.unusedSimpArgs false
namespace LP
open OO OJ OB LM LC
abbrev TP : TypeId := 104
section
variable {H : Type} {enc : TypeId × Value → H}
end
theorem wrap_mod (n : Int) : wrap64 n % 4294967296 = n % 4294967296 := by unfold wrap64; omega
/-- an address, as a word -/
def adr (t d sect n : Int) : Int := if sect = 1 then (t + 4 * n) % 4294967296 else if sect = 2 then (d + n) % 4294967296 else 0
theorem adr_bd (t d sect n : Int) : 0 ≤ adr t d sect n ∧ adr t d sect n < 4294967296 := by unfold adr; split; omega; split <;> omega
end LP
end Go.Proofs.YtlmblfkcmhgdaaaGreat
namespace Go.Proofs.YtlmblfkcmhgdaaaGreat
open Go.RowKit
set_option linter.unusedVariables false
set_option linter.unusedSimpArgs false
namespace LQ
open OO OJ LM LC LP
theorem mod_bd (n : Int) : 0 ≤ n % 4294967296 ∧ n % 4294967296 < 4294967296 := by omega
set_option maxRecDepth 100000 in
theorem address_ (a b s n : Int) (w : World) : Calls Tryz.prog 60 #[.agg #[.int .i64 a, .int .i64 b], .int .i64 s, .int .i64 n] w fun e w' => e = .returned (.int .u32 (adr a b s n)) ∧ Below w.heap.size w w' := by
  have hb1 := (Below.refl w.heap.size w).alloc (Nat.le_refl _) (.cells #[.int .i64 a, .int .i64 b] 104)
  have HB := Lib.hid hb1
  clear hb1
  by_cases h1 : s = 1
  · subst h1
    go_enter Tryz.func60, Tryz.ntmps60
    go_wp2_with (go_at_call 78; (with_reducible refine (of_ _ _).mono ?_); rintro e w' ⟨rfl, rfl⟩)
    go_ret
    exact ⟨ret_int (by unfold adr; rw [if_pos rfl]; have h1 := wrap_mod (a + wrap64 (4 * n)); have h2 := wrap_mod (4 * n); omega), HB.out⟩
  · have d1 : decide (s = 1) = false := decide_eq_false h1
    by_cases h2 : s = 2
    · subst h2
      go_enter Tryz.func60, Tryz.ntmps60
      go_wp2_with (go_at_call 78; (with_reducible refine (of_ _ _).mono ?_); rintro e w' ⟨rfl, rfl⟩)
      go_ret
      exact ⟨ret_int (by unfold adr; rw [if_neg h1, if_pos rfl]; have h1 := wrap_mod (b + n); omega), HB.out⟩
    · have d2 : decide (s = 2) = false := decide_eq_false h2
      go_enter Tryz.func60, Tryz.ntmps60
      go_wp2_with (fail)
      go_ret
      exact ⟨ret_int (by unfold adr; rw [if_neg h1, if_neg h2]), HB.out⟩
set_option maxRecDepth 100000 in
theorem Address_ (a b : Int) (s : SymV) (w : World) : Calls Tryz.prog 35 #[.agg #[.int .i64 a, .int .i64 b], .agg #[.string s.name, .int .i64 s.sect, .int .i64 s.val, .int .i64 s.frame, .bool s.glob]] w fun e w' => e = .returned (.int .u32 (adr a b s.sect s.val)) ∧ Below w.heap.size w w' := by
  go_enter Tryz.func35, Tryz.ntmps35
  go_wp2_with (go_at_call 60; (with_reducible refine (address_ _ _ _ _ _).mono ?_); rintro e w1 ⟨rfl, hb⟩; have HB := Lib.hid hb; clear hb)
  go_ret
  exact ⟨rfl, ((((Below.refl _ _).alloc (Nat.le_refl _) _).alloc (by simp only [World.size_alloc]; omega) _).trans (HB.out.mono (by simp only [World.size_alloc]; omega)))⟩
set_option maxRecDepth 100000 in
theorem Where_ (a b : Int) (s : RelV) (w : World) : Calls Tryz.prog 73 #[.agg #[.int .i64 a, .int .i64 b], .agg #[.int .i64 s.sect, .int .i64 s.place, .int .i64 s.kind, .int .i64 s.sym, .int .i64 s.add]] w fun e w' => e = .returned (.int .u32 (adr a b s.sect s.place)) ∧ Below w.heap.size w w' := by
  go_enter Tryz.func73, Tryz.ntmps73
  go_wp2_with (go_at_call 60; (with_reducible refine (address_ _ _ _ _ _).mono ?_); rintro e w1 ⟨rfl, hb⟩; have HB := Lib.hid hb; clear hb)
  go_ret
  exact ⟨rfl, ((((Below.refl _ _).alloc (Nat.le_refl _) _).alloc (by simp only [World.size_alloc]; omega) _).trans (HB.out.mono (by simp only [World.size_alloc]; omega)))⟩
end LQ
end Go.Proofs.YtlmblfkcmhgdaaaGreat
namespace Go.Proofs.YtlmblfkcmhgdaaaGreat
open Go.RowKit
set_option linter.unusedVariables false
set_option linter.unusedSimpArgs false
namespace LV
theorem newd (w : World) (o : Obj) (k : Nat) (h : k = w.heap.size) : (w.alloc o).drew.heap[k]? = some o := by subst h; exact heap_alloc_new w o
theorem own_form {w : World} {B : Nat} {e : TypeId} {z n : Nat} {v : Value} {xs : List Value} (h : w.ownsRow B e z v n xs) : ∃ p c, v = .slice p n c := by
  rcases h.2 with ⟨rfl, rfl⟩ | ⟨g, cap, cur, rfl, _⟩
  · exact ⟨_, _, rfl⟩
  · exact ⟨_, _, rfl⟩
section
variable {P : Program} (w : World)
theorem run_append_sl (t ty : TypeId) (base : Nat) (e : TypeId) (i : TypeInfo) (z : Value) (size bytes : Nat) (ht : P.underlying t = some (.slice e)) (hi : P.info? e = some i) (hz : i.zero = some z)
    (hsize : i.size = size) (hby : i.bytes = bytes) (hzs : z.cells.size = size) (hsz : 0 < size)
    (v : Value) (n : Nat) (xs : List Value) (hown : w.ownsRow base e size v n xs) (p : Option Addr) (m c : Nat) (news : List Value) (hl : news.length = m * size)
    (hnews : 0 < m → ∃ b o, p = some ⟨b, o, none⟩ ∧ ∀ j u, news[j]? = some u → w.cell? ⟨b, o + j, none⟩ = some u) (h1 : ∀ u ∈ news, u.oneCell' = true)
    (h63 : n + m ≤ maxLen) (hbytes : (n + m) * bytes ≤ 140737488355328) (hbase : base ≤ w.heap.size) :
    ∃ v' w', (Builtin.append_ #[t, t] ty #[v, .slice p m c]).run P w = .ok v' w' ∧ w'.ownsRow base e size v' (n + m) (xs ++ news) ∧ w.grownBy w' v.ownBlock ∧ (v'.ownBlock = v.ownBlock ∨ v'.ownBlock = some w.heap.size) := by
  cases p with
  | none =>
    have hm : m = 0 := by
      rcases Nat.eq_zero_or_pos m with h | h
      · exact h
      · obtain ⟨b, o, e, -⟩ := hnews h
        cases e
    subst hm
    have hn : news = [] := List.eq_nil_of_length_eq_zero (by simpa using hl)
    subst hn
    refine ⟨v, w, ?_, by simpa using hown, ⟨rfl, rfl, rfl, Nat.le_refl _, fun _ _ _ => rfl⟩, .inl rfl⟩
    rcases hown.2 with ⟨rfl, rfl⟩ | ⟨g, cap, cur, rfl, _, _, hnc, _⟩
    · simp [Builtin.append_, run_underlying ht, sizeOf, typeInfo, hi, Builtin.lenOf, Builtin.firstCells]
    · simp [Builtin.append_, run_underlying ht, sizeOf, typeInfo, hi, Builtin.lenOf, Builtin.firstCells, hnc, storeCells]
  | some a =>
    obtain ⟨v', w', hr, h2, h3, _, h5⟩ := run_append_own_at (P := P) w base t ty e i z size bytes ht hi hz hsize hby hzs hsz v n xs hown a m c news hl (fun j u hj => by
      have hj2 : j < m * size := by have := (List.getElem?_eq_some_iff.1 hj).1; omega
      have hm : 0 < m := by
        rcases Nat.eq_zero_or_pos m with h | h
        · subst h; omega
        · exact h
      obtain ⟨b, o, e, hc⟩ := hnews hm
      cases e
      rw [OO.add_plain]
      exact hc j u hj) h1 h63 hbytes hbase
    exact ⟨v', w', hr, h2, h3, h5⟩
/-- the same at a step of a region that draws its order -/
theorem step_append_sl {ops : Array Oper} {o : Oper} {a : Act} {K : Act → World → Prop} {Q : Exit → Act → World → Prop} {E : Prop} (hw : Region.wanted o (yielded ops a.tmps) = true) (s x : Operand) (t : TypeId)
    (ho : o.op = .call { callee := .builtin .append, args := #[s, x], argTypes := #[t, t] })
    (base : Nat) (e : TypeId) (i : TypeInfo) (z : Value) (size bytes : Nat) (ht : P.underlying t = some (.slice e)) (hi : P.info? e = some i) (hz : i.zero = some z)
    (hsize : i.size = size) (hby : i.bytes = bytes) (hzs : z.cells.size = size) (hsz : 0 < size)
    (v : Value) (n : Nat) (xs : List Value) (hs : a.eval s = v) (hown : w.ownsRow base e size v n xs)
    (p : Option Addr) (m c : Nat) (news : List Value) (hx : a.eval x = .slice p m c) (hl : news.length = m * size)
    (hnews : 0 < m → ∃ b o, p = some ⟨b, o, none⟩ ∧ ∀ j u, news[j]? = some u → w.cell? ⟨b, o + j, none⟩ = some u) (h1 : ∀ u ∈ news, u.oneCell' = true)
    (h63 : n + m ≤ maxLen) (hbytes : (n + m) * bytes ≤ 140737488355328) (hbase : base ≤ w.heap.size)
    (h : ∀ p' c' w', w'.ownsRow base e size (.slice p' (n + m) c') (n + m) (xs ++ news) → w.grownBy w' v.ownBlock → ((Value.slice p' (n + m) c').ownBlock = v.ownBlock ∨ (Value.slice p' (n + m) c').ownBlock = some w.heap.size) → K (a.put o.dst (.slice p' (n + m) c')) w') :
    if Region.wanted o (yielded ops a.tmps) = true then Oper.wp P o a w K Q else E := by
  rw [if_pos hw]
  obtain ⟨v', w', hr, h2, h3, h4⟩ := run_append_sl (P := P) w t o.type base e i z size bytes ht hi hz hsize hby hzs hsz v n xs hown p m c news hl hnews h1 h63 hbytes hbase
  unfold Oper.wp execOp
  simp only [ho, resolve, invoke, builtin, Sem.run_bind, Sem.run_pure, Result.andThen_ok, List.map_toArray, List.map_cons, List.map_nil, hs, hx, hr]
  obtain ⟨p', c', rfl⟩ := own_form h2
  exact h p' c' w' h2 h3 h4
theorem step_append_sl0 {ops : Array Oper} {o : Oper} {a : Act} {K : Act → World → Prop} {Q : Exit → Act → World → Prop} {E : Prop} (hgd : o.guard = none) (s x : Operand) (t : TypeId)
    (ho : o.op = .call { callee := .builtin .append, args := #[s, x], argTypes := #[t, t] })
    (base : Nat) (e : TypeId) (i : TypeInfo) (z : Value) (size bytes : Nat) (ht : P.underlying t = some (.slice e)) (hi : P.info? e = some i) (hz : i.zero = some z)
    (hsize : i.size = size) (hby : i.bytes = bytes) (hzs : z.cells.size = size) (hsz : 0 < size)
    (k : Nat) (hs : a.eval s = .slice (some ⟨k, 0, none⟩) 0 0) (hown : w.ownsRow base e size (.slice (some ⟨k, 0, none⟩) 0 0) 0 [])
    (p : Option Addr) (m c : Nat) (news : List Value) (hx : a.eval x = .slice p m c) (hl : news.length = m * size)
    (hnews : 0 < m → ∃ b o, p = some ⟨b, o, none⟩ ∧ ∀ j u, news[j]? = some u → w.cell? ⟨b, o + j, none⟩ = some u) (h1 : ∀ u ∈ news, u.oneCell' = true)
    (h63 : m ≤ maxLen) (hbytes : m * bytes ≤ 140737488355328) (hbase : base ≤ w.heap.size)
    (h : ∀ p' c' w', w'.ownsRow base e size (.slice p' m c') m news → w.grownBy w' (some k) → K (a.put o.dst (.slice p' m c')) w') :
    if Region.wanted o (yielded ops a.tmps) = true then Oper.wp P o a w K Q else E :=
  step_append_sl w (by simp [Region.wanted, hgd]) s x t ho base e i z size bytes ht hi hz hsize hby hzs hsz _ 0 [] hs hown p m c news hx hl hnews h1 (by rw [Nat.zero_add]; exact h63) (by rw [Nat.zero_add]; exact hbytes) hbase (by
    intro p' c' w' h1 h2 h3
    simp only [Nat.zero_add, List.nil_append] at h1 ⊢
    exact h p' c' w' h1 h2)
end
end LV
namespace LV
end LV
end Go.Proofs.YtlmblfkcmhgdaaaGreat
