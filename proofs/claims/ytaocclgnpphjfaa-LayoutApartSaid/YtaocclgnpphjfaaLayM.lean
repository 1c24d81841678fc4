/-
  Where texts and data stand, plainly: sums of sizes. No condition.
-/
import Derived.Test.YtaocclgnpphjfaaProg
namespace Go.Proofs.Ytaocclgnpphjfaa
set_option linter.unusedVariables false
set_option linter.unusedSimpArgs false
namespace LM
abbrev Sz := List (Nat × Nat)
def ts (l : Sz) : Nat := (l.map Prod.fst).sum
def ds (l : Sz) : Nat := (l.map Prod.snd).sum
def line (n : Nat) : Nat := (n + 7) / 8 * 8
def tend (l : Sz) : Nat := 12 + 4 * ts l
def dend (l : Sz) : Nat := line (tend l) + ds l
def textAt (l : Sz) (j : Nat) : Nat := 12 + 4 * ts (l.take j)
def dataAt (l : Sz) (j : Nat) : Nat := line (tend l) + ds (l.take j)
def ok (l : Sz) : Bool := decide (dend l ≤ 2097152)
theorem ts_nil : ts [] = 0 := rfl
theorem ds_nil : ds [] = 0 := rfl
theorem ts_app (a b : Sz) : ts (a ++ b) = ts a + ts b := by unfold ts; rw [List.map_append, List.sum_append]
theorem ds_app (a b : Sz) : ds (a ++ b) = ds a + ds b := by unfold ds; rw [List.map_append, List.sum_append]
theorem take_one {l : Sz} {j : Nat} (h : j < l.length) : l.take (j + 1) = l.take j ++ [l[j]] := by rw [List.take_succ_eq_append_getElem h]
theorem ts_succ {l : Sz} {j : Nat} (h : j < l.length) : ts (l.take (j + 1)) = ts (l.take j) + l[j].1 := by rw [take_one h, ts_app]; simp [ts]
theorem ds_succ {l : Sz} {j : Nat} (h : j < l.length) : ds (l.take (j + 1)) = ds (l.take j) + l[j].2 := by rw [take_one h, ds_app]; simp [ds]
theorem ts_all (l : Sz) : ts (l.take l.length) = ts l := by rw [List.take_length]
theorem ds_all (l : Sz) : ds (l.take l.length) = ds l := by rw [List.take_length]
theorem ts_le (l : Sz) (j : Nat) : ts (l.take j) ≤ ts l := by
  have := ts_app (l.take j) (l.drop j)
  rw [List.take_append_drop] at this
  omega
theorem ds_le (l : Sz) (j : Nat) : ds (l.take j) ≤ ds l := by
  have := ds_app (l.take j) (l.drop j)
  rw [List.take_append_drop] at this
  omega
theorem ts_mono (l : Sz) {i j : Nat} (h : i ≤ j) : ts (l.take i) ≤ ts (l.take j) := by
  have := ts_le (l.take j) i
  rwa [List.take_take, Nat.min_eq_left h] at this
theorem ds_mono (l : Sz) {i j : Nat} (h : i ≤ j) : ds (l.take i) ≤ ds (l.take j) := by
  have := ds_le (l.take j) i
  rwa [List.take_take, Nat.min_eq_left h] at this
theorem line_ge (n : Nat) : n ≤ line n ∧ line n ≤ n + 7 ∧ line n % 8 = 0 := by unfold line; omega
theorem line_lim {n : Nat} (h : n ≤ 2097152) : line n ≤ 2097152 := by unfold line; omega
theorem textAt_succ {l : Sz} {j : Nat} (h : j < l.length) : textAt l (j + 1) = textAt l j + 4 * l[j].1 := by unfold textAt; rw [ts_succ h]; omega
theorem dataAt_succ {l : Sz} {j : Nat} (h : j < l.length) : dataAt l (j + 1) = dataAt l j + l[j].2 := by unfold dataAt; rw [ds_succ h]; omega
theorem textAt_zero (l : Sz) : textAt l 0 = 12 := rfl
theorem dataAt_zero (l : Sz) : dataAt l 0 = line (tend l) := rfl
theorem textAt_end (l : Sz) : textAt l l.length = tend l := by unfold textAt tend; rw [ts_all]
theorem dataAt_end (l : Sz) : dataAt l l.length = dend l := by unfold dataAt dend; rw [ds_all]
theorem textAt_le (l : Sz) (j : Nat) : 12 ≤ textAt l j ∧ textAt l j ≤ tend l := by have := ts_le l j; unfold textAt tend; omega
theorem dataAt_le (l : Sz) (j : Nat) : line (tend l) ≤ dataAt l j ∧ dataAt l j ≤ dend l := by have := ds_le l j; unfold dataAt dend; omega
theorem textAt_mono (l : Sz) {i j : Nat} (h : i ≤ j) : textAt l i ≤ textAt l j := by have := ts_mono l h; unfold textAt; omega
theorem dataAt_mono (l : Sz) {i j : Nat} (h : i ≤ j) : dataAt l i ≤ dataAt l j := by have := ds_mono l h; unfold dataAt; omega
theorem tend_le (l : Sz) : 12 ≤ tend l ∧ tend l ≤ line (tend l) ∧ line (tend l) ≤ dend l := by
  have := line_ge (tend l)
  unfold dend
  unfold tend at *
  omega
/-- a text's end beyond the limit: no image -/
theorem bad_text {l : Sz} {j : Nat} (h : 2097152 < textAt l j) : ok l = false := by
  have h1 := (textAt_le l j).2
  have h2 := tend_le l
  unfold ok
  rw [decide_eq_false (by omega)]
theorem bad_data {l : Sz} {j : Nat} (h : 2097152 < dataAt l j) : ok l = false := by
  have h1 := (dataAt_le l j).2
  unfold ok
  rw [decide_eq_false (by omega)]
theorem good_end {l : Sz} (h : dataAt l l.length ≤ 2097152) : ok l = true := by
  rw [dataAt_end] at h
  unfold ok
  rw [decide_eq_true h]
/-- texts and data: two rows of numbers -/
def pl (l : Sz) : List (Int × Int) := (List.range l.length).map fun j => ((textAt l j : Int), (dataAt l j : Int))
theorem pl_length (l : Sz) : (pl l).length = l.length := by simp [pl]
theorem pl_get {l : Sz} {j : Nat} (h : j < l.length) : (pl l)[j]? = some ((textAt l j : Int), (dataAt l j : Int)) := by
  unfold pl
  rw [List.getElem?_map, List.getElem?_range h]; rfl
/-- the start, all words and all data so far -/
def sumAt (l : Sz) (k : Nat) : Nat := 12 + 4 * ts (l.take k) + ds (l.take k)
theorem sumAt_zero (l : Sz) : sumAt l 0 = 12 := rfl
theorem sumAt_succ {l : Sz} {k : Nat} (h : k < l.length) : sumAt l (k + 1) = sumAt l k + (4 * l[k].1 + l[k].2) := by unfold sumAt; rw [ts_succ h, ds_succ h]; omega
theorem sumAt_end (l : Sz) : sumAt l l.length ≤ dend l ∧ dend l ≤ sumAt l l.length + 7 := by
  have := line_ge (tend l)
  unfold sumAt dend
  rw [ts_all, ds_all]
  unfold tend at *
  omega
def Small (l : Sz) : Prop := ∀ x ∈ l, x.1 ≤ 65535 ∧ x.2 ≤ 65535
theorem ts_bd : ∀ {l : Sz}, Small l → ts l ≤ 65535 * l.length ∧ ds l ≤ 65535 * l.length
  | [], _ => by simp [ts, ds]
  | x :: l, h => by
    have h1 := h x (List.mem_cons_self ..)
    have h2 := ts_bd (l := l) fun y hy => h y (List.mem_cons_of_mem _ hy)
    have e1 : ts (x :: l) = x.1 + ts l := by simp [ts]
    have e2 : ds (x :: l) = x.2 + ds l := by simp [ds]
    rw [e1, e2, List.length_cons]
    omega
theorem small_take {l : Sz} (h : Small l) (k : Nat) : Small (l.take k) := fun x hx => h x (List.mem_of_mem_take hx)
theorem sumAt_bd {l : Sz} (h : Small l) (hm : l.length ≤ 12) (k : Nat) : sumAt l k ≤ 3932112 := by
  have h1 := ts_bd (small_take h k)
  have h2 : (l.take k).length ≤ 12 := by rw [List.length_take]; omega
  unfold sumAt
  omega
theorem dend_bd {l : Sz} (h : Small l) (hm : l.length ≤ 12) : tend l ≤ 3145692 ∧ dend l ≤ 3932119 ∧ line (tend l) ≤ 3932119 := by
  have h1 := ts_bd h
  have h2 := sumAt_bd h hm l.length
  have h3 := (sumAt_end l).2
  have h4 := tend_le l
  unfold tend at *
  omega
/-! ### an object more -/
theorem textAt_app (l m : Sz) {j : Nat} (h : j ≤ l.length) : textAt (l ++ m) j = textAt l j := by unfold textAt; rw [List.take_append_of_le_length h]
theorem dataAt_app (l m : Sz) {j : Nat} (h : j ≤ l.length) : dataAt (l ++ m) j + line (tend l) = dataAt l j + line (tend (l ++ m)) := by unfold dataAt; rw [List.take_append_of_le_length h]; omega
theorem tend_app (l m : Sz) : tend l ≤ tend (l ++ m) := by unfold tend; rw [ts_app]; omega
theorem line_mono {a b : Nat} (h : a ≤ b) : line a ≤ line b := by unfold line; omega
theorem dend_app (l m : Sz) : dend l ≤ dend (l ++ m) := by
  have := line_mono (tend_app l m)
  unfold dend
  rw [ds_app]
  omega
theorem ok_app {l m : Sz} (h : ok (l ++ m) = true) : ok l = true := by
  have := dend_app l m
  unfold ok at *
  simp only [decide_eq_true_eq] at *
  omega
theorem ok_lim {l : Sz} (h : ok l = true) : dend l ≤ 2097152 := by unfold ok at h; simpa using h
theorem not_ok {l : Sz} (h : ok l = false) : 2097152 < dend l := by unfold ok at h; simp at h; omega
end LM
end Go.Proofs.Ytaocclgnpphjfaa
