/-
  Bytes that no relocation is of, plainly: they stand in the image as they were. It speaks of no program.
-/
import Derived.Test.YtlmblfkcmhgdaaaGreatLinkQe
import Derived.Test.YtlmblfkcmhgdaaaGreatMachQb
namespace Go.Proofs.YtlmblfkcmhgdaaaGreat
open Go.RowKit
set_option linter.unusedVariables false
set_option linter.unusedSimpArgs false
namespace KY
open OO OJ RsM RsY LM LP PM RsB KB KM KN KX
def fromOf (part : Nat) (r : RelV) : Int := if part = 1 then 4 * r.place else r.place
def hit (part : Nat) (r : RelV) (m : Nat) (x : Nat) : Bool := decide (r.sect = (part : Int) ∧ fromOf part r ≤ (x : Int) ∧ (x : Int) < fromOf part r + m)
def tch (part : Nat) (rs : List RelV) (n : Nat) (x : Nat) : Bool := (rs.take n).any fun r => hit part r 4 x
theorem tch_zero (part : Nat) (rs : List RelV) (x : Nat) : tch part rs 0 x = false := rfl
theorem tch_succ {part : Nat} {rs : List RelV} {n : Nat} (h : n < rs.length) (x : Nat) : tch part rs (n + 1) x = (tch part rs n x || hit part rs[n] 4 x) := by
  unfold tch
  rw [List.take_succ_eq_append_getElem h, List.any_append]
  simp
theorem hit_zero (part : Nat) (r : RelV) (x : Nat) : hit part r 0 x = false := by
  unfold hit
  exact decide_eq_false (by omega)
theorem hit_other {part : Nat} {r : RelV} (h : r.sect ≠ (part : Int)) (m x : Nat) : hit part r m x = false := by
  unfold hit
  exact decide_eq_false fun e => h e.1
theorem hit_succ {part : Nat} {r : RelV} (h : r.sect = (part : Int)) {m x f : Nat} (hf : fromOf part r = (f : Int)) : hit part r (m + 1) x = (hit part r m x || decide (x = f + m)) := by
  unfold hit
  rw [hf, Bool.eq_iff_iff]
  simp only [decide_eq_true_eq, Bool.or_eq_true]
  omega
theorem tch_no {part : Nat} {rs : List RelV} {x : Nat} (h : tch part rs rs.length x = false) {k : Nat} {r : RelV} (hk : rs[k]? = some r) : hit part r 4 x = false := by
  unfold tch at h
  rw [List.take_length, List.any_eq_false] at h
  have := h r (List.mem_of_getElem? hk)
  simpa using this
def bOf (part : Nat) (o : ObjV) : List Int := if part = 1 then MB.bts o.ws else o.ds
def atOf (objs : List ObjV) (part i : Nat) : Nat := if part = 1 then textAt (szL objs) i else dataAt (szL objs) i
theorem bOf_len (part : Nat) (o : ObjV) : (bOf part o).length = if part = 1 then 4 * o.ws.length else o.ds.length := by
  unfold bOf
  split
  · exact MB.bts_len _
  · rfl
theorem at_succ {objs : List ObjV} {part i : Nat} (h : i < objs.length) : atOf objs part (i + 1) = atOf objs part i + (bOf part (obAt objs i)).length := by
  obtain ⟨a1, a2, -⟩ := areas h
  rw [bOf_len]
  unfold atOf
  split
  · exact a1
  · exact a2
theorem at_in {objs : List ObjV} {part i : Nat} (h : i < objs.length) : atOf objs part i + (bOf part (obAt objs i)).length ≤ dend (szL objs) := by
  rw [← at_succ h]
  obtain ⟨a1, a2, a3, a4, a5, a6⟩ := areas h
  have m := dataAt_mono (szL objs) (Nat.zero_le (i + 1))
  unfold atOf
  split <;> omega
/-- a relocation's place within its object's bytes -/
theorem rel_from {objs : List ObjV} (hc : resCode objs = 0) {i k : Nat} (hi : i < objs.length) (hk : k < (obAt objs i).rs.length) : 0 ≤ (relV objs i k).place ∧ (relV objs i k).place ≤ 65536 ∧ ∀ part, (relV objs i k).sect = (part : Nat) → part = 1 ∨ part = 2 → ∃ f : Nat, fromOf part (relV objs i k) = f ∧ f + 4 ≤ (bOf part (obAt objs i)).length := by
  have hr := rel_place (show ORl.relOk (obAt objs i).ws (obAt objs i).ds.length (obAt objs i).ss.length (relV objs i k) = true from rel_ok (KN.chk_at hc hi) hk)
  have hlen : (obAt objs i).ws.length ≤ 65536 ∧ (obAt objs i).ds.length ≤ 65536 := by
    have h := KN.chk_at hc hi
    unfold OCk.chk OCk.lensB at h
    simp only [Bool.and_eq_true, decide_eq_true_eq] at h
    exact ⟨h.1.1.1, h.1.1.2.1⟩
  generalize relV objs i k = r at *
  refine ⟨?_, ?_, fun part hp h12 => ?_⟩
  · rcases hr with ⟨-, h, -⟩ | ⟨-, -, h, -⟩ <;> exact h
  · rcases hr with ⟨-, -, h, -⟩ | ⟨-, -, -, h⟩ <;> omega
  · rw [bOf_len]
    unfold fromOf
    rcases h12 with rfl | rfl
    · rcases hr with ⟨b0, b1, b2, -⟩ | ⟨b0, -⟩
      · exact ⟨(4 * r.place).toNat, by rw [if_pos rfl]; omega, by rw [if_pos rfl]; omega⟩
      · omega
    · rcases hr with ⟨b0, -⟩ | ⟨b0, -, b1, b2⟩
      · omega
      · exact ⟨r.place.toNat, by rw [if_neg (by decide)]; omega, by rw [if_neg (by decide)]; omega⟩
theorem was_get {objs : List ObjV} {part i x : Nat} (h12 : part = 1 ∨ part = 2) (hi : i < objs.length) (hx : x < (bOf part (obAt objs i)).length) : (laid objs)[atOf objs part i + x]? = (bOf part (obAt objs i))[x]? := by
  rw [bOf_len] at hx
  unfold atOf bOf
  rcases h12 with rfl | rfl
  · simp only [if_true] at hx ⊢
    rw [laid_text hi hx]
    have hj : x / 4 < (obAt objs i).ws.length := by omega
    have h1 := MP.bts_get (obAt objs i).ws (x / 4) (x % 4) (by omega) _ (List.getElem?_eq_getElem hj)
    rw [show 4 * (x / 4) + x % 4 = x by omega] at h1
    rw [h1, List.getD_eq_getElem?_getD, List.getElem?_eq_getElem hj]
    simp only [Option.getD_some]
    have hr : x % 4 = 0 ∨ x % 4 = 1 ∨ x % 4 = 2 ∨ x % 4 = 3 := by omega
    unfold MB.bs
    rcases hr with e | e | e | e <;> rw [e] <;> simp
  · have e : ¬ (2 : Nat) = 1 := by decide
    simp only [e, if_false] at hx ⊢
    exact laid_data hi hx
/-- what no relocation is of stands as it was -/
theorem kept {objs : List ObjV} (hc : resCode objs = 0) (hM : dend (szL objs) ≤ 2097152) {part i x : Nat} (h12 : part = 1 ∨ part = 2) (hi : i < objs.length) (hx : x < (bOf part (obAt objs i)).length) (ht : tch part (obAt objs i).rs (obAt objs i).rs.length x = false) :
    (linkS objs).1[atOf objs part i + x]? = (bOf part (obAt objs i))[x]? := by
  rw [← was_get h12 hi hx]
  have hx' := hx
  rw [bOf_len] at hx'
  obtain ⟨a1, a2, a3, a4, a5, a6⟩ := areas hi
  refine links_far ?_ fun i' hi' k' hk' => ?_
  · unfold atOf
    split <;> omega
  · obtain ⟨w1, -⟩ := where_in hc hM hi' hk'
    unfold Clear
    rw [w1, Int.toNat_natCast]
    obtain ⟨b1, b2, b3, b4, b5, b6⟩ := areas hi'
    have hr := rel_place (show ORl.relOk (obAt objs i').ws (obAt objs i').ds.length (obAt objs i').ss.length (relV objs i' k') = true from rel_ok (KN.chk_at hc hi') hk')
    have hno : i' = i → hit part (relV objs i' k') 4 x = false := fun e => by
      subst e
      exact tch_no ht (rel_get hk')
    have m1 : i' < i → textAt (szL objs) (i' + 1) ≤ textAt (szL objs) i ∧ dataAt (szL objs) (i' + 1) ≤ dataAt (szL objs) i := fun h => ⟨textAt_mono _ (by omega), dataAt_mono _ (by omega)⟩
    have m2 : i < i' → textAt (szL objs) (i + 1) ≤ textAt (szL objs) i' ∧ dataAt (szL objs) (i + 1) ≤ dataAt (szL objs) i' := fun h => ⟨textAt_mono _ (by omega), dataAt_mono _ (by omega)⟩
    unfold whereN atOf
    unfold hit fromOf at hno
    rcases h12 with rfl | rfl
    · simp only [if_true] at hx' hno ⊢
      rcases hr with ⟨c0, c1, c2, -⟩ | ⟨c0, -, c1, c2⟩
      · rw [if_pos c0]
        rcases Nat.lt_trichotomy i' i with h | h | h
        · have := m1 h; omega
        · have hno := of_decide_eq_false (hno h)
          subst h
          omega
        · have := m2 h; omega
      · rw [if_neg (by omega)]; left; omega
    · have e : ¬ (2 : Nat) = 1 := by decide
      simp only [e, if_false] at hx' hno ⊢
      rcases hr with ⟨c0, c1, c2, -⟩ | ⟨c0, -, c1, c2⟩
      · rw [if_pos c0]; right; omega
      · rw [if_neg (by omega)]
        rcases Nat.lt_trichotomy i' i with h | h | h
        · have := m1 h; omega
        · have hno := of_decide_eq_false (hno h)
          subst h
          omega
        · have := m2 h; omega
theorem ds8 {objs : List ObjV} (hc : resCode objs = 0) : ds (szL objs) % 8 = 0 := by
  have h : ∀ l : List ObjV, (∀ o ∈ l, OCk.chk o = true) → ds (szL l) % 8 = 0 := by
    intro l
    induction l with
    | nil => intro _; rfl
    | cons o l ih =>
      intro hl
      have h1 := ih fun x hx => hl x (List.mem_cons_of_mem _ hx)
      have h2 := hl o (List.mem_cons_self ..)
      unfold OCk.chk OCk.lensB at h2
      simp only [Bool.and_eq_true, decide_eq_true_eq] at h2
      have e : ds (szL (o :: l)) = o.ds.length + ds (szL l) := by simp [szL, ds]
      rw [e]
      omega
  exact h objs (chk_mem hc)
theorem line_dend {objs : List ObjV} (hc : resCode objs = 0) : line (dend (szL objs)) = dend (szL objs) := by
  have h := ds8 hc
  have h2 := (line_ge (tend (szL objs))).2.2
  have h3 : dend (szL objs) = line (tend (szL objs)) + ds (szL objs) := rfl
  unfold line at *
  omega
theorem and8 (N : Nat) (h : N < 18446744073709551616) : N &&& 18446744073709551608 = N / 8 * 8 := by
  have e1 : (18446744073709551608 : Nat) = (2 ^ 61 - 1) <<< 3 := by decide
  have e2 : N / 8 * 8 = (N >>> 3) <<< 3 := by rw [Nat.shiftLeft_eq, Nat.shiftRight_eq_div_pow]
  rw [e1, e2]
  apply Nat.eq_of_testBit_eq
  intro i
  rw [Nat.testBit_and, Nat.testBit_shiftLeft, Nat.testBit_shiftLeft, Nat.testBit_shiftRight, Nat.testBit_two_pow_sub_one]
  by_cases h3 : 3 ≤ i
  · rw [show 3 + (i - 3) = i by omega]
    by_cases h4 : i - 3 < 61
    · simp [h3, h4]
    · have : N.testBit i = false := Nat.testBit_lt_two_pow (Nat.lt_of_lt_of_le h (by
        calc 18446744073709551616 = 2 ^ 64 := by decide
          _ ≤ 2 ^ i := Nat.pow_le_pow_right (by decide) (by omega)))
      simp [this]
  · simp [h3]
theorem bits8 (N : Nat) (h : N < 4611686018427387904) : bits .andNot .i64 (N : Int) 7 = ((N / 8 * 8 : Nat) : Int) := by
  have e : (BitVec.ofInt 64 (N : Int)).toNat = N := by
    rw [BitVec.toNat_ofInt]
    omega
  show IntKind.i64.wrap ((BitVec.ofInt 64 (N : Int) &&& ~~~ BitVec.ofInt 64 7).toNat : Int) = _
  rw [BitVec.toNat_and, e, show (~~~ BitVec.ofInt 64 7).toNat = 18446744073709551608 by decide, and8 N (by omega)]
  exact IntWalk.i64_in ((N / 8 * 8 : Nat) : Int) (by omega)
theorem line_bits (n : Nat) (hn : n ≤ 4194304) : bits .andNot .i64 ((n : Int) + 7) 7 = (line n : Nat) := by
  have := bits8 (n + 7) (by omega)
  rw [show ((n + 7 : Nat) : Int) = (n : Int) + 7 by omega] at this
  rw [this]; rfl
end KY
end Go.Proofs.YtlmblfkcmhgdaaaGreat
