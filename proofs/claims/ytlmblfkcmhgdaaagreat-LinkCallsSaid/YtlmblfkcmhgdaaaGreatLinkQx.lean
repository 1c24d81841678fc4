/-
  Which bytes stand where in an image, plainly: texts, data, and what no relocation is of; errors are those of what is too far. It speaks of no program.
  Objects in another order: what names mean of them, and how long their image is. It speaks of no program.
  The cells of objects, one by one; objects turned round in memory. Conditions: those that are written at each.
  What relocations come to, plainly: if nothing is too far, each word is in the end what its relocation makes of it. It speaks of no program.
-/
import Derived.Test.YtlmblfkcmhgdaaaGreatLinkQa
import Derived.Test.YtlmblfkcmhgdaaaGreatLayQa
import Derived.Deep.RegionHeld3
namespace Go.Proofs.YtlmblfkcmhgdaaaGreat
open Go.RowKit
set_option linter.unusedVariables false
set_option linter.unusedSimpArgs false
namespace KX
open OO OJ RsM RsY LM LP PM RsB KB KM KN OCk ORl OPt OU
/-! ### laid -/
theorem areas {objs : List ObjV} {i : Nat} (h : i < objs.length) : textAt (szL objs) (i + 1) = textAt (szL objs) i + 4 * (obAt objs i).ws.length ∧ dataAt (szL objs) (i + 1) = dataAt (szL objs) i + (obAt objs i).ds.length ∧ textAt (szL objs) (i + 1) ≤ dataAt (szL objs) 0 ∧ 12 ≤ textAt (szL objs) i ∧ dataAt (szL objs) 0 ≤ dataAt (szL objs) i ∧ dataAt (szL objs) (i + 1) ≤ dend (szL objs) := by
  have h1 := textAt_succ (l := szL objs) (j := i) (by rw [szL_length]; exact h)
  have h2 := dataAt_succ (l := szL objs) (j := i) (by rw [szL_length]; exact h)
  rw [szL_get h] at h1 h2
  have h3 := (textAt_le (szL objs) (i + 1)).2
  have h4 := tend_le (szL objs)
  exact ⟨h1, h2, by rw [dataAt_zero]; omega, (textAt_le _ _).1, dataAt_mono _ (Nat.zero_le _), (dataAt_le _ _).2⟩
theorem putO_get {objs : List ObjV} {i : Nat} (h : i < objs.length) {bs : List Int} (hb : bs.length = dend (szL objs)) (p : Nat) :
    (putO objs i bs)[p]? = if dataAt (szL objs) i ≤ p ∧ p < dataAt (szL objs) (i + 1) then (obAt objs i).ds[p - dataAt (szL objs) i]?
      else if textAt (szL objs) i ≤ p ∧ p < textAt (szL objs) (i + 1) then some ((obAt objs i).ws.getD ((p - textAt (szL objs) i) / 4) 0 / 256 ^ ((p - textAt (szL objs) i) % 4) % 256) else bs[p]? := by
  obtain ⟨h1, h2, h3, h4, h5, h6⟩ := areas h
  unfold putO
  rw [splice_get _ _ _ _ (by rw [putW_length, hb]; omega), putW_get _ _ _ _ _ (by rw [hb]; omega), ← h2, ← h1]
theorem layTo_get {objs : List ObjV} {bs : List Int} (hb : bs.length = dend (szL objs)) : ∀ n, n ≤ objs.length →
    (∀ p, p < 12 → (layTo objs bs n)[p]? = bs[p]?) ∧
    (∀ i, i < n → ∀ q, q < 4 * (obAt objs i).ws.length → (layTo objs bs n)[textAt (szL objs) i + q]? = some ((obAt objs i).ws.getD (q / 4) 0 / 256 ^ (q % 4) % 256)) ∧
    (∀ i, i < n → ∀ q, q < (obAt objs i).ds.length → (layTo objs bs n)[dataAt (szL objs) i + q]? = (obAt objs i).ds[q]?)
  | 0, _ => ⟨fun _ _ => rfl, fun i h => absurd h (by omega), fun i h => absurd h (by omega)⟩
  | n + 1, h => by
    obtain ⟨f1, f2, f3⟩ := layTo_get hb n (by omega)
    have hn : n < objs.length := by omega
    obtain ⟨h1, h2, h3, h4, h5, h6⟩ := areas hn
    have hl := layTo_len hb n (by omega)
    refine ⟨fun p hp => ?_, fun i hi q hq => ?_, fun i hi q hq => ?_⟩
    · rw [layTo, putO_get hn hl, if_neg (by omega), if_neg (by omega)]
      exact f1 p hp
    · obtain ⟨g1, g2, g3, g4, g5, g6⟩ := areas (objs := objs) (i := i) (by omega)
      have m1 := dataAt_mono (szL objs) (Nat.zero_le n)
      rw [layTo, putO_get hn hl, if_neg (by omega)]
      by_cases e : i = n
      · subst e
        rw [if_pos (by omega), show textAt (szL objs) i + q - textAt (szL objs) i = q by omega]
      · have m2 := textAt_mono (szL objs) (show i + 1 ≤ n by omega)
        rw [if_neg (by omega)]
        exact f2 i (by omega) q hq
    · obtain ⟨g1, g2, g3, g4, g5, g6⟩ := areas (objs := objs) (i := i) (by omega)
      have m1 := dataAt_mono (szL objs) (Nat.zero_le i)
      rw [layTo, putO_get hn hl]
      by_cases e : i = n
      · subst e
        rw [if_pos (by omega), show dataAt (szL objs) i + q - dataAt (szL objs) i = q by omega]
      · have m2 := dataAt_mono (szL objs) (show i + 1 ≤ n by omega)
        rw [if_neg (by omega), if_neg (by omega)]
        exact f3 i (by omega) q hq
theorem start_len (objs : List ObjV) : (putW (zeros (dend (szL objs))) 0 startL 3).length = dend (szL objs) := by rw [putW_length]; simp [zeros]
theorem laid_text {objs : List ObjV} {i q : Nat} (hi : i < objs.length) (hq : q < 4 * (obAt objs i).ws.length) : (laid objs)[textAt (szL objs) i + q]? = some ((obAt objs i).ws.getD (q / 4) 0 / 256 ^ (q % 4) % 256) :=
  (layTo_get (start_len objs) _ (Nat.le_refl _)).2.1 i hi q hq
theorem laid_data {objs : List ObjV} {i q : Nat} (hi : i < objs.length) (hq : q < (obAt objs i).ds.length) : (laid objs)[dataAt (szL objs) i + q]? = (obAt objs i).ds[q]? :=
  (layTo_get (start_len objs) _ (Nat.le_refl _)).2.2 i hi q hq
theorem laid_start {objs : List ObjV} {p : Nat} (hp : p < 12) : (laid objs)[p]? = some (startL.getD (p / 4) 0 / 256 ^ (p % 4) % 256) := by
  have hz := tend_le (szL objs)
  unfold laid
  rw [(layTo_get (start_len objs) _ (Nat.le_refl _)).1 p hp, putW_get _ _ _ _ _ (by simp [zeros]; omega), if_pos (by omega)]
  rfl
/-! ### what a relocation is not of -/
theorem stp_far {bs : List Int} {kd v p : Int} {x : Nat} (h : x < p.toNat ∨ p.toNat + 4 ≤ x) : (stp bs kd v p).1[x]? = bs[x]? := by
  unfold stp
  split
  · exact put4_far h
  · rfl
def Clear (objs : List ObjV) (i k x : Nat) : Prop := x < (whereOf objs i k).toNat ∨ (whereOf objs i k).toNat + 4 ≤ x
theorem relTo_far {objs : List ObjV} {i x : Nat} {s : St} : ∀ k, (∀ k', k' < k → Clear objs i k' x) → (relTo objs i s k).1[x]? = s.1[x]?
  | 0, _ => rfl
  | k + 1, h => by
    have ih := relTo_far (s := s) k fun k' hk => h k' (by omega)
    rw [relTo]
    split
    · rw [stp_far (h k (by omega))]; exact ih
    · exact ih
theorem allTo_far {objs : List ObjV} {x : Nat} {s : St} : ∀ i, (∀ i', i' < i → ∀ k', k' < (obAt objs i').rs.length → Clear objs i' k' x) → (allTo objs s i).1[x]? = s.1[x]?
  | 0, _ => rfl
  | i + 1, h => by
    rw [allTo, relTo_far _ fun k' hk => h i (by omega) k' hk]
    exact allTo_far i fun i' hi => h i' (by omega)
theorem links_far {objs : List ObjV} {x : Nat} (hx : 4 ≤ x) (h : ∀ i', i' < objs.length → ∀ k', k' < (obAt objs i').rs.length → Clear objs i' k' x) : (linkS objs).1[x]? = (laid objs)[x]? := by
  have h0 : (start0 objs).1[x]? = (laid objs)[x]? := by unfold start0; exact stp_far (.inr (by simpa using hx))
  unfold linkS
  split
  · rw [allTo_far _ h]; exact h0
  · exact h0
/-! ### relocations stand apart -/
theorem rel_get {objs : List ObjV} {i k : Nat} (hk : k < (obAt objs i).rs.length) : (obAt objs i).rs[k]? = some (relV objs i k) := by
  unfold relV; rw [List.getD_eq_getElem?_getD, List.getElem?_eq_getElem hk]; rfl
theorem rise_step {o : ObjV} (h : chk o = true) {k : Nat} (hk : k + 1 < o.rs.length) : riseB (o.rs.getD k noRel) (o.rs.getD (k + 1) noRel) = true := by
  unfold chk at h
  simp only [Bool.and_eq_true] at h
  have h2 := List.all_eq_true.1 h.2.2 (k + 1) (List.mem_range.2 hk)
  rw [relAt_succ hk] at h2
  simp only [Bool.and_eq_true] at h2
  rw [List.getD_eq_getElem?_getD, List.getD_eq_getElem?_getD, List.getElem?_eq_getElem hk, List.getElem?_eq_getElem (show k < o.rs.length by omega)]
  exact h2.1
theorem rise_far {o : ObjV} (h : chk o = true) {j : Nat} : ∀ d, j + d + 1 < o.rs.length → riseB (o.rs.getD j noRel) (o.rs.getD (j + d + 1) noRel) = true
  | 0, hd => rise_step h hd
  | d + 1, hd => by
    have h1 := rise_far h (j := j) d (by omega)
    have h2 := rise_step h (k := j + d + 1) (by omega)
    unfold riseB at h1 h2 ⊢
    simp only [decide_eq_true_eq] at h1 h2 ⊢
    rw [show j + (d + 1) + 1 = j + d + 1 + 1 by omega]
    omega
/-- a text's relocation: the places before it are clear of its word -/
theorem text_clear {objs : List ObjV} (hc : resCode objs = 0) (hM : dend (szL objs) ≤ 2097152) {i k : Nat} (hi : i < objs.length) (hk : k < (obAt objs i).rs.length) (h1 : (relV objs i k).sect = 1) {q : Nat} (hq : q < 4) :
    (∀ i', i' < i → ∀ k', k' < (obAt objs i').rs.length → Clear objs i' k' (whereN objs i k + q)) ∧ (∀ k', k' < k → Clear objs i k' (whereN objs i k + q)) := by
  have e0 : whereN objs i k = textAt (szL objs) i + 4 * (relV objs i k).place.toNat := by unfold whereN; rw [if_pos h1]
  obtain ⟨a1, a2, a3, a4, a5, a6⟩ := areas hi
  have hr := rel_place (show ORl.relOk (obAt objs i).ws (obAt objs i).ds.length (obAt objs i).ss.length (relV objs i k) = true from rel_ok (KN.chk_at hc hi) hk)
  have hp : 0 ≤ (relV objs i k).place ∧ (relV objs i k).place < (obAt objs i).ws.length := by
    rcases hr with ⟨-, b1, b2, -⟩ | ⟨b0, -⟩
    · exact ⟨b1, b2⟩
    · omega
  refine ⟨fun i' hi' k' hk' => ?_, fun k' hk' => ?_⟩
  · obtain ⟨w1, w2⟩ := where_in hc hM (i := i') (by omega) hk'
    unfold Clear
    rw [w1, Int.toNat_natCast]
    obtain ⟨b1, b2, b3, b4, b5, b6⟩ := areas (objs := objs) (i := i') (by omega)
    have m2 := textAt_mono (szL objs) (show i' + 1 ≤ i by omega)
    have hr' := rel_place (show ORl.relOk (obAt objs i').ws (obAt objs i').ds.length (obAt objs i').ss.length (relV objs i' k') = true from rel_ok (KN.chk_at hc (by omega)) hk')
    unfold whereN
    rw [if_pos h1]
    rcases hr' with ⟨c0, c1, c2, -⟩ | ⟨c0, -, c1, c2⟩
    · rw [if_pos c0]; right; omega
    · rw [if_neg (by omega)]; left; omega
  · obtain ⟨w1, w2⟩ := where_in hc hM hi (k := k') (by omega)
    unfold Clear
    rw [w1, Int.toNat_natCast]
    have hr' := rel_place (show ORl.relOk (obAt objs i).ws (obAt objs i).ds.length (obAt objs i).ss.length (relV objs i k') = true from rel_ok (KN.chk_at hc hi) (by omega))
    have hrise := rise_far (KN.chk_at hc hi) (j := k') (k - k' - 1) (by omega)
    rw [show k' + (k - k' - 1) + 1 = k by omega] at hrise
    change riseB (relV objs i k') (relV objs i k) = true at hrise
    unfold riseB at hrise
    simp only [decide_eq_true_eq] at hrise
    unfold whereN
    rw [if_pos h1]
    rcases hr' with ⟨c0, c1, c2, -⟩ | ⟨c0, -, c1, c2⟩
    · rw [if_pos c0]; right; omega
    · rw [if_neg (by omega)]; left; omega
/-- a text's word is as it was when its relocation comes -/
theorem word_was {objs : List ObjV} (hw : ∀ o ∈ objs, o.Wf) (hc : resCode objs = 0) (hM : dend (szL objs) ≤ 2097152) {i k : Nat} (hi : i < objs.length) (hk : k < (obAt objs i).rs.length) (h1 : (relV objs i k).sect = 1) :
    word (relTo objs i (allTo objs (start0 objs) i) k).1 (whereN objs i k) = (obAt objs i).ws.getD (relV objs i k).place.toNat 0 := by
  have e0 : whereN objs i k = textAt (szL objs) i + 4 * (relV objs i k).place.toNat := by unfold whereN; rw [if_pos h1]
  have hr := rel_place (show ORl.relOk (obAt objs i).ws (obAt objs i).ds.length (obAt objs i).ss.length (relV objs i k) = true from rel_ok (KN.chk_at hc hi) hk)
  have hp : 0 ≤ (relV objs i k).place ∧ (relV objs i k).place < (obAt objs i).ws.length := by
    rcases hr with ⟨-, b1, b2, -⟩ | ⟨b0, -⟩
    · exact ⟨b1, b2⟩
    · omega
  have hx : 0 ≤ (obAt objs i).ws.getD (relV objs i k).place.toNat 0 ∧ (obAt objs i).ws.getD (relV objs i k).place.toNat 0 < 4294967296 := by
    rw [List.getD_eq_getElem?_getD, List.getElem?_eq_getElem (by omega)]
    have := (obAt_wf hw i).ws _ (List.getElem_mem (show (relV objs i k).place.toNat < (obAt objs i).ws.length by omega))
    simp only [Option.getD_some]
    omega
  refine num_get hx fun q hq => ?_
  obtain ⟨t1, t2⟩ := text_clear hc hM hi hk h1 hq
  have ha := (areas hi).2.2.2.1
  rw [List.getD_eq_getElem?_getD, relTo_far _ t2, allTo_far _ t1]
  have h0 : (start0 objs).1[whereN objs i k + q]? = (laid objs)[whereN objs i k + q]? := by unfold start0; exact stp_far (.inr (by rw [e0]; simp; omega))
  rw [h0, e0, Nat.add_assoc, laid_text hi (by omega)]
  simp only [Option.getD_some]
  rw [show (4 * (relV objs i k).place.toNat + q) / 4 = (relV objs i k).place.toNat by omega, show (4 * (relV objs i k).place.toNat + q) % 4 = q by omega]
theorem kind_bd {k x : Int} (h : patB k x = true) : 1 ≤ k ∧ k ≤ 5 := by
  unfold patB kindB at h
  simp only [Bool.and_eq_true, decide_eq_true_eq] at h
  omega
theorem pE_far {k x v p : Int} (h : patB k x = true ∨ k = 6) : pE k x v p = 0 ∨ pE k x v p = 7 := by
  unfold pE
  rcases h with h | h
  · have := kind_bd h
    rw [if_neg (by omega), if_neg (by omega), h]
    cases fitB k x v p
    · exact .inr rfl
    · exact .inl rfl
  · rw [if_neg (by omega), if_pos h]; exact .inl rfl
theorem stp_code {bs : List Int} {kd v p : Int} (h : patB kd (word bs p.toNat) = true ∨ kd = 6) : (stp bs kd v p).2 = 0 ∨ (stp bs kd v p).2 = 7 := by
  have := pE_far (v := v) (p := p) h
  unfold stp
  split
  · exact .inl rfl
  · exact this
/-- nothing is wrong but what is too far -/
theorem links_code {objs : List ObjV} (hw : ∀ o ∈ objs, o.Wf) (hc : resCode objs = 0) (hM : dend (szL objs) ≤ 2097152) : (linkS objs).2 = 0 ∨ (linkS objs).2 = 7 := by
  have h0 : (start0 objs).2 = 0 ∨ (start0 objs).2 = 7 := by
    unfold start0
    refine stp_code (.inl ?_)
    have e : word (laid objs) (0 : Int).toNat = 239 := num_get (by decide) fun q hq => by
      rw [List.getD_eq_getElem?_getD, show (0 : Int).toNat + q = q from Nat.zero_add q, laid_start (by omega)]
      simp only [Option.getD_some]
      rw [show q / 4 = 0 by omega, show q % 4 = q by omega, show startL.getD 0 0 = 239 by decide +kernel]
    rw [e]; decide +kernel
  have hrel : ∀ i, i < objs.length → ∀ k, k ≤ (obAt objs i).rs.length → ((allTo objs (start0 objs) i).2 = 0 ∨ (allTo objs (start0 objs) i).2 = 7) → ((relTo objs i (allTo objs (start0 objs) i) k).2 = 0 ∨ (relTo objs i (allTo objs (start0 objs) i) k).2 = 7) := by
    intro i hi k hk hs
    induction k with
    | zero => exact hs
    | succ k ih =>
      have ih := ih (by omega)
      rw [relTo]
      split
      · obtain ⟨w1, -⟩ := where_in hc hM hi (k := k) (by omega)
        rw [w1]
        refine stp_code ?_
        rw [Int.toNat_natCast]
        rcases rel_place (show ORl.relOk (obAt objs i).ws (obAt objs i).ds.length (obAt objs i).ss.length (relV objs i k) = true from rel_ok (KN.chk_at hc hi) (by omega)) with ⟨b0, -, -, b3⟩ | ⟨-, b1, -⟩
        · left; rw [word_was hw hc hM hi (by omega) b0]; exact b3
        · exact .inr b1
      · exact ih
  have hall : ∀ i, i ≤ objs.length → ((allTo objs (start0 objs) i).2 = 0 ∨ (allTo objs (start0 objs) i).2 = 7) := by
    intro i hi
    induction i with
    | zero => exact h0
    | succ i ih => exact hrel i (by omega) _ (Nat.le_refl _) (ih (by omega))
  unfold linkS
  split
  · exact hall _ (Nat.le_refl _)
  · exact h0
/-- the errors ahead of what is too far -/
def preOf (objs : List ObjV) : Int := if (mainOut objs).2.2 ≠ 0 then (mainOut objs).2.2 else if LM.ok (szL objs) = false then 6 else 0
theorem main_res {objs : List ObjV} (h : (mainOut objs).2.2 = 0) : resCode objs = 0 := by
  obtain ⟨a, b, c, e⟩ : ∃ a b c, mainOut objs = (a, b, c) := ⟨_, _, _, rfl⟩
  rw [e] at h
  simp only at h
  subst h
  exact (main_at e).1
theorem link_code {objs : List ObjV} (hw : ∀ o ∈ objs, o.Wf) : (preOf objs ≠ 0 ∧ (linkOut objs).2 = preOf objs) ∨ (preOf objs = 0 ∧ ((linkOut objs).2 = 0 ∨ (linkOut objs).2 = 7)) := by
  unfold preOf linkOut
  by_cases h1 : (mainOut objs).2.2 ≠ 0
  · rw [if_pos h1, if_pos h1]; exact .inl ⟨h1, rfl⟩
  · rw [if_neg h1, if_neg h1]
    cases h2 : LM.ok (szL objs) with
    | false => exact .inl ⟨by decide, rfl⟩
    | true =>
      refine .inr ⟨rfl, ?_⟩
      have hc := links_code hw (main_res (Decidable.byContradiction h1)) (ok_lim h2)
      simp only [Bool.true_eq_false, if_false]
      split
      · exact hc
      · exact hc
end KX
end Go.Proofs.YtlmblfkcmhgdaaaGreat
namespace Go.Proofs.YtlmblfkcmhgdaaaGreat
open Go.RowKit Go.Maps
set_option linter.unusedVariables false
set_option linter.unusedSimpArgs false
namespace KT
open OO OJ RsM RsP RsS RsT RsY RsQ RsB OCk LM KM
/-- the same objects, each at another place -/
structure Same2 (A B : List ObjV) (φ ψ : Nat → Nat) : Prop where
  to_ : ∀ i o, A[i]? = some o → B[φ i]? = some o ∧ ψ (φ i) = i
  back : ∀ i o, B[i]? = some o → A[ψ i]? = some o ∧ φ (ψ i) = i
theorem Same2.symm {A B : List ObjV} {φ ψ : Nat → Nat} (h : Same2 A B φ ψ) : Same2 B A ψ φ := ⟨h.back, h.to_⟩
def mv (φ : Nat → Nat) (x : Ent) : Ent := ⟨φ x.i, x.k, x.s⟩
section
variable {A B : List ObjV} {φ ψ : Nat → Nat}
theorem mv_mem (h : Same2 A B φ ψ) {x : Ent} (hx : x ∈ flat A) : mv φ x ∈ flat B ∧ mv ψ (mv φ x) = x := by
  obtain ⟨o, h1, h2⟩ := mem_iff.1 hx
  obtain ⟨h3, h4⟩ := h.to_ _ _ h1
  refine ⟨mem_iff.2 ⟨o, h3, h2⟩, ?_⟩
  unfold mv
  simp only [h4]
theorem uniq_mv (h : Same2 A B φ ψ) (hu : Uniq (flat A)) : Uniq (flat B) := fun x hx y hy dx dy e => by
  obtain ⟨x1, x2⟩ := mv_mem h.symm hx
  obtain ⟨y1, y2⟩ := mv_mem h.symm hy
  rw [← x2, ← y2, hu _ x1 _ y1 dx dy e]
theorem look_mv (h : Same2 A B φ ψ) (n : ByteArray) (hn : RsP.look (flat A) n = none) : RsP.look (flat B) n = none :=
  look_none.2 fun x hx hd => look_none.1 hn (mv ψ x) (mv_mem h.symm hx).1 hd
theorem none_mv (h : Same2 A B φ ψ) (hn : 0 ≤ noneFrom A 0) : 0 ≤ noneFrom B 0 := by
  refine Decidable.byContradiction fun hB => ?_
  have hall : ∀ o ∈ B, chk o = true := by
    unfold noneFrom at hB
    intro o ho
    cases hf : (B.drop 0).findIdx? (fun o => !chk o) with
    | some i => rw [hf] at hB; simp only at hB; omega
    | none =>
      have := List.findIdx?_eq_none_iff.1 hf o (by simpa using ho)
      simpa using this
  unfold noneFrom at hn
  cases hf : (A.drop 0).findIdx? (fun o => !chk o) with
  | none => rw [hf] at hn; simp at hn
  | some i =>
    rw [List.drop_zero] at hf
    obtain ⟨hlt, hp, -⟩ := List.findIdx?_eq_some_iff_getElem.1 hf
    obtain ⟨h1, -⟩ := h.to_ i A[i] (List.getElem?_eq_getElem hlt)
    have := hall _ (List.mem_of_getElem? h1)
    rw [this] at hp
    simp at hp
theorem again_mv (h : Same2 A B φ ψ) (ha : againL (flat A) = []) : againL (flat B) = [] :=
  (again_uniq (flat_nodup B)).2 (uniq_mv h ((again_uniq (flat_nodup A)).1 ha))
theorem bad_iff (F : List Ent) (x : Ent) : RsT.bad F x = true ↔ x.s.sect = 0 ∧ RsP.look F x.s.name = none := by
  unfold RsT.bad tgI
  by_cases hs : x.s.sect = 0
  · rw [if_pos hs]
    cases hl : RsP.look F x.s.name with
    | none => simp [hs]
    | some y => simp
  · rw [if_neg hs]; simp [hs]
theorem find_mv (h : Same2 A B φ ψ) (hf : (flat A).find? (RsT.bad (flat A)) = none) : (flat B).find? (RsT.bad (flat B)) = none := by
  rw [List.find?_eq_none] at hf ⊢
  intro x hx hb
  obtain ⟨b1, b2⟩ := (bad_iff _ _).1 hb
  exact hf _ (mv_mem h.symm hx).1 ((bad_iff _ _).2 ⟨b1, look_mv h.symm _ b2⟩)
theorem code_mv (h : Same2 A B φ ψ) : resCode B = resCode A := by
  unfold resCode
  by_cases h0 : 0 ≤ noneFrom A 0
  · rw [if_pos h0, if_pos (none_mv h h0)]
  · rw [if_neg h0, if_neg (fun hb => h0 (none_mv h.symm hb))]
    cases h1 : againL (flat A) with
    | cons x l =>
      cases h2 : againL (flat B) with
      | cons y m => rfl
      | nil => rw [again_mv h.symm h2] at h1; cases h1
    | nil =>
      rw [again_mv h h1]
      cases h3 : (flat A).find? (RsT.bad (flat A)) with
      | none => rw [find_mv h h3]
      | some x =>
        cases h4 : (flat B).find? (RsT.bad (flat B)) with
        | none => rw [find_mv h.symm h4] at h3; cases h3
        | some y => rfl
theorem main_mv (h : Same2 A B φ ψ) : (mainOut B).2.2 = (mainOut A).2.2 := by
  unfold mainOut
  rw [code_mv h]
  by_cases h0 : resCode A = 0
  · rw [if_neg (by simpa using h0), if_neg (by simpa using h0)]
    have hu := (again_uniq (flat_nodup A)).1 (KZ.code_ok h0).2.1
    cases hl : RsP.look (flat A) mainB with
    | none => rw [look_mv h _ hl]
    | some y =>
      obtain ⟨a, b, c⟩ := look_some hl
      rw [look_uniq (uniq_mv h hu) (mv_mem h a).1 b c]
      show (if y.s.sect = 1 then _ else _ : Int × Int × Int).2.2 = (if y.s.sect = 1 then _ else _ : Int × Int × Int).2.2
      split <;> rfl
  · rw [if_pos h0, if_pos h0]
end
/-! ### turned round -/
def turned (objs : List ObjV) (k : Nat) : List ObjV := objs.drop k ++ objs.take k
theorem turned_len (objs : List ObjV) (k : Nat) : (turned objs k).length = objs.length := by
  unfold turned
  rw [List.length_append, List.length_drop, List.length_take]; omega
theorem turned_mem {objs : List ObjV} {k : Nat} {o : ObjV} : o ∈ turned objs k ↔ o ∈ objs := by
  unfold turned
  rw [List.mem_append]
  constructor
  · rintro (h | h)
    · exact List.mem_of_mem_drop h
    · exact List.mem_of_mem_take h
  · intro h
    rw [← List.take_append_drop k objs] at h
    exact (List.mem_append.1 h).symm
theorem turned_same {objs : List ObjV} {k : Nat} (hk : k ≤ objs.length) : Same2 objs (turned objs k) (fun i => if i < k then i + (objs.length - k) else i - k) (fun j => if j < objs.length - k then j + k else j - (objs.length - k)) := by
  have hd : (objs.drop k).length = objs.length - k := List.length_drop ..
  refine ⟨fun i o hi => ?_, fun j o hj => ?_⟩
  · have hlt := (List.getElem?_eq_some_iff.1 hi).1
    by_cases h : i < k
    · simp only [h, if_true]
      refine ⟨?_, by rw [if_neg (by omega)]; omega⟩
      unfold turned
      rw [List.getElem?_append_right (by omega), hd, List.getElem?_take, if_pos (by omega), show i + (objs.length - k) - (objs.length - k) = i by omega]
      exact hi
    · simp only [h, if_false]
      refine ⟨?_, by rw [if_pos (by omega)]; omega⟩
      unfold turned
      rw [List.getElem?_append_left (by omega), List.getElem?_drop, show k + (i - k) = i by omega]
      exact hi
  · have hlt := (List.getElem?_eq_some_iff.1 hj).1
    rw [turned_len] at hlt
    unfold turned at hj
    by_cases h : j < objs.length - k
    · simp only [h, if_true]
      rw [List.getElem?_append_left (by omega), List.getElem?_drop] at hj
      refine ⟨by rw [Nat.add_comm]; exact hj, by rw [if_neg (by omega)]; omega⟩
    · simp only [h, if_false]
      rw [List.getElem?_append_right (by omega), hd, List.getElem?_take, if_pos (by omega)] at hj
      exact ⟨hj, by rw [if_pos (by omega)]; omega⟩
theorem szL_app (a b : List ObjV) : szL (a ++ b) = szL a ++ szL b := by unfold szL; rw [List.map_append]
theorem turned_dend (objs : List ObjV) (k : Nat) : dend (szL (turned objs k)) = dend (szL objs) := by
  have h : szL objs = szL (objs.take k) ++ szL (objs.drop k) := by rw [← szL_app, List.take_append_drop]
  unfold turned dend tend
  rw [szL_app, h, ts_app, ts_app, ds_app, ds_app, Nat.add_comm (ts (szL (objs.drop k))), Nat.add_comm (ds (szL (objs.drop k)))]
theorem turned_ok (objs : List ObjV) (k : Nat) : LM.ok (szL (turned objs k)) = LM.ok (szL objs) := by unfold LM.ok; rw [turned_dend]
theorem main_codes (objs : List ObjV) : (mainOut objs).2.2 ≠ 7 := by
  unfold mainOut
  by_cases h0 : resCode objs = 0
  · rw [if_neg (by simpa using h0)]
    cases RsP.look (flat objs) mainB with
    | none => decide
    | some y =>
      show (if y.s.sect = 1 then _ else _ : Int × Int × Int).2.2 ≠ 7
      split <;> simp
  · rw [if_pos h0]
    show resCode objs ≠ 7
    have := KZ.code_cases objs
    omega
end KT
end Go.Proofs.YtlmblfkcmhgdaaaGreat
namespace Go.Proofs.YtlmblfkcmhgdaaaGreat
open Go.RowKit
set_option linter.unusedVariables false
set_option linter.unusedSimpArgs false
namespace KO
open OO OJ RsM KM KT
abbrev TO : TypeId := 30
theorem infoO : (Tryz.prog.info? TO).map (fun i => (i.zero, i.size, i.bytes)) = some (some (.agg #[.slice none 0 0, .slice none 0 0, .slice none 0 0, .slice none 0 0]), 4, 96) := by kernel_rfl
theorem own0 {base : Nat} (w : World) (k : Nat) (h : k = w.heap.size) (hb : base ≤ w.heap.size) : (w.alloc (.cells #[] TO)).ownsRow base TO 4 (.slice (some ⟨k, 0, none⟩) 0 0) 0 [] := by
  subst h
  exact World.ownsRow_lit (base := base) (e := TO) (size := 4) w #[] 0 hb (Nat.zero_le _) rfl
/-- the cells of objects, one by one -/
theorem objs_cells {n₀ : Nat} {w : World} {p : Option Addr} {c : Nat} {objs : List ObjV} (h : ObjsAt n₀ w (.slice p objs.length c) objs) : ∃ oc : List Value, oc.length = objs.length * 4 ∧ (∀ u ∈ oc, u.oneCell' = true) ∧
    (0 < objs.length → ∃ b o, p = some ⟨b, o, none⟩ ∧ b < n₀ ∧ ∀ j u, oc[j]? = some u → w.cell? ⟨b, o + j, none⟩ = some u) ∧
    ∀ i x, objs[i]? = some x → ∃ v0 v1 v2 v3, oc[i * 4]? = some v0 ∧ oc[i * 4 + 1]? = some v1 ∧ oc[i * 4 + 2]? = some v2 ∧ oc[i * 4 + 3]? = some v3 ∧ ObjAt n₀ w v0 v1 v2 v3 x := by
  obtain ⟨p', c', e, hh⟩ := h
  cases e
  by_cases h0 : 0 < objs.length
  · obtain ⟨b, o, rfl, hb, -, -, hall⟩ := hh h0
    have key : ∀ j, j < objs.length * 4 → ∃ u, w.cell? ⟨b, o + j, none⟩ = some u ∧ u.oneCell' = true := fun j hj => by
      have hi : j / 4 < objs.length := by omega
      obtain ⟨v0, v1, v2, v3, c0, c1, c2, c3, hoa⟩ := hall (j / 4) _ (List.getElem?_eq_getElem hi)
      obtain ⟨p0, q0, rfl, -⟩ := hoa.ws
      obtain ⟨p1, q1, rfl, -⟩ := hoa.ds
      obtain ⟨p2, q2, rfl, -⟩ := hoa.ss
      obtain ⟨p3, q3, rfl, -⟩ := hoa.rs
      have hm : j = j / 4 * 4 + j % 4 := by omega
      have hr : j % 4 = 0 ∨ j % 4 = 1 ∨ j % 4 = 2 ∨ j % 4 = 3 := by omega
      rcases hr with e | e | e | e
      · exact ⟨_, by rw [hm, e, Nat.add_zero]; exact c0, rfl⟩
      · exact ⟨_, by rw [hm, e, ← Nat.add_assoc]; exact c1, rfl⟩
      · exact ⟨_, by rw [hm, e, ← Nat.add_assoc]; exact c2, rfl⟩
      · exact ⟨_, by rw [hm, e, ← Nat.add_assoc]; exact c3, rfl⟩
    have get : ∀ j, j < objs.length * 4 → ((List.range (objs.length * 4)).map fun j => (w.cell? ⟨b, o + j, none⟩).getD undef)[j]? = w.cell? ⟨b, o + j, none⟩ := fun j hj => by
      obtain ⟨u, hu, -⟩ := key j hj
      rw [List.getElem?_map, List.getElem?_range hj, hu]
      simp [hu]
    refine ⟨(List.range (objs.length * 4)).map fun j => (w.cell? ⟨b, o + j, none⟩).getD undef, by simp, fun u hu => ?_, fun _ => ⟨b, o, rfl, hb, fun j u hj => ?_⟩, fun i x hx => ?_⟩
    · obtain ⟨j, hj, rfl⟩ := List.mem_map.1 hu
      obtain ⟨u, h1, h2⟩ := key j (List.mem_range.1 hj)
      rw [h1]
      exact h2
    · have hjl : j < objs.length * 4 := by have := (List.getElem?_eq_some_iff.1 hj).1; simpa using this
      rw [get j hjl] at hj
      exact hj
    · have hi := (List.getElem?_eq_some_iff.1 hx).1
      obtain ⟨v0, v1, v2, v3, c0, c1, c2, c3, hoa⟩ := hall i x hx
      exact ⟨v0, v1, v2, v3, by rw [get _ (by omega)]; exact c0, by rw [get _ (by omega)]; exact c1, by rw [get _ (by omega)]; exact c2, by rw [get _ (by omega)]; exact c3, hoa⟩
  · have e0 : objs = [] := List.eq_nil_of_length_eq_zero (by omega)
    subst e0
    exact ⟨[], rfl, by simp, fun h => absurd h (by simp), fun i x hx => by simp at hx⟩
/-- a row of objects' cells is objects -/
theorem objs_of {w : World} {base n : Nat} {v : Value} {objs : List ObjV} {oc : List Value} (hn : n = objs.length) (h : w.ownsRow base TO 4 v n oc)
    (hall : ∀ i x, objs[i]? = some x → ∃ v0 v1 v2 v3, oc[i * 4]? = some v0 ∧ oc[i * 4 + 1]? = some v1 ∧ oc[i * 4 + 2]? = some v2 ∧ oc[i * 4 + 3]? = some v3 ∧ ObjAt w.heap.size w v0 v1 v2 v3 x) : ObjsAt w.heap.size w v objs := by
  subst hn
  rcases h.2 with ⟨rfl, e⟩ | ⟨g, cap, cur, rfl, _, hg, h1, h2, _, _⟩
  · exact ⟨none, 0, by rw [e], fun h0 => by omega⟩
  · refine ⟨some ⟨g, 0, none⟩, cap, rfl, fun h0 => ⟨g, 0, rfl, lt_heap hg, h1, h2, fun i x hx => ?_⟩⟩
    obtain ⟨v0, v1, v2, v3, e0, e1, e2, e3, ho⟩ := hall i x hx
    have f0 := h.cells (g := g) rfl _ _ e0
    have f1 := h.cells (g := g) rfl _ _ e1
    have f2 := h.cells (g := g) rfl _ _ e2
    have f3 := h.cells (g := g) rfl _ _ e3
    rw [OO.add_plain] at f0 f1 f2 f3
    exact ⟨v0, v1, v2, v3, f0, f1, f2, f3, ho⟩
/-- the cells of the objects turned round -/
theorem turned_cells {n₀ : Nat} {w : World} {objs : List ObjV} {oc : List Value} {k : Nat} (hk : k ≤ objs.length) (hl : oc.length = objs.length * 4) (hall : ∀ i x, objs[i]? = some x → ∃ v0 v1 v2 v3, oc[i * 4]? = some v0 ∧ oc[i * 4 + 1]? = some v1 ∧ oc[i * 4 + 2]? = some v2 ∧ oc[i * 4 + 3]? = some v3 ∧ ObjAt n₀ w v0 v1 v2 v3 x) :
    ∀ i x, (turned objs k)[i]? = some x → ∃ v0 v1 v2 v3, (oc.drop (k * 4) ++ oc.take (k * 4))[i * 4]? = some v0 ∧ (oc.drop (k * 4) ++ oc.take (k * 4))[i * 4 + 1]? = some v1 ∧ (oc.drop (k * 4) ++ oc.take (k * 4))[i * 4 + 2]? = some v2 ∧ (oc.drop (k * 4) ++ oc.take (k * 4))[i * 4 + 3]? = some v3 ∧ ObjAt n₀ w v0 v1 v2 v3 x := by
  intro i x hx
  have hi := (List.getElem?_eq_some_iff.1 hx).1
  rw [turned_len] at hi
  have hd : (oc.drop (k * 4)).length = (objs.length - k) * 4 := by rw [List.length_drop, hl]; omega
  have key : ∀ q, q < 4 → (oc.drop (k * 4) ++ oc.take (k * 4))[i * 4 + q]? = if i < objs.length - k then oc[(i + k) * 4 + q]? else oc[(i - (objs.length - k)) * 4 + q]? := fun q hq => by
    by_cases h : i < objs.length - k
    · rw [if_pos h, List.getElem?_append_left (by omega), List.getElem?_drop]
      congr 1; omega
    · rw [if_neg h, List.getElem?_append_right (by omega), List.getElem?_take, if_pos (by omega)]
      congr 1; omega
  have hx2 := ((turned_same hk).back i x hx).1
  have k0 := key 0 (by omega)
  have k1 := key 1 (by omega)
  have k2 := key 2 (by omega)
  have k3 := key 3 (by omega)
  simp only [Nat.add_zero] at k0
  by_cases h : i < objs.length - k
  · simp only [h, if_true] at hx2 k0 k1 k2 k3
    obtain ⟨v0, v1, v2, v3, e0, e1, e2, e3, ho⟩ := hall _ x hx2
    exact ⟨v0, v1, v2, v3, k0.trans e0, k1.trans e1, k2.trans e2, k3.trans e3, ho⟩
  · simp only [h, if_false] at hx2 k0 k1 k2 k3
    obtain ⟨v0, v1, v2, v3, e0, e1, e2, e3, ho⟩ := hall _ x hx2
    exact ⟨v0, v1, v2, v3, k0.trans e0, k1.trans e1, k2.trans e2, k3.trans e3, ho⟩
end KO
end Go.Proofs.YtlmblfkcmhgdaaaGreat
namespace Go.Proofs.YtlmblfkcmhgdaaaGreat
open Go.RowKit
set_option linter.unusedVariables false
set_option linter.unusedSimpArgs false
namespace KA
open OO OJ RsM RsY LM LP PM RsB KB KM KN KX OCk ORl OPt OU
theorem rok {objs : List ObjV} (hc : resCode objs = 0) {i k : Nat} (hi : i < objs.length) (hk : k < (obAt objs i).rs.length) : relOk (obAt objs i).ws (obAt objs i).ds.length (obAt objs i).ss.length (relV objs i k) = true := rel_ok (KN.chk_at hc hi) hk
theorem place4 {ws : List Int} {nd ns : Nat} {r : RelV} (h : relOk ws nd ns r = true) (h2 : r.sect = 2) : r.place % 4 = 0 := by
  unfold relOk at h
  rw [if_neg (by omega), if_pos h2] at h
  simp only [Bool.and_eq_true, decide_eq_true_eq] at h
  omega
/-- where a relocation's word lies -/
theorem area {objs : List ObjV} (hc : resCode objs = 0) {i k : Nat} (hi : i < objs.length) (hk : k < (obAt objs i).rs.length) :
    ((relV objs i k).sect = 1 ∧ whereN objs i k = textAt (szL objs) i + 4 * (relV objs i k).place.toNat ∧ textAt (szL objs) i ≤ whereN objs i k ∧ whereN objs i k + 4 ≤ textAt (szL objs) (i + 1)) ∨
    ((relV objs i k).sect = 2 ∧ whereN objs i k = dataAt (szL objs) i + (relV objs i k).place.toNat ∧ (relV objs i k).place % 4 = 0 ∧ dataAt (szL objs) i ≤ whereN objs i k ∧ whereN objs i k + 4 ≤ dataAt (szL objs) (i + 1)) := by
  obtain ⟨a1, a2, a3, a4, a5, a6⟩ := areas hi
  have ho := rok hc hi hk
  have hr := rel_place ho
  rcases hr with ⟨c0, c1, c2, -⟩ | ⟨c0, -, c1, c2⟩
  · have e : whereN objs i k = textAt (szL objs) i + 4 * (relV objs i k).place.toNat := by unfold whereN; rw [if_pos c0]
    exact .inl ⟨c0, e, by omega, by omega⟩
  · have e : whereN objs i k = dataAt (szL objs) i + (relV objs i k).place.toNat := by unfold whereN; rw [if_neg (by omega)]
    exact .inr ⟨c0, e, place4 ho c0, by omega, by omega⟩
theorem lt_apart {objs : List ObjV} (hc : resCode objs = 0) {i k k' : Nat} (hi : i < objs.length) (hk : k' < (obAt objs i).rs.length) (h : k < k') : whereN objs i k + 4 ≤ whereN objs i k' ∨ whereN objs i k' + 4 ≤ whereN objs i k := by
  have hrise := rise_far (KN.chk_at hc hi) (j := k) (k' - k - 1) (by omega)
  rw [show k + (k' - k - 1) + 1 = k' by omega] at hrise
  change riseB (relV objs i k) (relV objs i k') = true at hrise
  unfold riseB at hrise
  simp only [decide_eq_true_eq] at hrise
  obtain ⟨a1, a2, a3, a4, a5, a6⟩ := areas hi
  have r1 := rel_place (rok hc hi (show k < _ by omega))
  have r2 := rel_place (rok hc hi hk)
  rcases area hc hi (show k < _ by omega) with ⟨s1, e1, l1, u1⟩ | ⟨s1, e1, m1, l1, u1⟩ <;> rcases area hc hi hk with ⟨s2, e2, l2, u2⟩ | ⟨s2, e2, m2, l2, u2⟩ <;> omega
theorem apart {objs : List ObjV} (hc : resCode objs = 0) {i k i' k' : Nat} (hi : i < objs.length) (hk : k < (obAt objs i).rs.length) (hi' : i' < objs.length) (hk' : k' < (obAt objs i').rs.length) (h : i ≠ i' ∨ k ≠ k') : whereN objs i k + 4 ≤ whereN objs i' k' ∨ whereN objs i' k' + 4 ≤ whereN objs i k := by
  by_cases e : i = i'
  · subst e
    rcases Nat.lt_or_ge k k' with l | l
    · exact lt_apart hc hi hk' l
    · have := lt_apart hc hi hk (show k' < k by omega)
      omega
  · obtain ⟨a1, a2, a3, a4, a5, a6⟩ := areas hi
    obtain ⟨b1, b2, b3, b4, b5, b6⟩ := areas hi'
    have m1 := textAt_mono (szL objs) (show min i i' + 1 ≤ max i i' by omega)
    have m2 := dataAt_mono (szL objs) (show min i i' + 1 ≤ max i i' by omega)
    have ha := area hc hi hk
    have hb := area hc hi' hk'
    rcases Nat.lt_or_ge i i' with l | l
    · rw [Nat.min_eq_left (Nat.le_of_lt l), Nat.max_eq_right (Nat.le_of_lt l)] at m1 m2
      omega
    · rw [Nat.min_eq_right l, Nat.max_eq_left l] at m1 m2
      omega
theorem clear_of {objs : List ObjV} (hc : resCode objs = 0) (hM : dend (szL objs) ≤ 2097152) {i k i' k' : Nat} (hi : i < objs.length) (hk : k < (obAt objs i).rs.length) (hi' : i' < objs.length) (hk' : k' < (obAt objs i').rs.length) (h : i ≠ i' ∨ k ≠ k') {q : Nat} (hq : q < 4) : Clear objs i' k' (whereN objs i k + q) := by
  have := apart hc hi hk hi' hk' h
  obtain ⟨w1, -⟩ := where_in hc hM hi' hk'
  unfold Clear
  rw [w1, Int.toNat_natCast]
  omega
theorem word_lim {f g : List Int} {a : Nat} (h : ∀ q, q < 4 → f[a + q]? = g[a + q]?) : word f a = word g a := by
  unfold word numTo numTo numTo numTo numTo
  have d : ∀ q, q < 4 → f.getD (a + q) 0 = g.getD (a + q) 0 := fun q hq => by rw [List.getD_eq_getElem?_getD, List.getD_eq_getElem?_getD, h q hq]
  have d0 := d 0 (by omega)
  have d1 := d 1 (by omega)
  have d2 := d 2 (by omega)
  have d3 := d 3 (by omega)
  simp only [d0, d1, d2, d3]
/-- the word that a relocation meets: of a text's as it was -/
def wasW (objs : List ObjV) (i k : Nat) : Int := if (relV objs i k).sect = 1 then (obAt objs i).ws.getD (relV objs i k).place.toNat 0 else 0
theorem data_kind {objs : List ObjV} (hc : resCode objs = 0) {i k : Nat} (hi : i < objs.length) (hk : k < (obAt objs i).rs.length) (h : (relV objs i k).sect ≠ 1) : (relV objs i k).kind = 6 := by
  rcases rel_place (rok hc hi hk) with ⟨c0, -⟩ | ⟨-, c0, -⟩
  · exact absurd c0 h
  · exact c0
theorem pE_word (x v p : Int) : pE 6 x v p = 0 := by unfold pE; rw [if_neg (by omega), if_pos rfl]
theorem pW_word (x v p : Int) : pW 6 x v p = v := by unfold pW; rw [if_neg (by omega), if_pos rfl]
/-- one relocation, when it comes -/
theorem at_it {objs : List ObjV} (hw : ∀ o ∈ objs, o.Wf) (hc : resCode objs = 0) (hM : dend (szL objs) ≤ 2097152) {i k : Nat} (hi : i < objs.length) (hk : k < (obAt objs i).rs.length) :
    stp (relTo objs i (allTo objs (start0 objs) i) k).1 (relV objs i k).kind (KM.valOf objs i k) (whereOf objs i k) = if pE (relV objs i k).kind (wasW objs i k) (KM.valOf objs i k) (whereOf objs i k) = 0 then (put4 (relTo objs i (allTo objs (start0 objs) i) k).1 (whereN objs i k) (pW (relV objs i k).kind (wasW objs i k) (KM.valOf objs i k) (whereOf objs i k)), 0) else ((relTo objs i (allTo objs (start0 objs) i) k).1, pE (relV objs i k).kind (wasW objs i k) (KM.valOf objs i k) (whereOf objs i k)) := by
  obtain ⟨w1, -⟩ := where_in hc hM hi hk
  by_cases h1 : (relV objs i k).sect = 1
  · have hwas := word_was hw hc hM hi hk h1
    unfold stp wasW
    rw [w1, Int.toNat_natCast, hwas, if_pos h1]
  · have hkd := data_kind hc hi hk h1
    unfold stp wasW
    rw [w1, Int.toNat_natCast, hkd]
    simp only [pE_word, pW_word, if_true]
/-- nothing is too far -/
def Near (objs : List ObjV) : Prop := pE 4 239 (adrOf objs (mainOut objs).1 (mainOut objs).2.1) 0 = 0 ∧ ∀ i k, i < objs.length → k < (obAt objs i).rs.length → pE (relV objs i k).kind (wasW objs i k) (KM.valOf objs i k) (whereOf objs i k) = 0
theorem first239 (objs : List ObjV) : word (laid objs) (0 : Int).toNat = 239 := num_get (by decide) fun q hq => by
  rw [List.getD_eq_getElem?_getD, show (0 : Int).toNat + q = q from Nat.zero_add q, laid_start (by omega)]
  simp only [Option.getD_some]
  rw [show q / 4 = 0 by omega, show q % 4 = q by omega, show startL.getD 0 0 = 239 by decide +kernel]
theorem start_near {objs : List ObjV} (h : Near objs) : start0 objs = (put4 (laid objs) 0 (pW 4 239 (adrOf objs (mainOut objs).1 (mainOut objs).2.1) 0), 0) := by
  unfold start0 stp
  rw [first239, if_pos h.1]
  rfl
theorem rel_near {objs : List ObjV} (hw : ∀ o ∈ objs, o.Wf) (hc : resCode objs = 0) (hM : dend (szL objs) ≤ 2097152) (h : Near objs) {i : Nat} (hi : i < objs.length) (h0 : (allTo objs (start0 objs) i).2 = 0) : ∀ k, k ≤ (obAt objs i).rs.length → (relTo objs i (allTo objs (start0 objs) i) k).2 = 0
  | 0, _ => h0
  | k + 1, hk => by
    have ih := rel_near hw hc hM h hi h0 k (by omega)
    rw [relTo, if_pos ih, at_it hw hc hM hi (by omega), if_pos (h.2 i k hi (by omega))]
theorem all_near {objs : List ObjV} (hw : ∀ o ∈ objs, o.Wf) (hc : resCode objs = 0) (hM : dend (szL objs) ≤ 2097152) (h : Near objs) : ∀ i, i ≤ objs.length → (allTo objs (start0 objs) i).2 = 0
  | 0, _ => by rw [allTo, start_near h]
  | i + 1, hi => by
    have ih := all_near hw hc hM h i (by omega)
    rw [allTo]
    exact rel_near hw hc hM h (by omega) ih _ (Nat.le_refl _)
theorem links_near {objs : List ObjV} (hw : ∀ o ∈ objs, o.Wf) (hc : resCode objs = 0) (hM : dend (szL objs) ≤ 2097152) (h : Near objs) : linkS objs = allTo objs (start0 objs) objs.length ∧ (linkS objs).2 = 0 := by
  have e : linkS objs = allTo objs (start0 objs) objs.length := by unfold linkS; rw [start_near h, if_pos rfl]
  exact ⟨e, by rw [e]; exact all_near hw hc hM h _ (Nat.le_refl _)⟩
/-- the word of a relocation, in the end -/
theorem links_word {objs : List ObjV} (hw : ∀ o ∈ objs, o.Wf) (hc : resCode objs = 0) (hM : dend (szL objs) ≤ 2097152) (h : Near objs) {i k : Nat} (hi : i < objs.length) (hk : k < (obAt objs i).rs.length)
    (hx : 0 ≤ pW (relV objs i k).kind (wasW objs i k) (KM.valOf objs i k) (whereOf objs i k) ∧ pW (relV objs i k).kind (wasW objs i k) (KM.valOf objs i k) (whereOf objs i k) < 4294967296) :
    word (linkS objs).1 (whereN objs i k) = pW (relV objs i k).kind (wasW objs i k) (KM.valOf objs i k) (whereOf objs i k) := by
  have h0 := all_near hw hc hM h i (by omega)
  have hk0 := rel_near hw hc hM h hi h0 k (by omega)
  obtain ⟨w1, w2⟩ := where_in hc hM hi hk
  have hl : (relTo objs i (allTo objs (start0 objs) i) k).1.length = dend (szL objs) := by
    have hs : (start0 objs).1.length = dend (szL objs) := by rw [start_near h]; show (put4 _ _ _).length = _; rw [put4_length, laid_len]
    have hr : ∀ (j : Nat) (s : KM.St), s.1.length = dend (szL objs) → ∀ m, (relTo objs j s m).1.length = dend (szL objs) := by
      intro j s hs' m
      induction m with
      | zero => exact hs'
      | succ m ih =>
        rw [relTo]
        split
        · rw [stp_length]; exact ih
        · exact ih
    have ha : ∀ m, (allTo objs (start0 objs) m).1.length = dend (szL objs) := by
      intro m
      induction m with
      | zero => exact hs
      | succ m ih => rw [allTo]; exact hr m _ ih _
    exact hr i _ (ha i) k
  have e1 : relTo objs i (allTo objs (start0 objs) i) (k + 1) = (put4 (relTo objs i (allTo objs (start0 objs) i) k).1 (whereN objs i k) (pW (relV objs i k).kind (wasW objs i k) (KM.valOf objs i k) (whereOf objs i k)), 0) := by
    rw [relTo, if_pos hk0, at_it hw hc hM hi hk, if_pos (h.2 i k hi hk)]
  have f1 : ∀ m, k + 1 ≤ m → m ≤ (obAt objs i).rs.length → ∀ q, q < 4 → (relTo objs i (allTo objs (start0 objs) i) m).1[whereN objs i k + q]? = (relTo objs i (allTo objs (start0 objs) i) (k + 1)).1[whereN objs i k + q]? := by
    intro m hm hm2 q hq
    induction m with
    | zero => omega
    | succ m ih =>
      by_cases e : m + 1 = k + 1
      · rw [e]
      · rw [relTo]
        split
        · rw [stp_far (clear_of hc hM hi hk hi (k' := m) (by omega) (.inr (by omega)) hq)]
          exact ih (by omega) (by omega)
        · exact ih (by omega) (by omega)
  have f2 : ∀ m, i + 1 ≤ m → m ≤ objs.length → ∀ q, q < 4 → (allTo objs (start0 objs) m).1[whereN objs i k + q]? = (allTo objs (start0 objs) (i + 1)).1[whereN objs i k + q]? := by
    intro m hm hm2 q hq
    induction m with
    | zero => omega
    | succ m ih =>
      by_cases e : m + 1 = i + 1
      · rw [e]
      · rw [allTo, relTo_far _ fun k' hk' => clear_of hc hM hi hk (i' := m) (by omega) hk' (.inl (by omega)) hq]
        exact ih (by omega) (by omega)
  obtain ⟨e2, -⟩ := links_near hw hc hM h
  rw [e2, word_lim (g := put4 (relTo objs i (allTo objs (start0 objs) i) k).1 (whereN objs i k) (pW (relV objs i k).kind (wasW objs i k) (KM.valOf objs i k) (whereOf objs i k))) fun q hq => by
    rw [f2 _ (by omega) (Nat.le_refl _) q hq, allTo, f1 _ (by omega) (Nat.le_refl _) q hq, e1]]
  refine num_get hx fun q hq => ?_
  rw [List.getD_eq_getElem?_getD, put4_get _ _ _ _ (by omega), if_pos (by omega)]
  simp only [Option.getD_some]
  rw [show whereN objs i k + q - whereN objs i k = q by omega]
/-- what no relocation is of, in the end -/
theorem links_rest {objs : List ObjV} (hw : ∀ o ∈ objs, o.Wf) (hc : resCode objs = 0) (hM : dend (szL objs) ≤ 2097152) {x : Nat} (hx : 4 ≤ x) (h : ∀ i' k', i' < objs.length → k' < (obAt objs i').rs.length → x < whereN objs i' k' ∨ whereN objs i' k' + 4 ≤ x) : (linkS objs).1[x]? = (laid objs)[x]? :=
  links_far hx fun i' hi' k' hk' => by
    obtain ⟨w1, -⟩ := where_in hc hM hi' hk'
    unfold Clear
    rw [w1, Int.toNat_natCast]
    exact h i' k' hi' hk'
/-- the start's jump, in the end -/
theorem links_start {objs : List ObjV} (hw : ∀ o ∈ objs, o.Wf) (hc : resCode objs = 0) (hM : dend (szL objs) ≤ 2097152) (h : Near objs) (hx : 0 ≤ pW 4 239 (adrOf objs (mainOut objs).1 (mainOut objs).2.1) 0 ∧ pW 4 239 (adrOf objs (mainOut objs).1 (mainOut objs).2.1) 0 < 4294967296) :
    word (linkS objs).1 0 = pW 4 239 (adrOf objs (mainOut objs).1 (mainOut objs).2.1) 0 := by
  obtain ⟨e2, -⟩ := links_near hw hc hM h
  have hz := tend_le (szL objs)
  rw [e2, word_lim (g := put4 (laid objs) 0 (pW 4 239 (adrOf objs (mainOut objs).1 (mainOut objs).2.1) 0)) fun q hq => by
    rw [allTo_far _ fun i' hi' k' hk' => by
      obtain ⟨w1, -⟩ := where_in hc hM hi' hk'
      have ha := area hc hi' hk'
      have hb := areas hi'
      have hd := dataAt_mono (szL objs) (Nat.zero_le i')
      have ht := (textAt_le (szL objs) (i' + 1)).2
      unfold Clear
      rw [w1, Int.toNat_natCast]
      omega, start_near h]]
  refine num_get hx fun q hq => ?_
  rw [List.getD_eq_getElem?_getD, put4_get _ _ _ _ (by rw [laid_len]; omega), if_pos (by omega)]
  simp only [Option.getD_some]
  rw [show 0 + q - 0 = q by omega]
theorem link_near {objs : List ObjV} (hw : ∀ o ∈ objs, o.Wf) {mi mk : Int} (hm : mainOut objs = (mi, mk, 0)) (hok : LM.ok (szL objs) = true) (h : Near objs) : linkOut objs = ((linkS objs).1, 0) := by
  have hc : resCode objs = 0 := main_res (by rw [hm])
  obtain ⟨-, e⟩ := links_near hw hc (ok_lim hok) h
  unfold linkOut
  rw [hm]
  simp only
  rw [if_neg (by decide), hok, if_neg (by decide), if_pos e, ← e]
end KA
end Go.Proofs.YtlmblfkcmhgdaaaGreat
