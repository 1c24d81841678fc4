/-
  Bytes that no relocation is of, plainly: they stand in the image as they were. It speaks of no program.
  Objects without relocations, plainly: their image, and what their main does when it is run. It speaks of no program.
  A main that adds, alone, and with an object that nobody needs behind and ahead of it, plainly. It speaks of no program.
-/
import Derived.Test.YtlmblfkcmhgdaaaGreatLinkQx
import Derived.Test.YtlmblfkcmhgdaaaGreatMachQb
import Derived.Test.YtlmblfkcmhgdaaaGreatLinkQd
namespace Go.Proofs.YtlmblfkcmhgdaaaGreat
open Go.RowKit
set_option linter.unusedVariables false
set_option linter.unusedSimpArgs false
namespace KY
open OO OJ RsM RsY LM LP PM RsB KB KM KN KX
def fromOf (part : Nat) (r : RelV) : Int := if part = 1 then 4 * r.place else r.place
def hit (part : Nat) (r : RelV) (m : Nat) (x : Nat) : Bool := decide (r.sect = (part : Int) ∧ fromOf part r ≤ (x : Int) ∧ (x : Int) < fromOf part r + m)
def tch (part : Nat) (rs : List RelV) (n : Nat) (x : Nat) : Bool := (rs.take n).any fun r => hit part r 4 x
theorem tch_zero (part : Nat) (rs : List RelV) (x : Nat) : tch part rs 0 x = false := rfl
theorem tch_succ {part : Nat} {rs : List RelV} {n : Nat} (h : n < rs.length) (x : Nat) : tch part rs (n + 1) x = (tch part rs n x || hit part rs[n] 4 x) := by
  unfold tch
  rw [List.take_succ_eq_append_getElem h, List.any_append]
  simp
theorem hit_zero (part : Nat) (r : RelV) (x : Nat) : hit part r 0 x = false := by
  unfold hit
  exact decide_eq_false (by omega)
theorem hit_other {part : Nat} {r : RelV} (h : r.sect ≠ (part : Int)) (m x : Nat) : hit part r m x = false := by
  unfold hit
  exact decide_eq_false fun e => h e.1
theorem hit_succ {part : Nat} {r : RelV} (h : r.sect = (part : Int)) {m x f : Nat} (hf : fromOf part r = (f : Int)) : hit part r (m + 1) x = (hit part r m x || decide (x = f + m)) := by
  unfold hit
  rw [hf, Bool.eq_iff_iff]
  simp only [decide_eq_true_eq, Bool.or_eq_true]
  omega
theorem tch_no {part : Nat} {rs : List RelV} {x : Nat} (h : tch part rs rs.length x = false) {k : Nat} {r : RelV} (hk : rs[k]? = some r) : hit part r 4 x = false := by
  unfold tch at h
  rw [List.take_length, List.any_eq_false] at h
  have := h r (List.mem_of_getElem? hk)
  simpa using this
def bOf (part : Nat) (o : ObjV) : List Int := if part = 1 then MB.bts o.ws else o.ds
def atOf (objs : List ObjV) (part i : Nat) : Nat := if part = 1 then textAt (szL objs) i else dataAt (szL objs) i
theorem bOf_len (part : Nat) (o : ObjV) : (bOf part o).length = if part = 1 then 4 * o.ws.length else o.ds.length := by
  unfold bOf
  split
  · exact MB.bts_len _
  · rfl
theorem at_succ {objs : List ObjV} {part i : Nat} (h : i < objs.length) : atOf objs part (i + 1) = atOf objs part i + (bOf part (obAt objs i)).length := by
  obtain ⟨a1, a2, -⟩ := areas h
  rw [bOf_len]
  unfold atOf
  split
  · exact a1
  · exact a2
theorem at_in {objs : List ObjV} {part i : Nat} (h : i < objs.length) : atOf objs part i + (bOf part (obAt objs i)).length ≤ dend (szL objs) := by
  rw [← at_succ h]
  obtain ⟨a1, a2, a3, a4, a5, a6⟩ := areas h
  have m := dataAt_mono (szL objs) (Nat.zero_le (i + 1))
  unfold atOf
  split <;> omega
/-- a relocation's place within its object's bytes -/
theorem rel_from {objs : List ObjV} (hc : resCode objs = 0) {i k : Nat} (hi : i < objs.length) (hk : k < (obAt objs i).rs.length) : 0 ≤ (relV objs i k).place ∧ (relV objs i k).place ≤ 65536 ∧ ∀ part, (relV objs i k).sect = (part : Nat) → part = 1 ∨ part = 2 → ∃ f : Nat, fromOf part (relV objs i k) = f ∧ f + 4 ≤ (bOf part (obAt objs i)).length := by
  have hr := rel_place (show ORl.relOk (obAt objs i).ws (obAt objs i).ds.length (obAt objs i).ss.length (relV objs i k) = true from rel_ok (KN.chk_at hc hi) hk)
  have hlen : (obAt objs i).ws.length ≤ 65536 ∧ (obAt objs i).ds.length ≤ 65536 := by
    have h := KN.chk_at hc hi
    unfold OCk.chk OCk.lensB at h
    simp only [Bool.and_eq_true, decide_eq_true_eq] at h
    exact ⟨h.1.1.1, h.1.1.2.1⟩
  generalize relV objs i k = r at *
  refine ⟨?_, ?_, fun part hp h12 => ?_⟩
  · rcases hr with ⟨-, h, -⟩ | ⟨-, -, h, -⟩ <;> exact h
  · rcases hr with ⟨-, -, h, -⟩ | ⟨-, -, -, h⟩ <;> omega
  · rw [bOf_len]
    unfold fromOf
    rcases h12 with rfl | rfl
    · rcases hr with ⟨b0, b1, b2, -⟩ | ⟨b0, -⟩
      · exact ⟨(4 * r.place).toNat, by rw [if_pos rfl]; omega, by rw [if_pos rfl]; omega⟩
      · omega
    · rcases hr with ⟨b0, -⟩ | ⟨b0, -, b1, b2⟩
      · omega
      · exact ⟨r.place.toNat, by rw [if_neg (by decide)]; omega, by rw [if_neg (by decide)]; omega⟩
theorem was_get {objs : List ObjV} {part i x : Nat} (h12 : part = 1 ∨ part = 2) (hi : i < objs.length) (hx : x < (bOf part (obAt objs i)).length) : (laid objs)[atOf objs part i + x]? = (bOf part (obAt objs i))[x]? := by
  rw [bOf_len] at hx
  unfold atOf bOf
  rcases h12 with rfl | rfl
  · simp only [if_true] at hx ⊢
    rw [laid_text hi hx]
    have hj : x / 4 < (obAt objs i).ws.length := by omega
    have h1 := MP.bts_get (obAt objs i).ws (x / 4) (x % 4) (by omega) _ (List.getElem?_eq_getElem hj)
    rw [show 4 * (x / 4) + x % 4 = x by omega] at h1
    rw [h1, List.getD_eq_getElem?_getD, List.getElem?_eq_getElem hj]
    simp only [Option.getD_some]
    have hr : x % 4 = 0 ∨ x % 4 = 1 ∨ x % 4 = 2 ∨ x % 4 = 3 := by omega
    unfold MB.bs
    rcases hr with e | e | e | e <;> rw [e] <;> simp
  · have e : ¬ (2 : Nat) = 1 := by decide
    simp only [e, if_false] at hx ⊢
    exact laid_data hi hx
/-- what no relocation is of stands as it was -/
theorem kept {objs : List ObjV} (hc : resCode objs = 0) (hM : dend (szL objs) ≤ 2097152) {part i x : Nat} (h12 : part = 1 ∨ part = 2) (hi : i < objs.length) (hx : x < (bOf part (obAt objs i)).length) (ht : tch part (obAt objs i).rs (obAt objs i).rs.length x = false) :
    (linkS objs).1[atOf objs part i + x]? = (bOf part (obAt objs i))[x]? := by
  rw [← was_get h12 hi hx]
  have hx' := hx
  rw [bOf_len] at hx'
  obtain ⟨a1, a2, a3, a4, a5, a6⟩ := areas hi
  refine links_far ?_ fun i' hi' k' hk' => ?_
  · unfold atOf
    split <;> omega
  · obtain ⟨w1, -⟩ := where_in hc hM hi' hk'
    unfold Clear
    rw [w1, Int.toNat_natCast]
    obtain ⟨b1, b2, b3, b4, b5, b6⟩ := areas hi'
    have hr := rel_place (show ORl.relOk (obAt objs i').ws (obAt objs i').ds.length (obAt objs i').ss.length (relV objs i' k') = true from rel_ok (KN.chk_at hc hi') hk')
    have hno : i' = i → hit part (relV objs i' k') 4 x = false := fun e => by
      subst e
      exact tch_no ht (rel_get hk')
    have m1 : i' < i → textAt (szL objs) (i' + 1) ≤ textAt (szL objs) i ∧ dataAt (szL objs) (i' + 1) ≤ dataAt (szL objs) i := fun h => ⟨textAt_mono _ (by omega), dataAt_mono _ (by omega)⟩
    have m2 : i < i' → textAt (szL objs) (i + 1) ≤ textAt (szL objs) i' ∧ dataAt (szL objs) (i + 1) ≤ dataAt (szL objs) i' := fun h => ⟨textAt_mono _ (by omega), dataAt_mono _ (by omega)⟩
    unfold whereN atOf
    unfold hit fromOf at hno
    rcases h12 with rfl | rfl
    · simp only [if_true] at hx' hno ⊢
      rcases hr with ⟨c0, c1, c2, -⟩ | ⟨c0, -, c1, c2⟩
      · rw [if_pos c0]
        rcases Nat.lt_trichotomy i' i with h | h | h
        · have := m1 h; omega
        · have hno := of_decide_eq_false (hno h)
          subst h
          omega
        · have := m2 h; omega
      · rw [if_neg (by omega)]; left; omega
    · have e : ¬ (2 : Nat) = 1 := by decide
      simp only [e, if_false] at hx' hno ⊢
      rcases hr with ⟨c0, c1, c2, -⟩ | ⟨c0, -, c1, c2⟩
      · rw [if_pos c0]; right; omega
      · rw [if_neg (by omega)]
        rcases Nat.lt_trichotomy i' i with h | h | h
        · have := m1 h; omega
        · have hno := of_decide_eq_false (hno h)
          subst h
          omega
        · have := m2 h; omega
theorem ds8 {objs : List ObjV} (hc : resCode objs = 0) : ds (szL objs) % 8 = 0 := by
  have h : ∀ l : List ObjV, (∀ o ∈ l, OCk.chk o = true) → ds (szL l) % 8 = 0 := by
    intro l
    induction l with
    | nil => intro _; rfl
    | cons o l ih =>
      intro hl
      have h1 := ih fun x hx => hl x (List.mem_cons_of_mem _ hx)
      have h2 := hl o (List.mem_cons_self ..)
      unfold OCk.chk OCk.lensB at h2
      simp only [Bool.and_eq_true, decide_eq_true_eq] at h2
      have e : ds (szL (o :: l)) = o.ds.length + ds (szL l) := by simp [szL, ds]
      rw [e]
      omega
  exact h objs (chk_mem hc)
theorem line_dend {objs : List ObjV} (hc : resCode objs = 0) : line (dend (szL objs)) = dend (szL objs) := by
  have h := ds8 hc
  have h2 := (line_ge (tend (szL objs))).2.2
  have h3 : dend (szL objs) = line (tend (szL objs)) + ds (szL objs) := rfl
  unfold line at *
  omega
theorem and8 (N : Nat) (h : N < 18446744073709551616) : N &&& 18446744073709551608 = N / 8 * 8 := by
  have e1 : (18446744073709551608 : Nat) = (2 ^ 61 - 1) <<< 3 := by decide
  have e2 : N / 8 * 8 = (N >>> 3) <<< 3 := by rw [Nat.shiftLeft_eq, Nat.shiftRight_eq_div_pow]
  rw [e1, e2]
  apply Nat.eq_of_testBit_eq
  intro i
  rw [Nat.testBit_and, Nat.testBit_shiftLeft, Nat.testBit_shiftLeft, Nat.testBit_shiftRight, Nat.testBit_two_pow_sub_one]
  by_cases h3 : 3 ≤ i
  · rw [show 3 + (i - 3) = i by omega]
    by_cases h4 : i - 3 < 61
    · simp [h3, h4]
    · have : N.testBit i = false := Nat.testBit_lt_two_pow (Nat.lt_of_lt_of_le h (by
        calc 18446744073709551616 = 2 ^ 64 := by decide
          _ ≤ 2 ^ i := Nat.pow_le_pow_right (by decide) (by omega)))
      simp [this]
  · simp [h3]
theorem bits8 (N : Nat) (h : N < 4611686018427387904) : bits .andNot .i64 (N : Int) 7 = ((N / 8 * 8 : Nat) : Int) := by
  have e : (BitVec.ofInt 64 (N : Int)).toNat = N := by
    rw [BitVec.toNat_ofInt]
    omega
  show IntKind.i64.wrap ((BitVec.ofInt 64 (N : Int) &&& ~~~ BitVec.ofInt 64 7).toNat : Int) = _
  rw [BitVec.toNat_and, e, show (~~~ BitVec.ofInt 64 7).toNat = 18446744073709551608 by decide, and8 N (by omega)]
  exact IntWalk.i64_in ((N / 8 * 8 : Nat) : Int) (by omega)
theorem line_bits (n : Nat) (hn : n ≤ 4194304) : bits .andNot .i64 ((n : Int) + 7) 7 = (line n : Nat) := by
  have := bits8 (n + 7) (by omega)
  rw [show ((n + 7 : Nat) : Int) = (n : Int) + 7 by omega] at this
  rw [this]; rfl
end KY
end Go.Proofs.YtlmblfkcmhgdaaaGreat
namespace Go.Proofs.YtlmblfkcmhgdaaaGreat
open Go.RowKit
set_option linter.unusedVariables false
set_option linter.unusedSimpArgs false
namespace KH
open OO OJ RsM RsP RsS RsT RsY LM LP PM RsB KB KM KN KX KY KV OCk MB MP MM
/-! ### an image without relocations -/
theorem relTo_none {objs : List ObjV} {i : Nat} (h : (obAt objs i).rs = []) (s : KM.St) : relTo objs i s (obAt objs i).rs.length = s := by rw [h]; rfl
theorem allTo_none {objs : List ObjV} (h : ∀ i, (obAt objs i).rs = []) (s : KM.St) : ∀ n, allTo objs s n = s
  | 0 => rfl
  | n + 1 => by rw [allTo, relTo_none (h n), allTo_none h s n]
theorem jal_good (d : Nat) (hd : d ≤ 4000) (h2 : d % 2 = 0) : CE.encE 40 1 0 0 (d : Int) = 0 := by
  have : ∀ n : Fin 2001, CE.encE 40 1 0 0 ((2 * n.val : Nat) : Int) = 0 := by decide +kernel
  have := this ⟨d / 2, by omega⟩
  rwa [show 2 * (d / 2) = d by omega] at this
theorem laid_239 (objs : List ObjV) : word (laid objs) 0 = 239 := num_get (by decide) fun q hq => by
  rw [List.getD_eq_getElem?_getD, Nat.zero_add, laid_start (by omega)]
  simp only [Option.getD_some]
  rw [show q / 4 = 0 by omega, show q % 4 = q by omega, show startL.getD 0 0 = 239 by decide +kernel]
theorem jal_fit (d : Nat) (hd : d ≤ 4000) (h2 : d % 2 = 0) : pE 4 239 (d : Int) 0 = 0 ∧ pW 4 239 (d : Int) 0 = CE.encW 40 1 0 0 (d : Int) := by
  have hp : OPt.patB 4 239 = true := by decide +kernel
  have hi : immI 4 (d : Int) 0 = (d : Int) := by
    unfold immI farI wrap32
    rw [if_neg (by decide), if_neg (by decide)]
    omega
  have e1 : CD.dOp 239 = 40 := by decide +kernel
  have e2 : CD.dRd 239 = 1 := by decide +kernel
  have e3 : CD.dRs1 239 = 0 := by decide +kernel
  have e4 : CD.dRs2 239 = 0 := by decide +kernel
  have hf : fitB 4 239 (d : Int) 0 = true := by
    unfold fitB
    rw [hi, e1, show CM.kd 40 = 6 by decide]
    simp [CM.fits]
    omega
  unfold pE pW
  rw [if_neg (by omega), if_neg (by omega), hp, hf, if_neg (by omega), if_neg (by omega), hi, e1, e2, e3, e4]
  exact ⟨rfl, rfl⟩
/-- the image: the start's jump is put, nothing else turns -/
theorem plain_link {objs : List ObjV} {i k : Nat} (hm : mainOut objs = ((i : Int), (k : Int), 0)) (hok : LM.ok (szL objs) = true) (hr : ∀ i, (obAt objs i).rs = []) (hs : ((obAt objs i).ss.getD k noSym).sect = 1) (hv : ((obAt objs i).ss.getD k noSym).val = 0) (hd : textAt (szL objs) i ≤ 4000) :
    linkOut objs = (put4 (laid objs) 0 (CE.encW 40 1 0 0 (textAt (szL objs) i : Nat)), 0) := by
  have ha : adrOf objs (i : Int) (k : Int) = (textAt (szL objs) i : Nat) := by
    unfold adrOf adr
    simp only [Int.toNat_natCast]
    rw [hs, if_pos rfl, hv]
    omega
  have h2 : textAt (szL objs) i % 2 = 0 := by unfold textAt; omega
  obtain ⟨j1, j2⟩ := jal_fit _ hd h2
  have h0 : start0 objs = (put4 (laid objs) 0 (CE.encW 40 1 0 0 (textAt (szL objs) i : Nat)), 0) := by
    unfold start0
    rw [hm]
    simp only
    rw [ha]
    have := stp_yes (bs := laid objs) (kd := 4) (v := (textAt (szL objs) i : Nat)) (p := 0) (by rw [laid_239]; exact j1)
    rw [laid_239, show ((0 : Nat) : Int) = 0 from rfl, j2] at this
    exact this
  have hl : linkS objs = (put4 (laid objs) 0 (CE.encW 40 1 0 0 (textAt (szL objs) i : Nat)), 0) := by
    unfold linkS
    rw [h0, if_pos rfl, allTo_none hr]
  unfold linkOut
  rw [hm]
  simp only
  rw [if_neg (by decide), hok, if_neg (by decide), hl, if_pos rfl]
/-! ### its words -/
theorem num_word (bs : List Int) (a n : Nat) : MM.num (fun k => bs.getD k 0) a n = numTo bs a n := by
  induction n with
  | zero => rfl
  | succ n ih => rw [numTo, ← ih]; rfl
theorem num_lim {f g : Nat → Int} {a : Nat} (h : ∀ q, q < 4 → f (a + q) = g (a + q)) : MM.num f a 4 = MM.num g a 4 := by
  rw [num_four, num_four, show f a = g a from h 0 (by omega), h 1 (by omega), h 2 (by omega), h 3 (by omega)]
theorem mem_word {bs : List Int} {n a : Nat} (ha : a + 4 ≤ n) : MM.num (MW.bytesOf (fun k => bs.getD k 0) n) a 4 = word bs a := by
  rw [num_lim (g := fun k => bs.getD k 0) (fun q hq => by unfold MW.bytesOf; rw [if_pos (by omega)]), num_word]
  rfl
/-- the words of the image -/
theorem start_word {objs : List ObjV} {x : Int} (hx : 0 ≤ x ∧ x < 4294967296) : word (put4 (laid objs) 0 x) 0 = x ∧ word (put4 (laid objs) 0 x) 4 = CE.encW 18 17 0 0 3 ∧ word (put4 (laid objs) 0 x) 8 = CE.encW 42 0 0 0 0 := by
  have hl : 12 ≤ (laid objs).length := by rw [laid_len]; have := tend_le (szL objs); omega
  refine ⟨num_get hx fun q hq => ?_, num_get (by decide +kernel) fun q hq => ?_, num_get (by decide +kernel) fun q hq => ?_⟩
  · rw [List.getD_eq_getElem?_getD, put4_get _ _ _ _ (by omega), if_pos (by omega)]
    simp only [Option.getD_some, Nat.zero_add, Nat.sub_zero]
  · rw [List.getD_eq_getElem?_getD, put4_far (by omega), laid_start (by omega)]
    simp only [Option.getD_some]
    rw [show (4 + q) / 4 = 1 by omega, show (4 + q) % 4 = q by omega]
    rfl
  · rw [List.getD_eq_getElem?_getD, put4_far (by omega), laid_start (by omega)]
    simp only [Option.getD_some]
    rw [show (8 + q) / 4 = 2 by omega, show (8 + q) % 4 = q by omega]
    rfl
theorem text_word {objs : List ObjV} {i j : Nat} {x y : Int} (hi : i < objs.length) (hj : (obAt objs i).ws[j]? = some y) (hy : 0 ≤ y ∧ y < 4294967296) : word (put4 (laid objs) 0 x) (textAt (szL objs) i + 4 * j) = y := by
  have hlt := (List.getElem?_eq_some_iff.1 hj).1
  refine num_get hy fun q hq => ?_
  have ha := (textAt_le (szL objs) i).1
  rw [List.getD_eq_getElem?_getD, put4_far (by omega), Nat.add_assoc, laid_text hi (by omega)]
  simp only [Option.getD_some]
  rw [show (4 * j + q) / 4 = j by omega, show (4 * j + q) % 4 = q by omega, List.getD_eq_getElem?_getD, hj]
  rfl
/-! ### a main that adds -/
def addL (ns : List Nat) : List Ins := ns.map fun (n : Nat) => ((18, 10, 10, 0, (n : Int)) : Ins)
theorem mk_good {a b c d e : Int} (h : CE.encE a b c d e = 0) (h1 : -9223372036854775808 ≤ b ∧ b ≤ 9223372036854775807) (h2 : -9223372036854775808 ≤ c ∧ c ≤ 9223372036854775807) (h3 : -9223372036854775808 ≤ d ∧ d ≤ 9223372036854775807) (h4 : -9223372036854775808 ≤ e ∧ e ≤ 9223372036854775807) : good (a, b, c, d, e) :=
  ⟨h, WalkArith.wf_i64 h1, WalkArith.wf_i64 h2, WalkArith.wf_i64 h3, WalkArith.wf_i64 h4⟩
def bodyL (ns : List Nat) : List Ins := (18, 10, 0, 0, 0) :: (addL ns ++ [(41, 0, 1, 0, 0)])
theorem body_len (ns : List Nat) : (bodyL ns).length = ns.length + 2 := by simp [bodyL, addL]
theorem add_good (n : Nat) (h : n ≤ 255) : good (18, 10, 10, 0, (n : Int)) := by
  have : ∀ k : Fin 256, CE.encE 18 10 10 0 (k.val : Int) = 0 := by decide +kernel
  exact mk_good (this ⟨n, by omega⟩) (by omega) (by omega) (by omega) (by omega)
theorem body_good {ns : List Nat} (h : ∀ n ∈ ns, n ≤ 255) : ∀ i ∈ bodyL ns, good i := by
  intro i hi
  unfold bodyL at hi
  rcases List.mem_cons.1 hi with rfl | hi
  · exact ⟨by decide +kernel, by decide, by decide, by decide, by decide⟩
  · rcases List.mem_append.1 hi with hi | hi
    · obtain ⟨n, hn, rfl⟩ := List.mem_map.1 hi
      exact add_good n (h n hn)
    · simp only [List.mem_cons, List.not_mem_nil, or_false] at hi
      subst hi
      exact ⟨by decide +kernel, by decide, by decide, by decide, by decide⟩
theorem adds_to {N : Nat} {M : Nat → Int} (hN2 : N ≤ 2097152) : ∀ (ns : List Nat) (p v : Nat) (s : MM.St) (X : Nat → Int), (∀ n ∈ ns, n ≤ 255) → Stands M s p X → X 10 = (v : Int) → v + ns.sum < 4294967296 → p % 4 = 0 → p + 4 * ns.length ≤ N →
    (∀ j i, (addL ns)[j]? = some i → MM.num M (p + 4 * j) 4 = wordOf i) → ∃ s' X', To N s s' ns.length ∧ Stands M s' (p + 4 * ns.length) X' ∧ X' 10 = ((v + ns.sum : Nat) : Int) ∧ (∀ k, k ≠ 10 → X' k = X k)
  | [], p, v, s, X, _, hs, hv, _, _, _, _ => ⟨s, X, fun k => ⟨rfl, id⟩, hs, by simpa using hv, fun _ _ => rfl⟩
  | n :: ns, p, v, s, X, hn, hs, hv, hsum, h4, hN, hw => by
    have hsum' : v + n + ns.sum < 4294967296 := by rw [List.sum_cons] at hsum; omega
    rw [List.length_cons] at hN
    obtain ⟨s1, t1, h1⟩ := addi_to (N := N) hs (rd := 10) (r1 := 10) (im := (n : Int)) (by omega) (by have := hw 0 _ rfl; rwa [Nat.mul_zero, Nat.add_zero] at this) (add_good n (hn n (List.mem_cons_self ..))) h4 (by omega) hN2
    have hn255 := hn n (List.mem_cons_self ..)
    obtain ⟨s2, X2, t2, h2, v2, o2⟩ := adds_to hN2 ns (p + 4) (v + n) s1 _ (fun m hm => hn m (List.mem_cons_of_mem _ hm)) h1 (by simp only [upd, if_true]; rw [hv]; omega) hsum' (by omega) (by omega) (fun j i hj => by
      have := hw (j + 1) i (by simpa [addL] using hj)
      rwa [show p + 4 + 4 * j = p + 4 * (j + 1) by omega])
    refine ⟨s2, X2, ?_, ?_, ?_, fun k hk => ?_⟩
    · rw [List.length_cons, Nat.add_comm]; exact t1.trans t2
    · rw [List.length_cons, show p + 4 * (ns.length + 1) = p + 4 + 4 * ns.length by omega]; exact h2
    · rw [List.sum_cons, v2]; congr 1; omega
    · rw [o2 k hk]; simp only [upd, if_neg hk]
theorem sum_bd : ∀ {ns : List Nat}, (∀ n ∈ ns, n ≤ 255) → ns.sum ≤ 255 * ns.length
  | [], _ => by simp
  | n :: ns, h => by
    have h1 := h n (List.mem_cons_self ..)
    have h2 := sum_bd (ns := ns) fun m hm => h m (List.mem_cons_of_mem _ hm)
    rw [List.sum_cons, List.length_cons]; omega
/-- such a main, linked and run -/
theorem body_run {objs : List ObjV} {ns : List Nat} {i N : Nat} {u : Int} {s0 : MM.St} {M : Nat → Int} {X : Nat → Int} (hns : ∀ n ∈ ns, n ≤ 255) (hl : ns.length ≤ 20) (hi : i < objs.length) (hws : (obAt objs i).ws = (bodyL ns).map wordOf) (hp : textAt (szL objs) i ≤ 4000) (hN : dend (szL objs) ≤ N) (hN2 : N ≤ 2097152)
    (hM : M = MW.bytesOf (fun k => (put4 (laid objs) 0 (CE.encW 40 1 0 0 (textAt (szL objs) i : Nat))).getD k 0) (dend (szL objs))) (h : Stands M s0 0 X) (hx : X 0 = 0) :
    (MM.run N 100 s0 []).s.state = 1 ∧ ZV.codeOf (MM.run N 100 s0 []).s = (ns.sum : Nat) ∧ (MM.run N 100 s0 []).n = ns.length + 5 ∧ ZS.Easy N 100 s0 [] := by
  have h2 : textAt (szL objs) i % 4 = 0 := by unfold textAt; omega
  have hin := text_in hi
  rw [hws, List.length_map, body_len] at hin
  have hz := tend_le (szL objs)
  have ha := (textAt_le (szL objs) i).1
  obtain ⟨w0, w1, w2⟩ := start_word (objs := objs) (CL.enc_bd 40 1 0 0 (textAt (szL objs) i : Nat))
  have hw : ∀ j x, (bodyL ns)[j]? = some x → MM.num M (textAt (szL objs) i + 4 * j) 4 = wordOf x := fun j x hj => by
    have hlt := (List.getElem?_eq_some_iff.1 hj).1
    rw [body_len] at hlt
    rw [hM, mem_word (by omega)]
    exact text_word hi (by rw [hws, List.getElem?_map, hj]; rfl) (CL.enc_bd _ _ _ _ _)
  have hsb := sum_bd hns
  have r := main_run (p0 := textAt (szL objs) i) (m := ns.length + 2) h (N := N) (by omega) hN2 (by omega) (by rw [hM, mem_word (by omega)]; exact w0) (mk_good (jal_good _ hp (by omega)) (by omega) (by omega) (by omega) (by omega))
    (by rw [hM, mem_word (by omega)]; exact w1) (by rw [hM, mem_word (by omega)]; exact w2) ((ns.sum : Nat) : Int) (by
      intro s1 X1 h1 hr hz1
      obtain ⟨s2, t2, h2'⟩ := addi_to (N := N) h1 (rd := 10) (r1 := 0) (im := 0) (by omega) (by have := hw 0 _ rfl; rwa [Nat.mul_zero, Nat.add_zero] at this) ⟨by decide +kernel, by decide, by decide, by decide, by decide⟩ h2 (by omega) hN2
      obtain ⟨s3, X3, t3, h3, v3, o3⟩ := adds_to (N := N) hN2 ns (textAt (szL objs) i + 4) 0 s2 _ hns h2' (by simp only [upd, if_true]; rw [hz1, hx]; rfl) (by omega) (by omega) (by omega) (fun j x hj => by
        have hlt := (List.getElem?_eq_some_iff.1 hj).1
        have := hw (j + 1) x (by unfold bodyL; rw [List.getElem?_cons_succ, List.getElem?_append_left hlt]; exact hj)
        rwa [show textAt (szL objs) i + 4 + 4 * j = textAt (szL objs) i + 4 * (j + 1) by omega])
      obtain ⟨s4, t4, h4⟩ := jalr_to (N := N) h3 (r1 := 1) (q := 4) (by
        have := hw (ns.length + 1) (41, 0, 1, 0, 0) (by unfold bodyL; rw [List.getElem?_cons_succ, List.getElem?_append_right (by simp [addL])]; simp [addL])
        rwa [show textAt (szL objs) i + 4 + 4 * ns.length = textAt (szL objs) i + 4 * (ns.length + 1) by omega]) ⟨by decide +kernel, by decide, by decide, by decide, by decide⟩ (by omega) (by omega) (by rw [o3 1 (by decide)]; simp [upd, hr]) rfl (by omega)
      refine ⟨s4, X3, ?_, h4, by rw [v3, Nat.zero_add], by rw [o3 0 (by decide)]; simp [upd, hz1, hx]⟩
      have := t2.trans (t3.trans t4)
      rwa [show 1 + (ns.length + 1) = ns.length + 2 by omega] at this) hx (95 - ns.length)
  rw [show 95 - ns.length + 1 + (1 + (ns.length + 2 + 1)) = 100 by omega] at r
  exact r
end KH
end Go.Proofs.YtlmblfkcmhgdaaaGreat
namespace Go.Proofs.YtlmblfkcmhgdaaaGreat
open Go.RowKit
set_option linter.unusedVariables false
set_option linter.unusedSimpArgs false
namespace KI
open OO OJ RsM RsP RsS RsT RsY LM LP PM RsB KB KM KN KX KH OCk OU OM MB
def nobB : ByteArray := { data := #[110, 111, 98, 111, 100, 121] }
def oneO (ws : List Int) (nm : ByteArray) : ObjV := ⟨ws, [], [⟨nm, 1, 0, 0, true⟩], []⟩
def mainO (ns : List Nat) : ObjV := oneO ((bodyL ns).map wordOf) mainB
def moreO (ws : List Int) : ObjV := oneO ws nobB
theorem main_name : nameB mainB = true := by decide +kernel
theorem nob_name : nameB nobB = true := by decide +kernel
theorem one_chk {ws : List Int} {nm : ByteArray} (h : ws.length ≤ 65536) (hn : nameB nm = true) : chk (oneO ws nm) = true := by
  have h1 : lensB (oneO ws nm) = true := by
    unfold lensB oneO
    simp [h]
  have h2 : symAt ws.length 0 [⟨nm, 1, 0, 0, true⟩] 0 = true := by
    unfold symAt symOk placeB
    simp [hn]
  refine chk_yes h1 ?_ rfl
  show (List.range 1).all (symAt ws.length 0 [⟨nm, 1, 0, 0, true⟩]) = true
  simp [h2]
theorem none_ok {objs : List ObjV} (h : ∀ o ∈ objs, chk o = true) : noneFrom objs 0 = -1 := by
  unfold noneFrom
  rw [List.findIdx?_eq_none_iff.2 (fun o ho => by rw [h o (by simpa using ho)]; rfl)]
theorem main_of {objs : List ObjV} {F : List Ent} {i k : Nat} (hc : ∀ o ∈ objs, chk o = true) (hf : flat objs = F) (h1 : againL F = []) (h2 : F.find? (RsT.bad F) = none) {s : SymV} (h3 : RsP.look F mainB = some ⟨i, k, s⟩) (h4 : s.sect = 1) : mainOut objs = ((i : Int), (k : Int), 0) := by
  have hr : resCode objs = 0 := by
    unfold resCode
    rw [none_ok hc, if_neg (by decide), hf, h1, h2]
  unfold mainOut
  rw [if_neg (by simpa using hr), hf, h3]
  simp only
  rw [if_pos h4]
section
variable {ns : List Nat} {ws : List Int}
theorem main_chk (h : ns.length ≤ 20) : chk (mainO ns) = true := one_chk (by rw [List.length_map, body_len]; omega) main_name
theorem more_chk (h : ws.length ≤ 100) : chk (moreO ws) = true := one_chk (by omega) nob_name
theorem flat_a (ns : List Nat) : flat [mainO ns] = [⟨0, 0, ⟨mainB, 1, 0, 0, true⟩⟩] := rfl
theorem flat_b (ns : List Nat) (ws : List Int) : flat [mainO ns, moreO ws] = [⟨0, 0, ⟨mainB, 1, 0, 0, true⟩⟩, ⟨1, 0, ⟨nobB, 1, 0, 0, true⟩⟩] := rfl
theorem flat_c (ns : List Nat) (ws : List Int) : flat [moreO ws, mainO ns] = [⟨0, 0, ⟨nobB, 1, 0, 0, true⟩⟩, ⟨1, 0, ⟨mainB, 1, 0, 0, true⟩⟩] := rfl
theorem main_a (h : ns.length ≤ 20) : mainOut [mainO ns] = (((0 : Nat) : Int), ((0 : Nat) : Int), 0) :=
  main_of (by simpa using main_chk h) (flat_a ns) (by kernel_rfl) (by kernel_rfl) (s := ⟨mainB, 1, 0, 0, true⟩) (by kernel_rfl) rfl
theorem main_b (h : ns.length ≤ 20) (hw : ws.length ≤ 100) : mainOut [mainO ns, moreO ws] = (((0 : Nat) : Int), ((0 : Nat) : Int), 0) :=
  main_of (by simpa using ⟨main_chk h, more_chk hw⟩) (flat_b ns ws) (by kernel_rfl) (by kernel_rfl) (s := ⟨mainB, 1, 0, 0, true⟩) (by kernel_rfl) rfl
theorem main_c (h : ns.length ≤ 20) (hw : ws.length ≤ 100) : mainOut [moreO ws, mainO ns] = (((1 : Nat) : Int), ((0 : Nat) : Int), 0) :=
  main_of (by simpa using ⟨more_chk hw, main_chk h⟩) (flat_c ns ws) (by kernel_rfl) (by kernel_rfl) (s := ⟨mainB, 1, 0, 0, true⟩) (by kernel_rfl) rfl
end
/-- what a run asks of a list of objects whose main stands at place i -/
structure Runs (objs : List ObjV) (ns : List Nat) (i : Nat) : Prop where
  lt : i < objs.length
  main : mainOut objs = ((i : Int), ((0 : Nat) : Int), 0)
  rs : ∀ j, (obAt objs j).rs = []
  at_ : obAt objs i = mainO ns
  text : textAt (szL objs) i ≤ 4000
  dend : dend (szL objs) ≤ 2000
section
variable {ns : List Nat} {ws : List Int}
theorem runs_a (h : ns.length ≤ 20) : Runs [mainO ns] ns 0 := by
  have hl : (mainO ns).ws.length = ns.length + 2 := by show ((bodyL ns).map wordOf).length = _; rw [List.length_map, body_len]
  refine ⟨by simp, main_a h, fun j => ?_, rfl, by simp [textAt, ts], ?_⟩
  · match j with
    | 0 => rfl
    | j + 1 => rfl
  · simp [LM.dend, tend, ts, ds, szL, hl, line]
    show _ + (mainO ns).ds.length ≤ _
    simp [mainO, oneO]
    omega
theorem runs_b (h : ns.length ≤ 20) (hw : ws.length ≤ 100) : Runs [mainO ns, moreO ws] ns 0 := by
  have hl : (mainO ns).ws.length = ns.length + 2 := by show ((bodyL ns).map wordOf).length = _; rw [List.length_map, body_len]
  have hl2 : (moreO ws).ws.length = ws.length := rfl
  have hd1 : (mainO ns).ds.length = 0 := rfl
  have hd2 : (moreO ws).ds.length = 0 := rfl
  refine ⟨by simp, main_b h hw, fun j => ?_, rfl, by simp [textAt, ts], ?_⟩
  · match j with
    | 0 => rfl
    | 1 => rfl
    | j + 2 => rfl
  · simp [LM.dend, tend, ts, ds, szL, hl, hl2, hd1, hd2, line]
    omega
theorem runs_c (h : ns.length ≤ 20) (hw : ws.length ≤ 100) : Runs [moreO ws, mainO ns] ns 1 := by
  have hl : (mainO ns).ws.length = ns.length + 2 := by show ((bodyL ns).map wordOf).length = _; rw [List.length_map, body_len]
  have hl2 : (moreO ws).ws.length = ws.length := rfl
  have hd1 : (mainO ns).ds.length = 0 := rfl
  have hd2 : (moreO ws).ds.length = 0 := rfl
  refine ⟨by simp, main_c h hw, fun j => ?_, rfl, ?_, ?_⟩
  · match j with
    | 0 => rfl
    | 1 => rfl
    | j + 2 => rfl
  · simp [textAt, ts, szL, hl2]; omega
  · simp [LM.dend, tend, ts, ds, szL, hl, hl2, hd1, hd2, line]
    omega
end
/-- the image, its length and what it does -/
theorem runs_link {objs : List ObjV} {ns : List Nat} {i : Nat} (R : Runs objs ns i) (hns : ∀ n ∈ ns, n ≤ 255) (hl : ns.length ≤ 20) : ∃ bs, linkOut objs = (bs, 0) ∧ bs.length = LM.dend (szL objs) ∧ 
    ∀ (N : Nat) (u : Int), LM.dend (szL objs) ≤ N → N ≤ 2097152 → ∃ T, MM.run N 100 (MW.loaded (fun k => bs.getD k 0) (LM.dend (szL objs)) u N 0) [] = T ∧ T.s.state = 1 ∧ ZV.codeOf T.s = (ns.sum : Nat) ∧ T.n = ns.length + 5 ∧ ZS.Easy N 100 (MW.loaded (fun k => bs.getD k 0) (LM.dend (szL objs)) u N 0) [] := by
  have hok : LM.ok (szL objs) = true := by unfold LM.ok; rw [decide_eq_true]; have := R.dend; omega
  have hlk := plain_link R.main hok R.rs (by rw [R.at_]; rfl) (by rw [R.at_]; rfl) R.text
  refine ⟨_, hlk, by rw [put4_length, laid_len], fun N u h1 h2 => ⟨_, rfl, ?_⟩⟩
  exact body_run (u := u) hns hl R.lt (by rw [R.at_]; rfl) R.text h1 h2 rfl (KW.loaded_at _ _ u N) (by simp [MM.upd])
end KI
end Go.Proofs.YtlmblfkcmhgdaaaGreat
