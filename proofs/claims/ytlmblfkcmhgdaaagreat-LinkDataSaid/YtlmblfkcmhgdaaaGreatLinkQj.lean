/-
  A main that reads through a word of data, and another object's data, plainly: they are linked, and the machine halts with what stands there. It speaks of no program.
-/
import Derived.Test.YtlmblfkcmhgdaaaGreatLinkQx
import Derived.Test.YtlmblfkcmhgdaaaGreatLinkQy
namespace Go.Proofs.YtlmblfkcmhgdaaaGreat
open Go.RowKit
set_option linter.unusedVariables false
set_option linter.unusedSimpArgs false
namespace KJ
open OO OJ RsM RsP RsS RsT RsY LM LP PM RsB KB KM KN KX KA KH KI OCk ORl OPt OU OM MB MP MM KV
/-! ### loads -/
section
variable {N : Nat} {M : Nat → Int} {s : MM.St} {p : Nat} {X : Nat → Int}
theorem lui_to (h : Stands M s p X) {rd : Nat} {im : Int} (hr : 0 < rd) (hn : num M p 4 = wordOf (38, (rd : Int), 0, 0, im)) (hg : good (38, (rd : Int), 0, 0, im)) (h4 : p % 4 = 0) (hN : p + 4 ≤ N) (hN2 : N ≤ 2097152) :
    ∃ s', To N s s' 1 ∧ Stands M s' (p + 4) (upd X rd (im % 4294967296 * 4096 % 4294967296)) := by
  obtain ⟨e, ho⟩ := num_step (N := N) (by rw [h.mem]; exact hn) hg h.pc h4 hN
  rw [show act N s [] 38 rd 0 0 im = act N s [] 38 ((rd : Nat) : Int) ((0 : Nat) : Int) ((0 : Nat) : Int) im from rfl, ZS.eq_38] at e
  refine ⟨_, to_yes h.st e (easy_op ho (by unfold ZS.Six; omega) (by decide)), ?_⟩
  unfold setx
  rw [if_neg (by omega)]
  refine ⟨h.mem, h.st, ?_, ?_⟩
  · show (s.pc + 4) % 4294967296 = _
    rw [h.pc]; omega
  · show upd s.x ((rd : Int).toNat) _ = _
    rw [h.x]; rfl
theorem lw_to (h : Stands M s p X) {rd r1 a : Nat} {im : Int} (hr : 0 < rd) (hn : num M p 4 = wordOf (29, (rd : Int), (r1 : Int), 0, im)) (hg : good (29, (rd : Int), (r1 : Int), 0, im)) (h4 : p % 4 = 0) (hN : p + 4 ≤ N) (hN2 : N ≤ 2097152) (ha : (X r1 + im % 4294967296) % 4294967296 = (a : Int)) (ha4 : a % 4 = 0) (haN : a + 4 ≤ N) :
    ∃ s', To N s s' 1 ∧ Stands M s' (p + 4) (upd X rd (num M a 4)) := by
  obtain ⟨e, ho⟩ := num_step (N := N) (by rw [h.mem]; exact hn) hg h.pc h4 hN
  rw [show act N s [] 29 rd r1 0 im = act N s [] 29 ((rd : Nat) : Int) ((r1 : Nat) : Int) ((0 : Nat) : Int) im from rfl, ZS.eq_29] at e
  have hf : fit N ((s.x r1 + im % 4294967296) % 4294967296) 4 = true := by
    rw [h.x, ha]
    unfold fit
    simp only [decide_eq_true_eq]
    omega
  rw [if_pos hf] at e
  refine ⟨_, to_yes h.st e (easy_op ho (by unfold ZS.Six; omega) (by decide)), ?_⟩
  have hm : num s.mem ((s.x r1 + im % 4294967296) % 4294967296).toNat 4 = num M a 4 := by rw [h.x, ha, h.mem]; rfl
  rw [hm]
  unfold setx
  rw [if_neg (by omega)]
  refine ⟨h.mem, h.st, ?_, ?_⟩
  · show (s.pc + 4) % 4294967296 = _
    rw [h.pc]; omega
  · show upd s.x ((rd : Int).toNat) _ = _
    rw [h.x]; rfl
end
/-! ### the two objects -/
def pB : ByteArray := { data := #[112] }
def vB : ByteArray := { data := #[118] }
def dataL : List Ins := [(38, 6, 0, 0, 0), (29, 6, 6, 0, 0), (29, 10, 6, 0, 0), (41, 0, 1, 0, 0)]
def oneD (a : Int) : ObjV := ⟨dataL.map wordOf, zeros 8, [⟨mainB, 1, 0, 0, true⟩, ⟨pB, 2, 4, 0, false⟩, ⟨vB, 0, 0, 0, true⟩], [⟨1, 0, 1, 1, 0⟩, ⟨1, 1, 2, 1, 0⟩, ⟨2, 4, 6, 2, a⟩]⟩
def twoD (O : List Int) (v : Int) : ObjV := ⟨[], O, [⟨vB, 2, v, 0, true⟩], []⟩
def dObjs (O : List Int) (v a : Int) : List ObjV := [oneD a, twoD O v]
theorem data_good : ∀ i ∈ dataL, good i := by
  intro i hi
  simp only [dataL, List.mem_cons, List.not_mem_nil, or_false] at hi
  rcases hi with rfl | rfl | rfl | rfl
  · exact ⟨by decide +kernel, by decide, by decide, by decide, by decide⟩
  · exact ⟨by decide +kernel, by decide, by decide, by decide, by decide⟩
  · exact ⟨by decide +kernel, by decide, by decide, by decide, by decide⟩
  · exact ⟨by decide +kernel, by decide, by decide, by decide, by decide⟩
section
variable {O : List Int} {v a : Int}
theorem one_ok (h : 0 ≤ a ∧ a ≤ 1000) : chk (oneD a) = true := by
  have h1 : lensB (oneD a) = true := by kernel_rfl
  have h2 : symsTo (oneD a).ws.length (oneD a).ds.length (oneD a).ss (oneD a).ss.length = true := by kernel_rfl
  have r0 : relAt (oneD a).ws (oneD a).ds.length (oneD a).ss.length (oneD a).rs 0 = true := by kernel_rfl
  have r1 : relAt (oneD a).ws (oneD a).ds.length (oneD a).ss.length (oneD a).rs 1 = true := by kernel_rfl
  have r2 : relAt (oneD a).ws (oneD a).ds.length (oneD a).ss.length (oneD a).rs 2 = (decide (-2147483648 ≤ a ∧ a ≤ 2147483647) && true) := by kernel_rfl
  have h3 : relsTo (oneD a).ws (oneD a).ds.length (oneD a).ss.length (oneD a).rs (oneD a).rs.length = true := by
    show (List.range 3).all (relAt (oneD a).ws (oneD a).ds.length (oneD a).ss.length (oneD a).rs) = true
    rw [List.all_eq_true]
    intro k hk
    rw [List.mem_range] at hk
    obtain rfl | rfl | rfl : k = 0 ∨ k = 1 ∨ k = 2 := by omega
    · exact r0
    · exact r1
    · rw [r2, Bool.and_true, decide_eq_true_eq]; omega
  unfold chk
  rw [h1, h2, h3]; rfl
theorem two_ok (hl : O.length ≤ 1000) (h8 : O.length % 8 = 0) (h : 0 ≤ v ∧ v ≤ O.length) : chk (twoD O v) = true := by
  have h1 : lensB (twoD O v) = true := by
    unfold lensB twoD
    simp [h8]
    omega
  have h2 : symAt 0 O.length [⟨vB, 2, v, 0, true⟩] 0 = true := by
    have hn : nameB vB = true := by decide +kernel
    unfold symAt symOk placeB
    simp [hn]
    omega
  refine chk_yes h1 ?_ rfl
  show (List.range 1).all (symAt 0 O.length [⟨vB, 2, v, 0, true⟩]) = true
  simp [h2]
theorem flat_d (O : List Int) (v a : Int) : flat (dObjs O v a) = [⟨0, 0, ⟨mainB, 1, 0, 0, true⟩⟩, ⟨0, 1, ⟨pB, 2, 4, 0, false⟩⟩, ⟨0, 2, ⟨vB, 0, 0, 0, true⟩⟩, ⟨1, 0, ⟨vB, 2, v, 0, true⟩⟩] := rfl
structure Fit (O : List Int) (v a : Nat) : Prop where
  bytes : OJ.Bytes O
  lo : 8 ≤ O.length
  hi : O.length ≤ 408
  mod : O.length % 8 = 0
  v4 : v % 4 = 0
  a4 : a % 4 = 0
  fit : v + a + 4 ≤ O.length
end
section
variable {O : List Int} {v a : Nat}
theorem d_chk (F : Fit O v a) : ∀ o ∈ dObjs O v a, chk o = true := by
  have := F.hi; have := F.fit
  intro o ho
  simp only [dObjs, List.mem_cons, List.not_mem_nil, or_false] at ho
  rcases ho with rfl | rfl
  · exact one_ok (by omega)
  · exact two_ok (by omega) F.mod (by omega)
theorem d_main (F : Fit O v a) : mainOut (dObjs O v a) = (((0 : Nat) : Int), ((0 : Nat) : Int), 0) :=
  main_of (d_chk F) (flat_d O v a) (by kernel_rfl) (by kernel_rfl) (s := ⟨mainB, 1, 0, 0, true⟩) (by kernel_rfl) rfl
theorem d_res (F : Fit O v a) : resCode (dObjs O v a) = 0 := main_res (by rw [d_main F])
theorem d_tgt (F : Fit O v a) : tgt (dObjs O v a) 0 1 = (0, 1) ∧ tgt (dObjs O v a) 0 2 = (1, 0) := by
  have hc := d_res F
  unfold tgt tgL
  rw [if_pos hc]
  exact ⟨by kernel_rfl, by kernel_rfl⟩
theorem d_sz (O : List Int) (v a : Int) : szL (dObjs O v a) = [(4, 8), (0, O.length)] := rfl
theorem d_places (O : List Int) (v a : Int) : textAt (szL (dObjs O v a)) 0 = 12 ∧ dataAt (szL (dObjs O v a)) 0 = 32 ∧ dataAt (szL (dObjs O v a)) 1 = 40 ∧ LM.dend (szL (dObjs O v a)) = 40 + O.length := by
  rw [d_sz]
  refine ⟨rfl, by simp [dataAt, tend, line, ts, ds], by simp [dataAt, tend, line, ts, ds], ?_⟩
  show line (tend [(4, 8), (0, O.length)]) + ds [(4, 8), (0, O.length)] = _
  have h1 : line (tend [(4, 8), (0, O.length)]) = 32 := by simp [tend, line, ts]
  have h2 : ds [(4, 8), (0, O.length)] = 8 + (O.length + 0) := by simp [ds]
  rw [h1, h2]; omega
theorem d_ok (F : Fit O v a) : LM.ok (szL (dObjs O v a)) = true := by
  have := F.hi
  unfold LM.ok
  rw [(d_places O v a).2.2.2, decide_eq_true]; omega
theorem d_lim (F : Fit O v a) : LM.dend (szL (dObjs O v a)) ≤ 2097152 := ok_lim (d_ok F)
theorem d_wf (F : Fit O v a) : ∀ o ∈ dObjs O v a, o.Wf := by
  have hi := F.hi; have hf := F.fit
  intro o ho
  simp only [dObjs, List.mem_cons, List.not_mem_nil, or_false] at ho
  rcases ho with rfl | rfl
  · refine ⟨?_, zeros_bytes _, ?_, ?_⟩
    · intro x hx
      obtain ⟨i, hi, rfl⟩ := List.mem_map.1 hx
      have := CL.enc_bd i.1 i.2.1 i.2.2.1 i.2.2.2.1 i.2.2.2.2
      unfold wordOf; omega
    · intro s hs
      simp only [oneD, List.mem_cons, List.not_mem_nil, or_false] at hs
      rcases hs with rfl | rfl | rfl
      · exact ⟨by decide, by unfold I64; decide, by unfold I64; decide, by unfold I64; decide⟩
      · exact ⟨by decide, by unfold I64; decide, by unfold I64; decide, by unfold I64; decide⟩
      · exact ⟨by decide, by unfold I64; decide, by unfold I64; decide, by unfold I64; decide⟩
    · intro r hr
      simp only [oneD, List.mem_cons, List.not_mem_nil, or_false] at hr
      rcases hr with rfl | rfl | rfl
      · exact ⟨by unfold I64; decide, by unfold I64; decide, by unfold I64; decide, by unfold I64; decide, by unfold I64; decide⟩
      · exact ⟨by unfold I64; decide, by unfold I64; decide, by unfold I64; decide, by unfold I64; decide, by unfold I64; decide⟩
      · exact ⟨by unfold I64; simp only; omega, by unfold I64; simp only; omega, by unfold I64; simp only; omega, by unfold I64; simp only; omega, by unfold I64; simp only; omega⟩
  · refine ⟨by simp [twoD], F.bytes, ?_, by simp [twoD]⟩
    intro s hs
    simp only [twoD, List.mem_cons, List.not_mem_nil, or_false] at hs
    subst hs
    exact ⟨by show 1 ≤ maxLen; unfold maxLen; omega, by unfold I64; simp, by unfold I64; simp only; omega, by unfold I64; simp⟩
/-! ### their relocations -/
theorem d_len (O : List Int) (v a : Int) : (dObjs O v a).length = 2 := rfl
theorem d_rel (O : List Int) (v a : Int) : relV (dObjs O v a) 0 0 = ⟨1, 0, 1, 1, 0⟩ ∧ relV (dObjs O v a) 0 1 = ⟨1, 1, 2, 1, 0⟩ ∧ relV (dObjs O v a) 0 2 = ⟨2, 4, 6, 2, a⟩ := ⟨rfl, rfl, rfl⟩
theorem d_adr (F : Fit O v a) : adrOf (dObjs O v a) 0 0 = 12 ∧ adrOf (dObjs O v a) 0 1 = 36 ∧ adrOf (dObjs O v a) 1 0 = ((40 + v : Nat) : Int) := by
  obtain ⟨p1, p2, p3, p4⟩ := d_places O v a
  have hi := F.hi; have hf := F.fit
  unfold adrOf
  simp only [show (0 : Int).toNat = 0 from rfl, show (1 : Int).toNat = 1 from rfl, p1, p2, p3]
  refine ⟨by kernel_rfl, by kernel_rfl, ?_⟩
  show adr _ ((40 : Nat) : Int) 2 (v : Int) = _
  unfold adr
  rw [if_neg (by decide), if_pos rfl]
  omega
theorem d_val (F : Fit O v a) : KM.valOf (dObjs O v a) 0 0 = 36 ∧ KM.valOf (dObjs O v a) 0 1 = 36 ∧ KM.valOf (dObjs O v a) 0 2 = ((40 + v + a : Nat) : Int) := by
  obtain ⟨t1, t2⟩ := d_tgt F
  obtain ⟨a1, a2, a3⟩ := d_adr F
  obtain ⟨r1, r2, r3⟩ := d_rel O v a
  have hi := F.hi; have hf := F.fit
  unfold KM.valOf
  rw [r1, r2, r3]
  simp only
  rw [t1, t2]
  simp only
  rw [a2, a3]
  refine ⟨rfl, rfl, by omega⟩
theorem d_where (F : Fit O v a) : whereN (dObjs O v a) 0 0 = 12 ∧ whereN (dObjs O v a) 0 1 = 16 ∧ whereN (dObjs O v a) 0 2 = 36 := by
  obtain ⟨p1, p2, p3, p4⟩ := d_places O v a
  obtain ⟨r1, r2, r3⟩ := d_rel O v a
  unfold whereN
  rw [r1, r2, r3, p1, p2]
  exact ⟨rfl, rfl, rfl⟩
theorem d_was (O : List Int) (v a : Int) : wasW (dObjs O v a) 0 0 = wordOf (38, 6, 0, 0, 0) ∧ wasW (dObjs O v a) 0 1 = wordOf (29, 6, 6, 0, 0) := ⟨rfl, rfl⟩
theorem lui_far : pE 1 (wordOf (38, 6, 0, 0, 0)) 36 12 = 0 ∧ pW 1 (wordOf (38, 6, 0, 0, 0)) 36 12 = wordOf (38, 6, 0, 0, 0) := by decide +kernel
theorem lw_far : pE 2 (wordOf (29, 6, 6, 0, 0)) 36 16 = 0 ∧ pW 2 (wordOf (29, 6, 6, 0, 0)) 36 16 = wordOf (29, 6, 6, 0, 36) := by decide +kernel
theorem d_whereI (F : Fit O v a) : whereOf (dObjs O v a) 0 0 = 12 ∧ whereOf (dObjs O v a) 0 1 = 16 := by
  obtain ⟨w0, w1, -⟩ := d_where F
  have hi : 0 < (dObjs O v a).length := by rw [d_len]; omega
  exact ⟨by rw [(where_in (d_res F) (d_lim F) hi (k := 0) (by show 0 < 3; omega)).1, w0]; rfl, by rw [(where_in (d_res F) (d_lim F) hi (k := 1) (by show 1 < 3; omega)).1, w1]; rfl⟩
theorem d_near (F : Fit O v a) : Near (dObjs O v a) := by
  refine ⟨?_, fun i k hi hk => ?_⟩
  · rw [d_main F]
    simp only
    rw [show adrOf (dObjs O v a) ((0 : Nat) : Int) ((0 : Nat) : Int) = ((12 : Nat) : Int) from (d_adr F).1]
    exact (jal_fit 12 (by omega) (by omega)).1
  · rw [d_len] at hi
    obtain rfl | rfl : i = 0 ∨ i = 1 := by omega
    · have hk3 : k < 3 := hk
      obtain ⟨w0, w1⟩ := d_whereI F
      obtain ⟨v0, v1, v2⟩ := d_val F
      obtain ⟨r1, r2, r3⟩ := d_rel O v a
      obtain ⟨q0, q1⟩ := d_was O v a
      obtain rfl | rfl | rfl : k = 0 ∨ k = 1 ∨ k = 2 := by omega
      · rw [r1, q0, v0, w0]; exact lui_far.1
      · rw [r2, q1, v1, w1]; exact lw_far.1
      · rw [r3]; exact pE_word _ _ _
    · exact absurd hk (by show ¬ k < 0; omega)
/-! ### the image's words -/
theorem d_link (F : Fit O v a) : linkOut (dObjs O v a) = ((linkS (dObjs O v a)).1, 0) := link_near (d_wf F) (d_main F) (d_ok F) (d_near F)
theorem d_far (F : Fit O v a) {x : Nat} (hx : 4 ≤ x) (h : x < 12 ∨ (20 ≤ x ∧ x < 36) ∨ 40 ≤ x) : (linkS (dObjs O v a)).1[x]? = (laid (dObjs O v a))[x]? := by
  refine links_rest (d_wf F) (d_res F) (d_lim F) hx fun i k hi hk => ?_
  rw [d_len] at hi
  obtain ⟨w0, w1, w2⟩ := d_where F
  obtain rfl | rfl : i = 0 ∨ i = 1 := by omega
  · have hk3 : k < 3 := hk
    obtain rfl | rfl | rfl : k = 0 ∨ k = 1 ∨ k = 2 := by omega <;> omega
    · rw [w0]; omega
    · rw [w1]; omega
    · rw [w2]; omega
  · exact absurd hk (by show ¬ k < 0; omega)
theorem d_word (F : Fit O v a) : word (linkS (dObjs O v a)).1 0 = wordOf (40, 1, 0, 0, 12) ∧ word (linkS (dObjs O v a)).1 4 = wordOf (18, 17, 0, 0, 3) ∧ word (linkS (dObjs O v a)).1 8 = wordOf (42, 0, 0, 0, 0) ∧ word (linkS (dObjs O v a)).1 12 = wordOf (38, 6, 0, 0, 0) ∧ word (linkS (dObjs O v a)).1 16 = wordOf (29, 6, 6, 0, 36) ∧
    word (linkS (dObjs O v a)).1 20 = wordOf (29, 10, 6, 0, 0) ∧ word (linkS (dObjs O v a)).1 24 = wordOf (41, 0, 1, 0, 0) ∧ word (linkS (dObjs O v a)).1 36 = ((40 + v + a : Nat) : Int) ∧ ∀ q, q < O.length → (linkS (dObjs O v a)).1[40 + q]? = O[q]? := by
  have hw := d_wf F; have hc := d_res F; have hM := d_lim F; have hn := d_near F
  have hi : 0 < (dObjs O v a).length := by rw [d_len]; omega
  have h408 := F.hi; have hf := F.fit
  obtain ⟨w0, w1, w2⟩ := d_where F
  obtain ⟨wi0, wi1⟩ := d_whereI F
  obtain ⟨v0, v1, v2⟩ := d_val F
  obtain ⟨r1, r2, r3⟩ := d_rel O v a
  obtain ⟨q0, q1⟩ := d_was O v a
  obtain ⟨p1, p2, p3, p4⟩ := d_places O v a
  refine ⟨?_, ?_, ?_, ?_, ?_, ?_, ?_, ?_, ?_⟩
  · have e : pW 4 239 (adrOf (dObjs O v a) (mainOut (dObjs O v a)).1 (mainOut (dObjs O v a)).2.1) 0 = wordOf (40, 1, 0, 0, 12) := by
      rw [d_main F]
      simp only
      rw [show adrOf (dObjs O v a) ((0 : Nat) : Int) ((0 : Nat) : Int) = ((12 : Nat) : Int) from (d_adr F).1]
      exact (jal_fit 12 (by omega) (by omega)).2
    have := links_start hw hc hM hn (by rw [e]; exact CL.enc_bd _ _ _ _ _)
    rw [this, e]
  · refine num_get (by decide +kernel) fun q hq => ?_
    rw [List.getD_eq_getElem?_getD, d_far F (by omega) (by omega), laid_start (by omega)]
    simp only [Option.getD_some]
    rw [show (4 + q) / 4 = 1 by omega, show (4 + q) % 4 = q by omega]
    rfl
  · refine num_get (by decide +kernel) fun q hq => ?_
    rw [List.getD_eq_getElem?_getD, d_far F (by omega) (by omega), laid_start (by omega)]
    simp only [Option.getD_some]
    rw [show (8 + q) / 4 = 2 by omega, show (8 + q) % 4 = q by omega]
    rfl
  · have e : pW (relV (dObjs O v a) 0 0).kind (wasW (dObjs O v a) 0 0) (KM.valOf (dObjs O v a) 0 0) (whereOf (dObjs O v a) 0 0) = wordOf (38, 6, 0, 0, 0) := by rw [r1, q0, v0, wi0]; exact lui_far.2
    have := links_word hw hc hM hn hi (k := 0) (by show 0 < 3; omega) (by rw [e]; exact CL.enc_bd _ _ _ _ _)
    rw [e, w0] at this
    exact this
  · have e : pW (relV (dObjs O v a) 0 1).kind (wasW (dObjs O v a) 0 1) (KM.valOf (dObjs O v a) 0 1) (whereOf (dObjs O v a) 0 1) = wordOf (29, 6, 6, 0, 36) := by rw [r2, q1, v1, wi1]; exact lw_far.2
    have := links_word hw hc hM hn hi (k := 1) (by show 1 < 3; omega) (by rw [e]; exact CL.enc_bd _ _ _ _ _)
    rw [e, w1] at this
    exact this
  · refine num_get (CL.enc_bd _ _ _ _ _) fun q hq => ?_
    rw [List.getD_eq_getElem?_getD, d_far F (by omega) (by omega), show 20 + q = textAt (szL (dObjs O v a)) 0 + (8 + q) by rw [p1]; omega, laid_text hi (by show 8 + q < 16; omega)]
    simp only [Option.getD_some]
    rw [show (8 + q) / 4 = 2 by omega, show (8 + q) % 4 = q by omega]
    rfl
  · refine num_get (CL.enc_bd _ _ _ _ _) fun q hq => ?_
    rw [List.getD_eq_getElem?_getD, d_far F (by omega) (by omega), show 24 + q = textAt (szL (dObjs O v a)) 0 + (12 + q) by rw [p1]; omega, laid_text hi (by show 12 + q < 16; omega)]
    simp only [Option.getD_some]
    rw [show (12 + q) / 4 = 3 by omega, show (12 + q) % 4 = q by omega]
    rfl
  · have e : pW (relV (dObjs O v a) 0 2).kind (wasW (dObjs O v a) 0 2) (KM.valOf (dObjs O v a) 0 2) (whereOf (dObjs O v a) 0 2) = ((40 + v + a : Nat) : Int) := by rw [r3, v2]; exact pW_word _ _ _
    have := links_word hw hc hM hn hi (k := 2) (by show 2 < 3; omega) (by rw [e]; omega)
    rw [e, w2] at this
    exact this
  · intro q hq
    rw [d_far F (by omega) (by omega), show 40 + q = dataAt (szL (dObjs O v a)) 1 + q by rw [p3], laid_data (i := 1) (by rw [d_len]; omega) (by exact hq)]
    rfl
/-! ### the run -/
theorem d_run (F : Fit O v a) {N : Nat} {u : Int} {s0 : MM.St} {M : Nat → Int} {X : Nat → Int} (hN : LM.dend (szL (dObjs O v a)) ≤ N) (hN2 : N ≤ 2097152) (hM : M = MW.bytesOf (fun k => (linkS (dObjs O v a)).1.getD k 0) (LM.dend (szL (dObjs O v a)))) (h : Stands M s0 0 X) (hx : X 0 = 0) :
    (MM.run N 100 s0 []).s.state = 1 ∧ ZV.codeOf (MM.run N 100 s0 []).s = word O (v + a) ∧ (MM.run N 100 s0 []).n = 7 ∧ ZS.Easy N 100 s0 [] := by
  obtain ⟨n0, n1, n2, n3, n4, n5, n6, n7, n8⟩ := d_word F
  obtain ⟨p1, p2, p3, p4⟩ := d_places O v a
  have h408 := F.hi; have hf := F.fit; have h8 := F.lo; have hv4 := F.v4; have ha4 := F.a4
  have hm : ∀ x y, word (linkS (dObjs O v a)).1 x = y → x + 4 ≤ 40 + O.length → num M x 4 = y := fun x y hxy hle => by rw [hM, mem_word (by rw [p4]; exact hle)]; exact hxy
  have hval : num M (40 + v + a) 4 = word O (v + a) := hm _ _ (by
    unfold word numTo numTo numTo numTo numTo
    have d : ∀ q, q < 4 → (linkS (dObjs O v a)).1.getD (40 + v + a + q) 0 = O.getD (v + a + q) 0 := fun q hq => by
      rw [List.getD_eq_getElem?_getD, List.getD_eq_getElem?_getD, show 40 + v + a + q = 40 + (v + a + q) by omega, n8 _ (by omega)]
    have d0 := d 0 (by omega)
    have d1 := d 1 (by omega)
    have d2 := d 2 (by omega)
    have d3 := d 3 (by omega)
    simp only [d0, d1, d2, d3]) (by omega)
  have m0 := hm _ _ n0 (by omega)
  have m1 := hm _ _ n1 (by omega)
  have m2 := hm _ _ n2 (by omega)
  have m3 := hm _ _ n3 (by omega)
  have m4 := hm _ _ n4 (by omega)
  have m5 := hm _ _ n5 (by omega)
  have m6 := hm _ _ n6 (by omega)
  have m7 := hm _ _ n7 (by omega)
  rw [p4] at hN
  refine main_run (p0 := 12) (m := 4) h (N := N) (by omega) hN2 (by omega) m0 ⟨by decide +kernel, by decide, by decide, by decide, by decide⟩ m1 m2 (word O (v + a)) ?_ hx 93
  intro s1 X1 h1 hr hz
  obtain ⟨s2, t2, h2⟩ := lui_to (N := N) h1 (rd := 6) (im := 0) (by omega) m3 (data_good _ (by simp [dataL])) rfl (by omega) hN2
  obtain ⟨s3, t3, h3⟩ := lw_to (N := N) h2 (rd := 6) (r1 := 6) (a := 36) (im := 36) (by omega) m4 ⟨by decide +kernel, by decide, by decide, by decide, by decide⟩ rfl (by omega) hN2 (by simp [upd]) rfl (by omega)
  obtain ⟨s4, t4, h4⟩ := lw_to (N := N) h3 (rd := 10) (r1 := 6) (a := 40 + v + a) (im := 0) (by omega) m5 (data_good _ (by simp [dataL])) rfl (by omega) hN2 (by simp only [upd, if_true]; rw [m7]; omega) (by omega) (by omega)
  obtain ⟨s5, t5, h5⟩ := jalr_to (N := N) h4 (r1 := 1) (q := 4) m6 (data_good _ (by simp [dataL])) rfl (by omega) (by simp [upd, hr]) rfl (by omega)
  exact ⟨s5, _, t2.trans (t3.trans (t4.trans t5)), h5, by simp only [upd, if_true]; exact hval, by simp [upd, hz, hx]⟩
/-- the image, its length and what it does -/
theorem d_does (F : Fit O v a) : ∃ bs, linkOut (dObjs O v a) = (bs, 0) ∧ ∀ (N : Nat) (u : Int), 40 + O.length ≤ N → N ≤ 2097152 → ∃ T, MM.run N 100 (MW.loaded (fun k => bs.getD k 0) (40 + O.length) u N 0) [] = T ∧ T.s.state = 1 ∧ ZV.codeOf T.s = word O (v + a) ∧ T.n = 7 ∧ ZS.Easy N 100 (MW.loaded (fun k => bs.getD k 0) (40 + O.length) u N 0) [] := by
  refine ⟨_, d_link F, fun N u h1 h2 => ⟨_, rfl, ?_⟩⟩
  have hp := (d_places O v a).2.2.2
  have := d_run (u := u) F (N := N) (by rw [hp]; exact h1) h2 rfl (KW.loaded_at _ _ u N) (by simp [MM.upd])
  rw [hp] at this
  exact this
end
end KJ
end Go.Proofs.YtlmblfkcmhgdaaaGreat
