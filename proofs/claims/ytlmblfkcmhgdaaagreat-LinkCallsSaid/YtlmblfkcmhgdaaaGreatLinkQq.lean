/-
  A main that calls a function of each other object, plainly: in any order they are linked, and the machine halts with the sum. It speaks of no program.
  The objects that LinkCalls makes, while they grow: four rows of its own, apart from each other and from what the objects point to. Condition: none.
-/
import Derived.Test.YtlmblfkcmhgdaaaGreatLinkQx
import Derived.Test.YtlmblfkcmhgdaaaGreatLinkQy
import Derived.Test.YtlmblfkcmhgdaaaGreatLinkQd
namespace Go.Proofs.YtlmblfkcmhgdaaaGreat
open Go.RowKit
set_option linter.unusedVariables false
set_option linter.unusedSimpArgs false
namespace KQ
open OO OJ RsM RsP RsS RsT RsY RsQ LM LP PM RsB KB KM KN KX KA KH KI KT OCk ORl OPt OU OM MB MP MM KV
/-! ### general words -/
section
variable {objs : List ObjV}
theorem links_head (hw : ∀ o ∈ objs, o.Wf) (hc : resCode objs = 0) (hM : LM.dend (szL objs) ≤ 2097152) {x : Nat} (h4 : 4 ≤ x) (hx : x < 12) : (linkS objs).1[x]? = (laid objs)[x]? :=
  links_rest hw hc hM h4 fun i' k' hi' hk' => by
    have ha := area hc hi' hk'
    have hb := areas hi'
    have hd := dataAt_mono (szL objs) (Nat.zero_le i')
    have ht := (textAt_le (szL objs) (i' + 1)).2
    omega
theorem head_words (hw : ∀ o ∈ objs, o.Wf) (hc : resCode objs = 0) (hM : LM.dend (szL objs) ≤ 2097152) : word (linkS objs).1 4 = wordOf (18, 17, 0, 0, 3) ∧ word (linkS objs).1 8 = wordOf (42, 0, 0, 0, 0) := by
  refine ⟨num_get (by decide +kernel) fun q hq => ?_, num_get (by decide +kernel) fun q hq => ?_⟩
  · rw [List.getD_eq_getElem?_getD, links_head hw hc hM (by omega) (by omega), laid_start (by omega)]
    simp only [Option.getD_some]
    rw [show (4 + q) / 4 = 1 by omega, show (4 + q) % 4 = q by omega]
    rfl
  · rw [List.getD_eq_getElem?_getD, links_head hw hc hM (by omega) (by omega), laid_start (by omega)]
    simp only [Option.getD_some]
    rw [show (8 + q) / 4 = 2 by omega, show (8 + q) % 4 = q by omega]
    rfl
/-- a word of a text that no relocation is of -/
theorem links_text (hw : ∀ o ∈ objs, o.Wf) (hc : resCode objs = 0) (hM : LM.dend (szL objs) ≤ 2097152) {i j : Nat} {y : Int} (hi : i < objs.length) (hj : (obAt objs i).ws[j]? = some y) (hy : 0 ≤ y ∧ y < 4294967296) (hno : ∀ k, k < (obAt objs i).rs.length → (relV objs i k).sect = 1 → (relV objs i k).place ≠ (j : Int)) :
    word (linkS objs).1 (textAt (szL objs) i + 4 * j) = y := by
  have hlt := (List.getElem?_eq_some_iff.1 hj).1
  obtain ⟨a1, a2, a3, a4, a5, a6⟩ := areas hi
  refine num_get hy fun q hq => ?_
  rw [List.getD_eq_getElem?_getD, links_rest hw hc hM (by omega) fun i' k' hi' hk' => by
    obtain ⟨b1, b2, b3, b4, b5, b6⟩ := areas hi'
    have hr := rel_place (rok hc hi' hk')
    rcases area hc hi' hk' with ⟨s1, e1, l1, u1⟩ | ⟨s1, e1, m1, l1, u1⟩
    · by_cases e : i = i'
      · subst e
        have := hno k' hk' s1
        omega
      · rcases Nat.lt_or_ge i i' with l | l
        · have := textAt_mono (szL objs) (show i + 1 ≤ i' by omega)
          omega
        · have := textAt_mono (szL objs) (show i' + 1 ≤ i by omega)
          omega
    · omega]
  rw [Nat.add_assoc, laid_text hi (by omega)]
  simp only [Option.getD_some]
  rw [show (4 * j + q) / 4 = j by omega, show (4 * j + q) % 4 = q by omega, List.getD_eq_getElem?_getD, hj]
  rfl
end
/-! ### jumps -/
theorem jal_any (d : Int) (h1 : -4000 ≤ d) (h2 : d ≤ 4000) (h3 : d % 2 = 0) : CE.encE 40 1 0 0 d = 0 := by
  by_cases h0 : 0 ≤ d
  · have := jal_good d.toNat (by omega) (by omega)
    rwa [Int.toNat_of_nonneg h0] at this
  · have : ∀ n : Fin 2001, CE.encE 40 1 0 0 (-(2 * (n.val : Int))) = 0 := by decide +kernel
    have := this ⟨((-d) / 2).toNat, by omega⟩
    rwa [show -(2 * ((((-d) / 2).toNat : Nat) : Int)) = d by omega] at this
theorem jal_far {v p : Int} (h1 : -4000 ≤ v - p) (h2 : v - p ≤ 4000) (h3 : (v - p) % 2 = 0) : pE 4 239 v p = 0 ∧ pW 4 239 v p = CE.encW 40 1 0 0 (v - p) := by
  have hp : OPt.patB 4 239 = true := by decide +kernel
  have hi : immI 4 v p = v - p := by
    unfold immI farI wrap32
    rw [if_neg (by decide), if_neg (by decide)]
    omega
  have e1 : CD.dOp 239 = 40 := by decide +kernel
  have e2 : CD.dRd 239 = 1 := by decide +kernel
  have e3 : CD.dRs1 239 = 0 := by decide +kernel
  have e4 : CD.dRs2 239 = 0 := by decide +kernel
  have hf : fitB 4 239 v p = true := by
    unfold fitB
    rw [hi, e1, show CM.kd 40 = 6 by decide]
    simp [CM.fits]
    omega
  unfold pE pW
  rw [if_neg (by omega), if_neg (by omega), hp, hf, if_neg (by omega), if_neg (by omega), hi, e1, e2, e3, e4]
  exact ⟨rfl, rfl⟩
/-! ### the objects -/
def nmB (i : Nat) : ByteArray := { data := #[102, UInt8.ofNat (97 + i)] }
def callL (n : Nat) : List Ins := (18, 5, 1, 0, 0) :: (18, 10, 0, 0, 0) :: (List.replicate n ((40, 1, 0, 0, 0) : Ins) ++ [(41, 0, 5, 0, 0)])
def mainC (n : Nat) : ObjV := ⟨(callL n).map wordOf, [], ⟨mainB, 1, 0, 0, true⟩ :: (List.range n).map (fun i => ⟨nmB i, 0, 0, 0, true⟩), (List.range n).map fun i => ⟨1, ((2 + i : Nat) : Int), 4, ((i + 1 : Nat) : Int), 0⟩⟩
def funL (x : Nat) : List Ins := [(18, 10, 10, 0, (x : Int)), (41, 0, 1, 0, 0)]
def fO (i x : Nat) : ObjV := oneO ((funL x).map wordOf) (nmB i)
def cObjs (ns : List Nat) : List ObjV := mainC ns.length :: (List.range ns.length).map fun i => fO i (ns.getD i 0)
theorem call_len (n : Nat) : (callL n).length = n + 3 := by simp [callL]
theorem call_get {n j : Nat} (hj : j < n) : (callL n)[2 + j]? = some (40, 1, 0, 0, 0) := by
  unfold callL
  rw [show 2 + j = j + 1 + 1 by omega, List.getElem?_cons_succ, List.getElem?_cons_succ, List.getElem?_append_left (by simpa using hj), List.getElem?_replicate, if_pos hj]
theorem call_last (n : Nat) : (callL n)[n + 2]? = some (41, 0, 5, 0, 0) := by
  unfold callL
  rw [List.getElem?_cons_succ, List.getElem?_cons_succ, List.getElem?_append_right (by simp)]
  simp
theorem call_good (n : Nat) : ∀ i ∈ callL n, good i := by
  intro i hi
  unfold callL at hi
  simp only [List.mem_cons, List.mem_append, List.mem_replicate, List.not_mem_nil, or_false] at hi
  rcases hi with rfl | rfl | ⟨-, rfl⟩ | rfl
  · exact ⟨by decide +kernel, by decide, by decide, by decide, by decide⟩
  · exact ⟨by decide +kernel, by decide, by decide, by decide, by decide⟩
  · exact ⟨by decide +kernel, by decide, by decide, by decide, by decide⟩
  · exact ⟨by decide +kernel, by decide, by decide, by decide, by decide⟩
theorem fun_good {x : Nat} (h : x ≤ 255) : ∀ i ∈ funL x, good i := by
  intro i hi
  simp only [funL, List.mem_cons, List.not_mem_nil, or_false] at hi
  rcases hi with rfl | rfl
  · exact add_good x h
  · exact ⟨by decide +kernel, by decide, by decide, by decide, by decide⟩
theorem nm_inj : ∀ i j : Fin 10, nmB i.val = nmB j.val → i = j := by decide +kernel
theorem nm_main : ∀ i : Fin 10, nmB i.val ≠ mainB := by decide +kernel
theorem nm_name : ∀ i : Fin 10, nameB (nmB i.val) = true := by decide +kernel
theorem main_chks : ∀ n : Fin 11, chk (mainC n.val) = true := by decide +kernel
section
variable {ns : List Nat}
theorem c_len (ns : List Nat) : (cObjs ns).length = ns.length + 1 := by simp [cObjs]
theorem c_zero (ns : List Nat) : (cObjs ns)[0]? = some (mainC ns.length) := rfl
theorem c_succ {i : Nat} (h : i < ns.length) : (cObjs ns)[i + 1]? = some (fO i (ns.getD i 0)) := by
  unfold cObjs
  rw [List.getElem?_cons_succ, List.getElem?_map, List.getElem?_range h]; rfl
theorem c_mem {o : ObjV} (h : o ∈ cObjs ns) : o = mainC ns.length ∨ ∃ i, i < ns.length ∧ o = fO i (ns.getD i 0) := by
  unfold cObjs at h
  rcases List.mem_cons.1 h with h | h
  · exact .inl h
  · obtain ⟨i, hi, rfl⟩ := List.mem_map.1 h
    exact .inr ⟨i, List.mem_range.1 hi, rfl⟩
theorem c_chk (hl : ns.length ≤ 10) : ∀ o ∈ cObjs ns, chk o = true := by
  intro o ho
  rcases c_mem ho with rfl | ⟨i, hi, rfl⟩
  · exact main_chks ⟨ns.length, by omega⟩
  · exact one_chk (by simp [funL]) (nm_name ⟨i, by omega⟩)
theorem main_syms {n k : Nat} {s : SymV} (h : (mainC n).ss[k]? = some s) : (k = 0 ∧ s = ⟨mainB, 1, 0, 0, true⟩) ∨ ∃ j, j < n ∧ k = j + 1 ∧ s = ⟨nmB j, 0, 0, 0, true⟩ := by
  match k, h with
  | 0, h => cases h; exact .inl ⟨rfl, rfl⟩
  | j + 1, h =>
    have h : ((List.range n).map fun i => (⟨nmB i, 0, 0, 0, true⟩ : SymV))[j]? = some s := h
    rw [List.getElem?_map] at h
    have hj : j < n := by
      by_cases hj : j < n
      · exact hj
      · rw [List.getElem?_eq_none (by simpa using hj)] at h; cases h
    rw [List.getElem?_range hj] at h
    cases h
    exact .inr ⟨j, hj, rfl, rfl⟩
theorem fun_syms {i x k : Nat} {s : SymV} (h : (fO i x).ss[k]? = some s) : k = 0 ∧ s = ⟨nmB i, 1, 0, 0, true⟩ := by
  match k, h with
  | 0, h => cases h; exact ⟨rfl, rfl⟩
  | j + 1, h => exact absurd h (by simp [fO, oneO])
/-- what is defined, in these objects at whatever places -/
theorem def_of {o : ObjV} {k : Nat} {s : SymV} (ho : o ∈ cObjs ns) (hs : o.ss[k]? = some s) (hz : s.sect ≠ 0) : k = 0 ∧ ((o = mainC ns.length ∧ s.name = mainB ∧ s.sect = 1) ∨ ∃ i, i < ns.length ∧ o = fO i (ns.getD i 0) ∧ s.name = nmB i) := by
  rcases c_mem ho with rfl | ⟨i, hi, rfl⟩
  · rcases main_syms hs with ⟨rfl, rfl⟩ | ⟨j, hj, rfl, rfl⟩
    · exact ⟨rfl, .inl ⟨rfl, rfl, rfl⟩⟩
    · exact absurd rfl hz
  · obtain ⟨rfl, rfl⟩ := fun_syms hs
    exact ⟨rfl, .inr ⟨i, hi, rfl, rfl⟩⟩
theorem at_ent {x : Ent} (hx : x ∈ flat (cObjs ns)) (hd : defs x.s = true) : x = ⟨0, 0, ⟨mainB, 1, 0, 0, true⟩⟩ ∨ ∃ i, i < ns.length ∧ x = ⟨i + 1, 0, ⟨nmB i, 1, 0, 0, true⟩⟩ := by
  obtain ⟨o, h1, h2⟩ := mem_flat hx
  obtain ⟨i, k, s⟩ := x
  simp only at h1 h2 hd
  match i, h1 with
  | 0, h1 =>
    rw [c_zero] at h1
    cases h1
    rcases main_syms h2 with ⟨rfl, rfl⟩ | ⟨j, hj, rfl, rfl⟩
    · exact .inl rfl
    · exact absurd hd (by simp [defs])
  | i + 1, h1 =>
    have hi : i < ns.length := by
      have := (List.getElem?_eq_some_iff.1 h1).1
      rw [c_len] at this; omega
    rw [c_succ hi] at h1
    cases h1
    obtain ⟨rfl, rfl⟩ := fun_syms h2
    exact .inr ⟨i, hi, rfl⟩
theorem c_uniq (hl : ns.length ≤ 10) : Uniq (flat (cObjs ns)) := by
  intro x hx y hy dx dy e
  rcases at_ent hx dx with rfl | ⟨i, hi, rfl⟩ <;> rcases at_ent hy dy with rfl | ⟨j, hj, rfl⟩
  · rfl
  · exact absurd e.symm (nm_main ⟨j, by omega⟩)
  · exact absurd e (nm_main ⟨i, by omega⟩)
  · have := nm_inj ⟨i, by omega⟩ ⟨j, by omega⟩ e
    simp only [Fin.mk.injEq] at this
    subst this; rfl
theorem c_res (hl : ns.length ≤ 10) : resCode (cObjs ns) = 0 := by
  have h2 : (flat (cObjs ns)).find? (RsT.bad (flat (cObjs ns))) = none := by
    rw [List.find?_eq_none]
    intro x hx hb
    obtain ⟨b1, b2⟩ := (bad_iff _ _).1 hb
    obtain ⟨o, h1, h3⟩ := mem_flat hx
    rcases c_mem (List.mem_of_getElem? h1) with rfl | ⟨i, hi, rfl⟩
    · rcases main_syms h3 with ⟨-, e⟩ | ⟨j, hj, -, e⟩
      · rw [e] at b1; exact absurd b1 (by simp)
      · rw [e] at b2
        have hm : (⟨j + 1, 0, ⟨nmB j, 1, 0, 0, true⟩⟩ : Ent) ∈ flat (cObjs ns) := mem_iff.2 ⟨_, c_succ hj, rfl⟩
        rw [look_uniq (c_uniq hl) hm rfl rfl] at b2
        cases b2
    · obtain ⟨-, e⟩ := fun_syms h3
      rw [e] at b1; exact absurd b1 (by simp)
  unfold resCode
  rw [none_ok (c_chk hl), if_neg (by decide), (again_uniq (flat_nodup _)).2 (c_uniq hl), h2]
theorem c_main (hl : ns.length ≤ 10) : (mainOut (cObjs ns)).2.2 = 0 := by
  have hm : (⟨0, 0, ⟨mainB, 1, 0, 0, true⟩⟩ : Ent) ∈ flat (cObjs ns) := mem_iff.2 ⟨_, c_zero ns, rfl⟩
  unfold mainOut
  rw [if_neg (by simpa using c_res hl), look_uniq (c_uniq hl) hm rfl rfl]
  rfl
end
/-! ### the same, turned round -/
/-- what is known of objects that are these in another order -/
structure Turn (ns : List Nat) (T : List ObjV) : Prop where
  few : ns.length ≤ 10
  small : ∀ n ∈ ns, n ≤ 255
  mem : ∀ o ∈ T, o ∈ cObjs ns
  len : T.length = ns.length + 1
  res : resCode T = 0
  code : (mainOut T).2.2 = 0
theorem turn_of {ns : List Nat} (hl : ns.length ≤ 10) (hn : ∀ n ∈ ns, n ≤ 255) {k : Nat} (hk : k ≤ (cObjs ns).length) : Turn ns (turned (cObjs ns) k) :=
  ⟨hl, hn, fun o ho => turned_mem.1 ho, by rw [turned_len, c_len], by rw [code_mv (turned_same hk)]; exact c_res hl, by rw [main_mv (turned_same hk)]; exact c_main hl⟩
section
variable {ns : List Nat} {T : List ObjV}
theorem t_wf (R : Turn ns T) : ∀ o ∈ T, o.Wf := by
  have hb : ∀ l : List Ins, ∀ x ∈ l.map wordOf, 0 ≤ x ∧ x ≤ 4294967295 := fun l x hx => by
    obtain ⟨i, -, rfl⟩ := List.mem_map.1 hx
    have := CL.enc_bd i.1 i.2.1 i.2.2.1 i.2.2.2.1 i.2.2.2.2
    unfold wordOf; omega
  have hnm : ∀ i, (nmB i).size ≤ maxLen := fun i => by show 2 ≤ maxLen; unfold maxLen; omega
  intro o ho
  rcases c_mem (R.mem o ho) with rfl | ⟨i, hi, rfl⟩
  · refine ⟨hb _, by simp [mainC, OJ.Bytes], ?_, ?_⟩
    · intro s hs
      obtain ⟨k, hk⟩ := List.getElem?_of_mem hs
      rcases main_syms hk with ⟨-, rfl⟩ | ⟨j, -, -, rfl⟩
      · exact ⟨by decide, by unfold I64; decide, by unfold I64; decide, by unfold I64; decide⟩
      · exact ⟨hnm j, by unfold I64; simp, by unfold I64; simp, by unfold I64; simp⟩
    · intro r hr
      obtain ⟨j, hj, rfl⟩ := List.mem_map.1 hr
      have := List.mem_range.1 hj
      have := R.few
      exact ⟨by unfold I64; simp, by unfold I64; simp only; omega, by unfold I64; simp, by unfold I64; simp only; omega, by unfold I64; simp⟩
  · refine ⟨hb _, by simp [fO, oneO, OJ.Bytes], ?_, by simp [fO, oneO]⟩
    intro s hs
    obtain ⟨k, hk⟩ := List.getElem?_of_mem hs
    obtain ⟨-, rfl⟩ := fun_syms hk
    exact ⟨hnm i, by unfold I64; simp, by unfold I64; simp, by unfold I64; simp⟩
theorem t_main (R : Turn ns T) : ∃ pm : Nat, mainOut T = ((pm : Int), ((0 : Nat) : Int), 0) ∧ T[pm]? = some (mainC ns.length) := by
  have hc := R.code
  unfold mainOut at hc ⊢
  rw [if_neg (by simpa using R.res)] at hc ⊢
  cases hl : RsP.look (flat T) mainB with
  | none => rw [hl] at hc; exact absurd hc (by decide)
  | some y =>
    obtain ⟨h1, h2, h3⟩ := look_some hl
    obtain ⟨o, h4, h5⟩ := mem_flat h1
    have hz : y.s.sect ≠ 0 := by
      unfold defs at h2
      simp only [Bool.and_eq_true, Bool.not_eq_true', beq_eq_false_iff_ne] at h2
      exact h2.2
    obtain ⟨k0, ⟨rfl, -, hs⟩ | ⟨i, hi, -, e⟩⟩ := def_of (R.mem o (List.mem_of_getElem? h4)) h5 hz
    · refine ⟨y.i, ?_, h4⟩
      simp only
      rw [if_pos hs, k0]
    · exact absurd (e.symm.trans h3) (nm_main ⟨i, by have := R.few; omega⟩)
theorem t_tgt (R : Turn ns T) {pm j : Nat} (hp : T[pm]? = some (mainC ns.length)) (hj : j < ns.length) : ∃ t : Nat, tgt T pm ((j + 1 : Nat) : Int) = ((t : Int), 0) ∧ T[t]? = some (fO j (ns.getD j 0)) := by
  obtain ⟨r, e1, e2, e3⟩ := KZ.row_ok R.res hp
  have hs : (mainC ns.length).ss[j + 1]? = some ⟨nmB j, 0, 0, 0, true⟩ := by
    show ((List.range ns.length).map fun i => (⟨nmB i, 0, 0, 0, true⟩ : SymV))[j]? = _
    rw [List.getElem?_map, List.getElem?_range hj]; rfl
  obtain ⟨ti, tk, o', d, a1, a2, a3, a4, a5, -⟩ := e3 (j + 1) _ hs
  have h10 := R.few
  obtain ⟨k0, ⟨rfl, e, -⟩ | ⟨i, hi, rfl, e⟩⟩ := def_of (R.mem o' (List.mem_of_getElem? a2)) a3 a5
  · exact absurd (a4.symm.trans e) (nm_main ⟨j, by omega⟩)
  · have := nm_inj ⟨i, by omega⟩ ⟨j, by omega⟩ (e.symm.trans a4)
    simp only [Fin.mk.injEq] at this
    subst this
    refine ⟨ti, ?_, a2⟩
    unfold tgt
    rw [List.getD_eq_getElem?_getD (l := tgL T), e1]
    simp only [Option.getD_some, Int.toNat_natCast]
    rw [List.getD_eq_getElem?_getD, a1, k0]; rfl
theorem ob_of {i : Nat} {o : ObjV} (h : T[i]? = some o) : obAt T i = o := by unfold obAt; rw [List.getD_eq_getElem?_getD, h]; rfl
theorem sum_le {l : List ObjV} {m : Nat} (h : ∀ o ∈ l, o.ws.length ≤ m) : ts (szL l) ≤ m * l.length := by
  induction l with
  | nil => simp [szL, ts]
  | cons o l ih =>
    have h1 := h o (List.mem_cons_self ..)
    have h2 := ih fun x hx => h x (List.mem_cons_of_mem _ hx)
    have e : ts (szL (o :: l)) = o.ws.length + ts (szL l) := by simp [szL, ts]
    rw [e, List.length_cons, Nat.mul_succ]; omega
theorem no_data {l : List ObjV} (h : ∀ o ∈ l, o.ds = []) : ds (szL l) = 0 := by
  induction l with
  | nil => rfl
  | cons o l ih =>
    have h1 := h o (List.mem_cons_self ..)
    have h2 := ih fun x hx => h x (List.mem_cons_of_mem _ hx)
    have e : ds (szL (o :: l)) = o.ds.length + ds (szL l) := by simp [szL, ds]
    rw [e, h1, h2]; rfl
theorem t_size (R : Turn ns T) : LM.dend (szL T) ≤ 800 ∧ tend (szL T) ≤ 600 := by
  have h10 := R.few
  have h1 : ts (szL T) ≤ 13 * T.length := sum_le fun o ho => by
    rcases c_mem (R.mem o ho) with rfl | ⟨i, hi, rfl⟩
    · show ((callL ns.length).map wordOf).length ≤ 13
      rw [List.length_map, call_len]; omega
    · show ((funL _).map wordOf).length ≤ 13
      simp [funL]
  have h2 : ds (szL T) = 0 := no_data fun o ho => by
    rcases c_mem (R.mem o ho) with rfl | ⟨i, hi, rfl⟩ <;> rfl
  rw [R.len] at h1
  unfold LM.dend tend line
  rw [h2]
  omega
theorem t_ok (R : Turn ns T) : LM.ok (szL T) = true := by
  have := (t_size R).1
  unfold LM.ok
  rw [decide_eq_true]; omega
theorem text_even (objs : List ObjV) (i : Nat) : textAt (szL objs) i % 4 = 0 := by unfold textAt; omega
/-- the places -/
theorem t_place (R : Turn ns T) {i : Nat} {o : ObjV} (h : T[i]? = some o) : i < T.length ∧ 12 ≤ textAt (szL T) i ∧ textAt (szL T) i + 4 * o.ws.length ≤ 600 ∧ textAt (szL T) i + 4 * o.ws.length ≤ LM.dend (szL T) ∧ textAt (szL T) i % 4 = 0 := by
  have hi := (List.getElem?_eq_some_iff.1 h).1
  obtain ⟨a1, a2, a3, a4, a5, a6⟩ := areas hi
  have hz := (t_size R).2
  have ht := (textAt_le (szL T) (i + 1)).2
  have hd := tend_le (szL T)
  rw [ob_of h] at a1
  exact ⟨hi, a4, by omega, by omega, text_even _ _⟩
theorem adr_of {t : Nat} {o : ObjV} {s : SymV} (h : T[t]? = some o) (hs : o.ss[0]? = some s) (h1 : s.sect = 1) (h2 : s.val = 0) (hb : textAt (szL T) t ≤ 600) : adrOf T (t : Int) ((0 : Nat) : Int) = (textAt (szL T) t : Nat) := by
  unfold adrOf adr
  simp only [Int.toNat_natCast]
  rw [ob_of h, List.getD_eq_getElem?_getD, hs]
  simp only [Option.getD_some]
  rw [h1, if_pos rfl, h2]
  omega
theorem t_rel {pm j : Nat} (hp : T[pm]? = some (mainC ns.length)) (hj : j < ns.length) : relV T pm j = ⟨1, ((2 + j : Nat) : Int), 4, ((j + 1 : Nat) : Int), 0⟩ := by
  unfold relV
  rw [ob_of hp]
  show ((List.range ns.length).map fun i => (⟨1, ((2 + i : Nat) : Int), 4, ((i + 1 : Nat) : Int), 0⟩ : RelV)).getD j noRel = _
  rw [List.getD_eq_getElem?_getD, List.getElem?_map, List.getElem?_range hj]; rfl
theorem t_rlen {pm : Nat} (hp : T[pm]? = some (mainC ns.length)) : (obAt T pm).rs.length = ns.length := by rw [ob_of hp]; simp [mainC]
/-- one call's relocation: where, what it meets and what it is to lead to -/
theorem t_call (R : Turn ns T) {pm j : Nat} (hp : T[pm]? = some (mainC ns.length)) (hj : j < ns.length) : ∃ t : Nat, T[t]? = some (fO j (ns.getD j 0)) ∧ whereN T pm j = textAt (szL T) pm + 4 * (2 + j) ∧ whereOf T pm j = ((textAt (szL T) pm + 4 * (2 + j) : Nat) : Int) ∧ wasW T pm j = 239 ∧ KM.valOf T pm j = (textAt (szL T) t : Nat) := by
  obtain ⟨t, h1, h2⟩ := t_tgt R hp hj
  obtain ⟨hi, -⟩ := t_place R hp
  obtain ⟨q1, q2, q3, -⟩ := t_place R h2
  have hr := t_rel hp hj
  have hwn : whereN T pm j = textAt (szL T) pm + 4 * (2 + j) := by
    unfold whereN
    rw [hr, if_pos rfl, Int.toNat_natCast]
  refine ⟨t, h2, hwn, ?_, ?_, ?_⟩
  · rw [(where_in R.res (ok_lim (t_ok R)) hi (k := j) (by rw [t_rlen hp]; exact hj)).1, hwn]
  · unfold wasW
    rw [hr, if_pos rfl, ob_of hp]
    simp only [Int.toNat_natCast]
    show ((callL ns.length).map wordOf).getD (2 + j) 0 = 239
    rw [List.getD_eq_getElem?_getD, List.getElem?_map, call_get hj]
    decide +kernel
  · unfold KM.valOf
    rw [hr]
    simp only
    rw [h1]
    simp only
    have := adr_of h2 (s := ⟨nmB j, 1, 0, 0, true⟩) rfl rfl rfl (by omega)
    rw [show (0 : Int) = ((0 : Nat) : Int) from rfl, this]
    omega
theorem t_norel (R : Turn ns T) {i k : Nat} (hi : i < T.length) (hk : k < (obAt T i).rs.length) : T[i]? = some (mainC ns.length) := by
  rw [obAt_eq hi] at hk
  rcases c_mem (R.mem _ (List.getElem_mem hi)) with e | ⟨j, hj, e⟩
  · rw [List.getElem?_eq_getElem hi, e]
  · rw [e] at hk
    exact absurd hk (Nat.not_lt_zero _)
theorem t_near (R : Turn ns T) : Near T := by
  refine ⟨?_, fun i k hi hk => ?_⟩
  · obtain ⟨pm, h1, h2⟩ := t_main R
    obtain ⟨q1, q2, q3, q4, q5⟩ := t_place R h2
    rw [h1]
    simp only
    rw [adr_of h2 (s := ⟨mainB, 1, 0, 0, true⟩) rfl rfl rfl (by omega)]
    exact (jal_fit _ (by omega) (by omega)).1
  · have hp := t_norel R hi hk
    rw [t_rlen hp] at hk
    obtain ⟨t, e1, e2, e3, e4, e5⟩ := t_call R hp hk
    obtain ⟨q1, q2, q3, q4, q5⟩ := t_place R hp
    obtain ⟨r1, r2, r3, r4, r5⟩ := t_place R e1
    rw [show (mainC ns.length).ws.length = ns.length + 3 by show ((callL _).map wordOf).length = _; rw [List.length_map, call_len]] at q3 q4
    rw [t_rel hp hk, e3, e4, e5]
    exact (jal_far (by omega) (by omega) (by omega)).1
theorem t_link (R : Turn ns T) : linkOut T = ((linkS T).1, 0) := by
  obtain ⟨pm, h1, -⟩ := t_main R
  exact link_near (t_wf R) h1 (t_ok R) (t_near R)
/-! ### its words -/
theorem t_words (R : Turn ns T) {pm : Nat} (hm : mainOut T = ((pm : Int), ((0 : Nat) : Int), 0)) (hp : T[pm]? = some (mainC ns.length)) :
    word (linkS T).1 0 = wordOf (40, 1, 0, 0, (textAt (szL T) pm : Nat)) ∧
    (∀ i, i < 2 ∨ i = ns.length + 2 → ∀ x, (callL ns.length)[i]? = some x → word (linkS T).1 (textAt (szL T) pm + 4 * i) = wordOf x) ∧
    (∀ j, j < ns.length → ∃ t : Nat, T[t]? = some (fO j (ns.getD j 0)) ∧ word (linkS T).1 (textAt (szL T) pm + 4 * (2 + j)) = wordOf (40, 1, 0, 0, ((textAt (szL T) t : Nat) : Int) - ((textAt (szL T) pm + 4 * (2 + j) : Nat) : Int))) ∧
    (∀ t j, T[t]? = some (fO j (ns.getD j 0)) → ∀ i x, (funL (ns.getD j 0))[i]? = some x → word (linkS T).1 (textAt (szL T) t + 4 * i) = wordOf x) := by
  have hw := t_wf R; have hc := R.res; have hM := ok_lim (t_ok R); have hn := t_near R
  obtain ⟨q1, q2, q3, q4, q5⟩ := t_place R hp
  have hl : (mainC ns.length).ws.length = ns.length + 3 := by show ((callL _).map wordOf).length = _; rw [List.length_map, call_len]
  rw [hl] at q3 q4
  refine ⟨?_, fun i hi x hx => ?_, fun j hj => ?_, fun t j ht i x hx => ?_⟩
  · have e : pW 4 239 (adrOf T (mainOut T).1 (mainOut T).2.1) 0 = wordOf (40, 1, 0, 0, (textAt (szL T) pm : Nat)) := by
      rw [hm]
      simp only
      rw [adr_of hp (s := ⟨mainB, 1, 0, 0, true⟩) rfl rfl rfl (by omega)]
      exact (jal_fit _ (by omega) (by omega)).2
    have := links_start hw hc hM hn (by rw [e]; exact CL.enc_bd _ _ _ _ _)
    rw [this, e]
  · refine links_text hw hc hM q1 (by rw [ob_of hp]; show ((callL _).map wordOf)[i]? = _; rw [List.getElem?_map, hx]; rfl) (CL.enc_bd _ _ _ _ _) fun k hk _ => ?_
    rw [t_rlen hp] at hk
    rw [t_rel hp hk]
    simp only
    omega
  · obtain ⟨t, e1, e2, e3, e4, e5⟩ := t_call R hp hj
    obtain ⟨r1, r2, r3, r4, r5⟩ := t_place R e1
    have hk : j < (obAt T pm).rs.length := by rw [t_rlen hp]; exact hj
    have e : pW (relV T pm j).kind (wasW T pm j) (KM.valOf T pm j) (whereOf T pm j) = wordOf (40, 1, 0, 0, ((textAt (szL T) t : Nat) : Int) - ((textAt (szL T) pm + 4 * (2 + j) : Nat) : Int)) := by
      rw [t_rel hp hj, e3, e4, e5]
      exact (jal_far (by omega) (by omega) (by omega)).2
    have := links_word hw hc hM hn q1 hk (by rw [e]; exact CL.enc_bd _ _ _ _ _)
    rw [e, e2] at this
    exact ⟨t, e1, this⟩
  · have ht' := (t_place R ht).1
    refine links_text hw hc hM ht' (by rw [ob_of ht]; show ((funL _).map wordOf)[i]? = _; rw [List.getElem?_map, hx]; rfl) (CL.enc_bd _ _ _ _ _) fun k hk _ => ?_
    rw [ob_of ht] at hk
    exact absurd hk (Nat.not_lt_zero _)
/-! ### its run -/
theorem take_sum {ns : List Nat} {j : Nat} (h : j < ns.length) : (ns.take (j + 1)).sum = (ns.take j).sum + ns.getD j 0 := by
  rw [List.take_succ_eq_append_getElem h, List.sum_append, List.getD_eq_getElem?_getD, List.getElem?_eq_getElem h]
  simp
theorem t_run (R : Turn ns T) {N : Nat} {s0 : MM.St} {M : Nat → Int} {X : Nat → Int} (hN : LM.dend (szL T) ≤ N) (hN2 : N ≤ 2097152) (hM : M = MW.bytesOf (fun k => (linkS T).1.getD k 0) (LM.dend (szL T))) (h : Stands M s0 0 X) (hx : X 0 = 0) :
    (MM.run N 1000 s0 []).s.state = 1 ∧ ZV.codeOf (MM.run N 1000 s0 []).s = (ns.sum : Nat) ∧ (MM.run N 1000 s0 []).n = 3 * ns.length + 6 ∧ ZS.Easy N 1000 s0 [] := by
  obtain ⟨pm, hm, hp⟩ := t_main R
  obtain ⟨k0, k1, k2, k3⟩ := t_words R hm hp
  obtain ⟨g4, g8⟩ := head_words (t_wf R) R.res (ok_lim (t_ok R))
  obtain ⟨q1, q2, q3, q4, q5⟩ := t_place R hp
  have hl : (mainC ns.length).ws.length = ns.length + 3 := by show ((callL _).map wordOf).length = _; rw [List.length_map, call_len]
  rw [hl] at q3 q4
  have h10 := R.few
  have hz := tend_le (szL T)
  have hsb := sum_bd R.small
  have rd : ∀ x y, word (linkS T).1 x = y → x + 4 ≤ LM.dend (szL T) → num M x 4 = y := fun x y hxy hle => by rw [hM, mem_word hle]; exact hxy
  have m0 := rd _ _ k0 (by omega)
  have m4 := rd _ _ g4 (by omega)
  have m8 := rd _ _ g8 (by omega)
  have hj0 : good (40, 1, 0, 0, ((textAt (szL T) pm : Nat) : Int)) := mk_good (jal_good _ (by omega) (by omega)) (by omega) (by omega) (by omega) (by omega)
  have r := main_run (p0 := textAt (szL T) pm) (m := 1 + (1 + (3 * ns.length + 1))) h (N := N) (by omega) hN2 (by omega) m0 hj0 m4 m8 ((ns.sum : Nat) : Int) (by
    intro s1 X1 h1 hr hz1
    have w0 := rd _ _ (k1 0 (by omega) _ rfl) (by omega)
    have w1 := rd _ _ (k1 1 (by omega) _ rfl) (by omega)
    have wl := rd _ _ (k1 (ns.length + 2) (by omega) _ (call_last _)) (by omega)
    rw [Nat.mul_zero, Nat.add_zero] at w0
    obtain ⟨s2, t2, h2⟩ := addi_to (N := N) h1 (rd := 5) (r1 := 1) (im := 0) (by omega) w0 (call_good 0 _ (by simp [callL])) (by omega) (by omega) hN2
    obtain ⟨s3, t3, h3⟩ := addi_to (N := N) h2 (rd := 10) (r1 := 0) (im := 0) (by omega) w1 (call_good 0 _ (by simp [callL])) (by omega) (by omega) hN2
    have key : ∀ j, j ≤ ns.length → ∃ s' X', To N s3 s' (3 * j) ∧ Stands M s' (textAt (szL T) pm + 4 + 4 + 4 * j) X' ∧ X' 10 = (((ns.take j).sum : Nat) : Int) ∧ X' 5 = 4 ∧ X' 0 = 0 := by
      intro j
      induction j with
      | zero =>
        intro _
        exact ⟨s3, _, fun k => ⟨rfl, id⟩, h3, by simp [upd, hz1, hx], by simp [upd, hr], by simp [upd, hz1, hx]⟩
      | succ j ih =>
        intro hj
        obtain ⟨s4, X4, t4, h4, x10, x5, x0⟩ := ih (by omega)
        obtain ⟨t, e1, e2⟩ := k2 j (by omega)
        obtain ⟨r1, r2, r3, r4, r5⟩ := t_place R e1
        have hfl : (fO j (ns.getD j 0)).ws.length = 2 := rfl
        rw [hfl] at r3 r4
        have hxj : ns.getD j 0 ≤ 255 := by
          rw [List.getD_eq_getElem?_getD, List.getElem?_eq_getElem (show j < ns.length by omega)]
          exact R.small _ (List.getElem_mem _)
        have hts := take_sum (ns := ns) (j := j) (by omega)
        have htl : ((ns.take (j + 1)).sum : Nat) ≤ 255 * (j + 1) := by
          have := sum_bd (ns := ns.take (j + 1)) fun n hn => R.small n (List.mem_of_mem_take hn)
          rw [List.length_take] at this
          exact Nat.le_trans this (Nat.mul_le_mul_left _ (Nat.min_le_left _ _))
        have wj := rd _ _ e2 (by omega)
        have f0 := rd _ _ (k3 t j e1 0 _ rfl) (by omega)
        have f1 := rd _ _ (k3 t j e1 1 _ rfl) (by omega)
        rw [Nat.mul_zero, Nat.add_zero] at f0
        have ej : textAt (szL T) pm + 4 + 4 + 4 * j = textAt (szL T) pm + 4 * (2 + j) := by omega
        rw [ej] at h4
        obtain ⟨s5, t5, h5⟩ := jal_to (N := N) h4 (q := textAt (szL T) t) wj (mk_good (jal_any _ (by omega) (by omega) (by omega)) (by omega) (by omega) (by omega) (by omega)) (by omega) (by omega) hN2 (by omega)
        obtain ⟨s6, t6, h6⟩ := addi_to (N := N) h5 (rd := 10) (r1 := 10) (im := ((ns.getD j 0 : Nat) : Int)) (by omega) f0 (add_good _ hxj) (by omega) (by omega) hN2
        obtain ⟨s7, t7, h7⟩ := jalr_to (N := N) h6 (r1 := 1) (q := textAt (szL T) pm + 4 * (2 + j) + 4) f1 (fun_good hxj _ (by simp [funL])) (by omega) (by omega) (by simp [upd]) (by omega) (by omega)
        rw [show textAt (szL T) pm + 4 * (2 + j) + 4 = textAt (szL T) pm + 4 + 4 + 4 * (j + 1) by omega] at h7
        refine ⟨s7, _, ?_, h7, ?_, ?_, ?_⟩
        · have := t4.trans (t5.trans (t6.trans t7))
          rwa [show 3 * j + (1 + (1 + 1)) = 3 * (j + 1) by omega] at this
        · simp only [upd, if_true]
          rw [if_neg (by decide), x10, hts]
          omega
        · simp [upd, x5]
        · simp [upd, x0]
    obtain ⟨s8, X8, t8, h8, x10, x5, x0⟩ := key ns.length (Nat.le_refl _)
    rw [List.take_length] at x10
    obtain ⟨s9, t9, h9⟩ := jalr_to (N := N) h8 (r1 := 5) (q := 4) (by rw [show textAt (szL T) pm + 4 + 4 + 4 * ns.length = textAt (szL T) pm + 4 * (ns.length + 2) by omega]; exact wl) (call_good 0 _ (by simp [callL])) (by omega) (by omega) x5 rfl (by omega)
    exact ⟨s9, X8, t2.trans (t3.trans (t8.trans t9)), h9, x10, x0⟩) hx (994 - 3 * ns.length)
  rw [show 994 - 3 * ns.length + 1 + (1 + (1 + (1 + (3 * ns.length + 1)) + 1)) = 1000 by omega] at r
  rw [show 1 + (1 + (3 * ns.length + 1)) + 3 = 3 * ns.length + 6 by omega] at r
  exact r
/-- the image, its length and what it does -/
theorem t_does (R : Turn ns T) : ∃ bs, linkOut T = (bs, 0) ∧ ∀ (N : Nat) (u : Int), LM.dend (szL T) ≤ N → N ≤ 2097152 → ∃ Z, MM.run N 1000 (MW.loaded (fun k => bs.getD k 0) (LM.dend (szL T)) u N 0) [] = Z ∧ Z.s.state = 1 ∧ ZV.codeOf Z.s = (ns.sum : Nat) ∧ Z.n = 3 * ns.length + 6 ∧ ZS.Easy N 1000 (MW.loaded (fun k => bs.getD k 0) (LM.dend (szL T)) u N 0) [] :=
  ⟨_, t_link R, fun N u h1 h2 => ⟨_, rfl, t_run R (N := N) h1 h2 rfl (KW.loaded_at _ _ u N) (by simp [MM.upd])⟩⟩
end
end KQ
end Go.Proofs.YtlmblfkcmhgdaaaGreat
namespace Go.Proofs.YtlmblfkcmhgdaaaGreat
open Go.RowKit
set_option linter.unusedVariables false
set_option linter.unusedSimpArgs false
namespace KCc
open OO OJ RsM RsY LM KM KI KQ MB
abbrev TO : TypeId := 30
abbrev TSy : TypeId := 57
abbrev TRe : TypeId := 59
abbrev TIn : TypeId := 54
def symC (s : SymV) : List Value := [.string s.name, .int .i64 s.sect, .int .i64 s.val, .int .i64 s.frame, .bool s.glob]
def relC (r : RelV) : List Value := [.int .i64 r.sect, .int .i64 r.place, .int .i64 r.kind, .int .i64 r.sym, .int .i64 r.add]
def insV (i : Ins) : List Value := [.int .i64 i.1, .int .i64 i.2.1, .int .i64 i.2.2.1, .int .i64 i.2.2.2.1, .int .i64 i.2.2.2.2]
def mSyms (k : Nat) : List SymV := ⟨mainB, 1, 0, 0, true⟩ :: (List.range k).map fun i => ⟨nmB i, 0, 0, 0, true⟩
def mRels (k : Nat) : List RelV := (List.range k).map fun i => ⟨1, ((2 + i : Nat) : Int), 4, ((i + 1 : Nat) : Int), 0⟩
def preL (k : Nat) : List Ins := (18, 5, 1, 0, 0) :: (18, 10, 0, 0, 0) :: List.replicate k (40, 1, 0, 0, 0)
theorem syms_succ (k : Nat) : (mSyms (k + 1)).flatMap symC = (mSyms k).flatMap symC ++ [.string (nmB k), .int .i64 0, .int .i64 0, .int .i64 0, .bool true] := by
  unfold mSyms
  rw [List.range_succ, List.map_append]
  simp [symC]
theorem rels_succ (k : Nat) : (mRels (k + 1)).flatMap relC = (mRels k).flatMap relC ++ [.int .i64 1, .int .i64 ((2 + k : Nat) : Int), .int .i64 4, .int .i64 ((k + 1 : Nat) : Int), .int .i64 0] := by
  unfold mRels
  rw [List.range_succ, List.map_append]
  simp [relC]
theorem pre_succ (k : Nat) : (preL (k + 1)).flatMap insV = (preL k).flatMap insV ++ [.int .i64 40, .int .i64 1, .int .i64 0, .int .i64 0, .int .i64 0] := by
  unfold preL
  rw [List.replicate_succ']
  simp [insV]
theorem pre_all (k : Nat) : (preL k).flatMap insV ++ [.int .i64 41, .int .i64 0, .int .i64 5, .int .i64 0, .int .i64 0] = (callL k).flatMap insV := by
  unfold preL callL
  simp [insV]
/-- the objects' cells -/
def oC (xv sv rv : Value) (vs : List (Value × Value)) : List Value := [xv, .slice none 0 0, sv, rv] ++ vs.flatMap fun p => [p.1, .slice none 0 0, p.2, .slice none 0 0]
theorem oC_set0 (xv sv rv u : Value) (vs : List (Value × Value)) : (oC xv sv rv vs).set 0 u = oC u sv rv vs := rfl
theorem oC_set2 (xv sv rv u : Value) (vs : List (Value × Value)) : (oC xv sv rv vs).set 2 u = oC xv u rv vs := rfl
theorem oC_set3 (xv sv rv u : Value) (vs : List (Value × Value)) : (oC xv sv rv vs).set 3 u = oC xv sv u vs := rfl
theorem oC_len (xv sv rv : Value) (vs : List (Value × Value)) : (oC xv sv rv vs).length = (vs.length + 1) * 4 := by
  unfold oC
  rw [List.length_append]
  have : ∀ l : List (Value × Value), (l.flatMap fun p => [p.1, .slice none 0 0, p.2, .slice none 0 0]).length = l.length * 4 := by
    intro l
    induction l with
    | nil => rfl
    | cons p l ih => rw [List.flatMap_cons, List.length_append, ih, List.length_cons]; simp; omega
  rw [this]; simp; omega
theorem oC_snoc (xv sv rv : Value) (vs : List (Value × Value)) (p : Value × Value) : oC xv sv rv (vs ++ [p]) = oC xv sv rv vs ++ [p.1, .slice none 0 0, p.2, .slice none 0 0] := by
  unfold oC
  rw [List.flatMap_append, List.append_assoc]; rfl
theorem oC_at (xv sv rv : Value) : ∀ (vs : List (Value × Value)) (i : Nat) (p : Value × Value), vs[i]? = some p → (oC xv sv rv vs)[(i + 1) * 4]? = some p.1 ∧ (oC xv sv rv vs)[(i + 1) * 4 + 1]? = some (.slice none 0 0) ∧ (oC xv sv rv vs)[(i + 1) * 4 + 2]? = some p.2 ∧ (oC xv sv rv vs)[(i + 1) * 4 + 3]? = some (.slice none 0 0) := by
  intro vs i p h
  have key : ∀ (l : List (Value × Value)) (i : Nat), l[i]? = some p → ∀ q, q < 4 → (l.flatMap fun p => [p.1, .slice none 0 0, p.2, .slice none 0 0])[i * 4 + q]? = [p.1, .slice none 0 0, p.2, .slice none 0 0][q]? := by
    intro l
    induction l with
    | nil => intro i h; simp at h
    | cons x l ih =>
      intro i h q hq
      rw [List.flatMap_cons]
      match i, h with
      | 0, h =>
        cases h
        rw [List.getElem?_append_left (by simpa using hq)]
        congr 1; omega
      | i + 1, h =>
        rw [List.getElem?_append_right (by simp; omega)]
        have := ih i h q hq
        rw [← this]
        congr 1
        simp
        omega
  have k := fun q hq => key vs i h q hq
  have e : ∀ q, (oC xv sv rv vs)[(i + 1) * 4 + q]? = (vs.flatMap fun p => [p.1, .slice none 0 0, p.2, .slice none 0 0])[i * 4 + q]? := fun q => by
    unfold oC
    rw [List.getElem?_append_right (by simp; omega)]
    congr 1
    simp
    omega
  exact ⟨(e 0).trans (k 0 (by omega)), (e 1).trans (k 1 (by omega)), (e 2).trans (k 2 (by omega)), (e 3).trans (k 3 (by omega))⟩
/-! ### rows that are apart -/
def D (a b : Value) : Prop := a.ownBlock = none ∨ a.ownBlock ≠ b.ownBlock
theorem D.symm {a b : Value} (h : D a b) : D b a := by
  unfold D at *
  rcases h with h | h
  · cases hb : b.ownBlock with
    | none => exact .inl rfl
    | some x => exact .inr (by rw [h]; exact fun e => by cases e)
  · exact .inr (Ne.symm h)
theorem own_set {w : World} {base size g n cap : Nat} {T : TypeId} {xs : List Value} (h : w.ownsRow base T size (.slice (some ⟨g, 0, none⟩) n cap) n xs) (j : Nat) (u : Value) : (w.setCell ⟨g, j, none⟩ u).ownsRow base T size (.slice (some ⟨g, 0, none⟩) n cap) n (xs.set j u) := by
  refine ⟨by rw [List.length_set]; exact h.1, ?_⟩
  rcases h.2 with ⟨e, -⟩ | ⟨g', cap', cur, e, h1, h2, h3, h4, h5, h6⟩
  · cases e
  · cases e
    refine .inr ⟨g, cap, cur.setIfInBounds j u, rfl, h1, heap_setCell_same w g j _ _ u h2, h3, h4, by simpa using h5, ?_⟩
    rw [Array.toList_setIfInBounds, ← h6]
    rw [List.take_set]
theorem own_blk {w : World} {base size b n : Nat} {T : TypeId} {cs : List Value} (h : w.heap[b]? = some (.cells cs.toArray T (0, 0))) (hb : base ≤ b) (hn : cs.length = n * size) (hm : n ≤ maxLen) : w.ownsRow base T size (.slice (some ⟨b, 0, none⟩) n n) n cs :=
  ⟨hn, .inr ⟨b, n, cs.toArray, rfl, hb, h, Nat.le_refl _, hm, by simpa using hn, by rw [← hn]; simp⟩⟩
theorem gr_none {w w' : World} (h : Below w.heap.size w w') (r : Option Nat) : w.grownBy w' r := ⟨h.os, h.tape, h.output, h.size, fun i hi _ => h.block i hi⟩
theorem gr_trans {u v w : World} {r : Option Nat} (a : u.grownBy v r) (b : v.grownBy w r) : u.grownBy w r :=
  ⟨b.os.trans a.os, b.tape.trans a.tape, b.output.trans a.output, Nat.le_trans a.size b.size, fun i hi hn => (b.block i (Nat.lt_of_lt_of_le hi a.size) hn).trans (a.block i hi hn)⟩
theorem gr_set {u v : World} {g j : Nat} (h : u.grownBy v (some g)) (x : Value) : u.grownBy (v.setCell ⟨g, j, none⟩ x) (some g) :=
  gr_trans h ⟨rfl, rfl, rfl, by simp [World.setCell], fun i _ hi => heap_setCell_other v ⟨g, j, none⟩ i x (fun e => hi (by rw [e]))⟩
/-- what an object of a function points to -/
structure Fx (W : World) (i x : Nat) (p : Value × Value) (bl : List Value) : Prop where
  ex : ∃ t c y : Nat, p = (.slice (some ⟨t, 0, none⟩) 2 c, .slice (some ⟨y, 0, none⟩) 1 1) ∧ t < W.heap.size ∧ y < W.heap.size ∧ 2 ≤ c ∧ c ≤ maxLen ∧ Row .u32 W t 0 ((funL x).map wordOf) ∧ W.heap[y]? = some (.cells #[.string (nmB i), .int .i64 1, .int .i64 0, .int .i64 0, .bool true] TSy (0, 0)) ∧ ∀ v ∈ bl, v.ownBlock ≠ some t ∧ v.ownBlock ≠ some y
theorem Fx.kept {W W' : World} {i x : Nat} {p : Value × Value} {bl bl' : List Value} {r : Value} (h : Fx W i x p bl) (hr : r ∈ bl) (g : W.grownBy W' r.ownBlock) (hbl : ∀ v ∈ bl', (∃ u ∈ bl, v.ownBlock = u.ownBlock) ∨ ∃ b, v.ownBlock = some b ∧ W.heap.size ≤ b) : Fx W' i x p bl' := by
  obtain ⟨t, c, y, rfl, h1, h2, h3, h4, h5, h6, h7⟩ := h.ex
  obtain ⟨n1, n2⟩ := h7 r hr
  have b1 : W'.heap[t]? = W.heap[t]? := g.block t h1 (Ne.symm n1)
  refine ⟨t, c, y, rfl, Nat.lt_of_lt_of_le h1 g.size, Nat.lt_of_lt_of_le h2 g.size, h3, h4, fun j z hj => ?_, (g.block y h2 (Ne.symm n2)).trans h6, fun v hv => ?_⟩
  · rw [← h5 j z hj]
    exact cell_same b1 _
  · rcases hbl v hv with ⟨u, hu, e⟩ | ⟨b, e, hb⟩
    · rw [e]; exact h7 u hu
    · rw [e]
      exact ⟨fun q => by injection q with q; omega, fun q => by injection q with q; omega⟩
/-- the four rows, and what the objects point to -/
structure CI (w0 : World) (H : Nat) (ns : List Nat) (ks kr nl : Nat) (li : List Value) (ko : Nat) (ov lv xv sv rv : Value) (vs : List (Value × Value)) (W : World) : Prop where
  bel : Below w0.heap.size w0 W
  lo : w0.heap.size ≤ H
  le : H ≤ W.heap.size
  o : W.ownsRow H TO 4 ov (ko + 1) (oC xv sv rv vs)
  s : W.ownsRow H TSy 5 sv (ks + 1) ((mSyms ks).flatMap symC)
  r : W.ownsRow H TRe 5 rv kr ((mRels kr).flatMap relC)
  l : W.ownsRow H TIn 5 lv nl li
  n : vs.length = ko
  f : ∀ i p, vs[i]? = some p → Fx W i (ns.getD i 0) p [ov, sv, rv, lv]
  os : D ov sv
  or_ : D ov rv
  ol : D ov lv
  sr : D sv rv
  sl : D sv lv
  rl : D rv lv
section
variable {w0 W W' : World} {H ks kr nl ko : Nat} {li : List Value} {ns : List Nat} {ov lv xv sv rv : Value} {vs : List (Value × Value)}
theorem bel_of {r : Value} {n z : Nat} {T : TypeId} {xs : List Value} (h : CI w0 H ns ks kr nl li ko ov lv xv sv rv vs W) (hr : W.ownsRow H T z r n xs) (g : W.grownBy W' r.ownBlock) : Below w0.heap.size w0 W' := by
  refine h.bel.trans ⟨g.os, g.tape, g.output, g.size, fun k hk => g.block k (Nat.lt_of_lt_of_le hk h.bel.size) fun e => ?_⟩
  have := (hr.lt k e.symm).1
  have := h.lo
  omega
theorem new_D {a b : Value} {g n c : Nat} (ha : ∀ k, a.ownBlock = some k → k < W.heap.size) (h : D a b) (hb : b.ownBlock = some g ∨ W.heap.size ≤ g) : D a (.slice (some ⟨g, 0, none⟩) n c) := by
  unfold D at *
  rcases hb with hb | hb
  · rw [hb] at h; exact h
  · cases e : a.ownBlock with
    | none => exact .inl rfl
    | some k => exact .inr (fun q => by have := ha k e; injection q with q; have q' : k = g := q; omega)
theorem lt_ {T : TypeId} {z n : Nat} {v : Value} {xs : List Value} (h : W.ownsRow H T z v n xs) : ∀ k, v.ownBlock = some k → k < W.heap.size := fun k e => (h.lt k e).2
theorem mem4 {a b c d v : Value} (h : v ∈ [a, b, c, d]) : v = a ∨ v = b ∨ v = c ∨ v = d := by simpa using h
theorem hb4 {a b c d a' b' c' d' : Value} (P : Value → Prop) (ha : P a') (hb : P b') (hc : P c') (hd : P d') : ∀ v ∈ [a', b', c', d'], P v := fun v hv => by
  rcases mem4 hv with rfl | rfl | rfl | rfl
  · exact ha
  · exact hb
  · exact hc
  · exact hd
theorem new_bl {u : Value} {bl : List Value} {g n c : Nat} (hu : u ∈ bl) (hat : u.ownBlock = some g ∨ W.heap.size ≤ g) : (∃ u ∈ bl, (Value.slice (some ⟨g, 0, none⟩) n c).ownBlock = u.ownBlock) ∨ ∃ b, (Value.slice (some ⟨g, 0, none⟩) n c).ownBlock = some b ∧ W.heap.size ≤ b := by
  rcases hat with e | e
  · exact .inl ⟨u, hu, e.symm⟩
  · exact .inr ⟨g, rfl, e⟩
theorem old_bl {u : Value} {bl : List Value} (hu : u ∈ bl) : (∃ v ∈ bl, u.ownBlock = v.ownBlock) ∨ ∃ b, u.ownBlock = some b ∧ W.heap.size ≤ b := .inl ⟨u, hu, rfl⟩
/-- a symbol more -/
theorem CI.sym (h : CI w0 H ns ks kr nl li ko ov lv xv sv rv vs W) {g c go co : Nat} (ho : ov = .slice (some ⟨go, 0, none⟩) (ko + 1) co) (hg : W.grownBy W' sv.ownBlock) (hat : sv.ownBlock = some g ∨ W.heap.size ≤ g)
    (hs : W'.ownsRow H TSy 5 (.slice (some ⟨g, 0, none⟩) (ks + 1 + 1) c) (ks + 1 + 1) ((mSyms (ks + 1)).flatMap symC)) :
    CI w0 H ns (ks + 1) kr nl li ko ov lv xv (.slice (some ⟨g, 0, none⟩) (ks + 1 + 1) c) rv vs (W'.setCell ⟨go, 2, none⟩ (.slice (some ⟨g, 0, none⟩) (ks + 1 + 1) c)) := by
  have hb := bel_of h h.s hg
  have o' := h.o.kept hg h.os
  have hgo : ov.ownBlock = some go := by rw [ho]; rfl
  have g2 : ∀ x, W'.grownBy (W'.setCell ⟨go, 2, none⟩ x) (some go) := fun x => gr_set ⟨rfl, rfl, rfl, Nat.le_refl _, fun _ _ _ => rfl⟩ x
  have ds : D (.slice (some ⟨g, 0, none⟩) (ks + 1 + 1) c) ov := (new_D (lt_ h.o) h.os hat).symm
  refine ⟨hb.setCell (by have := (h.o.lt go hgo).1; have := h.lo; show _ ≤ go; omega) _, h.lo, Nat.le_trans h.le (Nat.le_trans hg.size (g2 _).size), ?_, hs.kept (g2 _) ?_, (h.r.kept hg h.sr.symm).kept (g2 _) ?_, (h.l.kept hg h.sl.symm).kept (g2 _) ?_, h.n, fun i p hp => ?_, ds.symm, h.or_, h.ol, (new_D (lt_ h.r) h.sr.symm hat).symm, (new_D (lt_ h.l) h.sl.symm hat).symm, h.rl⟩
  · rw [ho] at o' ⊢
    have := own_set o' 2 (.slice (some ⟨g, 0, none⟩) (ks + 1 + 1) c)
    rwa [oC_set2] at this
  · rw [← hgo]; exact ds
  · rw [← hgo]; exact h.or_.symm
  · rw [← hgo]; exact h.ol.symm
  · have f1 : Fx W' i (ns.getD i 0) p [ov, (.slice (some ⟨g, 0, none⟩) (ks + 1 + 1) c), rv, lv] := (h.f i p hp).kept (r := sv) (by simp) hg (hb4 (a := ov) (b := sv) (c := rv) (d := lv) _ (old_bl (by simp)) (new_bl (u := sv) (by simp) hat) (old_bl (by simp)) (old_bl (by simp)))
    exact f1.kept (r := ov) (by simp) (by rw [hgo]; exact g2 _) fun v hv => old_bl hv
/-- a relocation more -/
theorem CI.rel (h : CI w0 H ns ks kr nl li ko ov lv xv sv rv vs W) {g c go co : Nat} (ho : ov = .slice (some ⟨go, 0, none⟩) (ko + 1) co) (hg : W.grownBy W' rv.ownBlock) (hat : rv.ownBlock = some g ∨ W.heap.size ≤ g)
    (hs : W'.ownsRow H TRe 5 (.slice (some ⟨g, 0, none⟩) (kr + 1) c) (kr + 1) ((mRels (kr + 1)).flatMap relC)) :
    CI w0 H ns ks (kr + 1) nl li ko ov lv xv sv (.slice (some ⟨g, 0, none⟩) (kr + 1) c) vs (W'.setCell ⟨go, 3, none⟩ (.slice (some ⟨g, 0, none⟩) (kr + 1) c)) := by
  have hb := bel_of h h.r hg
  have o' := h.o.kept hg h.or_
  have hgo : ov.ownBlock = some go := by rw [ho]; rfl
  have g2 : ∀ x, W'.grownBy (W'.setCell ⟨go, 3, none⟩ x) (some go) := fun x => gr_set ⟨rfl, rfl, rfl, Nat.le_refl _, fun _ _ _ => rfl⟩ x
  have ds : D (.slice (some ⟨g, 0, none⟩) (kr + 1) c) ov := (new_D (lt_ h.o) h.or_ hat).symm
  refine ⟨hb.setCell (by have := (h.o.lt go hgo).1; have := h.lo; show _ ≤ go; omega) _, h.lo, Nat.le_trans h.le (Nat.le_trans hg.size (g2 _).size), ?_, (h.s.kept hg h.sr).kept (g2 _) ?_, hs.kept (g2 _) ?_, (h.l.kept hg h.rl.symm).kept (g2 _) ?_, h.n, fun i p hp => ?_, h.os, ds.symm, h.ol, new_D (lt_ h.s) h.sr hat, h.sl, (new_D (lt_ h.l) h.rl.symm hat).symm⟩
  · rw [ho] at o' ⊢
    have := own_set o' 3 (.slice (some ⟨g, 0, none⟩) (kr + 1) c)
    rwa [oC_set3] at this
  · rw [← hgo]; exact h.os.symm
  · rw [← hgo]; exact ds
  · rw [← hgo]; exact h.ol.symm
  · have f1 : Fx W' i (ns.getD i 0) p [ov, sv, (.slice (some ⟨g, 0, none⟩) (kr + 1) c), lv] := (h.f i p hp).kept (r := rv) (by simp) hg (hb4 (a := ov) (b := sv) (c := rv) (d := lv) _ (old_bl (by simp)) (old_bl (by simp)) (new_bl (u := rv) (by simp) hat) (old_bl (by simp)))
    exact f1.kept (r := ov) (by simp) (by rw [hgo]; exact g2 _) fun v hv => old_bl hv
/-- an instruction more -/
theorem CI.ins (h : CI w0 H ns ks kr nl li ko ov lv xv sv rv vs W) {g c m : Nat} {li' : List Value} (hg : W.grownBy W' lv.ownBlock) (hat : lv.ownBlock = some g ∨ W.heap.size ≤ g)
    (hs : W'.ownsRow H TIn 5 (.slice (some ⟨g, 0, none⟩) m c) m li') :
    CI w0 H ns ks kr m li' ko ov (.slice (some ⟨g, 0, none⟩) m c) xv sv rv vs W' :=
  ⟨bel_of h h.l hg, h.lo, Nat.le_trans h.le hg.size, h.o.kept hg h.ol, h.s.kept hg h.sl, h.r.kept hg h.rl, hs, h.n,
    fun i p hp => (h.f i p hp).kept (r := lv) (by simp) hg (hb4 (a := ov) (b := sv) (c := rv) (d := lv) _ (old_bl (by simp)) (old_bl (by simp)) (old_bl (by simp)) (new_bl (u := lv) (by simp) hat)),
    h.os, h.or_, new_D (lt_ h.o) h.ol hat, h.sr, new_D (lt_ h.s) h.sl hat, new_D (lt_ h.r) h.rl hat⟩
/-- what only makes memory leaves all this alone -/
theorem CI.below (h : CI w0 H ns ks kr nl li ko ov lv xv sv rv vs W) (hb : Below W.heap.size W W') : CI w0 H ns ks kr nl li ko ov lv xv sv rv vs W' :=
  have k : ∀ {v : Value}, v.ownBlock = none ∨ v.ownBlock ≠ none := fun {v} => by cases v.ownBlock <;> simp
  ⟨h.bel.trans (hb.mono h.bel.size), h.lo, Nat.le_trans h.le hb.size, h.o.kept (gr_none hb none) k, h.s.kept (gr_none hb none) k, h.r.kept (gr_none hb none) k, h.l.kept (gr_none hb none) k, h.n,
    fun i p hp => (h.f i p hp).kept (r := ov) (by simp) (gr_none hb _) fun v hv => old_bl hv, h.os, h.or_, h.ol, h.sr, h.sl, h.rl⟩
/-- an object more -/
theorem CI.obj (h : CI w0 H ns ks kr nl li ko ov lv xv sv rv vs W) {g c t y ct : Nat} (hg : W.grownBy W' ov.ownBlock) (hat : ov.ownBlock = some g ∨ W.heap.size ≤ g)
    (hs : W'.ownsRow H TO 4 (.slice (some ⟨g, 0, none⟩) (ko + 1 + 1) c) (ko + 1 + 1) (oC xv sv rv vs ++ [.slice (some ⟨t, 0, none⟩) 2 ct, .slice none 0 0, .slice (some ⟨y, 0, none⟩) 1 1, .slice none 0 0]))
    (ht : W.heap.size ≤ t) (hy : W.heap.size ≤ y) (hgt : g ≠ t) (hgy : g ≠ y) (ht2 : t < W'.heap.size) (hy2 : y < W'.heap.size) (hc : 2 ≤ ct) (hc2 : ct ≤ maxLen) (row : Row .u32 W' t 0 ((funL (ns.getD ko 0)).map wordOf)) (sy : W'.heap[y]? = some (.cells #[.string (nmB ko), .int .i64 1, .int .i64 0, .int .i64 0, .bool true] TSy (0, 0))) :
    CI w0 H ns ks kr nl li (ko + 1) (.slice (some ⟨g, 0, none⟩) (ko + 1 + 1) c) lv xv sv rv (vs ++ [(.slice (some ⟨t, 0, none⟩) 2 ct, .slice (some ⟨y, 0, none⟩) 1 1)]) W' := by
  have fr : ∀ {T : TypeId} {z n : Nat} {v : Value} {xs : List Value}, W.ownsRow H T z v n xs → v.ownBlock ≠ some t ∧ v.ownBlock ≠ some y := fun hr =>
    ⟨fun e => by have := lt_ hr _ e; omega, fun e => by have := lt_ hr _ e; omega⟩
  refine ⟨bel_of h h.o hg, h.lo, Nat.le_trans h.le hg.size, by rw [oC_snoc]; exact hs, h.s.kept hg h.os.symm, h.r.kept hg h.or_.symm, h.l.kept hg h.ol.symm, by rw [List.length_append, h.n]; rfl, fun i p hp => ?_, (new_D (lt_ h.s) h.os.symm hat).symm, (new_D (lt_ h.r) h.or_.symm hat).symm, (new_D (lt_ h.l) h.ol.symm hat).symm, h.sr, h.sl, h.rl⟩
  by_cases hi : i < vs.length
  · rw [List.getElem?_append_left hi] at hp
    exact (h.f i p hp).kept (r := ov) (by simp) hg (hb4 (a := ov) (b := sv) (c := rv) (d := lv) _ (new_bl (u := ov) (by simp) hat) (old_bl (by simp)) (old_bl (by simp)) (old_bl (by simp)))
  · rw [List.getElem?_append_right (by omega)] at hp
    have e : i = vs.length := by
      have := (List.getElem?_eq_some_iff.1 hp).1
      simp at this; omega
    rw [e, Nat.sub_self] at hp
    cases hp
    rw [e, h.n]
    refine ⟨t, ct, y, rfl, ht2, hy2, hc, hc2, row, sy, hb4 (a := ov) (b := sv) (c := rv) (d := lv) _ ⟨fun q => ?_, fun q => ?_⟩ (fr h.s) (fr h.r) (fr h.l)⟩
    · injection q with q; exact hgt q
    · injection q with q; exact hgy q
/-- main's words -/
theorem CI.text (h : CI w0 H ns ks kr nl li ko ov lv xv sv rv vs W) {go co : Nat} (ho : ov = .slice (some ⟨go, 0, none⟩) (ko + 1) co) (u : Value) : CI w0 H ns ks kr nl li ko ov lv u sv rv vs (W.setCell ⟨go, 0, none⟩ u) := by
  have hgo : ov.ownBlock = some go := by rw [ho]; rfl
  have g2 : W.grownBy (W.setCell ⟨go, 0, none⟩ u) ov.ownBlock := by rw [hgo]; exact gr_set ⟨rfl, rfl, rfl, Nat.le_refl _, fun _ _ _ => rfl⟩ u
  refine ⟨h.bel.setCell (by have := (h.o.lt go hgo).1; have := h.lo; show _ ≤ go; omega) _, h.lo, Nat.le_trans h.le g2.size, ?_, h.s.kept g2 h.os.symm, h.r.kept g2 h.or_.symm, h.l.kept g2 h.ol.symm, h.n, fun i p hp => (h.f i p hp).kept (r := ov) (by simp) g2 fun v hv => old_bl hv, h.os, h.or_, h.ol, h.sr, h.sl, h.rl⟩
  have o' := h.o
  rw [ho] at o' ⊢
  have := own_set o' 0 u
  rwa [oC_set0] at this
end
theorem flat_get {α : Type} (f : α → List Value) (z : Nat) (hz : ∀ a, (f a).length = z) : ∀ (l : List α) (j : Nat) (a : α), l[j]? = some a → ∀ q, q < z → (l.flatMap f)[j * z + q]? = (f a)[q]?
  | [], j, a, h, q, hq => by simp at h
  | x :: l, 0, a, h, q, hq => by
    cases h
    rw [List.flatMap_cons, List.getElem?_append_left (by rw [hz]; omega)]
    congr 1; omega
  | x :: l, j + 1, a, h, q, hq => by
    have ih := flat_get f z hz l j a h q hq
    rw [List.flatMap_cons, List.getElem?_append_right (by rw [hz, Nat.add_mul]; omega), hz, ← ih]
    congr 1
    rw [Nat.add_mul]; omega
theorem row_syms {W : World} {H n : Nat} {v : Value} {ss : List SymV} (h : W.ownsRow H TSy 5 v n (ss.flatMap symC)) (hn : n = ss.length) : Syms W.heap.size W v ss := by
  subst hn
  rcases h.2 with ⟨rfl, e⟩ | ⟨g, cap, cur, rfl, -, hg, h1, h2, -⟩
  · exact ⟨none, 0, by rw [e], fun h0 => by omega⟩
  · refine ⟨some ⟨g, 0, none⟩, cap, rfl, fun h0 => ⟨g, 0, rfl, lt_heap hg, h1, h2, fun j s hj => ?_⟩⟩
    have c := fun q u (e : (symC s)[q]? = some u) (hq : q < 5) => h.cells (g := g) rfl (j * 5 + q) u ((flat_get symC 5 (fun _ => rfl) ss j s hj q hq).trans e)
    simp only [OO.add_plain, Nat.zero_add] at c ⊢
    exact ⟨c 0 _ rfl (by omega), c 1 _ rfl (by omega), c 2 _ rfl (by omega), c 3 _ rfl (by omega), c 4 _ rfl (by omega)⟩
theorem row_rels {W : World} {H n : Nat} {v : Value} {rs : List RelV} (h : W.ownsRow H TRe 5 v n (rs.flatMap relC)) (hn : n = rs.length) : Rels W.heap.size W v rs := by
  subst hn
  rcases h.2 with ⟨rfl, e⟩ | ⟨g, cap, cur, rfl, -, hg, h1, h2, -⟩
  · exact ⟨none, 0, by rw [e], fun h0 => by omega⟩
  · refine ⟨some ⟨g, 0, none⟩, cap, rfl, fun h0 => ⟨g, 0, rfl, lt_heap hg, h1, h2, fun j s hj => ?_⟩⟩
    have c := fun q u (e : (relC s)[q]? = some u) (hq : q < 5) => h.cells (g := g) rfl (j * 5 + q) u ((flat_get relC 5 (fun _ => rfl) rs j s hj q hq).trans e)
    simp only [OO.add_plain, Nat.zero_add] at c ⊢
    exact ⟨c 0 _ rfl (by omega), c 1 _ rfl (by omega), c 2 _ rfl (by omega), c 3 _ rfl (by omega), c 4 _ rfl (by omega)⟩
/-- the objects, one by one -/
theorem CI.objs {w0 W : World} {H n nl : Nat} {li : List Value} {ns : List Nat} {ov lv sv rv : Value} {vs : List (Value × Value)} {tx cx : Nat} (h : CI w0 H ns n n nl li n ov lv (.slice (some ⟨tx, 0, none⟩) (n + 3) cx) sv rv vs W) (hn : n = ns.length) (hx : tx < W.heap.size) (hc : n + 3 ≤ cx) (hc2 : cx ≤ maxLen) (row : Row .u32 W tx 0 ((callL n).map wordOf)) :
    ∀ i x, (cObjs ns)[i]? = some x → ∃ v0 v1 v2 v3, (oC (.slice (some ⟨tx, 0, none⟩) (n + 3) cx) sv rv vs)[i * 4]? = some v0 ∧ (oC (.slice (some ⟨tx, 0, none⟩) (n + 3) cx) sv rv vs)[i * 4 + 1]? = some v1 ∧ (oC (.slice (some ⟨tx, 0, none⟩) (n + 3) cx) sv rv vs)[i * 4 + 2]? = some v2 ∧ (oC (.slice (some ⟨tx, 0, none⟩) (n + 3) cx) sv rv vs)[i * 4 + 3]? = some v3 ∧ ObjAt W.heap.size W v0 v1 v2 v3 x := by
  subst hn
  have nil8 : Nums8 .u8 W.heap.size W (.slice none 0 0) [] := ⟨_, _, rfl, fun h => absurd h (Nat.lt_irrefl 0)⟩
  have nilr : Rels W.heap.size W (.slice none 0 0) [] := ⟨_, _, rfl, fun h => absurd h (Nat.lt_irrefl 0)⟩
  intro i x hi
  match i, hi with
  | 0, hi =>
    rw [c_zero] at hi
    cases hi
    have hl : ((callL ns.length).map wordOf).length = ns.length + 3 := by rw [List.length_map, call_len]
    refine ⟨_, _, _, _, rfl, rfl, rfl, rfl, ⟨⟨some ⟨tx, 0, none⟩, cx, ?_, fun _ => ⟨tx, 0, rfl, hx, ?_, hc2, row⟩⟩, nil8, row_syms (ss := mSyms ns.length) h.s (by simp [mSyms]), row_rels (rs := mRels ns.length) h.r (by simp [mRels])⟩⟩
    · show _ = Value.slice _ ((callL ns.length).map wordOf).length _
      rw [hl]
    · show ((callL ns.length).map wordOf).length ≤ _
      rw [hl]; exact hc
  | i + 1, hi =>
    have hlt : i < ns.length := by
      have := (List.getElem?_eq_some_iff.1 hi).1
      rw [c_len] at this; omega
    rw [c_succ hlt] at hi
    cases hi
    have hv : i < vs.length := by rw [h.n]; exact hlt
    have hp := List.getElem?_eq_getElem hv
    obtain ⟨q0, q1, q2, q3⟩ := oC_at (.slice (some ⟨tx, 0, none⟩) (ns.length + 3) cx) sv rv vs i _ hp
    obtain ⟨t, c, y, e, h1, h2, h3, h4, h5, h6, -⟩ := (h.f i _ hp).ex
    rw [e] at q0 q2
    refine ⟨_, _, _, _, q0, q1, q2, q3, ⟨⟨some ⟨t, 0, none⟩, c, rfl, fun _ => ⟨t, 0, rfl, h1, h3, h4, h5⟩⟩, nil8, ⟨some ⟨y, 0, none⟩, 1, rfl, fun _ => ⟨y, 0, rfl, h2, Nat.le_refl _, by decide, fun j s hj => ?_⟩⟩, nilr⟩⟩
    match j, hj with
    | 0, hj =>
      cases hj
      exact ⟨by rw [Lib.cell_of_heap h6]; rfl, by rw [Lib.cell_of_heap h6]; rfl, by rw [Lib.cell_of_heap h6]; rfl, by rw [Lib.cell_of_heap h6]; rfl, by rw [Lib.cell_of_heap h6]; rfl⟩
    | j + 1, hj => simp [fO, oneO] at hj
theorem own_some {W : World} {H z n : Nat} {T : TypeId} {v : Value} {xs : List Value} (h : W.ownsRow H T z v n xs) (hn : 0 < n) : ∃ g c, v = .slice (some ⟨g, 0, none⟩) n c ∧ g < W.heap.size ∧ H ≤ g ∧ n ≤ c ∧ c ≤ maxLen := by
  rcases h.2 with ⟨rfl, e⟩ | ⟨g, cap, cur, rfl, hb, hg, h1, h2, -⟩
  · omega
  · exact ⟨g, cap, rfl, lt_heap hg, hb, h1, h2⟩
/-- main's cells -/
theorem main_cells {W : World} {H go co n : Nat} {xv sv rv : Value} {vs : List (Value × Value)} (h : W.ownsRow H TO 4 (.slice (some ⟨go, 0, none⟩) n co) n (oC xv sv rv vs)) :
    (W.cell? ⟨go, 0, none⟩ = some xv ∧ W.cell? ⟨go, 2, none⟩ = some sv ∧ W.cell? ⟨go, 3, none⟩ = some rv) ∧ ∀ j, W.frozen? ⟨go, j, none⟩ = false := by
  have c := fun j u e => h.cells (g := go) rfl j u e
  simp only [OO.add_plain, Nat.zero_add] at c
  refine ⟨⟨c 0 _ rfl, c 2 _ rfl, c 3 _ rfl⟩, fun j => ?_⟩
  rcases h.2 with ⟨e, -⟩ | ⟨g', cap', cur, e, h1, h2, -⟩
  · cases e
  · cases e
    exact Lib.frozen_of_heap h2 j
theorem is_of {w : World} {B n : Nat} {v : Value} {l : List Ins} (h : w.ownsRow B TIn 5 v n (l.flatMap insV)) (hn : n = l.length) (h0 : 0 < n) : Is w v l := by
  subst hn
  rcases h.2 with ⟨-, e⟩ | ⟨g, cap, cur, rfl, -, hg, -⟩
  · omega
  · refine ⟨g, cap, rfl, lt_heap hg, fun k a b c d e hk => ?_⟩
    have f := fun q u (e : (insV (a, b, c, d, e))[q]? = some u) (hq : q < 5) => h.cells (g := g) rfl (k * 5 + q) u ((flat_get insV 5 (fun _ => rfl) l k _ hk q hq).trans e)
    simp only [OO.add_plain, Nat.zero_add] at f
    exact ⟨f 0 _ rfl (by omega), f 1 _ rfl (by omega), f 2 _ rfl (by omega), f 3 _ rfl (by omega), f 4 _ rfl (by omega)⟩
end KCc
end Go.Proofs.YtlmblfkcmhgdaaaGreat
