/-
  What a linked main does in the plain machine: it is called, and the machine halts with what it leaves. It speaks of no program.
  The statements' fixed fact on images: a contract. No condition.
  Link, Load and Run of an image that is linked: a contract of each. Conditions: few objects, that are linked; the run makes easy steps.
-/
import Derived.Test.YtlmblfkcmhgdaaaGreatMachQb
import Derived.Test.YtlmblfkcmhgdaaaGreatLinkQc
import Derived.BigGuardPart
import Derived.Test.YtlmblfkcmhgdaaaGreatLayQa
import Derived.Deep.AppendLies
namespace Go.Proofs.YtlmblfkcmhgdaaaGreat
open Go.RowKit
set_option linter.unusedVariables false
set_option linter.unusedSimpArgs false
namespace KV
open MM MC MB MP
/-- so many steps lead from s to s', whatever fuel is left -/
def To (N : Nat) (s s' : St) (n : Nat) : Prop := ∀ k, MM.run N (k + n) s [] = ⟨(MM.run N k s' []).s, (MM.run N k s' []).inp, (MM.run N k s' []).out, (MM.run N k s' []).n + n⟩ ∧ (ZS.Easy N k s' [] → ZS.Easy N (k + n) s [])
theorem To.trans {N : Nat} {s t u : St} {m n : Nat} (h : To N s t m) (k : To N t u n) : To N s u (m + n) := by
  intro q
  obtain ⟨h1, h2⟩ := h (q + n)
  obtain ⟨k1, k2⟩ := k q
  rw [show q + (m + n) = (q + n) + m by omega]
  refine ⟨?_, fun e => h2 (k2 e)⟩
  rw [h1, k1]
  simp only [Rn.mk.injEq, true_and]
  omega
/-- where the machine stands: its memory, the address and the registers -/
structure Stands (M : Nat → Int) (s : St) (p : Nat) (X : Nat → Int) : Prop where
  mem : s.mem = M
  st : s.state = 0
  pc : s.pc = (p : Int)
  x : s.x = X
theorem num_step {N : Nat} {s : St} {a b c d e : Int} {p : Nat} (hn : num s.mem p 4 = wordOf (a, b, c, d, e)) (hg : good (a, b, c, d, e)) (hpc : s.pc = (p : Int)) (h4 : p % 4 = 0) (hN : p + 4 ≤ N) : MM.step N s [] = act N s [] a b c d e ∧ iOp (num s.mem s.pc.toNat 4) = a := by
  have he : CE.encE a b c d e = 0 := hg.1
  obtain ⟨d0, d1, d2, d3, d4, d5⟩ := CL.dec_enc he
  obtain ⟨ho, _⟩ := CL.good_of_enc he
  have hop := CM.isOp_yes ho
  have hz : CM.dec (wordOf (a, b, c, d, e)) ≠ 0 := by
    have : CM.dec (CE.encW a b c d e) = a := d1
    show CM.dec (CE.encW a b c d e) ≠ 0
    rw [this]; omega
  have hf : fit N s.pc 4 = true := by
    rw [hpc]
    simp only [fit, decide_eq_true_eq]
    omega
  have hp : s.pc.toNat = p := by rw [hpc]; rfl
  refine ⟨?_, by rw [hp, hn]; exact d1⟩
  rw [ZS.step_act hf (by rw [hp, hn]; exact hz), hp, hn]
  show act N s [] (CD.dOp (CE.encW a b c d e)) (CD.dRd (CE.encW a b c d e)) (CD.dRs1 (CE.encW a b c d e)) (CD.dRs2 (CE.encW a b c d e)) (CD.dImm (CE.encW a b c d e)) = _
  rw [d1, d2, d3, d4, d5]
theorem easy_op {s : St} {a : Int} (ho : iOp (num s.mem s.pc.toNat 4) = a) (h : ZS.Six a) (h2 : a ≠ 42) : ZS.EasyOp s := ⟨by rw [ho]; exact h, fun q => absurd (ho.symm.trans q) h2⟩
theorem to_yes {N : Nat} {s s1 : St} {pc : Int} (h0 : s.state = 0) (e : MM.step N s [] = yes s1 pc [] []) (ho : ZS.EasyOp s) : To N s (setpc s1 pc) 1 := by
  intro k
  refine ⟨?_, fun he _ => ?_⟩
  · rw [run_yes N k s [] h0 _ e rfl]
    rfl
  · rw [e]
    exact ⟨rfl, ho, he⟩
theorem easy_stop {N : Nat} {s : St} {i : List Int} (h : s.state ≠ 0) : ∀ k, ZS.Easy N k s i
  | 0 => trivial
  | k + 1 => fun h0 => absurd h0 h
section
variable {N : Nat} {M : Nat → Int} {s : St} {p : Nat} {X : Nat → Int}
theorem addi_to (h : Stands M s p X) {rd r1 : Nat} {im : Int} (hr : 0 < rd) (hn : num M p 4 = wordOf (18, (rd : Int), (r1 : Int), 0, im)) (hg : good (18, (rd : Int), (r1 : Int), 0, im)) (h4 : p % 4 = 0) (hN : p + 4 ≤ N) (hN2 : N ≤ 2097152) :
    ∃ s', To N s s' 1 ∧ Stands M s' (p + 4) (upd X rd ((X r1 + im % 4294967296) % 4294967296)) := by
  obtain ⟨e, ho⟩ := num_step (N := N) (by rw [h.mem]; exact hn) hg h.pc h4 hN
  rw [show act N s [] 18 rd r1 0 im = act N s [] 18 ((rd : Nat) : Int) ((r1 : Nat) : Int) ((0 : Nat) : Int) im from rfl, ZS.eq_18] at e
  refine ⟨_, to_yes h.st e (easy_op ho (by unfold ZS.Six; omega) (by decide)), ?_⟩
  have ha : WM.val 1 (s.x r1) (im % 4294967296) = (X r1 + im % 4294967296) % 4294967296 := by rw [h.x]; rfl
  rw [ha]
  unfold setx
  rw [if_neg (by omega)]
  refine ⟨h.mem, h.st, ?_, ?_⟩
  · show (s.pc + 4) % 4294967296 = _
    rw [h.pc]; omega
  · show upd s.x ((rd : Int).toNat) _ = _
    rw [h.x]; rfl
theorem jal_to (h : Stands M s p X) {im : Int} {q : Nat} (hn : num M p 4 = wordOf (40, 1, 0, 0, im)) (hg : good (40, 1, 0, 0, im)) (h4 : p % 4 = 0) (hN : p + 4 ≤ N) (hN2 : N ≤ 2097152) (hq : ((p : Int) + im % 4294967296) % 4294967296 = (q : Int)) :
    ∃ s', To N s s' 1 ∧ Stands M s' q (upd X 1 ((p + 4 : Nat) : Int)) := by
  obtain ⟨e, ho⟩ := num_step (N := N) (by rw [h.mem]; exact hn) hg h.pc h4 hN
  rw [show act N s [] 40 1 0 0 im = act N s [] 40 ((1 : Nat) : Int) ((0 : Nat) : Int) ((0 : Nat) : Int) im from rfl, ZS.eq_40] at e
  refine ⟨_, to_yes h.st e (easy_op ho (by unfold ZS.Six; omega) (by decide)), ?_⟩
  unfold setx
  rw [if_neg (by decide)]
  refine ⟨h.mem, h.st, ?_, ?_⟩
  · show (s.pc + im % 4294967296) % 4294967296 = _
    rw [h.pc]; exact hq
  · show upd s.x (((1 : Nat) : Int).toNat) ((s.pc + 4) % 4294967296) = _
    rw [h.x, h.pc, show (((p : Int) + 4) % 4294967296) = ((p + 4 : Nat) : Int) by omega]; rfl
theorem jalr_to (h : Stands M s p X) {r1 q : Nat} (hn : num M p 4 = wordOf (41, 0, (r1 : Int), 0, 0)) (hg : good (41, 0, (r1 : Int), 0, 0)) (h4 : p % 4 = 0) (hN : p + 4 ≤ N) (hX : X r1 = (q : Int)) (hq : q % 2 = 0) (hq2 : q < 4294967296) :
    ∃ s', To N s s' 1 ∧ Stands M s' q X := by
  obtain ⟨e, ho⟩ := num_step (N := N) (by rw [h.mem]; exact hn) hg h.pc h4 hN
  rw [show act N s [] 41 0 r1 0 0 = act N s [] 41 ((0 : Nat) : Int) ((r1 : Nat) : Int) ((0 : Nat) : Int) 0 from rfl, ZS.eq_41] at e
  refine ⟨_, to_yes h.st e (easy_op ho (by unfold ZS.Six; omega) (by decide)), ?_⟩
  rw [show setx s ((0 : Nat) : Int) ((s.pc + 4) % 4294967296) = s from by unfold setx; exact if_pos (by decide)]
  refine ⟨h.mem, h.st, ?_, h.x⟩
  show (s.x r1 + 0 % 4294967296) % 4294967296 / 2 * 2 = _
  rw [h.x, hX]; omega
/-- the machine halts with what stands in register 10 -/
theorem halt_at (h : Stands M s p X) (hn : num M p 4 = wordOf (42, 0, 0, 0, 0)) (h4 : p % 4 = 0) (hN : p + 4 ≤ N) (hX : X 17 = 3) (k : Nat) :
    (MM.run N (k + 1) s []).s.state = 1 ∧ ZV.codeOf (MM.run N (k + 1) s []).s = X 10 ∧ (MM.run N (k + 1) s []).n = 1 ∧ ZS.Easy N (k + 1) s [] := by
  obtain ⟨e, ho⟩ := num_step (N := N) (a := 42) (b := 0) (c := 0) (d := 0) (e := 0) (by rw [h.mem]; exact hn) ⟨by decide +kernel, by decide, by decide, by decide, by decide⟩ h.pc h4 hN
  rw [show act N s [] 42 0 0 0 0 = act N s [] 42 ((0 : Nat) : Int) ((0 : Nat) : Int) ((0 : Nat) : Int) 0 from rfl, ZS.eq_42] at e
  have e2 : MM.step N s [] = yes (setst s 1) ((s.pc + 4) % 4294967296) [] [] := by
    rw [e]
    unfold ecall
    rw [h.x, hX, if_neg (by decide), if_neg (by decide), if_pos rfl]
  obtain ⟨r, re⟩ := to_yes h.st e2 ⟨by rw [ho]; unfold ZS.Six; omega, fun _ => by rw [h.x]; exact hX⟩ k
  have rz := re (easy_stop (by show (1 : Int) ≠ 0; decide) k)
  rw [r, run_stop N k _ _ (by show (1 : Int) ≠ 0; decide)]
  refine ⟨rfl, ?_, rfl, rz⟩
  show (if (1 : Int) = 1 then s.x 10 else 0) = _
  rw [if_pos rfl, h.x]
end
/-- main is called by the start, and what it does leads back behind the call with v in register 10 -/
theorem main_run {N : Nat} {M : Nat → Int} {s0 : St} {p0 : Nat} {X : Nat → Int} (h : Stands M s0 0 X) (hN : 12 ≤ N) (hN2 : N ≤ 2097152) (hp : p0 ≤ 1000000) (hj : num M 0 4 = wordOf (40, 1, 0, 0, (p0 : Int))) (hgj : good (40, 1, 0, 0, (p0 : Int)))
    (ha : num M 4 4 = wordOf (18, 17, 0, 0, 3)) (hh : num M 8 4 = wordOf (42, 0, 0, 0, 0)) (v : Int) (m : Nat)
    (hb : ∀ s1 X1, Stands M s1 p0 X1 → X1 1 = 4 → X1 0 = X 0 → ∃ s2 X2, To N s1 s2 m ∧ Stands M s2 4 X2 ∧ X2 10 = v ∧ X2 0 = 0) (hx0 : X 0 = 0) (k : Nat) :
    (MM.run N (k + 1 + (1 + (m + 1))) s0 []).s.state = 1 ∧ ZV.codeOf (MM.run N (k + 1 + (1 + (m + 1))) s0 []).s = v ∧ (MM.run N (k + 1 + (1 + (m + 1))) s0 []).n = m + 3 ∧ ZS.Easy N (k + 1 + (1 + (m + 1))) s0 [] := by
  obtain ⟨s1, t1, h1⟩ := jal_to (N := N) h hj hgj rfl (by omega) hN2 (q := p0) (by omega)
  obtain ⟨s2, X2, t2, h2, v2, z2⟩ := hb s1 _ h1 (by simp [upd]) (by simp [upd])
  obtain ⟨s3, t3, h3⟩ := addi_to (N := N) h2 (rd := 17) (r1 := 0) (im := 3) (by omega) ha ⟨by decide +kernel, by decide, by decide, by decide, by decide⟩ rfl (by omega) hN2
  obtain ⟨r, re⟩ := (t1.trans (t2.trans t3)) (k + 1)
  obtain ⟨q1, q2, q3, q4⟩ := halt_at (N := N) h3 hh rfl (by omega) (by simp [upd, z2]) k
  rw [r]
  refine ⟨q1, ?_, ?_, re q4⟩
  · show ZV.codeOf (MM.run N (k + 1) s3 []).s = v
    rw [q2]; simp [upd, v2]
  · show (MM.run N (k + 1) s3 []).n + _ = _
    rw [q3]; omega
end KV
end Go.Proofs.YtlmblfkcmhgdaaaGreat
namespace Go.Proofs.YtlmblfkcmhgdaaaGreat
open Go.RowKit
set_option linter.unusedVariables false
set_option linter.unusedSimpArgs false
namespace KW
open OO OJ RsM LM KB KC KM KG RsY MM MC MB MP KV
theorem obj_at {W : World} {A B n₀ cap n : Nat} {T2 : TypeId} {ws : List Int} {nm : ByteArray} {fr : Int} {g : Bool} (a : Row .u32 W A 0 ws) (hn : ws.length = n) (hc : n ≤ cap) (hc2 : cap ≤ maxLen) (b : W.heap[B]? = some (.cells #[.string nm, .int .i64 1, .int .i64 0, .int .i64 fr, .bool g] T2 (0, 0))) (hA : A < n₀) (hB : B < n₀) :
    ObjAt n₀ W (.slice (some ⟨A, 0, none⟩) n cap) (.slice none 0 0) (.slice (some ⟨B, 0, none⟩) 1 1) (.slice none 0 0) ⟨ws, [], [⟨nm, 1, 0, fr, g⟩], []⟩ := by
  subst hn
  refine ⟨⟨_, _, rfl, fun _ => ⟨A, 0, rfl, hA, hc, hc2, a⟩⟩, ⟨_, _, rfl, fun h => absurd h (Nat.lt_irrefl 0)⟩, ⟨_, _, rfl, fun _ => ⟨B, 0, rfl, hB, Nat.le_refl _, by decide, fun j s hj => ?_⟩⟩, ⟨_, _, rfl, fun h => absurd h (Nat.lt_irrefl 0)⟩⟩
  match j, hj with
  | 0, hj =>
    cases hj
    exact ⟨by rw [Lib.cell_of_heap b]; rfl, by rw [Lib.cell_of_heap b]; rfl, by rw [Lib.cell_of_heap b]; rfl, by rw [Lib.cell_of_heap b]; rfl, by rw [Lib.cell_of_heap b]; rfl⟩
  | j + 1, hj => simp at hj
theorem objs_one {W : World} {D n₀ : Nat} {T : TypeId} {v0 v1 v2 v3 : Value} {x : ObjV} (d : W.heap[D]? = some (.cells #[v0, v1, v2, v3] T (0, 0))) (hD : D < n₀) (ho : ObjAt n₀ W v0 v1 v2 v3 x) : ObjsAt n₀ W (.slice (some ⟨D, 0, none⟩) 1 1) [x] := by
  refine ⟨_, _, rfl, fun _ => ⟨D, 0, rfl, hD, Nat.le_refl _, by decide, fun i y hi => ?_⟩⟩
  match i, hi with
  | 0, hi =>
    cases hi
    exact ⟨v0, v1, v2, v3, by rw [Lib.cell_of_heap d]; rfl, by rw [Lib.cell_of_heap d]; rfl, by rw [Lib.cell_of_heap d]; rfl, by rw [Lib.cell_of_heap d]; rfl, ho⟩
  | j + 1, hi => simp at hi
theorem row_of {w : World} {B n : Nat} {v : Value} {xs : List Int} (h : w.ownsRow B 46 1 v n (u32s xs)) (hn : 0 < n) : ∃ g cap, v = .slice (some ⟨g, 0, none⟩) n cap ∧ B ≤ g ∧ g < w.heap.size ∧ n ≤ cap ∧ cap ≤ maxLen ∧ Row .u32 w g 0 xs := by
  rcases h.2 with ⟨-, h0⟩ | ⟨g, cap, cur, rfl, hgb, hgh, h1, h2, -⟩
  · omega
  · refine ⟨g, cap, rfl, hgb, (Array.getElem?_eq_some_iff.1 hgh).1, h1, h2, fun j x hj => ?_⟩
    rw [Nat.zero_add]
    have h3 := (h.cells (g := g) rfl) j (.int .u32 x) (by unfold u32s; rw [List.getElem?_map, hj]; rfl)
    rwa [show (⟨g, 0, none⟩ : Addr).add j = ⟨g, j, none⟩ by rw [add_plain, Nat.zero_add]] at h3
/-! ### the chapter's example -/
def textL : List Ins := [(18, 10, 0, 0, 7), (41, 0, 1, 0, 0)]
def codeL : List Ins := [(40, 1, 0, 0, 12), (18, 17, 0, 0, 3), (42, 0, 0, 0, 0), (18, 10, 0, 0, 7), (41, 0, 1, 0, 0)]
def aO : ObjV := ⟨textL.map wordOf, [], [⟨mainB, 1, 0, 0, true⟩], []⟩
theorem text_good : ∀ i ∈ textL, good i := by
  intro i hi
  simp only [textL, List.mem_cons, List.not_mem_nil, or_false] at hi
  rcases hi with rfl | rfl
  · exact ⟨by decide +kernel, by decide, by decide, by decide, by decide⟩
  · exact ⟨by decide +kernel, by decide, by decide, by decide, by decide⟩
theorem a_link : linkOut [aO] = (bts (codeL.map wordOf) ++ [0, 0, 0, 0], 0) := by decide +kernel
theorem a_dend : dend (szL [aO]) = 24 := by decide +kernel
theorem a_wf : ∀ o ∈ [aO], o.Wf := by
  intro o ho
  simp only [List.mem_cons, List.not_mem_nil, or_false] at ho
  subst ho
  refine ⟨?_, ?_, ?_, ?_⟩
  · intro x hx
    obtain ⟨i, hi, rfl⟩ := List.mem_map.1 hx
    have := CL.enc_bd i.1 i.2.1 i.2.2.1 i.2.2.2.1 i.2.2.2.2
    unfold wordOf; omega
  · intro x hx; simp [aO] at hx
  · intro s hs
    simp only [aO, List.mem_cons, List.not_mem_nil, or_false] at hs
    subst hs
    exact ⟨by decide, by unfold I64; decide, by unfold I64; decide, by unfold I64; decide⟩
  · intro r hr; simp [aO] at hr
theorem a_num {M : Nat → Int} (h : MP.Code codeL M) (j : Nat) {i : Ins} (hj : codeL[j]? = some i) : num M (4 * j) 4 = wordOf i := num_code h hj (CL.enc_bd _ _ _ _ _)
theorem a_run {s0 : MM.St} {M : Nat → Int} {X : Nat → Int} (h : Stands M s0 0 X) (hc : MP.Code codeL M) (hx : X 0 = 0) : (MM.run 32 50 s0 []).s.state = 1 ∧ ZV.codeOf (MM.run 32 50 s0 []).s = 7 ∧ (MM.run 32 50 s0 []).n = 5 ∧ ZS.Easy 32 50 s0 [] := by
  have n0 := a_num hc 0 rfl
  have n1 := a_num hc 1 rfl
  have n2 := a_num hc 2 rfl
  have n3 := a_num hc 3 rfl
  have n4 := a_num hc 4 rfl
  refine main_run (p0 := 12) (m := 2) h (by omega) (by omega) (by omega) n0 ⟨by decide +kernel, by decide, by decide, by decide, by decide⟩ n1 n2 7 ?_ hx 45
  intro s1 X1 h1 hr hz
  obtain ⟨s2, t2, h2⟩ := addi_to (N := 32) h1 (rd := 10) (r1 := 0) (im := 7) (by omega) n3 ⟨by decide +kernel, by decide, by decide, by decide, by decide⟩ rfl (by omega) (by omega)
  obtain ⟨s3, t3, h3⟩ := jalr_to (N := 32) h2 (r1 := 1) (q := 4) n4 ⟨by decide +kernel, by decide, by decide, by decide, by decide⟩ rfl (by omega) (by simp [upd, hr]) rfl (by omega)
  exact ⟨s3, _, t2.trans t3, h3, by simp [upd, hz, hx], by simp [upd, hz, hx]⟩
theorem loaded_at (f : Nat → Int) (n : Nat) (u : Int) (N : Nat) : Stands (MW.bytesOf f n) (MW.loaded f n u N 0) 0 (upd (upd (fun _ => 0) 2 (N : Int)) 27 u) := ⟨rfl, rfl, rfl, rfl⟩
def aF : Nat → Int := fun k => ((linkOut [aO]).1).getD k 0
theorem a_code : MP.Code codeL (MW.bytesOf aF 24) := by
  intro k hk
  have hk : k < 20 := hk
  unfold MW.bytesOf aF fb
  rw [if_pos (by omega), a_link]
  simp only
  rw [List.getD_eq_getElem?_getD, List.getElem?_append_left (by rw [bts_len]; exact hk), ← List.getD_eq_getElem?_getD]
theorem a_awake : ∃ T, MM.run 32 50 (MW.loaded aF 24 32 32 0) [] = T ∧ T.s.state = 1 ∧ ZV.codeOf T.s = 7 ∧ T.n = 5 ∧ ZS.Easy 32 50 (MW.loaded aF 24 32 32 0) [] :=
  ⟨_, rfl, a_run (loaded_at aF 24 32 32) a_code (by simp [upd])⟩
theorem is_text (w : World) : Is (w.alloc (.cells #[.int .i64 18, .int .i64 10, .int .i64 0, .int .i64 0, .int .i64 7, .int .i64 41, .int .i64 0, .int .i64 1, .int .i64 0, .int .i64 0] 54)) (.slice (some ⟨w.heap.size, 0, none⟩) 2 2) textL := by
  have hg := heap_alloc_new w (.cells #[.int .i64 18, .int .i64 10, .int .i64 0, .int .i64 0, .int .i64 7, .int .i64 41, .int .i64 0, .int .i64 1, .int .i64 0, .int .i64 0] 54)
  refine ⟨w.heap.size, 2, rfl, by simp, fun k a b c d e hk => ?_⟩
  have c := fun j => cell_of_row _ w.heap.size j _ _ _ hg
  match k, hk with
  | 0, hk => cases hk; exact ⟨c 0, c 1, c 2, c 3, c 4⟩
  | 1, hk => cases hk; exact ⟨c 5, c 6, c 7, c 8, c 9⟩
  | (k + 2), hk => simp [textL] at hk
theorem aF_bd : ∀ k, 0 ≤ aF k ∧ aF k ≤ 255 := fun k => KB.getD_bd (by rw [a_link]; unfold OJ.Bytes; decide +kernel) k
abbrev SB : Obj := .cells #[.string { data := #[109, 97, 105, 110] }, .int .i64 1, .int .i64 0, .int .i64 0, .bool true] 57
theorem load_img (w2 : World) (g2 : Nat) (hg : w2.heap[g2]? = some (.cells (img (linkOut [aO]).1).toArray TU (0, 0))) :
    Calls Tryz.prog 20 #[.agg #[.int .i64 0, .slice (some ⟨g2, 0, none⟩) 24 24], .int .i64 0] (w2.alloc (.cells #[.int .i64 0, .slice (some ⟨g2, 0, none⟩) 24 24] TI)) fun e1 w' => ∃ b bm, e1 = .returned (.tuple #[.pointer (some ⟨b, 0, none⟩), .int .i64 0]) ∧ MC.At w' b bm 32 (MW.loaded aF 24 32 32 0) ∧ (w2.alloc (.cells #[.int .i64 0, .slice (some ⟨g2, 0, none⟩) 24 24] TI)).heap.size ≤ b ∧ (w2.alloc (.cells #[.int .i64 0, .slice (some ⟨g2, 0, none⟩) 24 24] TI)).heap.size ≤ bm ∧ Below (w2.alloc (.cells #[.int .i64 0, .slice (some ⟨g2, 0, none⟩) 24 24] TI)).heap.size (w2.alloc (.cells #[.int .i64 0, .slice (some ⟨g2, 0, none⟩) 24 24] TI)) w' := by
  have hl := OO.lt_heap hg
  exact MW.load_ok 0 (by omega) g2 0 24 24 0 (by omega) (by omega) (by decide) 32 (by decide) aF _ (by rw [World.size_alloc]; omega) (fun k hk => by
    rw [Nat.zero_add]
    exact (World.cell?_alloc_lt (w := w2) (a := ⟨g2, k, none⟩) (o := .cells #[.int .i64 0, .slice (some ⟨g2, 0, none⟩) 24 24] TI) hl).trans (img_get hg k (by rw [a_link]; exact hk)))
set_option maxRecDepth 100000 in
set_option maxHeartbeats 8000000 in
theorem awake_ (w : World) : Calls Tryz.prog 10 #[] w fun e w' => e = .returned (.bool true) ∧ Below w.heap.size w w' := by
  have hI := is_text w
  obtain ⟨T, hT, hT1, hT2, hT3, hT4⟩ := a_awake
  have cw := words_ _ _ textL (by decide) hI text_good
  have HT1 := Lib.hid hT1
  have HT2 := Lib.hid hT2
  have HT3 := Lib.hid hT3
  have HT4 := Lib.hid hT4
  have HT := Lib.hid hT
  have hbI : Below w.heap.size w (w.alloc (.cells #[.int .i64 18, .int .i64 10, .int .i64 0, .int .i64 0, .int .i64 7, .int .i64 41, .int .i64 0, .int .i64 1, .int .i64 0, .int .i64 0] 54)) := (Below.refl _ _).alloc (Nat.le_refl _) _
  have HBI := Lib.hid hbI
  clear hI hT1 hT2 hT3 hT4 hT hbI
  have key : ∀ (w1 : World) (g1 cap : Nat), g1 < w1.heap.size → 2 ≤ cap → cap ≤ maxLen → Row .u32 w1 g1 0 (textL.map wordOf) →
      Calls Tryz.prog 13 #[.slice (some ⟨w1.heap.size + 1, 0, none⟩) 1 1] ((w1.alloc SB).alloc (.cells #[.slice (some ⟨g1, 0, none⟩) 2 cap, .slice none 0 0, .slice (some ⟨w1.heap.size, 0, none⟩) 1 1, .slice none 0 0] 30)) fun e w' =>
        ∃ g, e = .returned (.tuple #[.agg #[.int .i64 0, .slice (some ⟨g, 0, none⟩) 24 24], .int .i64 0]) ∧ w'.heap[g]? = some (.cells (img (linkOut [aO]).1).toArray TU (0, 0)) ∧ Below w1.heap.size w1 w' := fun w1 g1 cap hg hc hc2 hr => by
    have hb : Below w1.heap.size w1 ((w1.alloc SB).alloc (.cells #[.slice (some ⟨g1, 0, none⟩) 2 cap, .slice none 0 0, .slice (some ⟨w1.heap.size, 0, none⟩) 1 1, .slice none 0 0] 30)) := ((Below.refl _ _).alloc (Nat.le_refl _) _).alloc (by simp) _
    have hr' := row_below hr hb hg
    have hsb : ((w1.alloc SB).alloc (.cells #[.slice (some ⟨g1, 0, none⟩) 2 cap, .slice none 0 0, .slice (some ⟨w1.heap.size, 0, none⟩) 1 1, .slice none 0 0] 30)).heap[w1.heap.size]? = some SB := (Lib.alloc_old _ _ _ (by simp)).trans (heap_alloc_new w1 _)
    have hob : ((w1.alloc SB).alloc (.cells #[.slice (some ⟨g1, 0, none⟩) 2 cap, .slice none 0 0, .slice (some ⟨w1.heap.size, 0, none⟩) 1 1, .slice none 0 0] 30)).heap[w1.heap.size + 1]? = some (.cells #[.slice (some ⟨g1, 0, none⟩) 2 cap, .slice none 0 0, .slice (some ⟨w1.heap.size, 0, none⟩) 1 1, .slice none 0 0] 30) := by
      have := heap_alloc_new (w1.alloc SB) (.cells #[.slice (some ⟨g1, 0, none⟩) 2 cap, .slice none 0 0, .slice (some ⟨w1.heap.size, 0, none⟩) 1 1, .slice none 0 0] 30)
      rwa [World.size_alloc] at this
    have hsz : ((w1.alloc SB).alloc (.cells #[.slice (some ⟨g1, 0, none⟩) 2 cap, .slice none 0 0, .slice (some ⟨w1.heap.size, 0, none⟩) 1 1, .slice none 0 0] 30)).heap.size = w1.heap.size + 2 := by simp
    have ho : ObjsAt (w1.heap.size + 2) ((w1.alloc SB).alloc (.cells #[.slice (some ⟨g1, 0, none⟩) 2 cap, .slice none 0 0, .slice (some ⟨w1.heap.size, 0, none⟩) 1 1, .slice none 0 0] 30)) (.slice (some ⟨w1.heap.size + 1, 0, none⟩) 1 1) [aO] := objs_one hob (n₀ := w1.heap.size + 2) (by omega) (obj_at (nm := mainB) (fr := 0) (g := true) hr' rfl hc hc2 hsb (by omega) (by omega))
    refine (Link_ (n₀ := w1.heap.size + 2) (by omega) ho a_wf (by decide) (by intro o h; simp only [List.mem_cons, List.not_mem_nil, or_false] at h; subst h; unfold maxLen; simp [aO]) (by intro o h; simp only [List.mem_cons, List.not_mem_nil, or_false] at h; subst h; simp [aO]) (by decide +kernel) (by decide)).mono ?_
    rintro e w' ⟨hbw, ⟨h0, -⟩ | ⟨-, -, -, -, g, h1, -, h2⟩⟩
    · rw [a_link] at h0; exact absurd rfl h0
    · rw [a_dend] at h1
      exact ⟨g, h1, h2, hb.trans (hbw.mono (by omega))⟩
  go_enter Tryz.func10, Tryz.ntmps10
  go_wp2_with (first
    | (go_at_call 19; (with_reducible refine cw.mono ?_); rintro e w1 ⟨v1, rfl, ho1, hb1⟩; obtain ⟨g1, cap, rfl, -, hg1, hc1, hc2, hr1⟩ := row_of (n := 2) ho1 (by decide); have ck := key w1 g1 cap hg1 hc1 hc2 hr1; have H1 := Lib.hid hb1; clear ho1 hb1 cw hr1 key)
    | (go_at_call 13; (with_reducible refine ck.mono ?_); rintro e w2 ⟨g2, rfl, hg2, hb2⟩; have HG2 := Lib.hid hg2; have H2 := Lib.hid hb2; have cl := load_img w2 g2 hg2; clear hg2 hb2 ck)
    | (go_at_call 20; (with_reducible refine cl.mono ?_); rintro e w3 ⟨b, bm, rfl, A, hb, hbm, hb3⟩; have cg := ZV.run_ A (MK.inp_nil _ _ b bm) (MK.fine_loaded aF_bd 24 32 _ 0 (by decide) (by omega) (by omega)) (by simp) (by omega) 50 (by omega) T HT.out (by rw [HT3.out]; omega) HT4.out; have H3 := Lib.hid hb3; clear A hb3)
    | (go_at_call 21; (with_reducible refine cg.mono ?_); rintro e w4 ⟨p, l, c, he, R⟩; rw [HT1.out, HT2.out, HT3.out] at he; subst he; have HR := Lib.hid R; clear R cg))
  go_ret
  have s1 := H1.out.size
  rw [World.size_alloc] at s1
  have s2 := H2.out.size
  have s3 := H3.out.size
  rw [World.size_alloc] at s3 hb hbm
  have b2 : Below w.heap.size w w2 := (HBI.out.trans (H1.out.mono (by rw [World.size_alloc]; omega))).trans (H2.out.mono (by omega))
  have b3 : Below w.heap.size w w3 := (b2.alloc b2.size _).trans (H3.out.mono (by rw [World.size_alloc]; omega))
  refine ⟨rfl, ?_⟩
  have b4 := b3.trans (HR.out.own.below (by omega) (by omega) (by omega))
  exact b4.alloc b4.size _
end KW
end Go.Proofs.YtlmblfkcmhgdaaaGreat
namespace Go.Proofs.YtlmblfkcmhgdaaaGreat
open Go.RowKit
set_option linter.unusedVariables false
set_option linter.unusedSimpArgs false
namespace KU
open OO OJ RsM LM KB KC KM KN KG RsY RsB MM MC MB MP
theorem link_ok {w : World} {n₀ : Nat} {v : Value} {objs : List ObjV} {bs : List Int} {n : Nat} (hn : n₀ ≤ w.heap.size) (ho : ObjsAt n₀ w v objs) (hw : ∀ o ∈ objs, o.Wf) (hm : objs.length ≤ 12) (hs : ∀ o ∈ objs, o.ws.length ≤ 65536 ∧ o.ds.length ≤ 65536 ∧ o.ss.length ≤ 60 ∧ o.rs.length ≤ 100)
    (hl : linkOut objs = (bs, 0)) (hd : LM.dend (szL objs) = n) :
    Calls Tryz.prog 13 #[v] w fun e w' => ∃ g, e = .returned (.tuple #[.agg #[.int .i64 0, .slice (some ⟨g, 0, none⟩) n n], .int .i64 0]) ∧ w'.heap[g]? = some (.cells (img bs).toArray TU (0, 0)) ∧ bs.length = n ∧ OJ.Bytes bs ∧ Below w.heap.size w w' := by
  have hf := flatTo_len (fun o h => (hs o h).2.2.1) objs.length
  refine (Link_ hn ho hw (by omega) (fun o h => by have := hs o h; unfold maxLen; omega) (fun o h => by have := hs o h; omega) (by unfold flat; omega) (fun x hx => by
    unfold szL at hx
    obtain ⟨o, ho', rfl⟩ := List.mem_map.1 hx
    have := hs o ho'
    simp only
    omega)).mono ?_
  rintro e w' ⟨hb, ⟨c0, -⟩ | ⟨-, -, c1, c2, g, rfl, -, c3⟩⟩
  · rw [hl] at c0; exact absurd rfl c0
  · rw [hl] at c1 c2 c3
    rw [hd] at c1
    rw [hd]
    exact ⟨g, rfl, c3, c1, c2, hb⟩
theorem load_img {w2 : World} {g2 n N : Nat} {bs : List Int} (hg : w2.heap[g2]? = some (.cells (img bs).toArray TU (0, 0))) (hl : bs.length = n) (hn : n ≤ 100000) (stack : Int) (hs : 0 ≤ stack) (hs2 : stack ≤ 1000) (hN : MW.up (MW.up n + stack) = N) :
    Calls Tryz.prog 20 #[.agg #[.int .i64 0, .slice (some ⟨g2, 0, none⟩) n n], .int .i64 stack] (w2.alloc (.cells #[.int .i64 0, .slice (some ⟨g2, 0, none⟩) n n] TI)) fun e1 w' => ∃ b bm, e1 = .returned (.tuple #[.pointer (some ⟨b, 0, none⟩), .int .i64 0]) ∧ MC.At w' b bm N (MW.loaded (fun k => bs.getD k 0) n (MW.up n) N 0) ∧ w2.heap.size + 1 ≤ b ∧ w2.heap.size + 1 ≤ bm ∧ Below (w2.heap.size + 1) (w2.alloc (.cells #[.int .i64 0, .slice (some ⟨g2, 0, none⟩) n n] TI)) w' := by
  have hlt := OO.lt_heap hg
  have := MW.load_ok 0 (by omega) g2 0 n n stack (by omega) hs (by unfold MW.up; omega) N hN (fun k => bs.getD k 0) (w2.alloc (.cells #[.int .i64 0, .slice (some ⟨g2, 0, none⟩) n n] TI)) (by rw [World.size_alloc]; omega) (fun k hk => by
    rw [Nat.zero_add]
    exact (World.cell?_alloc_lt (w := w2) (a := ⟨g2, k, none⟩) (o := .cells #[.int .i64 0, .slice (some ⟨g2, 0, none⟩) n n] TI) hlt).trans (img_get hg k (by omega)))
  rw [World.size_alloc] at this
  exact this
theorem run_img {w3 : World} {b bm n N : Nat} {bs : List Int} {u F code : Int} {steps : Nat} (A : MC.At w3 b bm N (MW.loaded (fun k => bs.getD k 0) n u N 0)) (hb : OJ.Bytes bs) (hu : 0 ≤ u ∧ u ≤ 4294967295) (hN : N ≤ 2097152) (hF : F ≤ 100000) {T : MM.Rn} (hT : MM.run N F.toNat (MW.loaded (fun k => bs.getD k 0) n u N 0) [] = T) (h1 : T.s.state = 1) (h2 : ZV.codeOf T.s = code) (h3 : T.n = steps) (hst : steps ≤ 4000) (hE : ZS.Easy N F.toNat (MW.loaded (fun k => bs.getD k 0) n u N 0) []) :
    Calls Tryz.prog 21 #[.pointer (some ⟨b, 0, none⟩), .slice none 0 0, .int .i64 F] w3 fun e w' => ∃ p l c, e = .returned (.agg #[.int .i64 1, .int .u32 code, .slice p l c, .int .i64 (steps : Nat)]) ∧ MC.Own w3.heap.size b bm w3 w' := by
  refine (ZV.run_ A (MK.inp_nil _ _ b bm) (MK.fine_loaded (KB.getD_bd hb) n N u 0 hu hN (by omega)) (by simp) hN F (by omega) T hT (by omega) hE).mono ?_
  rintro e w' ⟨p, l, c, rfl, R⟩
  rw [h1, h2, h3]
  exact ⟨p, l, c, rfl, R.own⟩
section
variable {P : Program} {w : World}
/-- an append of a slice, be it empty, in a plain region -/
theorem wpList_append_sl {ops : Array Oper} {rest : List Oper} {o : Oper} {a : Act} {Q : Exit → Act → World → Prop} (hgd : o.guard = none) (s x : Operand) (t : TypeId)
    (ho : o.op = .call { callee := .builtin .append, args := #[s, x], argTypes := #[t, t] })
    (base : Nat) (e : TypeId) (i : TypeInfo) (z : Value) (size bytes : Nat) (ht : P.underlying t = some (.slice e)) (hi : P.info? e = some i) (hz : i.zero = some z)
    (hsize : i.size = size) (hby : i.bytes = bytes) (hzs : z.cells.size = size) (hsz : 0 < size)
    (v : Value) (n : Nat) (xs : List Value) (hs : a.eval s = v) (hown : w.ownsRow base e size v n xs)
    (p : Option Addr) (m c : Nat) (news : List Value) (hx : a.eval x = .slice p m c) (hl : news.length = m * size)
    (hnews : 0 < m → ∃ b o, p = some ⟨b, o, none⟩ ∧ ∀ j u, news[j]? = some u → w.cell? ⟨b, o + j, none⟩ = some u) (h1 : ∀ u ∈ news, u.oneCell' = true)
    (h63 : n + m ≤ maxLen) (hbytes : (n + m) * bytes ≤ 140737488355328) (hbase : base ≤ w.heap.size)
    (h : ∀ p' c' w', w'.ownsRow base e size (.slice p' (n + m) c') (n + m) (xs ++ news) → w.grownBy w' v.ownBlock → wpList P ops Q rest (a.put o.dst (.slice p' (n + m) c')) w') : wpList P ops Q (o :: rest) a w :=
  wpList_plain hgd fun _ hK => by
    obtain ⟨v', w', hr, h2, h3, -⟩ := LV.run_append_sl (P := P) w t o.type base e i z size bytes ht hi hz hsize hby hzs hsz v n xs hown p m c news hl hnews h1 h63 hbytes hbase
    unfold Oper.wp execOp
    simp only [ho, resolve, invoke, builtin, Sem.run_bind, Sem.run_pure, Result.andThen_ok, List.map_toArray, List.map_cons, List.map_nil, hs, hx, hr]
    obtain ⟨p', c', rfl⟩ := LV.own_form h2
    exact hK _ _ (h p' c' w' h2 h3)
end
end KU
end Go.Proofs.YtlmblfkcmhgdaaaGreat
