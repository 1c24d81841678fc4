/-
  A program of stores and loads in the plain machine. No condition but those that are written at each.
-/
import Derived.Test.YtieehjkmfmkfjabMachR
namespace Go.Proofs.Ytieehjkmfmkfjab
open Go.RowKit
set_option linter.unusedVariables false
set_option linter.unusedSimpArgs false
namespace MX
open MM MC MB MP MQ MR
section
variable {N : Nat} {s : St} {inp inp' : List Int} {out : List Ev} {l : List Ins} {j : Nat} {pc : Int}
theorem reg_step (h : Ready l s j) {rd v : Int} (hr : 0 < rd) (hp : pc = ((4 * (j + 1) : Nat) : Int)) (e : MM.step N s inp = yes (setx s rd v) pc inp' out) :
    ∃ s', (∀ k, MM.run N (k + 1) s inp = ⟨(MM.run N k s' inp').s, (MM.run N k s' inp').inp, out ++ (MM.run N k s' inp').out, (MM.run N k s' inp').n + 1⟩) ∧ Ready l s' (j + 1) ∧ (∀ k : Nat, s'.x k = if (k : Int) = rd then v else s.x k) ∧ s'.f = s.f ∧ s'.mem = s.mem := by
  refine ⟨_, fun k => run_one h.go e, h.set (by omega) hp, fun k => get_x s rd v pc k hr, ?_, ?_⟩
  · show (setx s rd v).f = s.f
    unfold setx; split <;> rfl
  · show (setx s rd v).mem = s.mem
    exact setx_mem _ _ _
theorem freg_step (h : Ready l s j) {rd : Int} {v : Nat} (hp : pc = ((4 * (j + 1) : Nat) : Int)) (e : MM.step N s inp = yes (setf s rd v) pc inp' out) :
    ∃ s', (∀ k, MM.run N (k + 1) s inp = ⟨(MM.run N k s' inp').s, (MM.run N k s' inp').inp, out ++ (MM.run N k s' inp').out, (MM.run N k s' inp').n + 1⟩) ∧ Ready l s' (j + 1) ∧ (∀ k : Nat, s'.f k = if k = rd.toNat then v else s.f k) ∧ s'.x = s.x ∧ s'.mem = s.mem :=
  ⟨_, fun k => run_one h.go e, h.setf hp, fun k => rfl, rfl, rfl⟩
theorem mem_step (h : Ready l s j) {a n : Nat} {v : Int} (ha : 4 * l.length ≤ a) (hp : pc = ((4 * (j + 1) : Nat) : Int)) (e : MM.step N s inp = yes { s with mem := lay s.mem a n v } pc inp' out) :
    ∃ s', (∀ k, MM.run N (k + 1) s inp = ⟨(MM.run N k s' inp').s, (MM.run N k s' inp').inp, out ++ (MM.run N k s' inp').out, (MM.run N k s' inp').n + 1⟩) ∧ Ready l s' (j + 1) ∧ s'.mem = lay s.mem a n v ∧ s'.x = s.x ∧ s'.f = s.f :=
  ⟨_, fun k => run_one h.go e, h.lay a n v ha hp, rfl, rfl, rfl⟩
theorem pc_next (h : Ready l s j) (hl : 4 * j + 4 < 4294967296) : (s.pc + 4) % 4294967296 = ((4 * (j + 1) : Nat) : Int) := by rw [h.pc]; omega
end
/-- one step more -/
theorem chain {N : Nat} {s s' : St} {inp inp' : List Int} {out out' : List Ev} {n : Nat} {k : Nat} {sT : St} {iT : List Int} (r : ∀ k, MM.run N (k + 1) s inp = ⟨(MM.run N k s' inp').s, (MM.run N k s' inp').inp, out ++ (MM.run N k s' inp').out, (MM.run N k s' inp').n + 1⟩)
    (q : MM.run N k s' inp' = ⟨sT, iT, out', n⟩) : MM.run N (k + 1) s inp = ⟨sT, iT, out ++ out', n + 1⟩ := by rw [r, q]
def keepL (off : Int) : List Ins := [(18, 17, 0, 0, 2), (42, 0, 0, 0, 0), (31, 0, 2, 10, off), (29, 5, 2, 0, off), (28, 6, 2, 0, off), (27, 7, 2, 0, off), (55, 1, 10, 0, 0), (44, 0, 2, 1, off), (43, 2, 2, 0, off), (30, 0, 2, 6, off + 1), (28, 8, 2, 0, off + 1)]
instance (i : Ins) : Decidable (good i) := by unfold good; infer_instance
theorem keep_good (k : Nat) (hk : k < 30) : ∀ i ∈ keepL (-8 * ((k : Int) + 1)), good i := by
  have : ∀ k : Fin 30, ∀ i ∈ keepL (-8 * ((k.val : Int) + 1)), good i := by decide +kernel
  exact this ⟨k, hk⟩
theorem fit_at {N a : Nat} (n : Int) (h : (a : Int) % n = 0) (h2 : (a : Int) + n ≤ N) : fit N a n = true := by
  simp only [fit, decide_eq_true_eq]; exact ⟨h, h2⟩
set_option maxHeartbeats 4000000 in
/-- the run of the stores and loads -/
theorem keep_run (k : Nat) (hk : k < 30) (w : Int) (hw : 0 ≤ w ∧ w ≤ 4294967295) (s0 : St) (h0 : Ready (keepL (-8 * ((k : Int) + 1))) s0 0) (hx : s0.x 2 = 304) :
    ∃ T, MM.run 304 11 s0 [w] = T ∧ T.n = 11 ∧ T.s.x 5 = w ∧ T.s.x 6 = w % 256 ∧ T.s.x 7 = WM.ext (w % 256) 8 ∧ T.s.x 8 = w % 256 ∧ T.s.f 2 = T.s.f 1 := by
  have hg := keep_good k hk
  obtain ⟨a, ha⟩ : ∃ a : Nat, a = 296 - 8 * k := ⟨_, rfl⟩
  have eA : (304 + (-8 * ((k : Int) + 1)) % 4294967296) % 4294967296 = (a : Int) := by omega
  have eB : (304 + (-8 * ((k : Int) + 1) + 1) % 4294967296) % 4294967296 = ((a + 1 : Nat) : Int) := by omega
  generalize -8 * ((k : Int) + 1) = off at *
  have hL : 4 * (keepL off).length = 44 := rfl
  have G : ∀ (j : Nat) i, (keepL off)[j]? = some i → good i := fun j i h => hg i (List.mem_of_getElem? h)
  -- 0: ADDI
  have e := step_addi (N := 304) (inp := [w]) h0 (rd := 17) (r1 := 0) (im := 2) rfl (G 0 _ rfl) (by omega) (by omega)
  obtain ⟨s1, r1, h1, x1, f1, m1⟩ := reg_step h0 (by omega) rfl e
  clear e
  -- 1: ECALL
  have e := step_ecall (N := 304) (inp := [w]) h1 rfl (G 1 _ rfl) (by omega) (by omega)
  have y : s1.x 17 = 2 := by rw [x1, h0.zero]; rfl
  unfold ecall at e
  rw [if_neg (by omega), if_pos y] at e
  obtain ⟨s2, r2, h2, x2, f2, m2⟩ := reg_step h1 (by omega) rfl e
  clear e y
  have b2 : s2.x 2 = 304 := by rw [x2, x1]; exact hx
  have c2 : s2.x 10 = w := by rw [x2]; rfl
  -- 2: SW
  have e := step_code (N := 304) (inp := ([w] : List Int).tail) h2.code (j := 2) rfl (G 2 _ rfl) h2.pc (by omega)
  rw [show act 304 s2 ([w] : List Int).tail 31 0 2 10 off = act 304 s2 ([w] : List Int).tail 31 ((0 : Nat) : Int) ((2 : Nat) : Int) ((10 : Nat) : Int) off from rfl, MS.eq_31, b2, eA, if_pos (fit_at 4 (by omega) (by omega))] at e
  obtain ⟨s3, r3, h3, m3, x3, f3⟩ := mem_step (a := a) h2 (by omega) (pc_next h2 (by omega)) e
  clear e
  have b3 : s3.x 2 = 304 := by rw [x3]; exact b2
  have c3 : s3.x 10 = w := by rw [x3]; exact c2
  have n4 : num s3.mem a 4 = w := by rw [m3, num_lay _ _ _ 4 4 (by omega), c2]; omega
  have n1 : num s3.mem a 1 = w % 256 := by rw [m3, num_lay _ _ _ 1 4 (by omega), c2]; omega
  -- 3: LW
  have e := step_code (N := 304) (inp := ([w] : List Int).tail) h3.code (j := 3) rfl (G 3 _ rfl) h3.pc (by omega)
  rw [show act 304 s3 ([w] : List Int).tail 29 5 2 0 off = act 304 s3 ([w] : List Int).tail 29 ((5 : Nat) : Int) ((2 : Nat) : Int) ((0 : Nat) : Int) off from rfl, MS.eq_29, b3, eA, if_pos (fit_at 4 (by omega) (by omega)), show ((a : Nat) : Int).toNat = a from rfl, n4] at e
  obtain ⟨s4, r4, h4, x4, f4, m4⟩ := reg_step h3 (by omega) (pc_next h3 (by omega)) e
  clear e
  have b4 : s4.x 2 = 304 := by rw [x4]; exact b3
  -- 4: LBU
  have e := step_code (N := 304) (inp := ([w] : List Int).tail) h4.code (j := 4) rfl (G 4 _ rfl) h4.pc (by omega)
  rw [show act 304 s4 ([w] : List Int).tail 28 6 2 0 off = act 304 s4 ([w] : List Int).tail 28 ((6 : Nat) : Int) ((2 : Nat) : Int) ((0 : Nat) : Int) off from rfl, MS.eq_28, b4, eA, if_pos (fit_at 1 (by omega) (by omega)), show ((a : Nat) : Int).toNat = a from rfl, m4, n1] at e
  obtain ⟨s5, r5, h5, x5, f5, m5⟩ := reg_step h4 (by omega) (pc_next h4 (by omega)) e
  clear e
  have b5 : s5.x 2 = 304 := by rw [x5]; exact b4
  -- 5: LB
  have e := step_code (N := 304) (inp := ([w] : List Int).tail) h5.code (j := 5) rfl (G 5 _ rfl) h5.pc (by omega)
  rw [show act 304 s5 ([w] : List Int).tail 27 7 2 0 off = act 304 s5 ([w] : List Int).tail 27 ((7 : Nat) : Int) ((2 : Nat) : Int) ((0 : Nat) : Int) off from rfl, MS.eq_27, b5, eA, if_pos (fit_at 1 (by omega) (by omega)), show ((a : Nat) : Int).toNat = a from rfl, m5, m4, n1] at e
  obtain ⟨s6, r6, h6, x6, f6, m6⟩ := reg_step h5 (by omega) (pc_next h5 (by omega)) e
  clear e
  have b6 : s6.x 2 = 304 := by rw [x6]; exact b5
  have c6 : s6.x 10 = w := by rw [x6, x5, x4]; exact c3
  -- 6: FCVTDW
  have e := step_code (N := 304) (inp := ([w] : List Int).tail) h6.code (j := 6) rfl (G 6 _ rfl) h6.pc (by omega)
  rw [show act 304 s6 ([w] : List Int).tail 55 1 10 0 0 = act 304 s6 ([w] : List Int).tail 55 ((1 : Nat) : Int) ((10 : Nat) : Int) ((0 : Nat) : Int) 0 from rfl, MS.eq_55, c6] at e
  obtain ⟨s7, r7, h7, f7, x7, m7⟩ := freg_step h6 (pc_next h6 (by omega)) e
  clear e
  have b7 : s7.x 2 = 304 := by rw [x7]; exact b6
  have g7 : s7.f 1 = RM.ofInt (wrap32 w) := by rw [f7]; rfl
  have hW : RM.ofInt (wrap32 w) < 18446744073709551616 := W_ofInt _
  -- 7: FSD
  have e := step_code (N := 304) (inp := ([w] : List Int).tail) h7.code (j := 7) rfl (G 7 _ rfl) h7.pc (by omega)
  rw [show act 304 s7 ([w] : List Int).tail 44 0 2 1 off = act 304 s7 ([w] : List Int).tail 44 ((0 : Nat) : Int) ((2 : Nat) : Int) ((1 : Nat) : Int) off from rfl, MS.eq_44, b7, eA, if_pos (fit_at 8 (by omega) (by omega)), g7] at e
  obtain ⟨s8, r8, h8, m8, x8, f8⟩ := mem_step (a := a) h7 (by omega) (pc_next h7 (by omega)) e
  clear e
  have b8 : s8.x 2 = 304 := by rw [x8]; exact b7
  have n8 : num s8.mem a 8 = (RM.ofInt (wrap32 w) : Nat) := by rw [m8, num_lay _ _ _ 8 8 (by omega)]; omega
  -- 8: FLD
  have e := step_code (N := 304) (inp := ([w] : List Int).tail) h8.code (j := 8) rfl (G 8 _ rfl) h8.pc (by omega)
  rw [show act 304 s8 ([w] : List Int).tail 43 2 2 0 off = act 304 s8 ([w] : List Int).tail 43 ((2 : Nat) : Int) ((2 : Nat) : Int) ((0 : Nat) : Int) off from rfl, MS.eq_43, b8, eA, if_pos (fit_at 8 (by omega) (by omega)), show ((a : Nat) : Int).toNat = a from rfl, n8, show ((RM.ofInt (wrap32 w) : Nat) : Int).toNat = RM.ofInt (wrap32 w) from rfl, RC.canon_ofInt _ (by unfold wrap32; omega)] at e
  obtain ⟨s9, r9, h9, f9, x9, m9⟩ := freg_step h8 (pc_next h8 (by omega)) e
  clear e
  have b9 : s9.x 2 = 304 := by rw [x9]; exact b8
  have c9 : s9.x 6 = w % 256 := by rw [x9, x8, x7, x6, x5]; rfl
  -- 9: SB
  have e := step_code (N := 304) (inp := ([w] : List Int).tail) h9.code (j := 9) rfl (G 9 _ rfl) h9.pc (by omega)
  rw [show act 304 s9 ([w] : List Int).tail 30 0 2 6 (off + 1) = act 304 s9 ([w] : List Int).tail 30 ((0 : Nat) : Int) ((2 : Nat) : Int) ((6 : Nat) : Int) (off + 1) from rfl, MS.eq_30, b9, eB, if_pos (fit_at 1 (by omega) (by omega)), c9] at e
  obtain ⟨s10, r10, h10, m10, x10, f10⟩ := mem_step (a := a + 1) h9 (by omega) (pc_next h9 (by omega)) e
  clear e
  have b10 : s10.x 2 = 304 := by rw [x10]; exact b9
  have n10 : num s10.mem (a + 1) 1 = w % 256 := by rw [m10, num_lay _ _ _ 1 1 (by omega)]; omega
  -- 10: LBU
  have e := step_code (N := 304) (inp := ([w] : List Int).tail) h10.code (j := 10) rfl (G 10 _ rfl) h10.pc (by omega)
  rw [show act 304 s10 ([w] : List Int).tail 28 8 2 0 (off + 1) = act 304 s10 ([w] : List Int).tail 28 ((8 : Nat) : Int) ((2 : Nat) : Int) ((0 : Nat) : Int) (off + 1) from rfl, MS.eq_28, b10, eB, if_pos (fit_at 1 (by omega) (by omega)), show ((a + 1 : Nat) : Int).toNat = a + 1 from rfl, n10] at e
  obtain ⟨s11, r11, h11, x11, f11, m11⟩ := reg_step h10 (by omega) (pc_next h10 (by omega)) e
  clear e
  have q11 : MM.run 304 0 s11 ([w] : List Int).tail = ⟨s11, ([w] : List Int).tail, [], 0⟩ := rfl
  have q0 : MM.run 304 11 s0 [w] = ⟨s11, [], [], 11⟩ := chain r1 (chain r2 (chain r3 (chain r4 (chain r5 (chain r6 (chain r7 (chain r8 (chain r9 (chain r10 (chain r11 q11))))))))))
  refine ⟨_, q0, ?_⟩
  refine ⟨rfl, ?_, ?_, ?_, ?_, ?_⟩
  · show s11.x 5 = w
    rw [x11, x10, x9, x8, x7, x6, x5, x4]; rfl
  · show s11.x 6 = _
    rw [x11, x10, x9, x8, x7, x6, x5]; rfl
  · show s11.x 7 = _
    rw [x11, x10, x9, x8, x7, x6]; rfl
  · show s11.x 8 = _
    rw [x11]; rfl
  · show s11.f 2 = s11.f 1
    rw [f11, f10, f9, f9]
    show RM.ofInt (wrap32 w) = s8.f 1
    rw [f8, g7]
end MX
end Go.Proofs.Ytieehjkmfmkfjab
