/-
  What the statements' own programs do in the plain machine: one that echoes its input. No condition but those that are written at each.
-/
import Derived.Test.YtieehjkmfmkfjabMachK
namespace Go.Proofs.Ytieehjkmfmkfjab
open Go.RowKit
set_option linter.unusedVariables false
set_option linter.unusedSimpArgs false
namespace MQ
open MM MC MB MP
def echoL : List Ins := [(18, 17, 0, 0, 2), (42, 0, 0, 0, 0), (18, 17, 0, 0, 1), (42, 0, 0, 0, 0), (40, 0, 0, 0, -16)]
theorem echo_good : ∀ i ∈ echoL, good i := by
  intro i hi
  simp only [echoL, List.mem_cons, List.not_mem_nil, or_false] at hi
  rcases hi with rfl | rfl | rfl | rfl | rfl <;> exact ⟨by decide +kernel, by decide, by decide, by decide, by decide⟩
/-- at an instruction's beginning: the code stands, register 0 is 0, it goes on -/
structure Ready (l : List Ins) (s : St) (j : Nat) : Prop where
  code : MP.Code l s.mem
  zero : s.x 0 = 0
  go : s.state = 0
  pc : s.pc = ((4 * j : Nat) : Int)
theorem Ready.set {l : List Ins} {s : St} {j j' : Nat} {rd v pc : Int} (h : Ready l s j) (hr : 0 ≤ rd) (hp : pc = ((4 * j' : Nat) : Int)) : Ready l (setpc (setx s rd v) pc) j' := by
  refine ⟨?_, ?_, ?_, hp⟩
  · show MP.Code l (setx s rd v).mem; rw [setx_mem]; exact h.code
  · show (setx s rd v).x 0 = 0
    unfold setx; split
    · exact h.zero
    · show upd s.x rd.toNat v 0 = 0
      rw [upd_other _ _ (by omega)]; exact h.zero
  · show (setx s rd v).state = 0; rw [setx_state]; exact h.go
theorem Ready.put {l : List Ins} {s : St} {j j' : Nat} {pc : Int} (h : Ready l s j) (hp : pc = ((4 * j' : Nat) : Int)) : Ready l (setpc s pc) j' := ⟨h.code, h.zero, h.go, hp⟩
theorem get_x (s : St) (rd v pc : Int) (k : Nat) (hr : 0 < rd) : (setpc (setx s rd v) pc).x k = if (k : Int) = rd then v else s.x k := by
  show (setx s rd v).x k = _
  unfold setx
  rw [if_neg (by omega)]
  show upd s.x rd.toNat v k = _
  unfold upd
  by_cases e : (k : Int) = rd
  · rw [if_pos e, if_pos (by omega)]
  · rw [if_neg e, if_neg (by omega)]
section
variable {N : Nat} {s : St} {inp : List Int} {l : List Ins} {j : Nat}
theorem step_addi (h : Ready l s j) {rd r1 : Nat} {im : Int} (hj : l[j]? = some (18, (rd : Int), (r1 : Int), 0, im)) (hg : good (18, (rd : Int), (r1 : Int), 0, im)) (hN : 4 * j + 4 ≤ N) (hl : 4 * j + 4 < 4294967296) :
    MM.step N s inp = yes (setx s rd ((s.x r1 + im % 4294967296) % 4294967296)) ((4 * (j + 1) : Nat) : Int) inp [] := by
  rw [step_code h.code hj hg h.pc hN, show act N s inp 18 (rd : Int) (r1 : Int) 0 im = act N s inp 18 (rd : Int) (r1 : Int) ((0 : Nat) : Int) im from rfl, MS.eq_18, WM.v1, h.pc, show (((4 * j : Nat) : Int) + 4) % 4294967296 = ((4 * (j + 1) : Nat) : Int) by omega]
theorem step_ecall (h : Ready l s j) (hj : l[j]? = some (42, 0, 0, 0, 0)) (hg : good (42, 0, 0, 0, 0)) (hN : 4 * j + 4 ≤ N) (hl : 4 * j + 4 < 4294967296) :
    MM.step N s inp = ecall s ((4 * (j + 1) : Nat) : Int) inp := by
  rw [step_code h.code hj hg h.pc hN, show act N s inp 42 0 0 0 0 = act N s inp 42 ((0 : Nat) : Int) ((0 : Nat) : Int) ((0 : Nat) : Int) 0 from rfl, MS.eq_42, h.pc, show (((4 * j : Nat) : Int) + 4) % 4294967296 = ((4 * (j + 1) : Nat) : Int) by omega]
end
/-- one step more, that ends well -/
theorem run_one {N k : Nat} {s s' : St} {inp inp' : List Int} {out : List Ev} {pc : Int} (h0 : s.state = 0) (h : MM.step N s inp = yes s' pc inp' out) :
    MM.run N (k + 1) s inp = ⟨(MM.run N k (setpc s' pc) inp').s, (MM.run N k (setpc s' pc) inp').inp, out ++ (MM.run N k (setpc s' pc) inp').out, (MM.run N k (setpc s' pc) inp').n + 1⟩ := run_yes N k s inp h0 _ h rfl
/-- one round of the echo -/
theorem echo_round {N : Nat} (hN : 20 ≤ N) {s : St} (inp : List Int) (h : Ready echoL s 0) : ∃ s', Ready echoL s' 0 ∧ MM.run N 5 s inp = ⟨s', inp.tail, [(1, inp.headD 0, 0)], 5⟩ := by
  have g0 := echo_good (18, 17, 0, 0, 2) (by simp [echoL])
  have g1 := echo_good (42, 0, 0, 0, 0) (by simp [echoL])
  have g2 := echo_good (18, 17, 0, 0, 1) (by simp [echoL])
  have g4 := echo_good (40, 0, 0, 0, -16) (by simp [echoL])
  have e0 := step_addi (N := N) (inp := inp) h (rd := 17) (r1 := 0) (im := 2) rfl g0 (by omega) (by omega)
  rw [h.zero] at e0
  have h1 : Ready echoL (setpc (setx s (17 : Nat) ((0 + 2 % 4294967296) % 4294967296)) ((4 * (0 + 1) : Nat) : Int)) 1 := h.set (by omega) rfl
  have x1 := get_x s (17 : Nat) ((0 + 2 % 4294967296) % 4294967296) ((4 * (0 + 1) : Nat) : Int) 17 (by omega)
  rw [run_one h.go e0]
  generalize setpc (setx s (17 : Nat) ((0 + 2 % 4294967296) % 4294967296)) ((4 * (0 + 1) : Nat) : Int) = s1 at *
  have e1 := step_ecall (N := N) (inp := inp) h1 rfl g1 (by omega) (by omega)
  unfold ecall at e1
  have y1 : s1.x 17 = 2 := x1
  rw [if_neg (by omega), if_pos y1] at e1
  have h2 : Ready echoL (setpc (setx s1 10 (inp.headD 0)) ((4 * (1 + 1) : Nat) : Int)) 2 := h1.set (by omega) rfl
  have x2 := get_x s1 10 (inp.headD 0) ((4 * (1 + 1) : Nat) : Int) 10 (by omega)
  rw [run_one h1.go e1]
  generalize setpc (setx s1 10 (inp.headD 0)) ((4 * (1 + 1) : Nat) : Int) = s2 at *
  have y2 : s2.x 10 = inp.headD 0 := x2
  have e2 := step_addi (N := N) (inp := inp.tail) h2 (rd := 17) (r1 := 0) (im := 1) rfl g2 (by omega) (by omega)
  rw [h2.zero] at e2
  have h3 : Ready echoL (setpc (setx s2 (17 : Nat) ((0 + 1 % 4294967296) % 4294967296)) ((4 * (2 + 1) : Nat) : Int)) 3 := h2.set (by omega) rfl
  have x3 := get_x s2 (17 : Nat) ((0 + 1 % 4294967296) % 4294967296) ((4 * (2 + 1) : Nat) : Int) 17 (by omega)
  have x3' := get_x s2 (17 : Nat) ((0 + 1 % 4294967296) % 4294967296) ((4 * (2 + 1) : Nat) : Int) 10 (by omega)
  rw [run_one h2.go e2]
  generalize setpc (setx s2 (17 : Nat) ((0 + 1 % 4294967296) % 4294967296)) ((4 * (2 + 1) : Nat) : Int) = s3 at *
  have y3 : s3.x 17 = 1 := x3
  have y3' : s3.x 10 = inp.headD 0 := by rw [x3', if_neg (by omega)]; exact y2
  have e3 := step_ecall (N := N) (inp := inp.tail) h3 rfl g1 (by omega) (by omega)
  unfold ecall at e3
  rw [if_pos y3, y3'] at e3
  have h4 : Ready echoL (setpc s3 ((4 * (3 + 1) : Nat) : Int)) 4 := h3.put rfl
  rw [run_one h3.go e3]
  generalize setpc s3 ((4 * (3 + 1) : Nat) : Int) = s4 at *
  have e4 : MM.step N s4 inp.tail = yes s4 0 inp.tail [] := by
    rw [step_code h4.code (j := 4) rfl g4 h4.pc (by omega), show act N s4 inp.tail 40 0 0 0 (-16) = act N s4 inp.tail 40 ((0 : Nat) : Int) ((0 : Nat) : Int) ((0 : Nat) : Int) (-16) from rfl, MS.eq_40, h4.pc]
    rfl
  have h5 : Ready echoL (setpc s4 0) 0 := h4.put rfl
  rw [run_one h4.go e4]
  exact ⟨setpc s4 0, h5, rfl⟩
/-- n rounds -/
theorem echo_run {N : Nat} (hN : 20 ≤ N) (n : Nat) : ∀ (s : St) (inp : List Int), Ready echoL s 0 → ∃ T, MM.run N (5 * n) s inp = T ∧ T.s.state = 0 ∧ T.n = 5 * n ∧ T.out.length = n ∧ ∀ i, i < n → T.out[i]? = some (1, inp.getD i 0, 0) := by
  induction n with
  | zero => intro s inp h; exact ⟨_, rfl, h.go, rfl, rfl, fun i hi => by omega⟩
  | succ n ih =>
    intro s inp h
    obtain ⟨s', h', e⟩ := echo_round hN inp h
    obtain ⟨T, hT, t1, t2, t3, t4⟩ := ih s' inp.tail h'
    refine ⟨_, rfl, ?_⟩
    rw [show 5 * (n + 1) = 5 + 5 * n by omega, run_add, e]
    simp only [hT]
    refine ⟨t1, by omega, by simp; omega, fun i hi => ?_⟩
    cases i with
    | zero => cases inp <;> simp
    | succ i =>
      rw [List.singleton_append, List.getElem?_cons_succ, t4 i (by omega)]
      cases inp <;> simp
end MQ
end Go.Proofs.Ytieehjkmfmkfjab
