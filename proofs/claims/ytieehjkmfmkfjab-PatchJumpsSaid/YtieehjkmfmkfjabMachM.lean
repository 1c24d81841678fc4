/-
  The plain machine: its parts, a step, a run, as functions of integers and lists. No condition. It speaks of no program.
-/
import Derived.Test.YtieehjkmfmkfjabWordN
import Derived.Test.YtieehjkmfmkfjabRealM
import Derived.Test.YtieehjkmfmkfjabCodeM
namespace Go.Proofs.Ytieehjkmfmkfjab
open Go.RowKit
set_option linter.unusedVariables false
set_option linter.unusedSimpArgs false
namespace MM
/-- the parts of an instruction's word -/
def iOp (x : Int) : Int := CM.dec x
def iRd (x : Int) : Int := if CM.dec x = 0 then 0 else CM.rdOf (CM.kd (CM.dec x)) x
def iRs1 (x : Int) : Int := if CM.dec x = 0 then 0 else CM.rs1Of (CM.kd (CM.dec x)) x
def iRs2 (x : Int) : Int := if CM.dec x = 0 then 0 else CM.rs2Of (CM.kd (CM.dec x)) x
def iImm (x : Int) : Int := if CM.dec x = 0 then 0 else CM.immOf (CM.kd (CM.dec x)) x
theorem reg_bd (w : Int) : (0 ≤ w / 128 % 32 ∧ w / 128 % 32 < 32) ∧ (0 ≤ w / 32768 % 32 ∧ w / 32768 % 32 < 32) ∧ (0 ≤ w / 1048576 % 32 ∧ w / 1048576 % 32 < 32) := by omega
theorem iRd_bd (w : Int) : 0 ≤ iRd w ∧ iRd w < 32 := by unfold iRd CM.rdOf; split <;> (try split) <;> omega
theorem iRs1_bd (w : Int) : 0 ≤ iRs1 w ∧ iRs1 w < 32 := by unfold iRs1 CM.rs1Of; split <;> (try split) <;> omega
theorem iRs2_bd (w : Int) : 0 ≤ iRs2 w ∧ iRs2 w < 32 := by unfold iRs2 CM.rs2Of; split <;> (try split) <;> omega
theorem dec_bd (w : Int) : 0 ≤ CM.dec w ∧ CM.dec w ≤ 55 := by
  unfold CM.dec
  cases e : (List.range 55).find? fun n => CM.hit ((n + 1 : Nat) : Int) w with
  | some n => have := List.mem_range.1 (List.mem_of_find?_eq_some e); simp only; omega
  | none => simp only; omega
/-- the machine's parts -/
structure St where
  mem : Nat → Int
  x : Nat → Int
  f : Nat → Nat
  pc : Int
  state : Int
/-- an event: its Kind, the word, the real -/
abbrev Ev := Int × Int × Nat
/-- what a step leaves: did it end well, the machine, what is left of the input, what was put out -/
structure Rs where
  ok : Bool
  s : St
  inp : List Int
  out : List Ev
def upd {α : Type} (g : Nat → α) (i : Nat) (v : α) : Nat → α := fun j => if j = i then v else g j
theorem upd_same {α : Type} (g : Nat → α) (i : Nat) (v : α) : upd g i v i = v := by simp [upd]
theorem upd_other {α : Type} (g : Nat → α) {i j : Nat} (v : α) (h : j ≠ i) : upd g i v j = g j := by simp [upd, h]
def setx (s : St) (rd : Int) (v : Int) : St := if rd = 0 then s else { s with x := upd s.x rd.toNat v }
def setf (s : St) (rd : Int) (v : Nat) : St := { s with f := upd s.f rd.toNat v }
def setpc (s : St) (v : Int) : St := { s with pc := v }
def setst (s : St) (v : Int) : St := { s with state := v }
/-- may n bytes be read at a? -/
def fit (N : Nat) (a n : Int) : Bool := decide (a % n = 0 ∧ a + n ≤ N)
/-- the number of n bytes from a on, the lowest first -/
def num (g : Nat → Int) (a : Nat) : Nat → Int
  | 0 => 0
  | n + 1 => num g a n + g (a + n) * 256 ^ n
/-- n bytes of v from a on -/
def lay (g : Nat → Int) (a n : Nat) (v : Int) : Nat → Int := fun k => if a ≤ k ∧ k < a + n then v / 256 ^ (k - a) % 256 else g k
def plainOp (op : Int) : Int := if op = 18 then 1 else if op = 19 then 4 else if op = 20 then 5 else if op = 21 then 6 else if op = 22 then 9 else if op = 23 then 10 else if op = 24 then 3 else if op = 25 then 7 else 8
def taken (op a b : Int) : Bool :=
  if op = 32 then decide (a = b) else if op = 33 then decide (a ≠ b) else if op = 34 then decide (wrap32 a < wrap32 b) else if op = 35 then decide (wrap32 b ≤ wrap32 a)
  else if op = 36 then decide (a < b) else decide (b ≤ a)
def wide (op : Int) : Int := if op = 27 ∨ op = 28 ∨ op = 30 then 1 else if op = 29 ∨ op = 31 then 4 else 8
def isLoad (op : Int) : Bool := decide (op = 27 ∨ op = 28 ∨ op = 29 ∨ op = 43)
def isStore (op : Int) : Bool := decide (op = 30 ∨ op = 31 ∨ op = 44)
def loadTo (s : St) (op rd a : Int) : St :=
  if op = 27 then setx s rd (WM.ext (num s.mem a.toNat 1) 8)
  else if op = 28 then setx s rd (num s.mem a.toNat 1)
  else if op = 29 then setx s rd (num s.mem a.toNat 4)
  else setf s rd (RM.canon (num s.mem a.toNat 8).toNat)
def storeTo (s : St) (op rs2 a : Int) : St :=
  if op = 30 then { s with mem := lay s.mem a.toNat 1 (s.x rs2.toNat) }
  else if op = 31 then { s with mem := lay s.mem a.toNat 4 (s.x rs2.toNat) }
  else { s with mem := lay s.mem a.toNat 8 (s.f rs2.toNat) }
def realTo (s : St) (op rd rs1 rs2 : Int) : St :=
  if op = 49 then setf s rd (s.f rs1.toNat)
  else if op = 50 then setf s rd (RM.fneg (s.f rs1.toNat))
  else if op = 54 then setx s rd (RM.toWord (s.f rs1.toNat))
  else if op = 55 then setf s rd (RM.ofInt (wrap32 (s.x rs1.toNat)))
  else if op = 51 then setx s rd ((RM.feq (s.f rs1.toNat) (s.f rs2.toNat)).toNat : Int)
  else if op = 52 then setx s rd ((RM.flt (s.f rs1.toNat) (s.f rs2.toNat)).toNat : Int)
  else if op = 53 then setx s rd ((RM.fle (s.f rs1.toNat) (s.f rs2.toNat)).toNat : Int)
  else if op = 45 then setf s rd (RM.fadd (s.f rs1.toNat) (s.f rs2.toNat))
  else if op = 46 then setf s rd (RM.fsub (s.f rs1.toNat) (s.f rs2.toNat))
  else if op = 47 then setf s rd (RM.fmul (s.f rs1.toNat) (s.f rs2.toNat))
  else setf s rd (RM.fdiv (s.f rs1.toNat) (s.f rs2.toNat))
def yes (s : St) (pc : Int) (inp : List Int) (out : List Ev) : Rs := ⟨true, setpc s pc, inp, out⟩
def no (s : St) (why : Int) (inp : List Int) : Rs := ⟨false, setst s why, inp, []⟩
def ecall (s : St) (nx : Int) (inp : List Int) : Rs :=
  if s.x 17 = 1 then yes s nx inp [(1, s.x 10, 0)]
  else if s.x 17 = 2 then yes (setx s 10 (inp.headD 0)) nx inp.tail []
  else if s.x 17 = 3 then yes (setst s 1) nx inp []
  else if s.x 17 = 4 then yes (setst s 4) nx inp []
  else if s.x 17 = 5 then yes s nx inp [(2, 0, s.f 10)]
  else no s 2 inp
/-- what an instruction does -/
def act (N : Nat) (s : St) (inp : List Int) (op rd rs1 rs2 imm : Int) : Rs :=
  if op ≤ 17 then yes (setx s rd (WM.val op (s.x rs1.toNat) (s.x rs2.toNat))) ((s.pc + 4) % 4294967296) inp []
  else if op ≤ 26 then yes (setx s rd (WM.val (plainOp op) (s.x rs1.toNat) (imm % 4294967296))) ((s.pc + 4) % 4294967296) inp []
  else if isLoad op then
    if fit N ((s.x rs1.toNat + imm % 4294967296) % 4294967296) (wide op) then yes (loadTo s op rd ((s.x rs1.toNat + imm % 4294967296) % 4294967296)) ((s.pc + 4) % 4294967296) inp [] else no s 3 inp
  else if isStore op then
    if fit N ((s.x rs1.toNat + imm % 4294967296) % 4294967296) (wide op) then yes (storeTo s op rs2 ((s.x rs1.toNat + imm % 4294967296) % 4294967296)) ((s.pc + 4) % 4294967296) inp [] else no s 3 inp
  else if op ≤ 37 then yes s (if taken op (s.x rs1.toNat) (s.x rs2.toNat) then (s.pc + imm % 4294967296) % 4294967296 else (s.pc + 4) % 4294967296) inp []
  else if op = 38 then yes (setx s rd (imm % 4294967296 * 4096 % 4294967296)) ((s.pc + 4) % 4294967296) inp []
  else if op = 39 then yes (setx s rd ((imm % 4294967296 * 4096 % 4294967296 + s.pc) % 4294967296)) ((s.pc + 4) % 4294967296) inp []
  else if op = 40 then yes (setx s rd ((s.pc + 4) % 4294967296)) ((s.pc + imm % 4294967296) % 4294967296) inp []
  else if op = 41 then yes (setx s rd ((s.pc + 4) % 4294967296)) ((s.x rs1.toNat + imm % 4294967296) % 4294967296 / 2 * 2) inp []
  else if op = 42 then ecall s ((s.pc + 4) % 4294967296) inp
  else yes (realTo s op rd rs1 rs2) ((s.pc + 4) % 4294967296) inp []
/-- one step -/
def step (N : Nat) (s : St) (inp : List Int) : Rs :=
  if fit N s.pc 4 then
    if CM.dec (num s.mem s.pc.toNat 4) = 0 then no s 2 inp
    else act N s inp (iOp (num s.mem s.pc.toNat 4)) (iRd (num s.mem s.pc.toNat 4)) (iRs1 (num s.mem s.pc.toNat 4)) (iRs2 (num s.mem s.pc.toNat 4)) (iImm (num s.mem s.pc.toNat 4))
  else no s 3 inp
/-- what a run leaves -/
structure Rn where
  s : St
  inp : List Int
  out : List Ev
  n : Nat
def run (N : Nat) : Nat → St → List Int → Rn
  | 0, s, inp => ⟨s, inp, [], 0⟩
  | k + 1, s, inp =>
    if s.state = 0 then
      if (step N s inp).ok then
        let q := run N k (step N s inp).s (step N s inp).inp
        ⟨q.s, q.inp, (step N s inp).out ++ q.out, q.n + 1⟩
      else ⟨(step N s inp).s, (step N s inp).inp, [], 0⟩
    else ⟨s, inp, [], 0⟩
theorem run_zero (N : Nat) (s : St) (inp : List Int) : run N 0 s inp = ⟨s, inp, [], 0⟩ := rfl
theorem run_stop (N k : Nat) (s : St) (inp : List Int) (h : s.state ≠ 0) : run N k s inp = ⟨s, inp, [], 0⟩ := by
  cases k with
  | zero => rfl
  | succ k => unfold run; rw [if_neg h]
theorem run_yes (N k : Nat) (s : St) (inp : List Int) (h : s.state = 0) (r : Rs) (hr : step N s inp = r) (hk : r.ok = true) :
    run N (k + 1) s inp = ⟨(run N k r.s r.inp).s, (run N k r.s r.inp).inp, r.out ++ (run N k r.s r.inp).out, (run N k r.s r.inp).n + 1⟩ := by
  subst hr
  conv => lhs; unfold run
  rw [if_pos h, if_pos hk]
theorem run_no (N k : Nat) (s : St) (inp : List Int) (h : s.state = 0) (r : Rs) (hr : step N s inp = r) (hk : r.ok = false) :
    run N (k + 1) s inp = ⟨r.s, r.inp, [], 0⟩ := by
  subst hr
  conv => lhs; unfold run
  rw [if_pos h, if_neg (by simp [hk])]
/-- a run that has ended badly is not running -/
theorem no_of (N : Nat) (s : St) (inp : List Int) (h : (step N s inp).ok = false) : (step N s inp).inp = inp ∧ (step N s inp).out = [] ∧ ∃ c, (step N s inp).s = setst s c ∧ (c = 2 ∨ c = 3) := by
  unfold step at h ⊢
  split at h
  · rename_i h1
    rw [if_pos h1]
    split at h
    · rename_i h2
      rw [if_pos h2]
      exact ⟨rfl, rfl, 2, rfl, .inl rfl⟩
    · rename_i h2
      rw [if_neg h2]
      generalize iOp _ = op at h ⊢
      generalize iRd _ = rd at h ⊢
      generalize iRs1 _ = r1 at h ⊢
      generalize iRs2 _ = r2 at h ⊢
      generalize iImm _ = im at h ⊢
      unfold act at h ⊢
      repeat' (split at h)
      all_goals first
        | (simp only [yes] at h; cases h; done)
        | skip
      · simp_all only [if_true, if_false]; exact ⟨rfl, rfl, 3, rfl, .inr rfl⟩
      · simp_all only [if_true, if_false]; exact ⟨rfl, rfl, 3, rfl, .inr rfl⟩
      · simp_all only [if_true, if_false]
        unfold ecall at h ⊢
        repeat' (split at h)
        all_goals first
          | (simp only [yes] at h; cases h; done)
          | (simp_all only [if_true, if_false]; exact ⟨rfl, rfl, 2, rfl, .inl rfl⟩)
  · rename_i h1
    rw [if_neg h1]
    exact ⟨rfl, rfl, 3, rfl, .inr rfl⟩
theorem run_add (N a b : Nat) : ∀ (s : St) (inp : List Int), run N (a + b) s inp = ⟨(run N b (run N a s inp).s (run N a s inp).inp).s, (run N b (run N a s inp).s (run N a s inp).inp).inp, (run N a s inp).out ++ (run N b (run N a s inp).s (run N a s inp).inp).out, (run N a s inp).n + (run N b (run N a s inp).s (run N a s inp).inp).n⟩ := by
  induction a with
  | zero => intro s inp; rw [Nat.zero_add, run_zero]; simp
  | succ a ih =>
    intro s inp
    by_cases h : s.state = 0
    · rw [show a + 1 + b = a + b + 1 by omega]
      generalize hr : step N s inp = r
      cases hk : r.ok with
      | true =>
        rw [run_yes N (a + b) s inp h r hr hk, run_yes N a s inp h r hr hk, ih]
        simp only [List.append_assoc]
        rw [Nat.add_right_comm]
      | false =>
        rw [run_no N (a + b) s inp h r hr hk, run_no N a s inp h r hr hk]
        have hn := no_of N s inp (by rw [hr]; exact hk)
        rw [hr] at hn
        obtain ⟨_, _, c, hs, hc⟩ := hn
        have h3 : r.s.state ≠ 0 := by rw [hs]; show c ≠ 0; omega
        simp only [run_stop N b r.s r.inp h3, List.append_nil]
    · rw [run_stop N _ s inp h, run_stop N (a + 1) s inp h]
      simp only [run_stop N b s inp h]
      simp
theorem run_le (N k : Nat) : ∀ (s : St) (inp : List Int), (run N k s inp).n ≤ k := by
  induction k with
  | zero => intro s inp; exact Nat.le_refl _
  | succ k ih =>
    intro s inp
    by_cases h : s.state = 0
    · generalize hr : step N s inp = r
      cases hk : r.ok with
      | true => rw [run_yes N k s inp h r hr hk]; have := ih r.s r.inp; simp only; omega
      | false => rw [run_no N k s inp h r hr hk]; simp only; omega
    · rw [run_stop N _ s inp h]; simp only; omega
/-! ### all numbers in their ranges -/
structure Fine (s : St) : Prop where
  mem : ∀ k, 0 ≤ s.mem k ∧ s.mem k ≤ 255
  x : ∀ k, 0 ≤ s.x k ∧ s.x k ≤ 4294967295
  f : ∀ k, RM.W (s.f k)
  pc : 0 ≤ s.pc ∧ s.pc ≤ 4294967295
  zero : s.x 0 = 0
theorem num_bd (g : Nat → Int) (h : ∀ k, 0 ≤ g k ∧ g k ≤ 255) (a n : Nat) : 0 ≤ num g a n ∧ num g a n < 256 ^ n := by
  induction n with
  | zero => simp [num]
  | succ n ih =>
    unfold num
    have h1 := h (a + n)
    have hp : (0 : Int) < 256 ^ n := Int.pow_pos (by decide)
    have h2 : 0 ≤ g (a + n) * 256 ^ n := Int.mul_nonneg h1.1 (by omega)
    have h3 : g (a + n) * 256 ^ n ≤ 255 * 256 ^ n := Int.mul_le_mul_of_nonneg_right h1.2 (by omega)
    rw [Int.pow_succ]
    omega
theorem num1 (g : Nat → Int) (h : ∀ k, 0 ≤ g k ∧ g k ≤ 255) (a : Nat) : 0 ≤ num g a 1 ∧ num g a 1 < 256 := num_bd g h a 1
theorem num4 (g : Nat → Int) (h : ∀ k, 0 ≤ g k ∧ g k ≤ 255) (a : Nat) : 0 ≤ num g a 4 ∧ num g a 4 < 4294967296 := num_bd g h a 4
theorem num8 (g : Nat → Int) (h : ∀ k, 0 ≤ g k ∧ g k ≤ 255) (a : Nat) : 0 ≤ num g a 8 ∧ num g a 8 < 18446744073709551616 := num_bd g h a 8
theorem lay_bd (g : Nat → Int) (h : ∀ k, 0 ≤ g k ∧ g k ≤ 255) (a n : Nat) (v : Int) : ∀ k, 0 ≤ lay g a n v k ∧ lay g a n v k ≤ 255 := by
  intro k
  unfold lay
  split
  · omega
  · exact h k
theorem Fine.setx {s : St} (h : Fine s) (rd v : Int) (hv : 0 ≤ v ∧ v ≤ 4294967295) (h0 : 0 ≤ rd) : Fine (setx s rd v) := by
  unfold MM.setx
  split
  · exact h
  · rename_i hr
    refine ⟨h.mem, fun k => ?_, h.f, h.pc, ?_⟩
    · simp only [upd]; split
      · exact hv
      · exact h.x k
    · simp only [upd]; rw [if_neg (by omega)]; exact h.zero
theorem Fine.setf {s : St} (h : Fine s) (rd : Int) (v : Nat) (hv : RM.W v) : Fine (setf s rd v) :=
  ⟨h.mem, h.x, fun k => by simp only [MM.setf, upd]; split; exact hv; exact h.f k, h.pc, h.zero⟩
theorem Fine.setpc {s : St} (h : Fine s) (v : Int) (hv : 0 ≤ v ∧ v ≤ 4294967295) : Fine (setpc s v) := ⟨h.mem, h.x, h.f, hv, h.zero⟩
theorem Fine.setst {s : St} (h : Fine s) (v : Int) : Fine (setst s v) := ⟨h.mem, h.x, h.f, h.pc, h.zero⟩
theorem Fine.lay {s : St} (h : Fine s) (a n : Nat) (v : Int) : Fine { s with mem := lay s.mem a n v } := ⟨lay_bd s.mem h.mem a n v, h.x, h.f, h.pc, h.zero⟩
theorem W_getD {o : Option Nat} (h : RM.Clean o) : RM.W (o.getD RM.NaN) := by
  cases o with
  | none => exact RM.W_NaN
  | some r => exact (h r rfl).1
theorem W_ofInt (n : Int) : RM.W (RM.ofInt n) := RM.W_word _ (RM.rungOf_lt _ _)
theorem toWord_bd (a : Nat) : 0 ≤ RM.toWord a ∧ RM.toWord a ≤ 4294967295 := by
  unfold RM.toWord
  split
  · omega
  · split
    · omega
    · split <;> omega
theorem b01 (b : Bool) : 0 ≤ (b.toNat : Int) ∧ (b.toNat : Int) ≤ 4294967295 := by cases b <;> decide
theorem fine_load {s : St} (h : Fine s) (op rd a : Int) (h0 : 0 ≤ rd) : Fine (loadTo s op rd a) := by
  unfold loadTo
  split
  · have e := WM.ext_ok (num s.mem a.toNat 1) 8 (by omega) (by omega)
    exact h.setx _ _ e h0
  · split
    · have e := num1 s.mem h.mem a.toNat
      exact h.setx _ _ (by omega) h0
    · split
      · have e := num4 s.mem h.mem a.toNat
        exact h.setx _ _ (by omega) h0
      · have e := num8 s.mem h.mem a.toNat
        exact h.setf _ _ (RM.W_canon (by unfold RM.W; omega))
theorem fine_store {s : St} (h : Fine s) (op rs2 a : Int) : Fine (storeTo s op rs2 a) := by
  unfold storeTo
  split
  · exact h.lay _ _ _
  · split
    · exact h.lay _ _ _
    · exact h.lay _ _ _
theorem fine_real {s : St} (h : Fine s) (op rd rs1 rs2 : Int) (h0 : 0 ≤ rd) : Fine (realTo s op rd rs1 rs2) := by
  unfold realTo
  repeat' (split)
  · exact h.setf _ _ (h.f _)
  · exact h.setf _ _ (RM.W_fneg _)
  · exact h.setx _ _ (toWord_bd _) h0
  · exact h.setf _ _ (W_ofInt _)
  · exact h.setx _ _ (b01 _) h0
  · exact h.setx _ _ (b01 _) h0
  · exact h.setx _ _ (b01 _) h0
  · exact h.setf _ _ (W_getD (RM.clean_add _ _))
  · exact h.setf _ _ (W_getD (RM.clean_sub _ _))
  · exact h.setf _ _ (W_getD (RM.clean_mul _ _))
  · exact h.setf _ _ (W_getD (RM.clean_div _ _))
theorem mod_bd (n : Int) : 0 ≤ n % 4294967296 ∧ n % 4294967296 ≤ 4294967295 := by omega
theorem head_bd {l : List Int} (h : ∀ x ∈ l, 0 ≤ x ∧ x ≤ 4294967295) : 0 ≤ l.headD 0 ∧ l.headD 0 ≤ 4294967295 := by
  cases l with
  | nil => simp
  | cons x l => exact h x (by simp)
structure FineR (r : Rs) : Prop where
  s : Fine r.s
  inp : ∀ x ∈ r.inp, 0 ≤ x ∧ x ≤ 4294967295
theorem ite_R {c : Prop} [Decidable c] {a b : Rs} (ha : FineR a) (hb : FineR b) : FineR (if c then a else b) := by
  split
  · exact ha
  · exact hb
theorem ite_bd {c : Prop} [Decidable c] {a b : Int} (ha : 0 ≤ a ∧ a ≤ 4294967295) (hb : 0 ≤ b ∧ b ≤ 4294967295) : 0 ≤ (if c then a else b) ∧ (if c then a else b) ≤ 4294967295 := by
  split
  · exact ha
  · exact hb
theorem fine_ecall {s : St} {inp : List Int} (h : Fine s) (hi : ∀ x ∈ inp, 0 ≤ x ∧ x ≤ 4294967295) (nx : Int) (p4 : 0 ≤ nx ∧ nx ≤ 4294967295) : FineR (ecall s nx inp) := by
  unfold ecall
  refine ite_R ⟨h.setpc _ p4, hi⟩ (ite_R ⟨(h.setx _ _ (head_bd hi) (by omega)).setpc _ p4, fun x hx => hi x (List.mem_of_mem_tail hx)⟩ (ite_R ⟨(h.setst _).setpc _ p4, hi⟩ (ite_R ⟨(h.setst _).setpc _ p4, hi⟩ (ite_R ⟨h.setpc _ p4, hi⟩ ⟨h.setst _, hi⟩))))
theorem half_bd2 (n : Int) : 0 ≤ n % 4294967296 / 2 * 2 ∧ n % 4294967296 / 2 * 2 ≤ 4294967295 := by omega
theorem fine_act {N : Nat} {s : St} {inp : List Int} (h : Fine s) (hi : ∀ x ∈ inp, 0 ≤ x ∧ x ≤ 4294967295) (op rd rs1 rs2 imm : Int) (h0 : 0 ≤ rd) :
    FineR (act N s inp op rd rs1 rs2 imm) := by
  have hx1 := h.x rs1.toNat
  have hx2 := h.x rs2.toNat
  have p4 := mod_bd (s.pc + 4)
  unfold act
  refine ite_R ⟨(h.setx _ _ (WM.val_ok op _ _ hx1 hx2) h0).setpc _ p4, hi⟩ ?_
  refine ite_R ⟨(h.setx _ _ (WM.val_ok _ _ _ hx1 (mod_bd _)) h0).setpc _ p4, hi⟩ ?_
  refine ite_R (ite_R ⟨(fine_load h _ _ _ h0).setpc _ p4, hi⟩ ⟨h.setst _, hi⟩) ?_
  refine ite_R (ite_R ⟨(fine_store h _ _ _).setpc _ p4, hi⟩ ⟨h.setst _, hi⟩) ?_
  refine ite_R ⟨h.setpc _ (ite_bd (mod_bd _) p4), hi⟩ ?_
  refine ite_R ⟨(h.setx _ _ (mod_bd _) h0).setpc _ p4, hi⟩ ?_
  refine ite_R ⟨(h.setx _ _ (mod_bd _) h0).setpc _ p4, hi⟩ ?_
  refine ite_R ⟨(h.setx _ _ p4 h0).setpc _ (mod_bd _), hi⟩ ?_
  refine ite_R ⟨(h.setx _ _ p4 h0).setpc _ (half_bd2 _), hi⟩ ?_
  refine ite_R (fine_ecall h hi _ p4) ?_
  exact ⟨(fine_real h _ _ _ _ h0).setpc _ p4, hi⟩
theorem fine_step {N : Nat} {s : St} {inp : List Int} (h : Fine s) (hi : ∀ x ∈ inp, 0 ≤ x ∧ x ≤ 4294967295) : FineR (step N s inp) := by
  unfold step
  exact ite_R (ite_R ⟨h.setst _, hi⟩ (fine_act h hi _ _ _ _ _ (iRd_bd _).1)) ⟨h.setst _, hi⟩
end MM
end Go.Proofs.Ytieehjkmfmkfjab
