/-
  The plain machine: its parts, a step, a run, as functions of integers and lists. No condition. It speaks of no program.
  The machine in memory, and what its small functions answer, each a contract. No condition but those that are written at each.
  A run of the machine in memory, and what its small methods answer, each a contract. No condition but those that are written at each.
-/
import Derived.Test.YtlmblfkcmhgdaaaGreatWordQ
import Derived.Test.YtlmblfkcmhgdaaaGreatRealQa
import Derived.Test.YtlmblfkcmhgdaaaGreatCodeQa
import Derived.Test.YtlmblfkcmhgdaaaGreatRows
import Derived.ProofKit
import Derived.OpenShut
import Derived.WalkKit
import Derived.WalkLawsBesides
import Derived.WalkSpells
import Derived.Outline
import Derived.Below
import Derived.Laws.Rows
import Derived.Laws.Tables
import Derived.Laws.AppendOwn
import Derived.Deep.MidRow
import Derived.Deep.Draws
import Derived.Deep.QuietTactic
import Derived.BigQuiet
import Derived.Lib.Hide
import Derived.Maps.RangeWalk
import Derived.Maps.OwnSet
import Derived.Maps.OwnOps
namespace Go.Proofs.YtlmblfkcmhgdaaaGreat
open Go.RowKit
set_option linter.unusedVariables false
set_option linter.unusedSimpArgs false
namespace MM
/-- the parts of an instruction's word -/
def iOp (x : Int) : Int := CM.dec x
def iRd (x : Int) : Int := if CM.dec x = 0 then 0 else CM.rdOf (CM.kd (CM.dec x)) x
def iRs1 (x : Int) : Int := if CM.dec x = 0 then 0 else CM.rs1Of (CM.kd (CM.dec x)) x
def iRs2 (x : Int) : Int := if CM.dec x = 0 then 0 else CM.rs2Of (CM.kd (CM.dec x)) x
def iImm (x : Int) : Int := if CM.dec x = 0 then 0 else CM.immOf (CM.kd (CM.dec x)) x
theorem iRd_bd (w : Int) : 0 ≤ iRd w ∧ iRd w < 32 := by unfold iRd CM.rdOf; split <;> (try split) <;> omega
theorem iRs1_bd (w : Int) : 0 ≤ iRs1 w ∧ iRs1 w < 32 := by unfold iRs1 CM.rs1Of; split <;> (try split) <;> omega
theorem iRs2_bd (w : Int) : 0 ≤ iRs2 w ∧ iRs2 w < 32 := by unfold iRs2 CM.rs2Of; split <;> (try split) <;> omega
theorem dec_bd (w : Int) : 0 ≤ CM.dec w ∧ CM.dec w ≤ 55 := by
  unfold CM.dec
  cases e : (List.range 55).find? fun n => CM.hit ((n + 1 : Nat) : Int) w with
  | some n => have := List.mem_range.1 (List.mem_of_find?_eq_some e); simp only; omega
  | none => simp only; omega
/-- the machine's parts -/
structure St where
  mem : Nat → Int
  x : Nat → Int
  f : Nat → Nat
  pc : Int
  state : Int
/-- an event: its Kind, the word, the real -/
abbrev Ev := Int × Int × Nat
/-- what a step leaves: did it end well, the machine, what is left of the input, what was put out -/
structure Rs where
  ok : Bool
  s : St
  inp : List Int
  out : List Ev
def upd {α : Type} (g : Nat → α) (i : Nat) (v : α) : Nat → α := fun j => if j = i then v else g j
def setx (s : St) (rd : Int) (v : Int) : St := if rd = 0 then s else { s with x := upd s.x rd.toNat v }
def setf (s : St) (rd : Int) (v : Nat) : St := { s with f := upd s.f rd.toNat v }
def setpc (s : St) (v : Int) : St := { s with pc := v }
def setst (s : St) (v : Int) : St := { s with state := v }
/-- may n bytes be read at a? -/
def fit (N : Nat) (a n : Int) : Bool := decide (a % n = 0 ∧ a + n ≤ N)
/-- the number of n bytes from a on, the lowest first -/
def num (g : Nat → Int) (a : Nat) : Nat → Int
  | 0 => 0
  | n + 1 => num g a n + g (a + n) * 256 ^ n
/-- n bytes of v from a on -/
def lay (g : Nat → Int) (a n : Nat) (v : Int) : Nat → Int := fun k => if a ≤ k ∧ k < a + n then v / 256 ^ (k - a) % 256 else g k
def plainOp (op : Int) : Int := if op = 18 then 1 else if op = 19 then 4 else if op = 20 then 5 else if op = 21 then 6 else if op = 22 then 9 else if op = 23 then 10 else if op = 24 then 3 else if op = 25 then 7 else 8
def taken (op a b : Int) : Bool :=
  if op = 32 then decide (a = b) else if op = 33 then decide (a ≠ b) else if op = 34 then decide (wrap32 a < wrap32 b) else if op = 35 then decide (wrap32 b ≤ wrap32 a)
  else if op = 36 then decide (a < b) else decide (b ≤ a)
def wide (op : Int) : Int := if op = 27 ∨ op = 28 ∨ op = 30 then 1 else if op = 29 ∨ op = 31 then 4 else 8
def isLoad (op : Int) : Bool := decide (op = 27 ∨ op = 28 ∨ op = 29 ∨ op = 43)
def isStore (op : Int) : Bool := decide (op = 30 ∨ op = 31 ∨ op = 44)
def loadTo (s : St) (op rd a : Int) : St :=
  if op = 27 then setx s rd (WM.ext (num s.mem a.toNat 1) 8)
  else if op = 28 then setx s rd (num s.mem a.toNat 1)
  else if op = 29 then setx s rd (num s.mem a.toNat 4)
  else setf s rd (RM.canon (num s.mem a.toNat 8).toNat)
def storeTo (s : St) (op rs2 a : Int) : St :=
  if op = 30 then { s with mem := lay s.mem a.toNat 1 (s.x rs2.toNat) }
  else if op = 31 then { s with mem := lay s.mem a.toNat 4 (s.x rs2.toNat) }
  else { s with mem := lay s.mem a.toNat 8 (s.f rs2.toNat) }
def realTo (s : St) (op rd rs1 rs2 : Int) : St :=
  if op = 49 then setf s rd (s.f rs1.toNat)
  else if op = 50 then setf s rd (RM.fneg (s.f rs1.toNat))
  else if op = 54 then setx s rd (RM.toWord (s.f rs1.toNat))
  else if op = 55 then setf s rd (RM.ofInt (wrap32 (s.x rs1.toNat)))
  else if op = 51 then setx s rd ((RM.feq (s.f rs1.toNat) (s.f rs2.toNat)).toNat : Int)
  else if op = 52 then setx s rd ((RM.flt (s.f rs1.toNat) (s.f rs2.toNat)).toNat : Int)
  else if op = 53 then setx s rd ((RM.fle (s.f rs1.toNat) (s.f rs2.toNat)).toNat : Int)
  else if op = 45 then setf s rd (RM.fadd (s.f rs1.toNat) (s.f rs2.toNat))
  else if op = 46 then setf s rd (RM.fsub (s.f rs1.toNat) (s.f rs2.toNat))
  else if op = 47 then setf s rd (RM.fmul (s.f rs1.toNat) (s.f rs2.toNat))
  else setf s rd (RM.fdiv (s.f rs1.toNat) (s.f rs2.toNat))
def yes (s : St) (pc : Int) (inp : List Int) (out : List Ev) : Rs := ⟨true, setpc s pc, inp, out⟩
def no (s : St) (why : Int) (inp : List Int) : Rs := ⟨false, setst s why, inp, []⟩
def ecall (s : St) (nx : Int) (inp : List Int) : Rs :=
  if s.x 17 = 1 then yes s nx inp [(1, s.x 10, 0)]
  else if s.x 17 = 2 then yes (setx s 10 (inp.headD 0)) nx inp.tail []
  else if s.x 17 = 3 then yes (setst s 1) nx inp []
  else if s.x 17 = 4 then yes (setst s 4) nx inp []
  else if s.x 17 = 5 then yes s nx inp [(2, 0, s.f 10)]
  else no s 2 inp
/-- what an instruction does -/
def act (N : Nat) (s : St) (inp : List Int) (op rd rs1 rs2 imm : Int) : Rs :=
  if op ≤ 17 then yes (setx s rd (WM.val op (s.x rs1.toNat) (s.x rs2.toNat))) ((s.pc + 4) % 4294967296) inp []
  else if op ≤ 26 then yes (setx s rd (WM.val (plainOp op) (s.x rs1.toNat) (imm % 4294967296))) ((s.pc + 4) % 4294967296) inp []
  else if isLoad op then
    if fit N ((s.x rs1.toNat + imm % 4294967296) % 4294967296) (wide op) then yes (loadTo s op rd ((s.x rs1.toNat + imm % 4294967296) % 4294967296)) ((s.pc + 4) % 4294967296) inp [] else no s 3 inp
  else if isStore op then
    if fit N ((s.x rs1.toNat + imm % 4294967296) % 4294967296) (wide op) then yes (storeTo s op rs2 ((s.x rs1.toNat + imm % 4294967296) % 4294967296)) ((s.pc + 4) % 4294967296) inp [] else no s 3 inp
  else if op ≤ 37 then yes s (if taken op (s.x rs1.toNat) (s.x rs2.toNat) then (s.pc + imm % 4294967296) % 4294967296 else (s.pc + 4) % 4294967296) inp []
  else if op = 38 then yes (setx s rd (imm % 4294967296 * 4096 % 4294967296)) ((s.pc + 4) % 4294967296) inp []
  else if op = 39 then yes (setx s rd ((imm % 4294967296 * 4096 % 4294967296 + s.pc) % 4294967296)) ((s.pc + 4) % 4294967296) inp []
  else if op = 40 then yes (setx s rd ((s.pc + 4) % 4294967296)) ((s.pc + imm % 4294967296) % 4294967296) inp []
  else if op = 41 then yes (setx s rd ((s.pc + 4) % 4294967296)) ((s.x rs1.toNat + imm % 4294967296) % 4294967296 / 2 * 2) inp []
  else if op = 42 then ecall s ((s.pc + 4) % 4294967296) inp
  else yes (realTo s op rd rs1 rs2) ((s.pc + 4) % 4294967296) inp []
/-- one step -/
def step (N : Nat) (s : St) (inp : List Int) : Rs :=
  if fit N s.pc 4 then
    if CM.dec (num s.mem s.pc.toNat 4) = 0 then no s 2 inp
    else act N s inp (iOp (num s.mem s.pc.toNat 4)) (iRd (num s.mem s.pc.toNat 4)) (iRs1 (num s.mem s.pc.toNat 4)) (iRs2 (num s.mem s.pc.toNat 4)) (iImm (num s.mem s.pc.toNat 4))
  else no s 3 inp
/-- what a run leaves -/
structure Rn where
  s : St
  inp : List Int
  out : List Ev
  n : Nat
def run (N : Nat) : Nat → St → List Int → Rn
  | 0, s, inp => ⟨s, inp, [], 0⟩
  | k + 1, s, inp =>
    if s.state = 0 then
      if (step N s inp).ok then
        let q := run N k (step N s inp).s (step N s inp).inp
        ⟨q.s, q.inp, (step N s inp).out ++ q.out, q.n + 1⟩
      else ⟨(step N s inp).s, (step N s inp).inp, [], 0⟩
    else ⟨s, inp, [], 0⟩
theorem run_stop (N k : Nat) (s : St) (inp : List Int) (h : s.state ≠ 0) : run N k s inp = ⟨s, inp, [], 0⟩ := by
  cases k with
  | zero => rfl
  | succ k => unfold run; rw [if_neg h]
theorem run_yes (N k : Nat) (s : St) (inp : List Int) (h : s.state = 0) (r : Rs) (hr : step N s inp = r) (hk : r.ok = true) :
    run N (k + 1) s inp = ⟨(run N k r.s r.inp).s, (run N k r.s r.inp).inp, r.out ++ (run N k r.s r.inp).out, (run N k r.s r.inp).n + 1⟩ := by
  subst hr
  conv => lhs; unfold run
  rw [if_pos h, if_pos hk]
/-! ### all numbers in their ranges -/
structure Fine (s : St) : Prop where
  mem : ∀ k, 0 ≤ s.mem k ∧ s.mem k ≤ 255
  x : ∀ k, 0 ≤ s.x k ∧ s.x k ≤ 4294967295
  f : ∀ k, RM.W (s.f k)
  pc : 0 ≤ s.pc ∧ s.pc ≤ 4294967295
  zero : s.x 0 = 0
theorem num_bd (g : Nat → Int) (h : ∀ k, 0 ≤ g k ∧ g k ≤ 255) (a n : Nat) : 0 ≤ num g a n ∧ num g a n < 256 ^ n := by
  induction n with
  | zero => simp [num]
  | succ n ih =>
    unfold num
    have h1 := h (a + n)
    have hp : (0 : Int) < 256 ^ n := Int.pow_pos (by decide)
    have h2 : 0 ≤ g (a + n) * 256 ^ n := Int.mul_nonneg h1.1 (by omega)
    have h3 : g (a + n) * 256 ^ n ≤ 255 * 256 ^ n := Int.mul_le_mul_of_nonneg_right h1.2 (by omega)
    rw [Int.pow_succ]
    omega
theorem num1 (g : Nat → Int) (h : ∀ k, 0 ≤ g k ∧ g k ≤ 255) (a : Nat) : 0 ≤ num g a 1 ∧ num g a 1 < 256 := num_bd g h a 1
theorem num4 (g : Nat → Int) (h : ∀ k, 0 ≤ g k ∧ g k ≤ 255) (a : Nat) : 0 ≤ num g a 4 ∧ num g a 4 < 4294967296 := num_bd g h a 4
theorem num8 (g : Nat → Int) (h : ∀ k, 0 ≤ g k ∧ g k ≤ 255) (a : Nat) : 0 ≤ num g a 8 ∧ num g a 8 < 18446744073709551616 := num_bd g h a 8
theorem lay_bd (g : Nat → Int) (h : ∀ k, 0 ≤ g k ∧ g k ≤ 255) (a n : Nat) (v : Int) : ∀ k, 0 ≤ lay g a n v k ∧ lay g a n v k ≤ 255 := by
  intro k
  unfold lay
  split
  · omega
  · exact h k
theorem Fine.setx {s : St} (h : Fine s) (rd v : Int) (hv : 0 ≤ v ∧ v ≤ 4294967295) (h0 : 0 ≤ rd) : Fine (setx s rd v) := by
  unfold MM.setx
  split
  · exact h
  · rename_i hr
    refine ⟨h.mem, fun k => ?_, h.f, h.pc, ?_⟩
    · simp only [upd]; split
      · exact hv
      · exact h.x k
    · simp only [upd]; rw [if_neg (by omega)]; exact h.zero
theorem Fine.setf {s : St} (h : Fine s) (rd : Int) (v : Nat) (hv : RM.W v) : Fine (setf s rd v) :=
  ⟨h.mem, h.x, fun k => by simp only [MM.setf, upd]; split; exact hv; exact h.f k, h.pc, h.zero⟩
theorem Fine.setpc {s : St} (h : Fine s) (v : Int) (hv : 0 ≤ v ∧ v ≤ 4294967295) : Fine (setpc s v) := ⟨h.mem, h.x, h.f, hv, h.zero⟩
theorem Fine.setst {s : St} (h : Fine s) (v : Int) : Fine (setst s v) := ⟨h.mem, h.x, h.f, h.pc, h.zero⟩
theorem Fine.lay {s : St} (h : Fine s) (a n : Nat) (v : Int) : Fine { s with mem := lay s.mem a n v } := ⟨lay_bd s.mem h.mem a n v, h.x, h.f, h.pc, h.zero⟩
theorem W_getD {o : Option Nat} (h : RM.Clean o) : RM.W (o.getD RM.NaN) := by
  cases o with
  | none => exact RM.W_NaN
  | some r => exact (h r rfl).1
theorem W_ofInt (n : Int) : RM.W (RM.ofInt n) := RM.W_word _ (RM.rungOf_lt _ _)
theorem toWord_bd (a : Nat) : 0 ≤ RM.toWord a ∧ RM.toWord a ≤ 4294967295 := by
  unfold RM.toWord
  split
  · omega
  · split
    · omega
    · split <;> omega
theorem b01 (b : Bool) : 0 ≤ (b.toNat : Int) ∧ (b.toNat : Int) ≤ 4294967295 := by cases b <;> decide
theorem fine_load {s : St} (h : Fine s) (op rd a : Int) (h0 : 0 ≤ rd) : Fine (loadTo s op rd a) := by
  unfold loadTo
  split
  · have e := WM.ext_ok (num s.mem a.toNat 1) 8 (by omega) (by omega)
    exact h.setx _ _ e h0
  · split
    · have e := num1 s.mem h.mem a.toNat
      exact h.setx _ _ (by omega) h0
    · split
      · have e := num4 s.mem h.mem a.toNat
        exact h.setx _ _ (by omega) h0
      · have e := num8 s.mem h.mem a.toNat
        exact h.setf _ _ (RM.W_canon (by unfold RM.W; omega))
theorem fine_store {s : St} (h : Fine s) (op rs2 a : Int) : Fine (storeTo s op rs2 a) := by
  unfold storeTo
  split
  · exact h.lay _ _ _
  · split
    · exact h.lay _ _ _
    · exact h.lay _ _ _
theorem fine_real {s : St} (h : Fine s) (op rd rs1 rs2 : Int) (h0 : 0 ≤ rd) : Fine (realTo s op rd rs1 rs2) := by
  unfold realTo
  repeat' (split)
  · exact h.setf _ _ (h.f _)
  · exact h.setf _ _ (RM.W_fneg _)
  · exact h.setx _ _ (toWord_bd _) h0
  · exact h.setf _ _ (W_ofInt _)
  · exact h.setx _ _ (b01 _) h0
  · exact h.setx _ _ (b01 _) h0
  · exact h.setx _ _ (b01 _) h0
  · exact h.setf _ _ (W_getD (RM.clean_add _ _))
  · exact h.setf _ _ (W_getD (RM.clean_sub _ _))
  · exact h.setf _ _ (W_getD (RM.clean_mul _ _))
  · exact h.setf _ _ (W_getD (RM.clean_div _ _))
theorem mod_bd (n : Int) : 0 ≤ n % 4294967296 ∧ n % 4294967296 ≤ 4294967295 := by omega
theorem head_bd {l : List Int} (h : ∀ x ∈ l, 0 ≤ x ∧ x ≤ 4294967295) : 0 ≤ l.headD 0 ∧ l.headD 0 ≤ 4294967295 := by
  cases l with
  | nil => simp
  | cons x l => exact h x (by simp)
structure FineR (r : Rs) : Prop where
  s : Fine r.s
  inp : ∀ x ∈ r.inp, 0 ≤ x ∧ x ≤ 4294967295
theorem ite_R {c : Prop} [Decidable c] {a b : Rs} (ha : FineR a) (hb : FineR b) : FineR (if c then a else b) := by
  split
  · exact ha
  · exact hb
theorem ite_bd {c : Prop} [Decidable c] {a b : Int} (ha : 0 ≤ a ∧ a ≤ 4294967295) (hb : 0 ≤ b ∧ b ≤ 4294967295) : 0 ≤ (if c then a else b) ∧ (if c then a else b) ≤ 4294967295 := by
  split
  · exact ha
  · exact hb
theorem fine_ecall {s : St} {inp : List Int} (h : Fine s) (hi : ∀ x ∈ inp, 0 ≤ x ∧ x ≤ 4294967295) (nx : Int) (p4 : 0 ≤ nx ∧ nx ≤ 4294967295) : FineR (ecall s nx inp) := by
  unfold ecall
  refine ite_R ⟨h.setpc _ p4, hi⟩ (ite_R ⟨(h.setx _ _ (head_bd hi) (by omega)).setpc _ p4, fun x hx => hi x (List.mem_of_mem_tail hx)⟩ (ite_R ⟨(h.setst _).setpc _ p4, hi⟩ (ite_R ⟨(h.setst _).setpc _ p4, hi⟩ (ite_R ⟨h.setpc _ p4, hi⟩ ⟨h.setst _, hi⟩))))
theorem half_bd2 (n : Int) : 0 ≤ n % 4294967296 / 2 * 2 ∧ n % 4294967296 / 2 * 2 ≤ 4294967295 := by omega
theorem fine_act {N : Nat} {s : St} {inp : List Int} (h : Fine s) (hi : ∀ x ∈ inp, 0 ≤ x ∧ x ≤ 4294967295) (op rd rs1 rs2 imm : Int) (h0 : 0 ≤ rd) :
    FineR (act N s inp op rd rs1 rs2 imm) := by
  have hx1 := h.x rs1.toNat
  have hx2 := h.x rs2.toNat
  have p4 := mod_bd (s.pc + 4)
  unfold act
  refine ite_R ⟨(h.setx _ _ (WM.val_ok op _ _ hx1 hx2) h0).setpc _ p4, hi⟩ ?_
  refine ite_R ⟨(h.setx _ _ (WM.val_ok _ _ _ hx1 (mod_bd _)) h0).setpc _ p4, hi⟩ ?_
  refine ite_R (ite_R ⟨(fine_load h _ _ _ h0).setpc _ p4, hi⟩ ⟨h.setst _, hi⟩) ?_
  refine ite_R (ite_R ⟨(fine_store h _ _ _).setpc _ p4, hi⟩ ⟨h.setst _, hi⟩) ?_
  refine ite_R ⟨h.setpc _ (ite_bd (mod_bd _) p4), hi⟩ ?_
  refine ite_R ⟨(h.setx _ _ (mod_bd _) h0).setpc _ p4, hi⟩ ?_
  refine ite_R ⟨(h.setx _ _ (mod_bd _) h0).setpc _ p4, hi⟩ ?_
  refine ite_R ⟨(h.setx _ _ p4 h0).setpc _ (mod_bd _), hi⟩ ?_
  refine ite_R ⟨(h.setx _ _ p4 h0).setpc _ (half_bd2 _), hi⟩ ?_
  refine ite_R (fine_ecall h hi _ p4) ?_
  exact ⟨(fine_real h _ _ _ _ h0).setpc _ p4, hi⟩
theorem fine_step {N : Nat} {s : St} {inp : List Int} (h : Fine s) (hi : ∀ x ∈ inp, 0 ≤ x ∧ x ≤ 4294967295) : FineR (step N s inp) := by
  unfold step
  exact ite_R (ite_R ⟨h.setst _, hi⟩ (fine_act h hi _ _ _ _ _ (iRd_bd _).1)) ⟨h.setst _, hi⟩
end MM
end Go.Proofs.YtlmblfkcmhgdaaaGreat
namespace Go.Proofs.YtlmblfkcmhgdaaaGreat
open Go.RowKit
set_option linter.unusedVariables false
set_option linter.unusedSimpArgs false
namespace MC
open MM
theorem ret_int {k : IntKind} {a b : Int} (h : a = b) : Ending.returned (.int k a) = .returned (.int k b) := by rw [h]
theorem ret_slice {p : Option Addr} {a b c : Nat} (h : a = b) : Ending.returned (.slice p a c) = .returned (.slice p b c) := by rw [h]
/-! ### rows of cells -/
def row (n : Nat) (g : Nat → Value) : Array Value := ((List.range n).map g).toArray
theorem row_size (n : Nat) (g : Nat → Value) : (row n g).size = n := by simp [row]
theorem row_get {n i : Nat} (g : Nat → Value) (h : i < n) : (row n g)[i]? = some (g i) := by simp [row, h]
theorem row_ext {n : Nat} {g g' : Nat → Value} (h : ∀ i, i < n → g i = g' i) : row n g = row n g' := by
  unfold row
  congr 1
  exact List.map_congr_left fun i hi => h i (List.mem_range.1 hi)
theorem row_set {n i : Nat} (g : Nat → Value) (v : Value) (h : i < n) : (row n g).setIfInBounds i v = row n (upd g i v) := by
  apply Array.ext
  · simp [row]
  · intro j h1 h2
    simp [row] at h2
    rw [Array.getElem_setIfInBounds]
    · by_cases e : i = j
      · subst e; simp [row, upd]
      · rw [if_neg e]; simp [row, upd]; intro e'; exact absurd e'.symm e
    · simp [row]; omega
def cellAt (bm N : Nat) (s : St) (j : Nat) : Value :=
  if j = 0 then .slice (some ⟨bm, 0, none⟩) N N
  else if j ≤ 32 then .int .u32 (s.x (j - 1))
  else if j ≤ 64 then .int .u64 (s.f (j - 33) : Nat)
  else if j = 65 then .int .u32 s.pc
  else if j = 66 then .int .i64 s.state else undef
/-- the machine's own cells -/
def cells (bm N : Nat) (s : St) : Array Value := row 67 (cellAt bm N s)
/-- the memory's cells -/
def bytes (N : Nat) (s : St) : Array Value := row N fun k => .int .u8 (s.mem k)
theorem cell_0 (bm N : Nat) (s : St) : (cells bm N s)[0]? = some (.slice (some ⟨bm, 0, none⟩) N N) := row_get _ (by omega)
theorem cell_x (bm N : Nat) (s : St) {i : Nat} (h : i < 32) : (cells bm N s)[1 + i]? = some (.int .u32 (s.x i)) := by
  unfold cells
  rw [row_get _ (by omega)]; unfold cellAt
  rw [if_neg (by omega), if_pos (by omega), show 1 + i - 1 = i by omega]
theorem cell_f (bm N : Nat) (s : St) {i : Nat} (h : i < 32) : (cells bm N s)[33 + i]? = some (.int .u64 (s.f i : Nat)) := by
  unfold cells
  rw [row_get _ (by omega)]; unfold cellAt
  rw [if_neg (by omega), if_neg (by omega), if_pos (by omega), show 33 + i - 33 = i by omega]
theorem cell_pc (bm N : Nat) (s : St) : (cells bm N s)[65]? = some (.int .u32 s.pc) := row_get _ (by omega)
theorem cell_state (bm N : Nat) (s : St) : (cells bm N s)[66]? = some (.int .i64 s.state) := row_get _ (by omega)
theorem set_x (bm N : Nat) (s : St) {i : Nat} (h : i < 32) (v : Int) : (cells bm N s).setIfInBounds (1 + i) (.int .u32 v) = cells bm N { s with x := upd s.x i v } := by
  unfold cells
  rw [row_set _ _ (by omega)]
  refine row_ext fun j hj => ?_
  unfold upd cellAt
  by_cases e : j = 1 + i
  · rw [if_pos e, if_neg (by omega), if_pos (by omega)]; simp only; rw [if_pos (by omega)]
  · rw [if_neg e]
    by_cases h0 : j = 0
    · rw [if_pos h0, if_pos h0]
    · rw [if_neg h0, if_neg h0]
      by_cases h1 : j ≤ 32
      · rw [if_pos h1, if_pos h1]; simp only; rw [if_neg (by omega)]
      · rw [if_neg h1, if_neg h1]
theorem set_pc (bm N : Nat) (s : St) (v : Int) : (cells bm N s).setIfInBounds 65 (.int .u32 v) = cells bm N (setpc s v) := by
  unfold cells
  rw [row_set _ _ (by omega)]
  refine row_ext fun j hj => ?_
  unfold upd cellAt setpc
  by_cases e : j = 65
  · subst e; rfl
  · rw [if_neg e]; simp only [e, if_false]
theorem set_state (bm N : Nat) (s : St) (v : Int) : (cells bm N s).setIfInBounds 66 (.int .i64 v) = cells bm N (setst s v) := by
  unfold cells
  rw [row_set _ _ (by omega)]
  refine row_ext fun j hj => ?_
  unfold upd cellAt setst
  by_cases e : j = 66
  · subst e; rfl
  · rw [if_neg e]; simp only [e, if_false]
theorem byte_at {N i : Nat} (s : St) (h : i < N) : (bytes N s)[i]? = some (.int .u8 (s.mem i)) := row_get _ h
/-! ### the machine in memory -/
structure At (w : World) (b bm N : Nat) (s : St) : Prop where
  head : w.heap[b]? = some (.cells (cells bm N s) 113 (0, 0))
  mem : w.heap[bm]? = some (.cells (bytes N s) 5 (0, 0))
  ne : b ≠ bm
/-- of the blocks that there were all but b and bm are as they were below B -/
structure Own (B b bm : Nat) (w w' : World) : Prop where
  os : w'.os = w.os
  tape : w'.tape = w.tape
  output : w'.output = w.output
  size : w.heap.size ≤ w'.heap.size
  block : ∀ k, k < B → k ≠ b → k ≠ bm → w'.heap[k]? = w.heap[k]?
theorem Own.refl (B b bm : Nat) (w : World) : Own B b bm w w := ⟨rfl, rfl, rfl, Nat.le_refl _, fun _ _ _ _ => rfl⟩
theorem Own.trans {B b bm : Nat} {u v w : World} (h : Own B b bm u v) (k : Own B b bm v w) : Own B b bm u w :=
  ⟨k.os.trans h.os, k.tape.trans h.tape, k.output.trans h.output, Nat.le_trans h.size k.size, fun i hi h1 h2 => (k.block i hi h1 h2).trans (h.block i hi h1 h2)⟩
theorem Own.of_below {B b bm : Nat} {w w' : World} (h : Below w.heap.size w w') (hB : B ≤ w.heap.size) : Own B b bm w w' := ⟨h.os, h.tape, h.output, h.size, fun k hk _ _ => h.block k (by omega)⟩
theorem Own.below {B B' b bm : Nat} {w w' : World} (h : Own B b bm w w') (h1 : B' ≤ B) (h2 : B' ≤ b) (h3 : B' ≤ bm) : Below B' w w' := ⟨h.os, h.tape, h.output, h.size, fun k hk => h.block k (by omega) (by omega) (by omega)⟩
theorem lt_of_get {w : World} {b : Nat} {o : Obj} (h : w.heap[b]? = some o) : b < w.heap.size := (Array.getElem?_eq_some_iff.1 h).1
theorem At.c0 {w : World} {b bm N : Nat} {s : St} (h : At w b bm N s) : w.cell? ⟨b, 0, none⟩ = some (.slice (some ⟨bm, 0, none⟩) N N) := (cell_of_row w b 0 _ _ _ h.head).trans (cell_0 _ _ _)
theorem At.cx {w : World} {b bm N : Nat} {s : St} (h : At w b bm N s) {i : Nat} (hi : i < 32) : w.cell? ⟨b, 1 + i, none⟩ = some (.int .u32 (s.x i)) := (cell_of_row w b _ _ _ _ h.head).trans (cell_x _ _ _ hi)
theorem At.cf {w : World} {b bm N : Nat} {s : St} (h : At w b bm N s) {i : Nat} (hi : i < 32) : w.cell? ⟨b, 33 + i, none⟩ = some (.int .u64 (s.f i : Nat)) := (cell_of_row w b _ _ _ _ h.head).trans (cell_f _ _ _ hi)
theorem At.cpc {w : World} {b bm N : Nat} {s : St} (h : At w b bm N s) : w.cell? ⟨b, 65, none⟩ = some (.int .u32 s.pc) := (cell_of_row w b _ _ _ _ h.head).trans (cell_pc _ _ _)
theorem At.cst {w : World} {b bm N : Nat} {s : St} (h : At w b bm N s) : w.cell? ⟨b, 66, none⟩ = some (.int .i64 s.state) := (cell_of_row w b _ _ _ _ h.head).trans (cell_state _ _ _)
theorem At.cm {w : World} {b bm N : Nat} {s : St} (h : At w b bm N s) {i : Nat} (hi : i < N) : w.cell? ⟨bm, i, none⟩ = some (.int .u8 (s.mem i)) := (cell_of_row w bm _ _ _ _ h.mem).trans (byte_at s hi)
theorem At.fb {w : World} {b bm N : Nat} {s : St} (h : At w b bm N s) (j : Nat) : w.frozen? ⟨b, j, none⟩ = false := frozen_of_row w b j _ _ h.head
theorem At.fm {w : World} {b bm N : Nat} {s : St} (h : At w b bm N s) (j : Nat) : w.frozen? ⟨bm, j, none⟩ = false := frozen_of_row w bm j _ _ h.mem
theorem At.kept {w w' : World} {b bm N : Nat} {s : St} (h : At w b bm N s) (h1 : w'.heap[b]? = w.heap[b]?) (h2 : w'.heap[bm]? = w.heap[bm]?) : At w' b bm N s := ⟨h1.trans h.head, h2.trans h.mem, h.ne⟩
theorem At.set {w : World} {b bm N : Nat} {s s' : St} (h : At w b bm N s) (j : Nat) (v : Value) (hc : (cells bm N s).setIfInBounds j v = cells bm N s') (hm : s'.mem = s.mem) : At (w.setCell ⟨b, j, none⟩ v) b bm N s' :=
  ⟨by rw [heap_setCell_same w b j _ _ v h.head, hc], by rw [heap_setCell_other w ⟨b, j, none⟩ bm v (fun e => h.ne e.symm), h.mem]; unfold bytes; rw [hm], h.ne⟩
theorem Own.set {B b bm : Nat} (w : World) (j : Nat) (v : Value) : Own B b bm w (w.setCell ⟨b, j, none⟩ v) :=
  ⟨rfl, rfl, rfl, by simp [World.setCell], fun k _ hk _ => heap_setCell_other w ⟨b, j, none⟩ k v hk⟩
set_option maxHeartbeats 400000 in
theorem bytes_yes (br b bm N : Nat) (hN : N ≤ 2097152) (a n : Int) (ha : 0 ≤ a ∧ a ≤ 4294967295) (hn : 1 ≤ n ∧ n ≤ 8) (hf : fit N a n = true) (w : World) (h1 : w.cell? ⟨br, 0, none⟩ = some (.pointer (some ⟨b, 0, none⟩))) (h2 : w.cell? ⟨b, 0, none⟩ = some (.slice (some ⟨bm, 0, none⟩) N N)) :
    Calls Tryz.prog 91 #[.pointer (some ⟨br, 0, none⟩), .int .u32 a, .int .i64 n] w fun e w' => e = .returned (.slice (some ⟨bm, a.toNat, none⟩) n.toNat (N - a.toNat)) ∧ w = w' := by
  have hf' : a % n = 0 ∧ a + n ≤ N := by simpa [fit] using hf
  obtain ⟨f1, f2⟩ := hf'
  have f1' : (a % n != 0) = false := by simp [f1]
  have f3 := Lib.hid f1
  clear f1 hf
  go_enter Tryz.func91, Tryz.ntmps91
  go_wp2
  go_ret
  exact ⟨ret_slice (by omega), rfl⟩
/-! ### numbers of bytes -/
theorem u64_mod (n : Int) : IntKind.u64.wrap n = n % 18446744073709551616 := by simp [IntKind.wrap, IntKind.bits, IntKind.signed]
theorem u64_or_nat (a b : Nat) (ha : a < 18446744073709551616) (hb : b < 18446744073709551616) : bits .or .u64 (a : Int) (b : Int) = ((a ||| b : Nat) : Int) := by
  have e : ∀ c : Nat, c < 18446744073709551616 → (BitVec.ofInt 64 (c : Int)).toNat = c := by
    intro c hc
    rw [BitVec.toNat_ofInt]
    omega
  show IntKind.u64.wrap ((BitVec.ofInt 64 (a : Int) ||| BitVec.ofInt 64 (b : Int)).toNat : Int) = _
  rw [BitVec.toNat_or, e a ha, e b hb]
  have h : a ||| b < 2 ^ 64 := Nat.or_lt_two_pow ha hb
  have h' : a ||| b < 18446744073709551616 := h
  rw [u64_mod]
  omega
theorem pow256 (k : Nat) : (256 : Nat) ^ k = 2 ^ (8 * k) := by rw [Nat.pow_mul]
theorem or_num {k : Nat} (hk : k ≤ 7) (p b : Nat) (hp : p < 256 ^ k) (hb : b ≤ 255) : bits .or .u64 (p : Int) ((b * 256 ^ k : Nat) : Int) = ((p + b * 256 ^ k : Nat) : Int) := by
  have h1 : (256 : Nat) ^ k ≤ 256 ^ 7 := Nat.pow_le_pow_right (by omega) hk
  have h2 : b * 256 ^ k ≤ 255 * 256 ^ 7 := Nat.mul_le_mul hb h1
  have h3 := Nat.two_pow_add_eq_or_of_lt (i := 8 * k) (b := p) (by rw [← pow256]; exact hp) b
  rw [u64_or_nat p _ (by omega) (by omega), Nat.or_comm, Nat.mul_comm b, pow256, ← h3, Nat.add_comm]
theorem num_or (g : Nat → Int) (h : ∀ k, 0 ≤ g k ∧ g k ≤ 255) (a k : Nat) (hk : k ≤ 7) : bits .or .u64 (num g a k) (IntKind.u64.wrap (g (a + k) * 2 ^ (8 * k))) = num g a (k + 1) := by
  have hb := num_bd g h a k
  have hg := h (a + k)
  show _ = num g a k + g (a + k) * 256 ^ k
  generalize num g a k = p at *
  generalize g (a + k) = b at *
  obtain ⟨P, rfl⟩ : ∃ P : Nat, p = P := ⟨p.toNat, by omega⟩
  obtain ⟨B, rfl⟩ : ∃ B : Nat, b = B := ⟨b.toNat, by omega⟩
  have hp : P < 256 ^ k := by
    have h3 : (P : Int) < ((256 ^ k : Nat) : Int) := by rw [Int.natCast_pow]; exact hb.2
    exact Int.ofNat_lt.1 h3
  have hB' : B ≤ 255 := by omega
  have e1 : ((2 : Int) ^ (8 * k)) = ((256 ^ k : Nat) : Int) := by rw [pow256, Int.natCast_pow]; rfl
  have h1 : (256 : Nat) ^ k ≤ 256 ^ 7 := Nat.pow_le_pow_right (by omega) hk
  have h2 : B * 256 ^ k ≤ 255 * 256 ^ 7 := Nat.mul_le_mul hB' h1
  have hn := or_num hk P B hp hB'
  have e2 : IntKind.u64.wrap ((B : Int) * 2 ^ (8 * k)) = ((B * 256 ^ k : Nat) : Int) := by
    rw [u64_mod, e1, ← Int.natCast_mul]
    omega
  rw [e2, hn, Int.natCast_add, Int.natCast_mul, Int.natCast_pow]
  rfl
set_option maxHeartbeats 400000 in
theorem number_ (bm a n c : Nat) (g : Nat → Int) (hg : ∀ k, 0 ≤ g k ∧ g k ≤ 255) (hn : n ≤ 8) (w : World) (hc : ∀ k, k < n → w.cell? ⟨bm, a + k, none⟩ = some (.int .u8 (g (a + k)))) :
    Calls Tryz.prog 90 #[.slice (some ⟨bm, a, none⟩) n c] w fun e w' => e = .returned (.int .u64 (num g a n)) ∧ w = w' := by
  have HC := Lib.hid hc
  clear hc
  go_enter Tryz.func90, Tryz.ntmps90
  go_wp2
  go_loop [3, 8] (fun v i => ∃ k : Nat, k ≤ n ∧ i = .int .i64 k ∧ v = .int .u64 (num g a k)) (fun _ i => n - (intOf i).toNat)
  case atStart => exact ⟨0, Nat.zero_le _, rfl, rfl⟩
  case round =>
    obtain ⟨k, hk, rfl, rfl⟩ := hrel
    by_cases hlt : k < n
    · have hcell := HC.out k hlt
      have hb := hg (a + k)
      have HN := Lib.hid (num_or g hg a k (by omega))
      go_wp2
      go_round
      case rel => exact ⟨k + 1, by omega, by go_num, by rw [HN.out]⟩
      case measure => simp [intOf]; omega
    · have : k = n := by omega
      subst this
      go_wp2
      go_ret
      exact ⟨rfl, rfl⟩
end MC
end Go.Proofs.YtlmblfkcmhgdaaaGreat
namespace Go.Proofs.YtlmblfkcmhgdaaaGreat
open Go.RowKit
set_option linter.unusedVariables false
set_option linter.unusedSimpArgs false
namespace MD
open MM MC
/-! ### what words were decoded to -/
def insR (v : Value) : Option (DataW Unit × List MemPlace) :=
  match v with
  | .agg cs => match cs.toList with
    | [.int .i64 a, .int .i64 b, .int .i64 c, .int .i64 d, .int .i64 e] => some (.agg [.lit (.int .i64 a), .lit (.int .i64 b), .lit (.int .i64 c), .lit (.int .i64 d), .lit (.int .i64 e)], [])
    | _ => none
  | _ => none
def insV (a b c d e : Int) : Value := .agg #[.int .i64 a, .int .i64 b, .int .i64 c, .int .i64 d, .int .i64 e]
def insD (a b c d e : Int) : DataW Unit := .agg [.lit (.int .i64 a), .lit (.int .i64 b), .lit (.int .i64 c), .lit (.int .i64 d), .lit (.int .i64 e)]
theorem insR_mk (a b c d e : Int) : insR (insV a b c d e) = some (insD a b c d e, []) := rfl
theorem insR_inv {v : Value} {z : DataW Unit × List MemPlace} (h : insR v = some z) : ∃ a b c d e, v = insV a b c d e ∧ z = (insD a b c d e, []) := by
  unfold insR at h
  split at h
  · rename_i cs
    split at h
    · rename_i a b c d e' e
      refine ⟨a, b, c, d, e', ?_, ?_⟩
      · unfold insV
        have : cs = cs.toList.toArray := by simp
        rw [this, e]
      · exact (Option.some.inj h).symm
    · cases h
  · cases h
theorem insD_inj {a b c d e a' b' c' d' e' : Int} (h : insD a b c d e = insD a' b' c' d' e') : a = a' ∧ b = b' ∧ c = c' ∧ d = d' ∧ e = e' := by simpa [insD] using h
theorem keyed : Go.Maps.Keyed Tryz.prog 46 := Go.Maps.int_keyed Tryz.underlying46
def Known (w : World) (bk c : Nat) : Prop := ∃ D : DataW Unit, w.ownsMap Tryz.prog 46 insR bk c D ∧ ∀ x, Maps.has D (.int .u32 x) = true → CM.dec x ≠ 0 ∧ ∀ z, D.atKey (.int .u32 x) z = insD (iOp x) (iRd x) (iRs1 x) (iRs2 x) (iImm x)
theorem Known.same {w w' : World} {bk c : Nat} (h : Known w bk c) (hb : w'.heap[bk]? = w.heap[bk]?) : Known w' bk c := by
  obtain ⟨D, ⟨es, clock, h1, h2⟩, h3⟩ := h
  exact ⟨D, ⟨es, clock, hb.trans h1, h2⟩, h3⟩
theorem Known.lt {w : World} {bk c : Nat} (h : Known w bk c) : bk < w.heap.size := by
  obtain ⟨D, h1, _⟩ := h
  exact h1.lt
/-! ### the input -/
structure Inp (w : World) (B b bm : Nat) (v : Value) (l : List Int) : Prop where
  ok : (l = [] ∧ ∃ p c, v = .slice p 0 c) ∨ ∃ g o c, v = .slice (some ⟨g, o, none⟩) l.length c ∧ l.length ≤ c ∧ c ≤ maxLen ∧ g < B ∧ g ≠ b ∧ g ≠ bm ∧ ∀ j x, l[j]? = some x → w.cell? ⟨g, o + j, none⟩ = some (.int .u32 x)
theorem Inp.kept {w w' : World} {B b bm : Nat} {v : Value} {l : List Int} (h : Inp w B b bm v l) (hb : ∀ k, k < B → k ≠ b → k ≠ bm → w'.heap[k]? = w.heap[k]?) : Inp w' B b bm v l := by
  rcases h.ok with h | ⟨g, o, c, rfl, h1, h2, h3, h4, h5, h6⟩
  · exact ⟨.inl h⟩
  · exact ⟨.inr ⟨g, o, c, rfl, h1, h2, h3, h4, h5, fun j x hj => (World.cell?_of_block (w := w) (hb g h3 h4 h5)).trans (h6 j x hj)⟩⟩
/-! ### the run -/
def evs (l : List Ev) : List Value := (l.map fun e => [Value.int .i64 e.1, .int .u32 e.2.1, .int .u64 (e.2.2 : Nat)]).flatten
def rcells (b bk : Nat) (vi ve : Value) (n : Nat) : Array Value := #[.pointer (some ⟨b, 0, none⟩), vi, ve, .int .i64 n, .map (some bk)]
structure Lives (B br bk b bm N : Nat) (sd : List (Nat × Obj)) (w : World) (s : St) (vi ve : Value) (inp : List Int) (out : List Ev) (n c : Nat) : Prop where
  at_ : At w b bm N s
  run : w.heap[br]? = some (.cells (rcells b bk vi ve n) 116 (0, 0))
  inp : Inp w B b bm vi inp
  ev : w.ownsRow (B + 3) 223 3 ve out.length (evs out)
  known : Known w bk c
  big : B + 3 ≤ w.heap.size
  pl : b < B ∧ bm < B ∧ B ≤ br ∧ br < B + 3 ∧ B ≤ bk ∧ bk < B + 3 ∧ br ≠ bk
  side : ∀ p ∈ sd, w.heap[p.1]? = some p.2 ∧ p.1 ≠ b ∧ p.1 ≠ bm ∧ p.1 ≠ br ∧ p.1 ≠ bk ∧ ve.ownBlock ≠ some p.1
section
variable {B br bk b bm N : Nat} {sd : List (Nat × Obj)} {w w' : World} {s s' : St} {vi ve : Value} {inp : List Int} {out : List Ev} {n c : Nat}
theorem Lives.r0 (L : Lives B br bk b bm N sd w s vi ve inp out n c) : w.cell? ⟨br, 0, none⟩ = some (.pointer (some ⟨b, 0, none⟩)) := cell_of_row w br 0 _ _ _ L.run
theorem Lives.r1 (L : Lives B br bk b bm N sd w s vi ve inp out n c) : w.cell? ⟨br, 1, none⟩ = some vi := cell_of_row w br 1 _ _ _ L.run
theorem Lives.r2 (L : Lives B br bk b bm N sd w s vi ve inp out n c) : w.cell? ⟨br, 2, none⟩ = some ve := cell_of_row w br 2 _ _ _ L.run
theorem Lives.r3 (L : Lives B br bk b bm N sd w s vi ve inp out n c) : w.cell? ⟨br, 3, none⟩ = some (.int .i64 n) := cell_of_row w br 3 _ _ _ L.run
theorem Lives.r4 (L : Lives B br bk b bm N sd w s vi ve inp out n c) : w.cell? ⟨br, 4, none⟩ = some (.map (some bk)) := cell_of_row w br 4 _ _ _ L.run
theorem Lives.rf (L : Lives B br bk b bm N sd w s vi ve inp out n c) (j : Nat) : w.frozen? ⟨br, j, none⟩ = false := frozen_of_row w br j _ _ L.run
theorem Lives.evb (L : Lives B br bk b bm N sd w s vi ve inp out n c) : ∀ k, ve.ownBlock = some k → B + 3 ≤ k ∧ k < w.heap.size := L.ev.lt
/-- what leaves all blocks of the run alone, leaves the run alone -/
theorem Lives.kept (L : Lives B br bk b bm N sd w s vi ve inp out n c) (hs : w.heap.size ≤ w'.heap.size) (hb : ∀ k, k < w.heap.size → w'.heap[k]? = w.heap[k]?) : Lives B br bk b bm N sd w' s vi ve inp out n c := by
  have hp := L.pl
  have hg := L.big
  refine ⟨L.at_.kept (hb b (by omega)) (hb bm (by omega)), (hb br (by omega)).trans L.run, L.inp.kept fun k hk _ _ => hb k (by omega), ?_, L.known.same (hb bk (by omega)), by omega, hp, fun p h => ⟨(hb _ (lt_of_get (L.side p h).1)).trans (L.side p h).1, (L.side p h).2⟩⟩
  obtain ⟨h1, h2⟩ := L.ev
  refine ⟨h1, ?_⟩
  rcases h2 with h2 | ⟨g, cap, cur, hv, hg', hh, r⟩
  · exact .inl h2
  · exact .inr ⟨g, cap, cur, hv, hg', (hb g (lt_of_get hh)).trans hh, r⟩
theorem Lives.below (L : Lives B br bk b bm N sd w s vi ve inp out n c) (h : Below w.heap.size w w') : Lives B br bk b bm N sd w' s vi ve inp out n c := L.kept h.size h.block
theorem ownsRow_same {B : Nat} {e : TypeId} {z : Nat} {v : Value} {n : Nat} {xs : List Value} (h : w.ownsRow B e z v n xs) (hb : ∀ k, B ≤ k → w'.heap[k]? = w.heap[k]?) : w'.ownsRow B e z v n xs := by
  obtain ⟨h1, h2⟩ := h
  refine ⟨h1, ?_⟩
  rcases h2 with h2 | ⟨g, cap, cur, hv, hg', hh, r⟩
  · exact .inl h2
  · exact .inr ⟨g, cap, cur, hv, hg', (hb g hg').trans hh, r⟩
/-- a cell of the machine's own is written -/
theorem Lives.set (L : Lives B br bk b bm N sd w s vi ve inp out n c) (j : Nat) (v : Value) (hc : (cells bm N s).setIfInBounds j v = cells bm N s') (hm : s'.mem = s.mem) : Lives B br bk b bm N sd (w.setCell ⟨b, j, none⟩ v) s' vi ve inp out n c := by
  have hp := L.pl
  have ho : ∀ k, k ≠ b → (w.setCell ⟨b, j, none⟩ v).heap[k]? = w.heap[k]? := fun k hk => heap_setCell_other w ⟨b, j, none⟩ k v hk
  refine ⟨L.at_.set j v hc hm, (ho br (by omega)).trans L.run, L.inp.kept fun k _ hk _ => ho k hk, ownsRow_same L.ev fun k hk => ho k (by omega), L.known.same (ho bk (by omega)), by simp only [World.size_setCell]; exact L.big, hp, fun p h => ⟨(ho _ (L.side p h).2.1).trans (L.side p h).1, (L.side p h).2⟩⟩
/-- what becomes of the run object's own cells -/
theorem Lives.turn (L : Lives B br bk b bm N sd w s vi ve inp out n c) (j : Nat) (v : Value) {vi' : Value} {inp' : List Int} {n' : Nat} (hc : (rcells b bk vi ve n).setIfInBounds j v = rcells b bk vi' ve n') (hi : Inp w B b bm vi' inp') : Lives B br bk b bm N sd (w.setCell ⟨br, j, none⟩ v) s vi' ve inp' out n' c := by
  have hp := L.pl
  have ho : ∀ k, k ≠ br → (w.setCell ⟨br, j, none⟩ v).heap[k]? = w.heap[k]? := fun k hk => heap_setCell_other w ⟨br, j, none⟩ k v hk
  refine ⟨L.at_.kept (ho b (by omega)) (ho bm (by omega)), by rw [heap_setCell_same w br j _ _ v L.run, hc], hi.kept fun k hk _ _ => ho k (by omega), ownsRow_same L.ev fun k hk => ho k (by omega), L.known.same (ho bk (by omega)), by simp only [World.size_setCell]; exact L.big, hp, fun p h => ⟨(ho _ (L.side p h).2.2.2.1).trans (L.side p h).1, (L.side p h).2⟩⟩
theorem Own.setRun (hbr : B ≤ br) (j : Nat) (v : Value) : Own B b bm w (w.setCell ⟨br, j, none⟩ v) :=
  ⟨rfl, rfl, rfl, by simp [World.setCell], fun k hk _ _ => heap_setCell_other w ⟨br, j, none⟩ k v (by show k ≠ br; omega)⟩
end
/-! ### the small methods -/
theorem setx_eq (s : St) (rd : Nat) (v : Int) (h : rd ≠ 0) : setx s rd v = { s with x := upd s.x rd v } := by unfold setx; rw [if_neg (by omega)]; rfl
set_option maxHeartbeats 400000 in
theorem put_ {B br bk b bm N : Nat} {sd : List (Nat × Obj)} {w : World} {s : St} {vi ve : Value} {inp : List Int} {out : List Ev} {n c : Nat} (L : Lives B br bk b bm N sd w s vi ve inp out n c) (rd : Nat) (hr : rd < 32) (v : Int) :
    Calls Tryz.prog 111 #[.pointer (some ⟨br, 0, none⟩), .int .i64 rd, .int .u32 v] w fun e w' => e = .returned (.tuple #[]) ∧ Lives B br bk b bm N sd w' (setx s rd v) vi ve inp out n c ∧ Own B b bm w w' := by
  have h1 := L.r0
  by_cases h0 : rd = 0
  · subst h0
    go_enter Tryz.func111, Tryz.ntmps111
    go_wp2
    go_end0
    exact ⟨rfl, L, Own.refl _ _ _ _⟩
  · have h2 := L.at_.cx hr
    have h3 := L.at_.fb (1 + rd)
    have hne : ((rd : Int) != 0) = true := by simp; omega
    have HL := Lib.hid L
    clear L
    have H0 := Lib.hid h0
    clear h0
    go_enter Tryz.func111, Tryz.ntmps111
    go_wp2
    go_end0
    refine ⟨rfl, ?_, Own.set _ _ _⟩
    rw [setx_eq s rd v H0.out]
    exact HL.out.set _ _ (set_x bm N s hr v) rfl
theorem rcells_3 (b bk : Nat) (vi ve : Value) (n n' : Nat) : (rcells b bk vi ve n).setIfInBounds 3 (.int .i64 n') = rcells b bk vi ve n' := rfl
end MD
end Go.Proofs.YtlmblfkcmhgdaaaGreat
