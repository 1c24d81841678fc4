/-
  The plain arithmetic of instructions' words: the table of the Ops, the word of an instruction's parts, the parts of a word, and that each leads back to the other. No condition. It speaks of no program.
  What package code's small functions answer, each a contract. Conditions: counts of bits from 0 to 31.
  How each kind of instruction uses its four parts, as package code tells: a contract for each of the eleven kinds. No condition.
  The forms of all Ops, as package code makes them: a map of its own, that holds each Op's row. No condition.
-/
import Derived.WalkKit
import Derived.IntWalk
import Derived.Test.YtlmblfkcmhgdaaaGreatRows
import Derived.ProofKit
import Derived.OpenShut
import Derived.WalkLawsBesides
import Derived.WalkSpells
import Derived.Outline
import Derived.Below
import Derived.Laws.Rows
import Derived.Laws.Tables
import Derived.Deep.WholeRow
import Derived.Deep.MidRow
import Derived.Great.Walk
import Derived.Deep.Draws
import Derived.Deep.QuietTactic
import Derived.BigQuiet
import Derived.Lib.Hide
import Derived.Laws.CopyOwn
import Derived.Deep.DeepCutAuto
import Derived.Maps.RangeWalk
import Derived.Maps.OwnSet
namespace Go.Proofs.YtlmblfkcmhgdaaaGreat
open Go.RowKit
set_option linter.unusedVariables false
namespace CM
/-- of an Op: its kind, op, f3, f7 -/
def row : Nat → Int × Int × Int × Int
  | 1 => (0, 51, 0, 0) | 2 => (0, 51, 0, 32) | 3 => (0, 51, 1, 0) | 4 => (0, 51, 2, 0) | 5 => (0, 51, 3, 0)
  | 6 => (0, 51, 4, 0) | 7 => (0, 51, 5, 0) | 8 => (0, 51, 5, 32) | 9 => (0, 51, 6, 0) | 10 => (0, 51, 7, 0)
  | 11 => (0, 51, 0, 1) | 12 => (0, 51, 1, 1) | 13 => (0, 51, 3, 1) | 14 => (0, 51, 4, 1) | 15 => (0, 51, 5, 1)
  | 16 => (0, 51, 6, 1) | 17 => (0, 51, 7, 1)
  | 18 => (1, 19, 0, 0) | 19 => (1, 19, 2, 0) | 20 => (1, 19, 3, 0) | 21 => (1, 19, 4, 0) | 22 => (1, 19, 6, 0) | 23 => (1, 19, 7, 0)
  | 24 => (2, 19, 1, 0) | 25 => (2, 19, 5, 0) | 26 => (2, 19, 5, 32)
  | 27 => (1, 3, 0, 0) | 28 => (1, 3, 4, 0) | 29 => (1, 3, 2, 0)
  | 30 => (3, 35, 0, 0) | 31 => (3, 35, 2, 0)
  | 32 => (4, 99, 0, 0) | 33 => (4, 99, 1, 0) | 34 => (4, 99, 4, 0) | 35 => (4, 99, 5, 0) | 36 => (4, 99, 6, 0) | 37 => (4, 99, 7, 0)
  | 38 => (5, 55, 0, 0) | 39 => (5, 23, 0, 0) | 40 => (6, 111, 0, 0) | 41 => (1, 103, 0, 0) | 42 => (7, 115, 0, 0)
  | 43 => (1, 7, 3, 0) | 44 => (3, 39, 3, 0)
  | 45 => (8, 83, 0, 1) | 46 => (8, 83, 0, 5) | 47 => (8, 83, 0, 9) | 48 => (8, 83, 0, 13)
  | 49 => (9, 83, 0, 17) | 50 => (9, 83, 1, 17)
  | 51 => (8, 83, 2, 81) | 52 => (8, 83, 1, 81) | 53 => (8, 83, 0, 81)
  | 54 => (10, 83, 1, 97) | 55 => (10, 83, 0, 105)
  | _ => (11, 0, 0, 0)
def kd (op : Int) : Int := (row op.toNat).1
def o7 (op : Int) : Int := (row op.toNat).2.1
def f3 (op : Int) : Int := (row op.toNat).2.2.1
def f7 (op : Int) : Int := (row op.toNat).2.2.2
def isOp (op : Int) : Bool := decide (1 ≤ op ∧ op ≤ 55)
theorem isOp_yes {op : Int} (h : isOp op = true) : 1 ≤ op ∧ op ≤ 55 := by simpa [isOp] using h
/-- what holds of each row, is held against the whole table -/
theorem all_ops (p : Int → Bool) (h : ((List.range 55).all fun n => p ((n + 1 : Nat) : Int)) = true) {op : Int} (ho : isOp op = true) : p op = true := by
  have hb := isOp_yes ho
  have h1 := List.all_eq_true.1 h (op - 1).toNat (List.mem_range.2 (by omega))
  have e : ((((op - 1).toNat + 1 : Nat)) : Int) = op := by omega
  rw [e] at h1
  exact h1
/-- what a row may be -/
def ft (k o a b : Int) : Bool :=
  decide (0 ≤ k ∧ k ≤ 10 ∧ 0 ≤ o ∧ o ≤ 127 ∧ 0 ≤ a ∧ a ≤ 7 ∧ 0 ≤ b ∧ b ≤ 127) &&
  (!(k == 1 || k == 3 || k == 4) || b == 0) && (!(k == 5 || k == 6 || k == 7) || (a == 0 && b == 0))
theorem ft_row {op : Int} (h : isOp op = true) : ft (kd op) (o7 op) (f3 op) (f7 op) = true :=
  all_ops (fun op => ft (kd op) (o7 op) (f3 op) (f7 op)) (by decide +kernel) h
def uRd (k : Int) : Bool := k == 0 || k == 8 || k == 1 || k == 2 || k == 5 || k == 6 || k == 9 || k == 10
def uRs1 (k : Int) : Bool := k == 0 || k == 8 || k == 1 || k == 2 || k == 3 || k == 4 || k == 9 || k == 10
def uRs2 (k : Int) : Bool := k == 0 || k == 8 || k == 3 || k == 4
def uImm (k : Int) : Bool := k == 1 || k == 2 || k == 3 || k == 4 || k == 5 || k == 6
/-- may it be the Imm of this kind? -/
def fits (k n : Int) : Bool :=
  if k = 1 ∨ k = 3 then decide (-2048 ≤ n ∧ n ≤ 2047)
  else if k = 2 then decide (0 ≤ n ∧ n ≤ 31)
  else if k = 4 then decide (-4096 ≤ n ∧ n ≤ 4094 ∧ n % 2 = 0)
  else if k = 5 then decide (0 ≤ n ∧ n ≤ 1048575)
  else if k = 6 then decide (-1048576 ≤ n ∧ n ≤ 1048574 ∧ n % 2 = 0)
  else false
def isReg (n : Int) : Bool := decide (0 ≤ n ∧ n ≤ 31)
/-- something isn't 0 that isn't used -/
def bad2 (k rd rs1 rs2 imm : Int) : Bool := (!uRd k && rd != 0) || (!uRs1 k && rs1 != 0) || (!uRs2 k && rs2 != 0) || (!uImm k && imm != 0)
/-- something that is used is outside -/
def bad1 (k rd rs1 rs2 imm : Int) : Bool := (uRd k && !isReg rd) || (uRs1 k && !isReg rs1) || (uRs2 k && !isReg rs2) || (uImm k && !fits k imm)
def fault (k rd rs1 rs2 imm : Int) : Int := if bad2 k rd rs1 rs2 imm then 2 else if bad1 k rd rs1 rs2 imm then 1 else 0
/-- the word of parts that are right -/
def word (k o a b rd rs1 rs2 n : Int) : Int :=
  if k = 0 ∨ k = 8 then o + 128 * rd + 4096 * a + 32768 * rs1 + 1048576 * rs2 + 33554432 * b
  else if k = 1 then o + 128 * rd + 4096 * a + 32768 * rs1 + 1048576 * (n % 4096)
  else if k = 2 then o + 128 * rd + 4096 * a + 32768 * rs1 + 1048576 * n + 33554432 * b
  else if k = 3 then o + 128 * (n % 32) + 4096 * a + 32768 * rs1 + 1048576 * rs2 + 33554432 * (n / 32 % 128)
  else if k = 4 then o + 128 * (n / 2048 % 2) + 256 * (n / 2 % 16) + 4096 * a + 32768 * rs1 + 1048576 * rs2 + 33554432 * (n / 32 % 64) + 2147483648 * (n / 4096 % 2)
  else if k = 5 then o + 128 * rd + 4096 * n
  else if k = 6 then o + 128 * rd + 4096 * (n / 4096 % 256) + 1048576 * (n / 2048 % 2) + 2097152 * (n / 2 % 1024) + 2147483648 * (n / 1048576 % 2)
  else if k = 7 then o
  else if k = 9 then o + 128 * rd + 4096 * a + 32768 * rs1 + 1048576 * rs1 + 33554432 * b
  else o + 128 * rd + 4096 * a + 32768 * rs1 + 33554432 * b
def low (n m : Int) : Int := if n > m then n - (2 * m + 2) else n
/-- the parts of a word, of the kind -/
def rdOf (k w : Int) : Int := if uRd k then w / 128 % 32 else 0
def rs1Of (k w : Int) : Int := if uRs1 k then w / 32768 % 32 else 0
def rs2Of (k w : Int) : Int := if uRs2 k then w / 1048576 % 32 else 0
def immOf (k w : Int) : Int :=
  if k = 1 then (if w / 1048576 % 4096 ≤ 2047 then w / 1048576 % 4096 else w / 1048576 % 4096 - 4096)
  else if k = 2 then w / 1048576 % 32
  else if k = 3 then (if w / 128 % 32 + 32 * (w / 33554432 % 128) ≤ 2047 then w / 128 % 32 + 32 * (w / 33554432 % 128) else w / 128 % 32 + 32 * (w / 33554432 % 128) - 4096)
  else if k = 4 then 2 * (w / 256 % 16) + 32 * (w / 33554432 % 64) + 2048 * (w / 128 % 2) - 4096 * (w / 2147483648 % 2)
  else if k = 5 then w / 4096 % 1048576
  else if k = 6 then 2 * (w / 2097152 % 1024) + 2048 * (w / 1048576 % 2) + 4096 * (w / 4096 % 256) - 1048576 * (w / 2147483648 % 2)
  else 0
/-- the code's Rs1 of a word: of kind 9 of both places together -/
def rs1Code (k w : Int) : Int := if k = 9 then (((w / 32768 % 32).toNat ||| (w / 1048576 % 32).toNat : Nat) : Int) else rs1Of k w
theorem kinds {k o a b : Int} (h : ft k o a b = true) : k = 0 ∨ k = 1 ∨ k = 2 ∨ k = 3 ∨ k = 4 ∨ k = 5 ∨ k = 6 ∨ k = 7 ∨ k = 8 ∨ k = 9 ∨ k = 10 := by
  simp only [ft, Bool.and_eq_true, decide_eq_true_eq] at h
  omega
theorem ft_bd {k o a b : Int} (h : ft k o a b = true) : 0 ≤ o ∧ o ≤ 127 ∧ 0 ≤ a ∧ a ≤ 7 ∧ 0 ≤ b ∧ b ≤ 127 ∧ (k = 1 ∨ k = 3 ∨ k = 4 → b = 0) ∧ (k = 5 ∨ k = 6 ∨ k = 7 → a = 0 ∧ b = 0) := by
  simp only [ft, Bool.and_eq_true, decide_eq_true_eq, Bool.or_eq_true, Bool.not_eq_true', beq_iff_eq, Bool.or_eq_false_iff, beq_eq_false_iff_ne] at h
  omega
/-- parts that are right -/
def Good (k rd rs1 rs2 n : Int) : Prop :=
  (0 ≤ rd ∧ rd ≤ 31) ∧ (0 ≤ rs1 ∧ rs1 ≤ 31) ∧ (0 ≤ rs2 ∧ rs2 ≤ 31) ∧
  (uRd k = false → rd = 0) ∧ (uRs1 k = false → rs1 = 0) ∧ (uRs2 k = false → rs2 = 0) ∧ (uImm k = false → n = 0) ∧ (uImm k = true → fits k n = true)
theorem good_of {k rd rs1 rs2 n : Int} (h : fault k rd rs1 rs2 n = 0) : Good k rd rs1 rs2 n := by
  unfold fault at h
  split at h
  · omega
  · rename_i h2
    split at h
    · omega
    · rename_i h1
      simp only [bad2, bad1, Bool.or_eq_true, Bool.and_eq_true, Bool.not_eq_true', bne_iff_ne, not_or, not_and, Decidable.not_not, isReg, decide_eq_false_iff_not] at h1 h2
      obtain ⟨⟨⟨p1, p2⟩, p3⟩, p4⟩ := h1
      obtain ⟨⟨⟨q1, q2⟩, q3⟩, q4⟩ := h2
      refine ⟨?_, ?_, ?_, q1, q2, q3, q4, fun h => by simpa using p4 h⟩
      · cases e : uRd k with
        | true => simpa using p1 e
        | false => have := q1 e; omega
      · cases e : uRs1 k with
        | true => simpa using p2 e
        | false => have := q2 e; omega
      · cases e : uRs2 k with
        | true => simpa using p3 e
        | false => have := q3 e; omega
theorem fault_good {k rd rs1 rs2 n : Int} (h : Good k rd rs1 rs2 n) : fault k rd rs1 rs2 n = 0 := by
  obtain ⟨a1, a2, a3, b1, b2, b3, b4, b5⟩ := h
  have e2 : bad2 k rd rs1 rs2 n = false := by
    unfold bad2
    cases h1 : uRd k <;> cases h2 : uRs1 k <;> cases h3 : uRs2 k <;> cases h4 : uImm k <;> simp_all
  have e1 : bad1 k rd rs1 rs2 n = false := by
    have r1 : isReg rd = true := by simp [isReg]; omega
    have r2 : isReg rs1 = true := by simp [isReg]; omega
    have r3 : isReg rs2 = true := by simp [isReg]; omega
    unfold bad1
    rw [r1, r2, r3]
    cases h4 : uImm k with
    | true => rw [b5 h4]; simp
    | false => simp
  unfold fault
  rw [e2, e1]; rfl

/-! ### there and back -/
theorem word_bd {k o a b rd rs1 rs2 n : Int} (hf : ft k o a b = true) (g : Good k rd rs1 rs2 n) : 0 ≤ word k o a b rd rs1 rs2 n ∧ word k o a b rd rs1 rs2 n < 4294967296 := by
  have hb := ft_bd hf
  obtain ⟨a1, a2, a3, b1, b2, b3, b4, b5⟩ := g
  rcases kinds hf with h | h | h | h | h | h | h | h | h | h | h <;> subst h <;> simp [uRd, uRs1, uRs2, uImm, fits] at b1 b2 b3 b4 b5 <;> simp [word] <;> omega
/-- the fields of a word -/
theorem fields {o A a B C D w : Int} (ho : 0 ≤ o ∧ o ≤ 127) (hA : 0 ≤ A ∧ A ≤ 31) (ha : 0 ≤ a ∧ a ≤ 7) (hB : 0 ≤ B ∧ B ≤ 31) (hC : 0 ≤ C ∧ C ≤ 31) (hD : 0 ≤ D ∧ D ≤ 127)
    (e : o + 128 * A + 4096 * a + 32768 * B + 1048576 * C + 33554432 * D = w) :
    w % 128 = o ∧ w / 128 % 32 = A ∧ w / 4096 % 8 = a ∧ w / 32768 % 32 = B ∧ w / 1048576 % 32 = C ∧ w / 33554432 % 128 = D ∧ w / 33554432 = D ∧ w / 1048576 % 4096 = C + 32 * D ∧ w / 128 % 2 = A % 2 ∧ w / 256 % 16 = A / 2 ∧ w / 33554432 % 64 = D % 64 ∧ w / 2147483648 % 2 = D / 64 := by
  subst e
  refine ⟨?_, ?_, ?_, ?_, ?_, ?_, ?_, ?_, ?_, ?_, ?_, ?_⟩ <;> omega
theorem fieldsU {o A X w : Int} (ho : 0 ≤ o ∧ o ≤ 127) (hA : 0 ≤ A ∧ A ≤ 31) (hX : 0 ≤ X ∧ X ≤ 1048575)
    (e : o + 128 * A + 4096 * X = w) :
    w % 128 = o ∧ w / 128 % 32 = A ∧ w / 4096 % 1048576 = X ∧ w / 4096 = X ∧ w / 4096 % 256 = X % 256 ∧ w / 1048576 % 2 = X / 256 % 2 ∧ w / 2097152 % 1024 = X / 512 % 1024 ∧ w / 2147483648 % 2 = X / 524288 := by
  subst e
  refine ⟨?_, ?_, ?_, ?_, ?_, ?_, ?_, ?_⟩ <;> omega
/-- a word by its fields -/
def six (o A a B C D : Int) : Int := o + 128 * A + 4096 * a + 32768 * B + 1048576 * C + 33554432 * D
theorem word_R {k o a b rd rs1 rs2 n : Int} (h : k = 0 ∨ k = 8) : word k o a b rd rs1 rs2 n = six o rd a rs1 rs2 b := by rcases h with h | h <;> subst h <;> simp [word, six]
theorem word_I {o a b rd rs1 rs2 n : Int} : word 1 o a b rd rs1 rs2 n = six o rd a rs1 (n % 32) (n / 32 % 128) := by simp [word, six]; omega
theorem word_H {o a b rd rs1 rs2 n : Int} : word 2 o a b rd rs1 rs2 n = six o rd a rs1 n b := by simp [word, six]
theorem word_S {o a b rd rs1 rs2 n : Int} : word 3 o a b rd rs1 rs2 n = six o (n % 32) a rs1 rs2 (n / 32 % 128) := by simp [word, six]
theorem word_B {o a b rd rs1 rs2 n : Int} : word 4 o a b rd rs1 rs2 n = six o (n / 2048 % 2 + 2 * (n / 2 % 16)) a rs1 rs2 (n / 32 % 64 + 64 * (n / 4096 % 2)) := by simp [word, six]; omega
theorem word_U {o a b rd rs1 rs2 n : Int} : word 5 o a b rd rs1 rs2 n = o + 128 * rd + 4096 * n := by simp [word]
theorem word_J {o a b rd rs1 rs2 n : Int} : word 6 o a b rd rs1 rs2 n = o + 128 * rd + 4096 * (n / 4096 % 256 + 256 * (n / 2048 % 2) + 512 * (n / 2 % 1024) + 524288 * (n / 1048576 % 2)) := by simp [word]; omega
theorem word_E {o a b rd rs1 rs2 n : Int} : word 7 o a b rd rs1 rs2 n = o := by simp [word]
theorem word_T {o a b rd rs1 rs2 n : Int} : word 9 o a b rd rs1 rs2 n = six o rd a rs1 rs1 b := by simp [word, six]
theorem word_Z {o a b rd rs1 rs2 n : Int} : word 10 o a b rd rs1 rs2 n = six o rd a rs1 0 b := by simp [word, six]
theorem bitsB (n : Int) (h : -4096 ≤ n ∧ n ≤ 4094) (h2 : n % 2 = 0) : 2 * (n / 2 % 16) + 32 * (n / 32 % 64) + 2048 * (n / 2048 % 2) - 4096 * (n / 4096 % 2) = n := by omega
theorem bitsJ (n : Int) (h : -1048576 ≤ n ∧ n ≤ 1048574) (h2 : n % 2 = 0) : 2 * (n / 2 % 1024) + 2048 * (n / 2048 % 2) + 4096 * (n / 4096 % 256) - 1048576 * (n / 1048576 % 2) = n := by omega
theorem digitsJ {x1 x2 x3 x4 : Int} (y1 : 0 ≤ x1 ∧ x1 ≤ 255) (y2 : 0 ≤ x2 ∧ x2 ≤ 1) (y3 : 0 ≤ x3 ∧ x3 ≤ 1023) (y4 : 0 ≤ x4 ∧ x4 ≤ 1) :
    (x1 + 256 * x2 + 512 * x3 + 524288 * x4) / 512 % 1024 = x3 ∧ (x1 + 256 * x2 + 512 * x3 + 524288 * x4) / 256 % 2 = x2 ∧ (x1 + 256 * x2 + 512 * x3 + 524288 * x4) % 256 = x1 ∧ (x1 + 256 * x2 + 512 * x3 + 524288 * x4) / 524288 = x4 := by
  have e1 : (x1 + 256 * x2 + 512 * x3 + 524288 * x4) / 512 = x3 + 1024 * x4 := by omega
  have e2 : (x1 + 256 * x2 + 512 * x3 + 524288 * x4) / 256 = x2 + 2 * (x3 + 1024 * x4) := by omega
  have e3 : (x1 + 256 * x2 + 512 * x3 + 524288 * x4) / 524288 = x4 := by omega
  rw [e1, e2, e3]
  exact ⟨by omega, by omega, by omega, rfl⟩
/-- what a word of right parts holds, all at once -/
theorem back {k o a b rd rs1 rs2 n w : Int} (hf : ft k o a b = true) (g : Good k rd rs1 rs2 n) (e : word k o a b rd rs1 rs2 n = w) :
    rdOf k w = rd ∧ rs1Of k w = rs1 ∧ rs2Of k w = rs2 ∧ immOf k w = n ∧ w % 128 = o ∧ (k = 5 ∨ k = 6 ∨ k = 7 ∨ w / 4096 % 8 = a) ∧ (k = 1 ∨ k = 3 ∨ k = 4 ∨ k = 5 ∨ k = 6 ∨ k = 7 ∨ w / 33554432 = b) := by
  have hb := ft_bd hf
  obtain ⟨a1, a2, a3, b1, b2, b3, b4, b5⟩ := g
  rcases kinds hf with h | h | h | h | h | h | h | h | h | h | h <;> subst h <;> simp [uRd, uRs1, uRs2, uImm, fits] at b1 b2 b3 b4 b5
  · rw [word_R (.inl rfl)] at e
    obtain ⟨f1, f2, f3, f4, f5, f6, f7, f8, f9, f10, f11, f12⟩ := fields (by omega) a1 (by omega) a2 a3 (by omega) e
    simp [rdOf, rs1Of, rs2Of, immOf, uRd, uRs1, uRs2]
    omega
  · rw [word_I] at e
    obtain ⟨f1, f2, f3, f4, f5, f6, f7, f8, f9, f10, f11, f12⟩ := fields (by omega) a1 (by omega) a2 (by omega) (by omega) e
    simp [rdOf, rs1Of, rs2Of, immOf, uRd, uRs1, uRs2]
    clear e f9 f10 f11 f12
    rw [f8]
    omega
  · rw [word_H] at e
    obtain ⟨f1, f2, f3, f4, f5, f6, f7, f8, f9, f10, f11, f12⟩ := fields (by omega) a1 (by omega) a2 (by omega) (by omega) e
    simp [rdOf, rs1Of, rs2Of, immOf, uRd, uRs1, uRs2]
    omega
  · rw [word_S] at e
    obtain ⟨f1, f2, f3, f4, f5, f6, f7, f8, f9, f10, f11, f12⟩ := fields (by omega) (by omega) (by omega) a2 a3 (by omega) e
    simp [rdOf, rs1Of, rs2Of, immOf, uRd, uRs1, uRs2]
    clear e f8 f9 f10 f11 f12
    rw [f2, f6]
    omega
  · rw [word_B] at e
    obtain ⟨f1, f2, f3, f4, f5, f6, f7, f8, f9, f10, f11, f12⟩ := fields (by omega) (by omega) (by omega) a2 a3 (by omega) e
    simp [rdOf, rs1Of, rs2Of, immOf, uRd, uRs1, uRs2]
    have hn := bitsB n (by omega) (by omega)
    clear e f8
    rw [f9, f10, f11, f12]
    have z1 : 0 ≤ n / 2 % 16 ∧ n / 2 % 16 ≤ 15 := by omega
    have z2 : 0 ≤ n / 32 % 64 ∧ n / 32 % 64 ≤ 63 := by omega
    have y2 : 0 ≤ n / 2048 % 2 ∧ n / 2048 % 2 ≤ 1 := by omega
    have y3 : 0 ≤ n / 4096 % 2 ∧ n / 4096 % 2 ≤ 1 := by omega
    generalize n / 2 % 16 = x0 at *
    generalize n / 32 % 64 = x1 at *
    generalize n / 2048 % 2 = x2 at *
    generalize n / 4096 % 2 = x3 at *
    refine ⟨by clear f1 f2 f3 f4 f5 f6 f7 f9 f10 f11 f12; omega, f4, f5, ?_, f1, f3⟩
    rw [show (x2 + 2 * x0) % 2 = x2 by omega, show (x2 + 2 * x0) / 2 = x0 by omega, show (x1 + 64 * x3) % 64 = x1 by omega, show (x1 + 64 * x3) / 64 = x3 by omega]
    exact hn
  · rw [word_U] at e
    obtain ⟨f1, f2, f3, f4, f5, f6, f7, f8⟩ := fieldsU (by omega) a1 (by omega) e
    simp [rdOf, rs1Of, rs2Of, immOf, uRd, uRs1, uRs2]
    omega
  · rw [word_J] at e
    obtain ⟨f1, f2, f3, f4, f5, f6, f7, f8⟩ := fieldsU (by omega) a1 (by omega) e
    simp [rdOf, rs1Of, rs2Of, immOf, uRd, uRs1, uRs2]
    have hn := bitsJ n (by omega) (by omega)
    clear e
    rw [f5, f6, f7, f8]
    have y1 : 0 ≤ n / 4096 % 256 ∧ n / 4096 % 256 ≤ 255 := by omega
    have y2 : 0 ≤ n / 2048 % 2 ∧ n / 2048 % 2 ≤ 1 := by omega
    have y3 : 0 ≤ n / 2 % 1024 ∧ n / 2 % 1024 ≤ 1023 := by omega
    have y4 : 0 ≤ n / 1048576 % 2 ∧ n / 1048576 % 2 ≤ 1 := by omega
    generalize n / 4096 % 256 = x1 at *
    generalize n / 2048 % 2 = x2 at *
    generalize n / 2 % 1024 = x3 at *
    generalize n / 1048576 % 2 = x4 at *
    refine ⟨f2, by clear f1 f2 f3 f4 f5 f6 f7 f8; omega, by clear f1 f2 f3 f4 f5 f6 f7 f8; omega, ?_, f1⟩
    obtain ⟨d1, d2, d3, d4⟩ := digitsJ y1 y2 y3 y4
    rw [d1, d2, d3, d4]
    exact hn
  · rw [word_E] at e
    simp [rdOf, rs1Of, rs2Of, immOf, uRd, uRs1, uRs2]
    omega
  · rw [word_R (.inr rfl)] at e
    obtain ⟨f1, f2, f3, f4, f5, f6, f7, f8, f9, f10, f11, f12⟩ := fields (by omega) a1 (by omega) a2 a3 (by omega) e
    simp [rdOf, rs1Of, rs2Of, immOf, uRd, uRs1, uRs2]
    omega
  · rw [word_T] at e
    obtain ⟨f1, f2, f3, f4, f5, f6, f7, f8, f9, f10, f11, f12⟩ := fields (by omega) a1 (by omega) a2 a2 (by omega) e
    simp [rdOf, rs1Of, rs2Of, immOf, uRd, uRs1, uRs2]
    omega
  · rw [word_Z] at e
    obtain ⟨f1, f2, f3, f4, f5, f6, f7, f8, f9, f10, f11, f12⟩ := fields (by omega) a1 (by omega) a2 (by omega) (by omega) e
    simp [rdOf, rs1Of, rs2Of, immOf, uRd, uRs1, uRs2]
    omega
/-- the parts of any word are right -/
theorem cand_good {k o a b w : Int} (hf : ft k o a b = true) (h0 : 0 ≤ w) (h1 : w < 4294967296) : Good k (rdOf k w) (rs1Of k w) (rs2Of k w) (immOf k w) := by
  rcases kinds hf with h | h | h | h | h | h | h | h | h | h | h <;> subst h <;> simp [Good, rdOf, rs1Of, rs2Of, immOf, uRd, uRs1, uRs2, uImm, fits] <;> omega
theorem or32 {p q : Nat} (hp : p < 32) (hq : q < 32) : p ||| q < 32 := Nat.or_lt_two_pow (n := 5) hp hq
theorem code_good {k o a b w : Int} (hf : ft k o a b = true) (h0 : 0 ≤ w) (h1 : w < 4294967296) : Good k (rdOf k w) (rs1Code k w) (rs2Of k w) (immOf k w) := by
  by_cases hk : k = 9
  · subst hk
    have := or32 (p := (w / 32768 % 32).toNat) (q := (w / 1048576 % 32).toNat) (by omega) (by omega)
    simp [Good, rdOf, rs1Code, rs2Of, immOf, uRd, uRs1, uRs2, uImm]
    omega
  · have := cand_good hf h0 h1
    rw [rs1Code, if_neg hk]; exact this
/-- the word of the parts of w -/
def again (op w : Int) : Int := word (kd op) (o7 op) (f3 op) (f7 op) (rdOf (kd op) w) (rs1Of (kd op) w) (rs2Of (kd op) w) (immOf (kd op) w)
def againCode (op w : Int) : Int := word (kd op) (o7 op) (f3 op) (f7 op) (rdOf (kd op) w) (rs1Code (kd op) w) (rs2Of (kd op) w) (immOf (kd op) w)
/-- w is a word of op's -/
def hit (op w : Int) : Bool := isOp op && again op w == w
theorem hit_op {op w : Int} (h : hit op w = true) : isOp op = true ∧ again op w = w := by simpa [hit] using h
theorem nine {o a b rd x w : Int} (hb : 0 ≤ o ∧ o ≤ 127 ∧ 0 ≤ a ∧ a ≤ 7 ∧ 0 ≤ b ∧ b ≤ 127) (hr : 0 ≤ rd ∧ rd ≤ 31) (hx : 0 ≤ x ∧ x ≤ 31) (e : o + 128 * rd + 4096 * a + 32768 * x + 1048576 * x + 33554432 * b = w) : w / 32768 % 32 = x ∧ w / 1048576 % 32 = x := by
  obtain ⟨f1, f2, f3, f4, f5, _⟩ := fields (w := w) (by omega) hr (by omega) hx hx (by omega) e
  exact ⟨f4, f5⟩
theorem code_same {op w : Int} (ho : isOp op = true) (h0 : 0 ≤ w) (h1 : w < 4294967296) : againCode op w = w ↔ again op w = w := by
  have hf := ft_row ho
  unfold againCode again
  by_cases hk : kd op = 9
  · have hb := ft_bd hf
    have ho := or32 (p := (w / 32768 % 32).toNat) (q := (w / 1048576 % 32).toNat) (by omega) (by omega)
    rw [hk]
    simp [word, rs1Code, rs1Of, uRs1, rdOf, uRd]
    constructor
    · intro e
      have hn := nine (rd := w / 128 % 32) (by omega) (by omega) (x := (((w / 32768 % 32).toNat ||| (w / 1048576 % 32).toNat : Nat) : Int)) (by omega) e
      rw [← hn.1] at e
      exact e
    · intro e
      have hn := nine (rd := w / 128 % 32) (by omega) (by omega) (x := w / 32768 % 32) (by omega) e
      rw [hn.2, Nat.or_self]
      have : (((w / 32768 % 32).toNat : Nat) : Int) = w / 32768 % 32 := by omega
      rw [this]; exact e
  · rw [rs1Code, if_neg hk]
theorem code_rs1 {op w : Int} (ho : isOp op = true) (h0 : 0 ≤ w) (h1 : w < 4294967296) (e : again op w = w) : rs1Code (kd op) w = rs1Of (kd op) w := by
  have hb := ft_bd (ft_row ho)
  by_cases hk : kd op = 9
  · unfold again at e
    rw [hk] at e ⊢
    simp [word, rs1Of, uRs1, rdOf, uRd] at e
    have hn := nine (rd := w / 128 % 32) (by omega) (by omega) (x := w / 32768 % 32) (by omega) e
    simp [rs1Code, rs1Of, uRs1]
    rw [hn.2, Nat.or_self]
    omega
  · rw [rs1Code, if_neg hk]
theorem hit_low {op w : Int} (h : hit op w = true) (h0 : 0 ≤ w) (h1 : w < 4294967296) : w % 128 = o7 op := by
  obtain ⟨ho, e⟩ := hit_op h
  exact (back (ft_row ho) (cand_good (ft_row ho) h0 h1) e).2.2.2.2.1
/-- the row of a word by its fields, as far as they are fixed -/
def nrm (o a b : Int) : Int × Int × Int :=
  if o = 51 ∨ o = 83 ∨ (o = 19 ∧ (a = 1 ∨ a = 5)) then (o, a, b)
  else if o = 55 ∨ o = 23 ∨ o = 111 ∨ o = 115 then (o, 0, 0)
  else (o, a, 0)
def cls (k o a : Int) : Bool :=
  if k = 0 ∨ k = 2 ∨ k = 8 ∨ k = 9 ∨ k = 10 then (o == 51 || o == 83 || (o == 19 && (a == 1 || a == 5)))
  else if k = 5 ∨ k = 6 ∨ k = 7 then (o == 55 || o == 23 || o == 111 || o == 115)
  else !(o == 51 || o == 83 || (o == 19 && (a == 1 || a == 5))) && !(o == 55 || o == 23 || o == 111 || o == 115)
theorem cls_row {op : Int} (h : isOp op = true) : cls (kd op) (o7 op) (f3 op) = true :=
  all_ops (fun op => cls (kd op) (o7 op) (f3 op)) (by decide +kernel) h
theorem hit_nrm {op w : Int} (h : hit op w = true) (h0 : 0 ≤ w) (h1 : w < 4294967296) : nrm (w % 128) (w / 4096 % 8) (w / 33554432) = (o7 op, f3 op, f7 op) := by
  obtain ⟨ho, e⟩ := hit_op h
  have hf := ft_row ho
  have hc := cls_row ho
  have hb := ft_bd hf
  obtain ⟨-, -, -, -, c1, c2, c3⟩ := back hf (cand_good hf h0 h1) e
  clear e h
  rw [c1]
  generalize w / 4096 % 8 = x at *
  generalize w / 33554432 = y at *
  generalize kd op = k at *
  generalize o7 op = o at *
  generalize f3 op = a at *
  generalize f7 op = b at *
  rcases kinds hf with h | h | h | h | h | h | h | h | h | h | h <;> subst h <;> simp [cls] at hc <;> unfold nrm
  all_goals first
    | (rw [show x = a by omega, show y = b by omega, if_pos (by omega)]; done)
    | (rw [show x = a by omega, if_neg (by omega), if_neg (by omega), show b = 0 by omega]; done)
    | (rw [if_neg (by omega), if_pos (by omega), show a = 0 by omega, show b = 0 by omega]; done)
theorem rows_apart : ((List.range 55).all fun i => (List.range 55).all fun j => !((row (i + 1)).2 == (row (j + 1)).2) || i == j) = true := by decide +kernel
theorem row_inj {op op' : Int} (h : isOp op = true) (h' : isOp op' = true) (e : (o7 op, f3 op, f7 op) = (o7 op', f3 op', f7 op')) : op = op' := by
  have b1 := isOp_yes h
  have b2 := isOp_yes h'
  have h2 := List.all_eq_true.1 (List.all_eq_true.1 rows_apart (op.toNat - 1) (List.mem_range.2 (by omega))) (op'.toNat - 1) (List.mem_range.2 (by omega))
  rw [show op.toNat - 1 + 1 = op.toNat by omega, show op'.toNat - 1 + 1 = op'.toNat by omega] at h2
  have e2 : (row op.toNat).2 = (row op'.toNat).2 := e
  rw [e2] at h2
  simp at h2
  omega
theorem hit_one {op op' w : Int} (h : hit op w = true) (h' : hit op' w = true) (h0 : 0 ≤ w) (h1 : w < 4294967296) : op = op' :=
  row_inj (hit_op h).1 (hit_op h').1 ((hit_nrm h h0 h1).symm.trans (hit_nrm h' h0 h1))
/-- the Op of a word; 0: there is none -/
def dec (w : Int) : Int := match (List.range 55).find? fun n => hit ((n + 1 : Nat) : Int) w with
  | some n => ((n + 1 : Nat) : Int)
  | none => 0
theorem dec_hit {op w : Int} (h : hit op w = true) (h0 : 0 ≤ w) (h1 : w < 4294967296) : dec w = op := by
  unfold dec
  cases e : (List.range 55).find? fun n => hit ((n + 1 : Nat) : Int) w with
  | some n => exact hit_one (by simpa using List.find?_some e) h h0 h1
  | none =>
    have hb := isOp_yes (hit_op h).1
    have := List.find?_eq_none.1 e (op.toNat - 1) (List.mem_range.2 (by omega))
    rw [show (((op.toNat - 1 + 1 : Nat)) : Int) = op by omega] at this
    exact absurd h this
theorem dec_none {w : Int} (h : ∀ op, hit op w = false) : dec w = 0 := by
  unfold dec
  cases e : (List.range 55).find? fun n => hit ((n + 1 : Nat) : Int) w with
  | some n => have := List.find?_some e; rw [h] at this; cases this
  | none => rfl
/-- what is made of right parts is a word of op's -/
theorem hit_word {op rd rs1 rs2 n : Int} (ho : isOp op = true) (g : Good (kd op) rd rs1 rs2 n) : hit op (word (kd op) (o7 op) (f3 op) (f7 op) rd rs1 rs2 n) = true := by
  have hf := ft_row ho
  obtain ⟨e1, e2, e3, e4, _⟩ := back hf g rfl
  unfold hit again
  rw [ho, e1, e2, e3, e4]
  simp
/-! ### how each kind uses the four parts: of each the least, the most, the step, and four pieces (from, bits, to) -/
def ul : Nat → List Int
  | 0 => [0, 31, 1, 0, 5, 7, 0, 0, 0, 0, 0, 0, 0, 0, 0, 0, 31, 1, 0, 5, 15, 0, 0, 0, 0, 0, 0, 0, 0, 0, 0, 31, 1, 0, 5, 20, 0, 0, 0, 0, 0, 0, 0, 0, 0, 0, 0, 0, 0, 0, 0, 0, 0, 0, 0, 0, 0, 0, 0, 0]
  | 1 => [0, 31, 1, 0, 5, 7, 0, 0, 0, 0, 0, 0, 0, 0, 0, 0, 31, 1, 0, 5, 15, 0, 0, 0, 0, 0, 0, 0, 0, 0, 0, 0, 0, 0, 0, 0, 0, 0, 0, 0, 0, 0, 0, 0, 0, -2048, 2047, 1, 0, 12, 20, 0, 0, 0, 0, 0, 0, 0, 0, 0]
  | 2 => [0, 31, 1, 0, 5, 7, 0, 0, 0, 0, 0, 0, 0, 0, 0, 0, 31, 1, 0, 5, 15, 0, 0, 0, 0, 0, 0, 0, 0, 0, 0, 0, 0, 0, 0, 0, 0, 0, 0, 0, 0, 0, 0, 0, 0, 0, 31, 1, 0, 5, 20, 0, 0, 0, 0, 0, 0, 0, 0, 0]
  | 3 => [0, 0, 0, 0, 0, 0, 0, 0, 0, 0, 0, 0, 0, 0, 0, 0, 31, 1, 0, 5, 15, 0, 0, 0, 0, 0, 0, 0, 0, 0, 0, 31, 1, 0, 5, 20, 0, 0, 0, 0, 0, 0, 0, 0, 0, -2048, 2047, 1, 0, 5, 7, 5, 7, 25, 0, 0, 0, 0, 0, 0]
  | 4 => [0, 0, 0, 0, 0, 0, 0, 0, 0, 0, 0, 0, 0, 0, 0, 0, 31, 1, 0, 5, 15, 0, 0, 0, 0, 0, 0, 0, 0, 0, 0, 31, 1, 0, 5, 20, 0, 0, 0, 0, 0, 0, 0, 0, 0, -4096, 4094, 2, 11, 1, 7, 1, 4, 8, 5, 6, 25, 12, 1, 31]
  | 5 => [0, 31, 1, 0, 5, 7, 0, 0, 0, 0, 0, 0, 0, 0, 0, 0, 0, 0, 0, 0, 0, 0, 0, 0, 0, 0, 0, 0, 0, 0, 0, 0, 0, 0, 0, 0, 0, 0, 0, 0, 0, 0, 0, 0, 0, 0, 1048575, 1, 0, 20, 12, 0, 0, 0, 0, 0, 0, 0, 0, 0]
  | 6 => [0, 31, 1, 0, 5, 7, 0, 0, 0, 0, 0, 0, 0, 0, 0, 0, 0, 0, 0, 0, 0, 0, 0, 0, 0, 0, 0, 0, 0, 0, 0, 0, 0, 0, 0, 0, 0, 0, 0, 0, 0, 0, 0, 0, 0, -1048576, 1048574, 2, 12, 8, 12, 11, 1, 20, 1, 10, 21, 20, 1, 31]
  | 7 => [0, 0, 0, 0, 0, 0, 0, 0, 0, 0, 0, 0, 0, 0, 0, 0, 0, 0, 0, 0, 0, 0, 0, 0, 0, 0, 0, 0, 0, 0, 0, 0, 0, 0, 0, 0, 0, 0, 0, 0, 0, 0, 0, 0, 0, 0, 0, 0, 0, 0, 0, 0, 0, 0, 0, 0, 0, 0, 0, 0]
  | 8 => [0, 31, 1, 0, 5, 7, 0, 0, 0, 0, 0, 0, 0, 0, 0, 0, 31, 1, 0, 5, 15, 0, 0, 0, 0, 0, 0, 0, 0, 0, 0, 31, 1, 0, 5, 20, 0, 0, 0, 0, 0, 0, 0, 0, 0, 0, 0, 0, 0, 0, 0, 0, 0, 0, 0, 0, 0, 0, 0, 0]
  | 9 => [0, 31, 1, 0, 5, 7, 0, 0, 0, 0, 0, 0, 0, 0, 0, 0, 31, 1, 0, 5, 15, 0, 5, 20, 0, 0, 0, 0, 0, 0, 0, 0, 0, 0, 0, 0, 0, 0, 0, 0, 0, 0, 0, 0, 0, 0, 0, 0, 0, 0, 0, 0, 0, 0, 0, 0, 0, 0, 0, 0]
  | 10 => [0, 31, 1, 0, 5, 7, 0, 0, 0, 0, 0, 0, 0, 0, 0, 0, 31, 1, 0, 5, 15, 0, 0, 0, 0, 0, 0, 0, 0, 0, 0, 0, 0, 0, 0, 0, 0, 0, 0, 0, 0, 0, 0, 0, 0, 0, 0, 0, 0, 0, 0, 0, 0, 0, 0, 0, 0, 0, 0, 0]
  | _ => []
def uv (k : Int) (j : Nat) : Int := (ul k.toNat).getD j 0
def uA (k : Int) : Array Value := ((ul k.toNat).map (Value.int .i64)).toArray
end CM
end Go.Proofs.YtlmblfkcmhgdaaaGreat
namespace Go.Proofs.YtlmblfkcmhgdaaaGreat
open Go.RowKit
set_option linter.unusedVariables false
namespace CC
theorem ret_int {k : IntKind} {a b : Int} (h : a = b) : Ending.returned (.int k a) = .returned (.int k b) := by rw [h]
theorem pow31 (b : Int) (h0 : 0 ≤ b) (h1 : b ≤ 31) : 0 < (2 : Int) ^ b.toNat ∧ (2 : Int) ^ b.toNat ≤ 2147483648 := by
  have h3 : (2 : Nat) ^ b.toNat ≤ 2 ^ 31 := Nat.pow_le_pow_right (by omega) (by omega)
  have h2 : ((2 ^ b.toNat : Nat) : Int) ≤ ((2 ^ 31 : Nat) : Int) := Int.ofNat_le.mpr h3
  exact ⟨Int.pow_pos (by decide), by simpa using h2⟩
theorem full (b : Int) (h0 : 0 ≤ b) (h1 : b ≤ 31) (w : World) : Calls Tryz.prog 138 #[.int .i64 b] w fun e w' => e = .returned (.int .u32 (2 ^ b.toNat - 1)) ∧ w = w' := by
  obtain ⟨p1, p2⟩ := pow31 b h0 h1
  go_enter Tryz.func138, Tryz.ntmps138
  go_wp2
  go_ret
  exact ⟨ret_int (by omega), rfl⟩
/-- a register's use, at a place of the word -/
def rg (a : Int) : Array Value := #[.int .i64 0, .int .i64 31, .int .i64 1, .int .i64 0, .int .i64 5, .int .i64 a, .int .i64 0, .int .i64 0, .int .i64 0, .int .i64 0, .int .i64 0, .int .i64 0, .int .i64 0, .int .i64 0, .int .i64 0]
theorem register_ (a : Int) (w : World) : Calls Tryz.prog 146 #[.int .i64 a] w fun e w' => e = .returned (.agg (rg a)) ∧ w' = w.alloc (.cells (rg a) 210) := by
  go_enter Tryz.func146, Tryz.ntmps146
  go_wp2
  exact bodyPost_ret (v := .agg #[.int .i64 0, .int .i64 31, .int .i64 1, .int .i64 0, .int .i64 5, .int .i64 a, .int .i64 0, .int .i64 0, .int .i64 0, .int .i64 0, .int .i64 0, .int .i64 0, .int .i64 0, .int .i64 0, .int .i64 0]) (by simp [results, Tryz.results146, go_sem]) rfl ⟨rfl, rfl⟩
end CC
end Go.Proofs.YtlmblfkcmhgdaaaGreat
namespace Go.Proofs.YtlmblfkcmhgdaaaGreat
open Go.RowKit
set_option linter.unusedVariables false
set_option linter.unusedSimpArgs false
namespace CU
open CC
section
variable {P : Program}
/-- a new variable of many cells: the zero value said by name -/
theorem wpList_allocZ {ops : Array Oper} {rest : List Oper} {o : Oper} {a : Act} {w : World} {Q : Exit → Act → World → Prop} (hg : o.guard = none) (t : TypeId) (ho : o.op = .alloc t) (Z : Array Value)
    (hz : ∀ w, (zeroValue t).run P w = .ok (.agg Z) w)
    (h : wpList P ops Q rest (a.put o.dst (.pointer (some ⟨w.heap.size, 0, none⟩))) (w.alloc (.cells Z t))) : wpList P ops Q (o :: rest) a w := by
  refine Great.wpList_runTo hg o.dst rfl _ _ ?_ h
  simp [execOp, ho, Instr.alloc, hz, newVar, newRow, newObj, Value.cells, Sem.run_bind, Result.andThen]
  rfl
theorem wpList_buildTo {ops : Array Oper} {rest : List Oper} {o : Oper} {a : Act} {w : World} {Q : Exit → Act → World → Prop} (hg : o.guard = none) (t : TypeId) (parts : Array (Nat × Operand)) (ho : o.op = .build t parts) (cells : Array Value)
    (hf : P.built t (parts.map fun (i, x) => (i, a.eval x)).toList = some cells)
    (h : wpList P ops Q rest (a.put o.dst (.agg cells)) w) : wpList P ops Q (o :: rest) a w := by
  refine Great.wpList_runTo hg o.dst rfl _ _ ?_ h
  unfold execOp
  simp only [ho, Sem.run_bind, run_build w t _ cells hf, Result.andThen_ok]
  rfl
end
def Z60 : Array Value := (List.replicate 60 (Value.int .i64 0)).toArray
theorem zero60 (w : World) : (zeroValue 211).run Tryz.prog w = .ok (.agg Z60) w := by kernel_rfl
theorem size60 (k : Int) (h : (CM.ul k.toNat).length = 60) : (Tryz.prog.info? 211).map (·.size) = some (CM.uA k).size := by
  have e : (CM.uA k).size = 60 := by simp [CM.uA, h]
  have h2 : (Tryz.prog.info? 211).map (·.size) = some 60 := by kernel_rfl
  rw [e]; exact h2
theorem one60 (k : Int) : (CM.uA k).all (·.oneCell') = true := by
  refine Array.all_eq_true_iff_forall_mem.2 fun v hv => ?_
  simp [CM.uA] at hv
  obtain ⟨x, _, rfl⟩ := hv
  rfl
theorem oldsize (k : Int) (h : (CM.ul k.toNat).length = 60) : Z60.size = (CM.uA k).size := by simp [CM.uA, h, Z60]
theorem up (w : World) (o : Obj) (i : Nat) (x : Obj) (hi : i < w.heap.size) (h : w.heap[i]? = some x) : (w.alloc o).heap[i]? = some x := by
  show (w.heap.push o)[i]? = some x
  rw [Array.getElem?_push, if_neg (Nat.ne_of_lt hi)]; exact h
theorem newAt (w : World) (o : Obj) (i : Nat) (hi : i = w.heap.size) : (w.alloc o).heap[i]? = some o := by
  subst hi
  show (w.heap.push o)[w.heap.size]? = some o
  simp
def Z15 : Array Value := #[.int .i64 0, .int .i64 0, .int .i64 0, .int .i64 0, .int .i64 0, .int .i64 0, .int .i64 0, .int .i64 0, .int .i64 0, .int .i64 0, .int .i64 0, .int .i64 0, .int .i64 0, .int .i64 0, .int .i64 0]
theorem size15 (a : Int) : (Tryz.prog.info? 210).map (·.size) = some (rg a).size := by kernel_rfl
/-- three registers' uses lie in blocks of their own, the result's zeros in another -/
structure Laid (n : Nat) (w wx : World) (b3 b4 b5 : Nat) : Prop where
  res : wx.heap[n]? = some (.cells Z60 211 (0, 0))
  h3 : wx.heap[b3]? = some (.cells (rg 7) 210 (0, 0))
  h4 : wx.heap[b4]? = some (.cells (rg 15) 210 (0, 0))
  h5 : wx.heap[b5]? = some (.cells (rg 20) 210 (0, 0))
  l3 : b3 < b4
  l4 : n < b4
  l5 : b4 < b5
  below : Below n w wx
theorem Laid.off {n : Nat} {w wx : World} {b3 b4 b5 : Nat} (L : Laid n w wx b3 b4 b5) (k : Nat) (hk : k ≠ b4) (x y z : Value) (i j l : Nat) : (((wx.setCell ⟨b4, i, none⟩ x).setCell ⟨b4, j, none⟩ y).setCell ⟨b4, l, none⟩ z).heap[k]? = wx.heap[k]? := by
  rw [Below.heap_setCell _ _ _ _ hk, Below.heap_setCell _ _ _ _ hk, Below.heap_setCell _ _ _ _ hk]
theorem Laid.h3' {n : Nat} {w wx : World} {b3 b4 b5 : Nat} (L : Laid n w wx b3 b4 b5) (x y z : Value) : (((wx.setCell ⟨b4, 6, none⟩ x).setCell ⟨b4, 7, none⟩ y).setCell ⟨b4, 8, none⟩ z).heap[b3]? = some (.cells (rg 7) 210 (0, 0)) := (L.off b3 (Nat.ne_of_lt L.l3) x y z 6 7 8).trans L.h3
theorem Laid.res' {n : Nat} {w wx : World} {b3 b4 b5 : Nat} (L : Laid n w wx b3 b4 b5) (x y z : Value) : (((wx.setCell ⟨b4, 6, none⟩ x).setCell ⟨b4, 7, none⟩ y).setCell ⟨b4, 8, none⟩ z).heap[n]? = some (.cells Z60 211 (0, 0)) := (L.off n (Nat.ne_of_lt L.l4) x y z 6 7 8).trans L.res
theorem laid (w : World) (a b c : Obj) : Laid w.heap.size w (((((((w.alloc (.cells Z60 211)).alloc a).alloc b).alloc c).alloc (.cells (rg 7) 210)).alloc (.cells (rg 15) 210)).alloc (.cells (rg 20) 210)) (w.heap.size + 1 + 1 + 1 + 1) (w.heap.size + 1 + 1 + 1 + 1 + 1) (w.heap.size + 1 + 1 + 1 + 1 + 1 + 1) := by
  constructor
  · refine up _ _ _ _ (by simp only [World.size_alloc]; omega) (up _ _ _ _ (by simp only [World.size_alloc]; omega) (up _ _ _ _ (by simp only [World.size_alloc]; omega) (up _ _ _ _ (by simp only [World.size_alloc]; omega) (up _ _ _ _ (by simp only [World.size_alloc]; omega) (up _ _ _ _ (by simp only [World.size_alloc]; omega) (newAt _ _ _ rfl))))))
  · exact up _ _ _ _ (by simp only [World.size_alloc]; omega) (up _ _ _ _ (by simp only [World.size_alloc]; omega) (newAt _ _ _ (by simp)))
  · exact up _ _ _ _ (by simp only [World.size_alloc]; omega) (newAt _ _ _ (by simp))
  · exact newAt _ _ _ (by simp)
  · omega
  · omega
  · omega
  · refine (((((((Below.refl _ _).alloc ?_ _).alloc ?_ _).alloc ?_ _).alloc ?_ _).alloc ?_ _).alloc ?_ _).alloc ?_ _ <;> first | omega | (simp only [World.size_alloc]; omega)
/-- how the function ends: what the result's cell holds -/
theorem fin_ {Q : Ending → World → Prop} (k : Int) (hl : (CM.ul k.toNat).length = 60) {tmps : Array Value} {n : Nat} {w : World}
    (hp : tmps.getD 2 undef = .pointer (some ⟨n, 0, none⟩)) (hg : w.heap[n]? = some (.cells Z60 211 (0, 0))) (hQ : Q (.returned (.agg (CM.uA k))) (w.setRow n (CM.uA k))) :
    bodyPost Tryz.prog Tryz.f121 Q .ret { tmps := tmps, defers := [] } (w.setRow n (CM.uA k)) :=
  bodyPost_ret (v := .agg (CM.uA k)) (results_cell_row Tryz.results121 tmps _ n 211 (CM.uA k) (0, 0) _ hp (setRow_heap _ _ _ _ _ _ hg) Tryz.underlying211 rfl (size60 k hl)) rfl hQ
section
variable {ops : Array Oper} {rest : List Oper} {o : Oper} {a : Act} {w : World} {Q : Exit → Act → World → Prop}
theorem load15 (hgd : o.guard = none) (x : Operand) (ho : o.op = .load 210 x) (g : Nat) (v : Int) (hx : a.eval x = .pointer (some ⟨g, 0, none⟩)) (hg : w.heap[g]? = some (.cells (rg v) 210 (0, 0)))
    (h : wpList Tryz.prog ops Q rest (a.put o.dst (.agg (rg v))) w) : wpList Tryz.prog ops Q (o :: rest) a w :=
  wpList_load_row hgd 210 x ho g hx 210 (rg v) (0, 0) _ hg Tryz.underlying210 rfl (size15 v) h
theorem store60 (hgd : o.guard = none) (y : Operand) (ho : o.op = .store 211 (.tmp 2) y) (g : Nat) (k : Int) (hl : (CM.ul k.toNat).length = 60) (hx : a.eval (.tmp 2) = .pointer (some ⟨g, 0, none⟩)) (hy : a.eval y = .agg (CM.uA k))
    (hg : w.heap[g]? = some (.cells Z60 211 (0, 0))) (h : wpList Tryz.prog ops Q rest (a.put o.dst undef) (w.setRow g (CM.uA k))) : wpList Tryz.prog ops Q (o :: rest) a w :=
  wpList_store_row hgd 211 (.tmp 2) y ho g (CM.uA k) hx hy 211 Z60 hg (size60 k hl) (oldsize k hl) (one60 k) h
end
set_option maxRecDepth 100000 in
set_option maxHeartbeats 1000000 in
theorem uses_ (k : Int) (h0 : 0 ≤ k) (h1 : k ≤ 10) (w : World) : Calls Tryz.prog 121 #[.int .i64 k] w fun e w' => e = .returned (.agg (CM.uA k)) ∧ Below w.heap.size w w' := by
  go_enter Tryz.func121, Tryz.ntmps121
  go_upto_region 1 with (with_reducible refine wpList_allocZ rfl 211 rfl Z60 zero60 ?_)
  go_simp
  go_cut [3, 4, 5] from 6 (fun s3 s4 s5 wx => ∃ b3 b4 b5 : Nat, s3 = .pointer (some ⟨b3, 0, none⟩) ∧ s4 = .pointer (some ⟨b4, 0, none⟩) ∧ s5 = .pointer (some ⟨b5, 0, none⟩) ∧ Laid w.heap.size w wx b3 b4 b5)
  case first =>
    go_wp2_with (go_at_call 146; refine (register_ _ _).mono ?_; rintro e w' ⟨rfl, rfl⟩; unfold rg)
    go_meet
    exact ⟨_, _, _, rfl, rfl, rfl, laid w _ _ _⟩
  case rest =>
    obtain ⟨b3, b4, b5, rfl, rfl, rfl, L⟩ := hcut
    rcases (show k = 0 ∨ k = 1 ∨ k = 2 ∨ k = 3 ∨ k = 4 ∨ k = 5 ∨ k = 6 ∨ k = 7 ∨ k = 8 ∨ k = 9 ∨ k = 10 by omega) with h | h | h | h | h | h | h | h | h | h | h <;> subst h
    · go_wp2_with (first
        | ((with_reducible refine load15 rfl (.tmp 3) rfl b3 7 ?x0a L.h3 ?_); (case x0a => simp [go_sem]))
        | ((with_reducible refine load15 rfl (.tmp 4) rfl b4 15 ?x0b L.h4 ?_); (case x0b => simp [go_sem]))
        | ((with_reducible refine load15 rfl (.tmp 5) rfl b5 20 ?x0c L.h5 ?_); (case x0c => simp [go_sem]))
        | ((with_reducible refine wpList_buildTo rfl 211 _ rfl (CM.uA 0) ?x0d ?_); (case x0d => kernel_rfl))
        | ((with_reducible refine store60 rfl _ rfl w.heap.size 0 ?x0e ?x0f ?x0g L.res ?_); (case x0e => rfl); (case x0f => simp [go_sem]); (case x0g => simp [go_sem])))
      go_simp
      refine fin_ 0 rfl ?_ L.res ?_
      · rfl
      · exact ⟨rfl, below_setRow L.below (Nat.le_refl _) _⟩
    · go_wp2_with (first
        | ((with_reducible refine load15 rfl (.tmp 3) rfl b3 7 ?x1a L.h3 ?_); (case x1a => simp [go_sem]))
        | ((with_reducible refine load15 rfl (.tmp 4) rfl b4 15 ?x1b L.h4 ?_); (case x1b => simp [go_sem]))
        | ((with_reducible refine load15 rfl (.tmp 5) rfl b5 20 ?x1c L.h5 ?_); (case x1c => simp [go_sem]))
        | ((with_reducible refine wpList_buildTo rfl 211 _ rfl (CM.uA 1) ?x1d ?_); (case x1d => kernel_rfl))
        | ((with_reducible refine store60 rfl _ rfl w.heap.size 1 ?x1e ?x1f ?x1g L.res ?_); (case x1e => rfl); (case x1f => simp [go_sem]); (case x1g => simp [go_sem])))
      go_simp
      refine fin_ 1 rfl ?_ L.res ?_
      · rfl
      · exact ⟨rfl, below_setRow L.below (Nat.le_refl _) _⟩
    · go_wp2_with (first
        | ((with_reducible refine load15 rfl (.tmp 3) rfl b3 7 ?x2a L.h3 ?_); (case x2a => simp [go_sem]))
        | ((with_reducible refine load15 rfl (.tmp 4) rfl b4 15 ?x2b L.h4 ?_); (case x2b => simp [go_sem]))
        | ((with_reducible refine load15 rfl (.tmp 5) rfl b5 20 ?x2c L.h5 ?_); (case x2c => simp [go_sem]))
        | ((with_reducible refine wpList_buildTo rfl 211 _ rfl (CM.uA 2) ?x2d ?_); (case x2d => kernel_rfl))
        | ((with_reducible refine store60 rfl _ rfl w.heap.size 2 ?x2e ?x2f ?x2g L.res ?_); (case x2e => rfl); (case x2f => simp [go_sem]); (case x2g => simp [go_sem])))
      go_simp
      refine fin_ 2 rfl ?_ L.res ?_
      · rfl
      · exact ⟨rfl, below_setRow L.below (Nat.le_refl _) _⟩
    · go_wp2_with (first
        | ((with_reducible refine load15 rfl (.tmp 3) rfl b3 7 ?x3a L.h3 ?_); (case x3a => simp [go_sem]))
        | ((with_reducible refine load15 rfl (.tmp 4) rfl b4 15 ?x3b L.h4 ?_); (case x3b => simp [go_sem]))
        | ((with_reducible refine load15 rfl (.tmp 5) rfl b5 20 ?x3c L.h5 ?_); (case x3c => simp [go_sem]))
        | ((with_reducible refine wpList_buildTo rfl 211 _ rfl (CM.uA 3) ?x3d ?_); (case x3d => kernel_rfl))
        | ((with_reducible refine store60 rfl _ rfl w.heap.size 3 ?x3e ?x3f ?x3g L.res ?_); (case x3e => rfl); (case x3f => simp [go_sem]); (case x3g => simp [go_sem])))
      go_simp
      refine fin_ 3 rfl ?_ L.res ?_
      · rfl
      · exact ⟨rfl, below_setRow L.below (Nat.le_refl _) _⟩
    · go_wp2_with (first
        | ((with_reducible refine load15 rfl (.tmp 3) rfl b3 7 ?x4a L.h3 ?_); (case x4a => simp [go_sem]))
        | ((with_reducible refine load15 rfl (.tmp 4) rfl b4 15 ?x4b L.h4 ?_); (case x4b => simp [go_sem]))
        | ((with_reducible refine load15 rfl (.tmp 5) rfl b5 20 ?x4c L.h5 ?_); (case x4c => simp [go_sem]))
        | ((with_reducible refine wpList_buildTo rfl 211 _ rfl (CM.uA 4) ?x4d ?_); (case x4d => kernel_rfl))
        | ((with_reducible refine store60 rfl _ rfl w.heap.size 4 ?x4e ?x4f ?x4g L.res ?_); (case x4e => rfl); (case x4f => simp [go_sem]); (case x4g => simp [go_sem])))
      go_simp
      refine fin_ 4 rfl ?_ L.res ?_
      · rfl
      · exact ⟨rfl, below_setRow L.below (Nat.le_refl _) _⟩
    · go_wp2_with (first
        | ((with_reducible refine load15 rfl (.tmp 3) rfl b3 7 ?x5a L.h3 ?_); (case x5a => simp [go_sem]))
        | ((with_reducible refine load15 rfl (.tmp 4) rfl b4 15 ?x5b L.h4 ?_); (case x5b => simp [go_sem]))
        | ((with_reducible refine load15 rfl (.tmp 5) rfl b5 20 ?x5c L.h5 ?_); (case x5c => simp [go_sem]))
        | ((with_reducible refine wpList_buildTo rfl 211 _ rfl (CM.uA 5) ?x5d ?_); (case x5d => kernel_rfl))
        | ((with_reducible refine store60 rfl _ rfl w.heap.size 5 ?x5e ?x5f ?x5g L.res ?_); (case x5e => rfl); (case x5f => simp [go_sem]); (case x5g => simp [go_sem])))
      go_simp
      refine fin_ 5 rfl ?_ L.res ?_
      · rfl
      · exact ⟨rfl, below_setRow L.below (Nat.le_refl _) _⟩
    · go_wp2_with (first
        | ((with_reducible refine load15 rfl (.tmp 3) rfl b3 7 ?x6a L.h3 ?_); (case x6a => simp [go_sem]))
        | ((with_reducible refine load15 rfl (.tmp 4) rfl b4 15 ?x6b L.h4 ?_); (case x6b => simp [go_sem]))
        | ((with_reducible refine load15 rfl (.tmp 5) rfl b5 20 ?x6c L.h5 ?_); (case x6c => simp [go_sem]))
        | ((with_reducible refine wpList_buildTo rfl 211 _ rfl (CM.uA 6) ?x6d ?_); (case x6d => kernel_rfl))
        | ((with_reducible refine store60 rfl _ rfl w.heap.size 6 ?x6e ?x6f ?x6g L.res ?_); (case x6e => rfl); (case x6f => simp [go_sem]); (case x6g => simp [go_sem])))
      go_simp
      refine fin_ 6 rfl ?_ L.res ?_
      · rfl
      · exact ⟨rfl, below_setRow L.below (Nat.le_refl _) _⟩
    · go_wp2_with (first
        | ((with_reducible refine load15 rfl (.tmp 3) rfl b3 7 ?x7a L.h3 ?_); (case x7a => simp [go_sem]))
        | ((with_reducible refine load15 rfl (.tmp 4) rfl b4 15 ?x7b L.h4 ?_); (case x7b => simp [go_sem]))
        | ((with_reducible refine load15 rfl (.tmp 5) rfl b5 20 ?x7c L.h5 ?_); (case x7c => simp [go_sem]))
        | ((with_reducible refine wpList_buildTo rfl 211 _ rfl (CM.uA 7) ?x7d ?_); (case x7d => kernel_rfl))
        | ((with_reducible refine store60 rfl _ rfl w.heap.size 7 ?x7e ?x7f ?x7g L.res ?_); (case x7e => rfl); (case x7f => simp [go_sem]); (case x7g => simp [go_sem])))
      go_simp
      refine fin_ 7 rfl ?_ L.res ?_
      · rfl
      · exact ⟨rfl, below_setRow L.below (Nat.le_refl _) _⟩
    · go_wp2_with (first
        | ((with_reducible refine load15 rfl (.tmp 3) rfl b3 7 ?x8a L.h3 ?_); (case x8a => simp [go_sem]))
        | ((with_reducible refine load15 rfl (.tmp 4) rfl b4 15 ?x8b L.h4 ?_); (case x8b => simp [go_sem]))
        | ((with_reducible refine load15 rfl (.tmp 5) rfl b5 20 ?x8c L.h5 ?_); (case x8c => simp [go_sem]))
        | ((with_reducible refine wpList_buildTo rfl 211 _ rfl (CM.uA 8) ?x8d ?_); (case x8d => kernel_rfl))
        | ((with_reducible refine store60 rfl _ rfl w.heap.size 8 ?x8e ?x8f ?x8g L.res ?_); (case x8e => rfl); (case x8f => simp [go_sem]); (case x8g => simp [go_sem])))
      go_simp
      refine fin_ 8 rfl ?_ L.res ?_
      · rfl
      · exact ⟨rfl, below_setRow L.below (Nat.le_refl _) _⟩
    · have q0 : wc.cell? ⟨b4, 0, none⟩ = some (.int .i64 0) := cell_of_row wc b4 0 _ _ _ L.h4
      have q1 : wc.cell? ⟨b4, 1, none⟩ = some (.int .i64 31) := cell_of_row wc b4 1 _ _ _ L.h4
      have q2 : wc.cell? ⟨b4, 2, none⟩ = some (.int .i64 1) := cell_of_row wc b4 2 _ _ _ L.h4
      have q3 : wc.cell? ⟨b4, 3, none⟩ = some (.int .i64 0) := cell_of_row wc b4 3 _ _ _ L.h4
      have q4 : wc.cell? ⟨b4, 4, none⟩ = some (.int .i64 5) := cell_of_row wc b4 4 _ _ _ L.h4
      have q5 : wc.cell? ⟨b4, 5, none⟩ = some (.int .i64 15) := cell_of_row wc b4 5 _ _ _ L.h4
      have q6 : wc.cell? ⟨b4, 6, none⟩ = some (.int .i64 0) := cell_of_row wc b4 6 _ _ _ L.h4
      have q7 : wc.cell? ⟨b4, 7, none⟩ = some (.int .i64 0) := cell_of_row wc b4 7 _ _ _ L.h4
      have q8 : wc.cell? ⟨b4, 8, none⟩ = some (.int .i64 0) := cell_of_row wc b4 8 _ _ _ L.h4
      have q9 : wc.cell? ⟨b4, 9, none⟩ = some (.int .i64 0) := cell_of_row wc b4 9 _ _ _ L.h4
      have q10 : wc.cell? ⟨b4, 10, none⟩ = some (.int .i64 0) := cell_of_row wc b4 10 _ _ _ L.h4
      have q11 : wc.cell? ⟨b4, 11, none⟩ = some (.int .i64 0) := cell_of_row wc b4 11 _ _ _ L.h4
      have q12 : wc.cell? ⟨b4, 12, none⟩ = some (.int .i64 0) := cell_of_row wc b4 12 _ _ _ L.h4
      have q13 : wc.cell? ⟨b4, 13, none⟩ = some (.int .i64 0) := cell_of_row wc b4 13 _ _ _ L.h4
      have q14 : wc.cell? ⟨b4, 14, none⟩ = some (.int .i64 0) := cell_of_row wc b4 14 _ _ _ L.h4
      have r3 : wc.cell? ⟨b5, 3, none⟩ = some (.int .i64 0) := cell_of_row wc b5 3 _ _ _ L.h5
      have r4 : wc.cell? ⟨b5, 4, none⟩ = some (.int .i64 5) := cell_of_row wc b5 4 _ _ _ L.h5
      have r5 : wc.cell? ⟨b5, 5, none⟩ = some (.int .i64 20) := cell_of_row wc b5 5 _ _ _ L.h5
      have z : ∀ j, wc.frozen? ⟨b4, j, none⟩ = false := fun j => by simp [World.frozen?, L.h4]
      have z6 := z 6
      have z7 := z 7
      have z8 := z 8
      clear z
      go_wp2_with (first
        | ((with_reducible refine load15 rfl (.tmp 3) rfl b3 7 ?x9a (L.h3' _ _ _) ?_); (case x9a => simp [go_sem]))
        | ((with_reducible refine wpList_buildTo rfl 211 _ rfl (CM.uA 9) ?x9d ?_); (case x9d => kernel_rfl))
        | ((with_reducible refine store60 rfl _ rfl w.heap.size 9 ?x9e ?x9f ?x9g (L.res' _ _ _) ?_); (case x9e => rfl); (case x9f => simp [go_sem]); (case x9g => simp [go_sem])))
      go_simp
      refine fin_ 9 rfl ?_ (L.res' _ _ _) ?_
      · rfl
      · exact ⟨rfl, below_setRow (((L.below.setCell (Nat.le_of_lt L.l4) _).setCell (Nat.le_of_lt L.l4) _).setCell (Nat.le_of_lt L.l4) _) (Nat.le_refl _) _⟩
    · go_wp2_with (first
        | ((with_reducible refine load15 rfl (.tmp 3) rfl b3 7 ?x10a L.h3 ?_); (case x10a => simp [go_sem]))
        | ((with_reducible refine load15 rfl (.tmp 4) rfl b4 15 ?x10b L.h4 ?_); (case x10b => simp [go_sem]))
        | ((with_reducible refine load15 rfl (.tmp 5) rfl b5 20 ?x10c L.h5 ?_); (case x10c => simp [go_sem]))
        | ((with_reducible refine wpList_buildTo rfl 211 _ rfl (CM.uA 10) ?x10d ?_); (case x10d => kernel_rfl))
        | ((with_reducible refine store60 rfl _ rfl w.heap.size 10 ?x10e ?x10f ?x10g L.res ?_); (case x10e => rfl); (case x10f => simp [go_sem]); (case x10g => simp [go_sem])))
      go_simp
      refine fin_ 10 rfl ?_ L.res ?_
      · rfl
      · exact ⟨rfl, below_setRow L.below (Nat.le_refl _) _⟩

end CU
end Go.Proofs.YtlmblfkcmhgdaaaGreat
namespace Go.Proofs.YtlmblfkcmhgdaaaGreat
open Go.RowKit Go.Maps
set_option linter.unusedVariables false
set_option linter.unusedSimpArgs false
namespace CF
open CC
/-- how a form reads: kind, op, f3, f7 -/
def formR (v : Value) : Option (DataW Unit × List MemPlace) :=
  match v with
  | .agg cs => match cs.toList with
    | [.int .i64 a, .int .u32 b, .int .u32 c, .int .u32 d] => some (.agg [.lit (.int .i64 a), .lit (.int .u32 b), .lit (.int .u32 c), .lit (.int .u32 d)], [])
    | _ => none
  | _ => none
def formV (a b c d : Int) : Value := .agg #[.int .i64 a, .int .u32 b, .int .u32 c, .int .u32 d]
def formD (a b c d : Int) : DataW Unit := .agg [.lit (.int .i64 a), .lit (.int .u32 b), .lit (.int .u32 c), .lit (.int .u32 d)]
theorem formR_mk (a b c d : Int) : formR (formV a b c d) = some (formD a b c d, []) := rfl
theorem formR_inv {v : Value} {z : DataW Unit × List MemPlace} (h : formR v = some z) : ∃ a b c d, v = formV a b c d ∧ z = (formD a b c d, []) := by
  unfold formR at h
  split at h
  · rename_i cs
    split at h
    · rename_i a b c d e
      refine ⟨a, b, c, d, ?_, ?_⟩
      · unfold formV
        have : cs = cs.toList.toArray := by simp
        rw [this, e]
      · exact (Option.some.inj h).symm
    · cases h
  · cases h
theorem keyed : Keyed Tryz.prog 3 := int_keyed Tryz.underlying3
/-- the map under way: n entries at most, that read as D -/
structure Made (w0 w : World) (b n : Nat) (D : DataW Unit) : Prop where
  own : w.ownsMap Tryz.prog 3 formR b n D
  below : Below w0.heap.size w0 w
  new : w0.heap.size ≤ b
theorem made (w : World) : Made w (w.alloc (.map #[] 0)) w.heap.size 0 (.map []) := ⟨World.ownsMap_made _ _ _ _, (Below.refl _ _).alloc (Nat.le_refl _) _, Nat.le_refl _⟩
theorem step {w0 w : World} {b n : Nat} {D : DataW Unit} (S : Made w0 w b n D) (hn : n < 1000) (key p q r s : Int) (hw : (Lit.int .i64 key).wf = true) :
    ∃ w', (Instr.mapUpdate 203 (.map (some b)) (.int .i64 key) (.agg #[.int .i64 p, .int .u32 q, .int .u32 r, .int .u32 s])).run Tryz.prog w = .ok () w' ∧ Made w0 w' b (n + 1) (D.put (.int .i64 key) (formD p q r s)) := by
  obtain ⟨w', hrun, r1, r2⟩ := S.own.update keyed Tryz.underlying203 (by unfold maxLen; omega) (keyOf_int_mk Tryz.underlying3 hw) (formR_mk p q r s)
  refine ⟨w', hrun, r1, S.below.grown r2 S.below.size ?_, S.new⟩
  intro k hk
  cases hk
  exact S.new
/-- what the forms read as -/
def forms : DataW Unit := .map [
  (.int .i64 1, formD 0 51 0 0),
  (.int .i64 2, formD 0 51 0 32),
  (.int .i64 3, formD 0 51 1 0),
  (.int .i64 4, formD 0 51 2 0),
  (.int .i64 5, formD 0 51 3 0),
  (.int .i64 6, formD 0 51 4 0),
  (.int .i64 7, formD 0 51 5 0),
  (.int .i64 8, formD 0 51 5 32),
  (.int .i64 9, formD 0 51 6 0),
  (.int .i64 10, formD 0 51 7 0),
  (.int .i64 11, formD 0 51 0 1),
  (.int .i64 12, formD 0 51 1 1),
  (.int .i64 13, formD 0 51 3 1),
  (.int .i64 14, formD 0 51 4 1),
  (.int .i64 15, formD 0 51 5 1),
  (.int .i64 16, formD 0 51 6 1),
  (.int .i64 17, formD 0 51 7 1),
  (.int .i64 18, formD 1 19 0 0),
  (.int .i64 19, formD 1 19 2 0),
  (.int .i64 20, formD 1 19 3 0),
  (.int .i64 21, formD 1 19 4 0),
  (.int .i64 22, formD 1 19 6 0),
  (.int .i64 23, formD 1 19 7 0),
  (.int .i64 24, formD 2 19 1 0),
  (.int .i64 25, formD 2 19 5 0),
  (.int .i64 26, formD 2 19 5 32),
  (.int .i64 27, formD 1 3 0 0),
  (.int .i64 28, formD 1 3 4 0),
  (.int .i64 29, formD 1 3 2 0),
  (.int .i64 30, formD 3 35 0 0),
  (.int .i64 31, formD 3 35 2 0),
  (.int .i64 32, formD 4 99 0 0),
  (.int .i64 33, formD 4 99 1 0),
  (.int .i64 34, formD 4 99 4 0),
  (.int .i64 35, formD 4 99 5 0),
  (.int .i64 36, formD 4 99 6 0),
  (.int .i64 37, formD 4 99 7 0),
  (.int .i64 38, formD 5 55 0 0),
  (.int .i64 39, formD 5 23 0 0),
  (.int .i64 40, formD 6 111 0 0),
  (.int .i64 41, formD 1 103 0 0),
  (.int .i64 42, formD 7 115 0 0),
  (.int .i64 43, formD 1 7 3 0),
  (.int .i64 44, formD 3 39 3 0),
  (.int .i64 45, formD 8 83 0 1),
  (.int .i64 46, formD 8 83 0 5),
  (.int .i64 47, formD 8 83 0 9),
  (.int .i64 48, formD 8 83 0 13),
  (.int .i64 49, formD 9 83 0 17),
  (.int .i64 50, formD 9 83 1 17),
  (.int .i64 51, formD 8 83 2 81),
  (.int .i64 52, formD 8 83 1 81),
  (.int .i64 53, formD 8 83 0 81),
  (.int .i64 54, formD 10 83 1 97),
  (.int .i64 55, formD 10 83 0 105)]
theorem Made.of_eq {w0 w : World} {b n : Nat} {D D' : DataW Unit} (S : Made w0 w b n D) (h : D = D') : Made w0 w b n D' := h ▸ S
set_option maxRecDepth 100000 in
set_option maxHeartbeats 2000000 in
theorem forms_ (w : World) : Calls Tryz.prog 119 #[] w fun e w' => ∃ b, e = .returned (.map (some b)) ∧ Made w w' b 55 forms := by
  have hmm := @run_makeMap Tryz.prog
  have S0 := made w
  obtain ⟨w1, r1, S1⟩ := step S0 (by omega) 1 0 51 0 0 (by decide); clear S0
  obtain ⟨w2, r2, S2⟩ := step S1 (by omega) 2 0 51 0 32 (by decide); clear S1
  obtain ⟨w3, r3, S3⟩ := step S2 (by omega) 3 0 51 1 0 (by decide); clear S2
  obtain ⟨w4, r4, S4⟩ := step S3 (by omega) 4 0 51 2 0 (by decide); clear S3
  obtain ⟨w5, r5, S5⟩ := step S4 (by omega) 5 0 51 3 0 (by decide); clear S4
  obtain ⟨w6, r6, S6⟩ := step S5 (by omega) 6 0 51 4 0 (by decide); clear S5
  obtain ⟨w7, r7, S7⟩ := step S6 (by omega) 7 0 51 5 0 (by decide); clear S6
  obtain ⟨w8, r8, S8⟩ := step S7 (by omega) 8 0 51 5 32 (by decide); clear S7
  obtain ⟨w9, r9, S9⟩ := step S8 (by omega) 9 0 51 6 0 (by decide); clear S8
  obtain ⟨w10, r10, S10⟩ := step S9 (by omega) 10 0 51 7 0 (by decide); clear S9
  obtain ⟨w11, r11, S11⟩ := step S10 (by omega) 11 0 51 0 1 (by decide); clear S10
  obtain ⟨w12, r12, S12⟩ := step S11 (by omega) 12 0 51 1 1 (by decide); clear S11
  obtain ⟨w13, r13, S13⟩ := step S12 (by omega) 13 0 51 3 1 (by decide); clear S12
  obtain ⟨w14, r14, S14⟩ := step S13 (by omega) 14 0 51 4 1 (by decide); clear S13
  obtain ⟨w15, r15, S15⟩ := step S14 (by omega) 15 0 51 5 1 (by decide); clear S14
  obtain ⟨w16, r16, S16⟩ := step S15 (by omega) 16 0 51 6 1 (by decide); clear S15
  obtain ⟨w17, r17, S17⟩ := step S16 (by omega) 17 0 51 7 1 (by decide); clear S16
  obtain ⟨w18, r18, S18⟩ := step S17 (by omega) 18 1 19 0 0 (by decide); clear S17
  obtain ⟨w19, r19, S19⟩ := step S18 (by omega) 19 1 19 2 0 (by decide); clear S18
  obtain ⟨w20, r20, S20⟩ := step S19 (by omega) 20 1 19 3 0 (by decide); clear S19
  obtain ⟨w21, r21, S21⟩ := step S20 (by omega) 21 1 19 4 0 (by decide); clear S20
  obtain ⟨w22, r22, S22⟩ := step S21 (by omega) 22 1 19 6 0 (by decide); clear S21
  obtain ⟨w23, r23, S23⟩ := step S22 (by omega) 23 1 19 7 0 (by decide); clear S22
  obtain ⟨w24, r24, S24⟩ := step S23 (by omega) 24 2 19 1 0 (by decide); clear S23
  obtain ⟨w25, r25, S25⟩ := step S24 (by omega) 25 2 19 5 0 (by decide); clear S24
  obtain ⟨w26, r26, S26⟩ := step S25 (by omega) 26 2 19 5 32 (by decide); clear S25
  obtain ⟨w27, r27, S27⟩ := step S26 (by omega) 27 1 3 0 0 (by decide); clear S26
  obtain ⟨w28, r28, S28⟩ := step S27 (by omega) 29 1 3 2 0 (by decide); clear S27
  obtain ⟨w29, r29, S29⟩ := step S28 (by omega) 28 1 3 4 0 (by decide); clear S28
  obtain ⟨w30, r30, S30⟩ := step S29 (by omega) 41 1 103 0 0 (by decide); clear S29
  obtain ⟨w31, r31, S31⟩ := step S30 (by omega) 43 1 7 3 0 (by decide); clear S30
  obtain ⟨w32, r32, S32⟩ := step S31 (by omega) 30 3 35 0 0 (by decide); clear S31
  obtain ⟨w33, r33, S33⟩ := step S32 (by omega) 31 3 35 2 0 (by decide); clear S32
  obtain ⟨w34, r34, S34⟩ := step S33 (by omega) 44 3 39 3 0 (by decide); clear S33
  obtain ⟨w35, r35, S35⟩ := step S34 (by omega) 32 4 99 0 0 (by decide); clear S34
  obtain ⟨w36, r36, S36⟩ := step S35 (by omega) 33 4 99 1 0 (by decide); clear S35
  obtain ⟨w37, r37, S37⟩ := step S36 (by omega) 34 4 99 4 0 (by decide); clear S36
  obtain ⟨w38, r38, S38⟩ := step S37 (by omega) 35 4 99 5 0 (by decide); clear S37
  obtain ⟨w39, r39, S39⟩ := step S38 (by omega) 36 4 99 6 0 (by decide); clear S38
  obtain ⟨w40, r40, S40⟩ := step S39 (by omega) 37 4 99 7 0 (by decide); clear S39
  obtain ⟨w41, r41, S41⟩ := step S40 (by omega) 38 5 55 0 0 (by decide); clear S40
  obtain ⟨w42, r42, S42⟩ := step S41 (by omega) 39 5 23 0 0 (by decide); clear S41
  obtain ⟨w43, r43, S43⟩ := step S42 (by omega) 40 6 111 0 0 (by decide); clear S42
  obtain ⟨w44, r44, S44⟩ := step S43 (by omega) 42 7 115 0 0 (by decide); clear S43
  obtain ⟨w45, r45, S45⟩ := step S44 (by omega) 45 8 83 0 1 (by decide); clear S44
  obtain ⟨w46, r46, S46⟩ := step S45 (by omega) 46 8 83 0 5 (by decide); clear S45
  obtain ⟨w47, r47, S47⟩ := step S46 (by omega) 47 8 83 0 9 (by decide); clear S46
  obtain ⟨w48, r48, S48⟩ := step S47 (by omega) 48 8 83 0 13 (by decide); clear S47
  obtain ⟨w49, r49, S49⟩ := step S48 (by omega) 51 8 83 2 81 (by decide); clear S48
  obtain ⟨w50, r50, S50⟩ := step S49 (by omega) 52 8 83 1 81 (by decide); clear S49
  obtain ⟨w51, r51, S51⟩ := step S50 (by omega) 53 8 83 0 81 (by decide); clear S50
  obtain ⟨w52, r52, S52⟩ := step S51 (by omega) 49 9 83 0 17 (by decide); clear S51
  obtain ⟨w53, r53, S53⟩ := step S52 (by omega) 50 9 83 1 17 (by decide); clear S52
  obtain ⟨w54, r54, S54⟩ := step S53 (by omega) 54 10 83 1 97 (by decide); clear S53
  obtain ⟨w55, r55, S55⟩ := step S54 (by omega) 55 10 83 0 105 (by decide); clear S54
  go_enter Tryz.func119, Tryz.ntmps119
  go_wp2
  go_ret
  exact ⟨_, rfl, S55.of_eq (by kernel_rfl)⟩
end CF
end Go.Proofs.YtlmblfkcmhgdaaaGreat
