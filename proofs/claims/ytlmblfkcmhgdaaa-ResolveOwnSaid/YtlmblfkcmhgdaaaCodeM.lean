/-
  The plain arithmetic of instructions' words: the table of the Ops, the word of an instruction's parts, the parts of a word, and that each leads back to the other. No condition. It speaks of no program.
-/
import Derived.WalkKit
import Derived.IntWalk
namespace Go.Proofs.Ytlmblfkcmhgdaaa
open Go.RowKit
set_option linter.unusedVariables false
namespace CM
/-- of an Op: its kind, op, f3, f7 -/
def row : Nat → Int × Int × Int × Int
  | 1 => (0, 51, 0, 0) | 2 => (0, 51, 0, 32) | 3 => (0, 51, 1, 0) | 4 => (0, 51, 2, 0) | 5 => (0, 51, 3, 0)
  | 6 => (0, 51, 4, 0) | 7 => (0, 51, 5, 0) | 8 => (0, 51, 5, 32) | 9 => (0, 51, 6, 0) | 10 => (0, 51, 7, 0)
  | 11 => (0, 51, 0, 1) | 12 => (0, 51, 1, 1) | 13 => (0, 51, 3, 1) | 14 => (0, 51, 4, 1) | 15 => (0, 51, 5, 1)
  | 16 => (0, 51, 6, 1) | 17 => (0, 51, 7, 1)
  | 18 => (1, 19, 0, 0) | 19 => (1, 19, 2, 0) | 20 => (1, 19, 3, 0) | 21 => (1, 19, 4, 0) | 22 => (1, 19, 6, 0) | 23 => (1, 19, 7, 0)
  | 24 => (2, 19, 1, 0) | 25 => (2, 19, 5, 0) | 26 => (2, 19, 5, 32)
  | 27 => (1, 3, 0, 0) | 28 => (1, 3, 4, 0) | 29 => (1, 3, 2, 0)
  | 30 => (3, 35, 0, 0) | 31 => (3, 35, 2, 0)
  | 32 => (4, 99, 0, 0) | 33 => (4, 99, 1, 0) | 34 => (4, 99, 4, 0) | 35 => (4, 99, 5, 0) | 36 => (4, 99, 6, 0) | 37 => (4, 99, 7, 0)
  | 38 => (5, 55, 0, 0) | 39 => (5, 23, 0, 0) | 40 => (6, 111, 0, 0) | 41 => (1, 103, 0, 0) | 42 => (7, 115, 0, 0)
  | 43 => (1, 7, 3, 0) | 44 => (3, 39, 3, 0)
  | 45 => (8, 83, 0, 1) | 46 => (8, 83, 0, 5) | 47 => (8, 83, 0, 9) | 48 => (8, 83, 0, 13)
  | 49 => (9, 83, 0, 17) | 50 => (9, 83, 1, 17)
  | 51 => (8, 83, 2, 81) | 52 => (8, 83, 1, 81) | 53 => (8, 83, 0, 81)
  | 54 => (10, 83, 1, 97) | 55 => (10, 83, 0, 105)
  | _ => (11, 0, 0, 0)
def kd (op : Int) : Int := (row op.toNat).1
def o7 (op : Int) : Int := (row op.toNat).2.1
def f3 (op : Int) : Int := (row op.toNat).2.2.1
def f7 (op : Int) : Int := (row op.toNat).2.2.2
def isOp (op : Int) : Bool := decide (1 ≤ op ∧ op ≤ 55)
theorem isOp_yes {op : Int} (h : isOp op = true) : 1 ≤ op ∧ op ≤ 55 := by simpa [isOp] using h
theorem isOp_no {op : Int} (h : isOp op = false) : ¬ (1 ≤ op ∧ op ≤ 55) := by simpa [isOp] using h
/-- what holds of each row, is held against the whole table -/
theorem all_ops (p : Int → Bool) (h : ((List.range 55).all fun n => p ((n + 1 : Nat) : Int)) = true) {op : Int} (ho : isOp op = true) : p op = true := by
  have hb := isOp_yes ho
  have h1 := List.all_eq_true.1 h (op - 1).toNat (List.mem_range.2 (by omega))
  have e : ((((op - 1).toNat + 1 : Nat)) : Int) = op := by omega
  rw [e] at h1
  exact h1
/-- what a row may be -/
def ft (k o a b : Int) : Bool :=
  decide (0 ≤ k ∧ k ≤ 10 ∧ 0 ≤ o ∧ o ≤ 127 ∧ 0 ≤ a ∧ a ≤ 7 ∧ 0 ≤ b ∧ b ≤ 127) &&
  (!(k == 1 || k == 3 || k == 4) || b == 0) && (!(k == 5 || k == 6 || k == 7) || (a == 0 && b == 0))
theorem ft_row {op : Int} (h : isOp op = true) : ft (kd op) (o7 op) (f3 op) (f7 op) = true :=
  all_ops (fun op => ft (kd op) (o7 op) (f3 op) (f7 op)) (by decide +kernel) h
def uRd (k : Int) : Bool := k == 0 || k == 8 || k == 1 || k == 2 || k == 5 || k == 6 || k == 9 || k == 10
def uRs1 (k : Int) : Bool := k == 0 || k == 8 || k == 1 || k == 2 || k == 3 || k == 4 || k == 9 || k == 10
def uRs2 (k : Int) : Bool := k == 0 || k == 8 || k == 3 || k == 4
def uImm (k : Int) : Bool := k == 1 || k == 2 || k == 3 || k == 4 || k == 5 || k == 6
/-- may it be the Imm of this kind? -/
def fits (k n : Int) : Bool :=
  if k = 1 ∨ k = 3 then decide (-2048 ≤ n ∧ n ≤ 2047)
  else if k = 2 then decide (0 ≤ n ∧ n ≤ 31)
  else if k = 4 then decide (-4096 ≤ n ∧ n ≤ 4094 ∧ n % 2 = 0)
  else if k = 5 then decide (0 ≤ n ∧ n ≤ 1048575)
  else if k = 6 then decide (-1048576 ≤ n ∧ n ≤ 1048574 ∧ n % 2 = 0)
  else false
def isReg (n : Int) : Bool := decide (0 ≤ n ∧ n ≤ 31)
/-- something isn't 0 that isn't used -/
def bad2 (k rd rs1 rs2 imm : Int) : Bool := (!uRd k && rd != 0) || (!uRs1 k && rs1 != 0) || (!uRs2 k && rs2 != 0) || (!uImm k && imm != 0)
/-- something that is used is outside -/
def bad1 (k rd rs1 rs2 imm : Int) : Bool := (uRd k && !isReg rd) || (uRs1 k && !isReg rs1) || (uRs2 k && !isReg rs2) || (uImm k && !fits k imm)
def fault (k rd rs1 rs2 imm : Int) : Int := if bad2 k rd rs1 rs2 imm then 2 else if bad1 k rd rs1 rs2 imm then 1 else 0
/-- the word of parts that are right -/
def word (k o a b rd rs1 rs2 n : Int) : Int :=
  if k = 0 ∨ k = 8 then o + 128 * rd + 4096 * a + 32768 * rs1 + 1048576 * rs2 + 33554432 * b
  else if k = 1 then o + 128 * rd + 4096 * a + 32768 * rs1 + 1048576 * (n % 4096)
  else if k = 2 then o + 128 * rd + 4096 * a + 32768 * rs1 + 1048576 * n + 33554432 * b
  else if k = 3 then o + 128 * (n % 32) + 4096 * a + 32768 * rs1 + 1048576 * rs2 + 33554432 * (n / 32 % 128)
  else if k = 4 then o + 128 * (n / 2048 % 2) + 256 * (n / 2 % 16) + 4096 * a + 32768 * rs1 + 1048576 * rs2 + 33554432 * (n / 32 % 64) + 2147483648 * (n / 4096 % 2)
  else if k = 5 then o + 128 * rd + 4096 * n
  else if k = 6 then o + 128 * rd + 4096 * (n / 4096 % 256) + 1048576 * (n / 2048 % 2) + 2097152 * (n / 2 % 1024) + 2147483648 * (n / 1048576 % 2)
  else if k = 7 then o
  else if k = 9 then o + 128 * rd + 4096 * a + 32768 * rs1 + 1048576 * rs1 + 33554432 * b
  else o + 128 * rd + 4096 * a + 32768 * rs1 + 33554432 * b
def low (n m : Int) : Int := if n > m then n - (2 * m + 2) else n
/-- the parts of a word, of the kind -/
def rdOf (k w : Int) : Int := if uRd k then w / 128 % 32 else 0
def rs1Of (k w : Int) : Int := if uRs1 k then w / 32768 % 32 else 0
def rs2Of (k w : Int) : Int := if uRs2 k then w / 1048576 % 32 else 0
def immOf (k w : Int) : Int :=
  if k = 1 then (if w / 1048576 % 4096 ≤ 2047 then w / 1048576 % 4096 else w / 1048576 % 4096 - 4096)
  else if k = 2 then w / 1048576 % 32
  else if k = 3 then (if w / 128 % 32 + 32 * (w / 33554432 % 128) ≤ 2047 then w / 128 % 32 + 32 * (w / 33554432 % 128) else w / 128 % 32 + 32 * (w / 33554432 % 128) - 4096)
  else if k = 4 then 2 * (w / 256 % 16) + 32 * (w / 33554432 % 64) + 2048 * (w / 128 % 2) - 4096 * (w / 2147483648 % 2)
  else if k = 5 then w / 4096 % 1048576
  else if k = 6 then 2 * (w / 2097152 % 1024) + 2048 * (w / 1048576 % 2) + 4096 * (w / 4096 % 256) - 1048576 * (w / 2147483648 % 2)
  else 0
/-- the code's Rs1 of a word: of kind 9 of both places together -/
def rs1Code (k w : Int) : Int := if k = 9 then (((w / 32768 % 32).toNat ||| (w / 1048576 % 32).toNat : Nat) : Int) else rs1Of k w
theorem kinds {k o a b : Int} (h : ft k o a b = true) : k = 0 ∨ k = 1 ∨ k = 2 ∨ k = 3 ∨ k = 4 ∨ k = 5 ∨ k = 6 ∨ k = 7 ∨ k = 8 ∨ k = 9 ∨ k = 10 := by
  simp only [ft, Bool.and_eq_true, decide_eq_true_eq] at h
  omega
theorem ft_bd {k o a b : Int} (h : ft k o a b = true) : 0 ≤ o ∧ o ≤ 127 ∧ 0 ≤ a ∧ a ≤ 7 ∧ 0 ≤ b ∧ b ≤ 127 ∧ (k = 1 ∨ k = 3 ∨ k = 4 → b = 0) ∧ (k = 5 ∨ k = 6 ∨ k = 7 → a = 0 ∧ b = 0) := by
  simp only [ft, Bool.and_eq_true, decide_eq_true_eq, Bool.or_eq_true, Bool.not_eq_true', beq_iff_eq, Bool.or_eq_false_iff, beq_eq_false_iff_ne] at h
  omega
/-- parts that are right -/
def Good (k rd rs1 rs2 n : Int) : Prop :=
  (0 ≤ rd ∧ rd ≤ 31) ∧ (0 ≤ rs1 ∧ rs1 ≤ 31) ∧ (0 ≤ rs2 ∧ rs2 ≤ 31) ∧
  (uRd k = false → rd = 0) ∧ (uRs1 k = false → rs1 = 0) ∧ (uRs2 k = false → rs2 = 0) ∧ (uImm k = false → n = 0) ∧ (uImm k = true → fits k n = true)
theorem fault_eq (k rd rs1 rs2 n : Int) : fault k rd rs1 rs2 n = 0 ∨ fault k rd rs1 rs2 n = 1 ∨ fault k rd rs1 rs2 n = 2 := by
  unfold fault; cases bad2 k rd rs1 rs2 n <;> cases bad1 k rd rs1 rs2 n <;> simp
theorem good_of {k rd rs1 rs2 n : Int} (h : fault k rd rs1 rs2 n = 0) : Good k rd rs1 rs2 n := by
  unfold fault at h
  split at h
  · omega
  · rename_i h2
    split at h
    · omega
    · rename_i h1
      simp only [bad2, bad1, Bool.or_eq_true, Bool.and_eq_true, Bool.not_eq_true', bne_iff_ne, not_or, not_and, Decidable.not_not, isReg, decide_eq_false_iff_not] at h1 h2
      obtain ⟨⟨⟨p1, p2⟩, p3⟩, p4⟩ := h1
      obtain ⟨⟨⟨q1, q2⟩, q3⟩, q4⟩ := h2
      refine ⟨?_, ?_, ?_, q1, q2, q3, q4, fun h => by simpa using p4 h⟩
      · cases e : uRd k with
        | true => simpa using p1 e
        | false => have := q1 e; omega
      · cases e : uRs1 k with
        | true => simpa using p2 e
        | false => have := q2 e; omega
      · cases e : uRs2 k with
        | true => simpa using p3 e
        | false => have := q3 e; omega
theorem fault_good {k rd rs1 rs2 n : Int} (h : Good k rd rs1 rs2 n) : fault k rd rs1 rs2 n = 0 := by
  obtain ⟨a1, a2, a3, b1, b2, b3, b4, b5⟩ := h
  have e2 : bad2 k rd rs1 rs2 n = false := by
    unfold bad2
    cases h1 : uRd k <;> cases h2 : uRs1 k <;> cases h3 : uRs2 k <;> cases h4 : uImm k <;> simp_all
  have e1 : bad1 k rd rs1 rs2 n = false := by
    have r1 : isReg rd = true := by simp [isReg]; omega
    have r2 : isReg rs1 = true := by simp [isReg]; omega
    have r3 : isReg rs2 = true := by simp [isReg]; omega
    unfold bad1
    rw [r1, r2, r3]
    cases h4 : uImm k with
    | true => rw [b5 h4]; simp
    | false => simp
  unfold fault
  rw [e2, e1]; rfl

/-! ### there and back -/
theorem word_bd {k o a b rd rs1 rs2 n : Int} (hf : ft k o a b = true) (g : Good k rd rs1 rs2 n) : 0 ≤ word k o a b rd rs1 rs2 n ∧ word k o a b rd rs1 rs2 n < 4294967296 := by
  have hb := ft_bd hf
  obtain ⟨a1, a2, a3, b1, b2, b3, b4, b5⟩ := g
  rcases kinds hf with h | h | h | h | h | h | h | h | h | h | h <;> subst h <;> simp [uRd, uRs1, uRs2, uImm, fits] at b1 b2 b3 b4 b5 <;> simp [word] <;> omega
/-- the fields of a word -/
theorem fields {o A a B C D w : Int} (ho : 0 ≤ o ∧ o ≤ 127) (hA : 0 ≤ A ∧ A ≤ 31) (ha : 0 ≤ a ∧ a ≤ 7) (hB : 0 ≤ B ∧ B ≤ 31) (hC : 0 ≤ C ∧ C ≤ 31) (hD : 0 ≤ D ∧ D ≤ 127)
    (e : o + 128 * A + 4096 * a + 32768 * B + 1048576 * C + 33554432 * D = w) :
    w % 128 = o ∧ w / 128 % 32 = A ∧ w / 4096 % 8 = a ∧ w / 32768 % 32 = B ∧ w / 1048576 % 32 = C ∧ w / 33554432 % 128 = D ∧ w / 33554432 = D ∧ w / 1048576 % 4096 = C + 32 * D ∧ w / 128 % 2 = A % 2 ∧ w / 256 % 16 = A / 2 ∧ w / 33554432 % 64 = D % 64 ∧ w / 2147483648 % 2 = D / 64 := by
  subst e
  refine ⟨?_, ?_, ?_, ?_, ?_, ?_, ?_, ?_, ?_, ?_, ?_, ?_⟩ <;> omega
theorem fieldsU {o A X w : Int} (ho : 0 ≤ o ∧ o ≤ 127) (hA : 0 ≤ A ∧ A ≤ 31) (hX : 0 ≤ X ∧ X ≤ 1048575)
    (e : o + 128 * A + 4096 * X = w) :
    w % 128 = o ∧ w / 128 % 32 = A ∧ w / 4096 % 1048576 = X ∧ w / 4096 = X ∧ w / 4096 % 256 = X % 256 ∧ w / 1048576 % 2 = X / 256 % 2 ∧ w / 2097152 % 1024 = X / 512 % 1024 ∧ w / 2147483648 % 2 = X / 524288 := by
  subst e
  refine ⟨?_, ?_, ?_, ?_, ?_, ?_, ?_, ?_⟩ <;> omega
/-- a word by its fields -/
def six (o A a B C D : Int) : Int := o + 128 * A + 4096 * a + 32768 * B + 1048576 * C + 33554432 * D
theorem word_R {k o a b rd rs1 rs2 n : Int} (h : k = 0 ∨ k = 8) : word k o a b rd rs1 rs2 n = six o rd a rs1 rs2 b := by rcases h with h | h <;> subst h <;> simp [word, six]
theorem word_I {o a b rd rs1 rs2 n : Int} : word 1 o a b rd rs1 rs2 n = six o rd a rs1 (n % 32) (n / 32 % 128) := by simp [word, six]; omega
theorem word_H {o a b rd rs1 rs2 n : Int} : word 2 o a b rd rs1 rs2 n = six o rd a rs1 n b := by simp [word, six]
theorem word_S {o a b rd rs1 rs2 n : Int} : word 3 o a b rd rs1 rs2 n = six o (n % 32) a rs1 rs2 (n / 32 % 128) := by simp [word, six]
theorem word_B {o a b rd rs1 rs2 n : Int} : word 4 o a b rd rs1 rs2 n = six o (n / 2048 % 2 + 2 * (n / 2 % 16)) a rs1 rs2 (n / 32 % 64 + 64 * (n / 4096 % 2)) := by simp [word, six]; omega
theorem word_U {o a b rd rs1 rs2 n : Int} : word 5 o a b rd rs1 rs2 n = o + 128 * rd + 4096 * n := by simp [word]
theorem word_J {o a b rd rs1 rs2 n : Int} : word 6 o a b rd rs1 rs2 n = o + 128 * rd + 4096 * (n / 4096 % 256 + 256 * (n / 2048 % 2) + 512 * (n / 2 % 1024) + 524288 * (n / 1048576 % 2)) := by simp [word]; omega
theorem word_E {o a b rd rs1 rs2 n : Int} : word 7 o a b rd rs1 rs2 n = o := by simp [word]
theorem word_T {o a b rd rs1 rs2 n : Int} : word 9 o a b rd rs1 rs2 n = six o rd a rs1 rs1 b := by simp [word, six]
theorem word_Z {o a b rd rs1 rs2 n : Int} : word 10 o a b rd rs1 rs2 n = six o rd a rs1 0 b := by simp [word, six]
theorem bitsB (n : Int) (h : -4096 ≤ n ∧ n ≤ 4094) (h2 : n % 2 = 0) : 2 * (n / 2 % 16) + 32 * (n / 32 % 64) + 2048 * (n / 2048 % 2) - 4096 * (n / 4096 % 2) = n := by omega
theorem bitsJ (n : Int) (h : -1048576 ≤ n ∧ n ≤ 1048574) (h2 : n % 2 = 0) : 2 * (n / 2 % 1024) + 2048 * (n / 2048 % 2) + 4096 * (n / 4096 % 256) - 1048576 * (n / 1048576 % 2) = n := by omega
theorem digitsJ {x1 x2 x3 x4 : Int} (y1 : 0 ≤ x1 ∧ x1 ≤ 255) (y2 : 0 ≤ x2 ∧ x2 ≤ 1) (y3 : 0 ≤ x3 ∧ x3 ≤ 1023) (y4 : 0 ≤ x4 ∧ x4 ≤ 1) :
    (x1 + 256 * x2 + 512 * x3 + 524288 * x4) / 512 % 1024 = x3 ∧ (x1 + 256 * x2 + 512 * x3 + 524288 * x4) / 256 % 2 = x2 ∧ (x1 + 256 * x2 + 512 * x3 + 524288 * x4) % 256 = x1 ∧ (x1 + 256 * x2 + 512 * x3 + 524288 * x4) / 524288 = x4 := by
  have e1 : (x1 + 256 * x2 + 512 * x3 + 524288 * x4) / 512 = x3 + 1024 * x4 := by omega
  have e2 : (x1 + 256 * x2 + 512 * x3 + 524288 * x4) / 256 = x2 + 2 * (x3 + 1024 * x4) := by omega
  have e3 : (x1 + 256 * x2 + 512 * x3 + 524288 * x4) / 524288 = x4 := by omega
  rw [e1, e2, e3]
  exact ⟨by omega, by omega, by omega, rfl⟩
/-- what a word of right parts holds, all at once -/
theorem back {k o a b rd rs1 rs2 n w : Int} (hf : ft k o a b = true) (g : Good k rd rs1 rs2 n) (e : word k o a b rd rs1 rs2 n = w) :
    rdOf k w = rd ∧ rs1Of k w = rs1 ∧ rs2Of k w = rs2 ∧ immOf k w = n ∧ w % 128 = o ∧ (k = 5 ∨ k = 6 ∨ k = 7 ∨ w / 4096 % 8 = a) ∧ (k = 1 ∨ k = 3 ∨ k = 4 ∨ k = 5 ∨ k = 6 ∨ k = 7 ∨ w / 33554432 = b) := by
  have hb := ft_bd hf
  obtain ⟨a1, a2, a3, b1, b2, b3, b4, b5⟩ := g
  rcases kinds hf with h | h | h | h | h | h | h | h | h | h | h <;> subst h <;> simp [uRd, uRs1, uRs2, uImm, fits] at b1 b2 b3 b4 b5
  · rw [word_R (.inl rfl)] at e
    obtain ⟨f1, f2, f3, f4, f5, f6, f7, f8, f9, f10, f11, f12⟩ := fields (by omega) a1 (by omega) a2 a3 (by omega) e
    simp [rdOf, rs1Of, rs2Of, immOf, uRd, uRs1, uRs2]
    omega
  · rw [word_I] at e
    obtain ⟨f1, f2, f3, f4, f5, f6, f7, f8, f9, f10, f11, f12⟩ := fields (by omega) a1 (by omega) a2 (by omega) (by omega) e
    simp [rdOf, rs1Of, rs2Of, immOf, uRd, uRs1, uRs2]
    clear e f9 f10 f11 f12
    rw [f8]
    omega
  · rw [word_H] at e
    obtain ⟨f1, f2, f3, f4, f5, f6, f7, f8, f9, f10, f11, f12⟩ := fields (by omega) a1 (by omega) a2 (by omega) (by omega) e
    simp [rdOf, rs1Of, rs2Of, immOf, uRd, uRs1, uRs2]
    omega
  · rw [word_S] at e
    obtain ⟨f1, f2, f3, f4, f5, f6, f7, f8, f9, f10, f11, f12⟩ := fields (by omega) (by omega) (by omega) a2 a3 (by omega) e
    simp [rdOf, rs1Of, rs2Of, immOf, uRd, uRs1, uRs2]
    clear e f8 f9 f10 f11 f12
    rw [f2, f6]
    omega
  · rw [word_B] at e
    obtain ⟨f1, f2, f3, f4, f5, f6, f7, f8, f9, f10, f11, f12⟩ := fields (by omega) (by omega) (by omega) a2 a3 (by omega) e
    simp [rdOf, rs1Of, rs2Of, immOf, uRd, uRs1, uRs2]
    have hn := bitsB n (by omega) (by omega)
    clear e f8
    rw [f9, f10, f11, f12]
    have z1 : 0 ≤ n / 2 % 16 ∧ n / 2 % 16 ≤ 15 := by omega
    have z2 : 0 ≤ n / 32 % 64 ∧ n / 32 % 64 ≤ 63 := by omega
    have y2 : 0 ≤ n / 2048 % 2 ∧ n / 2048 % 2 ≤ 1 := by omega
    have y3 : 0 ≤ n / 4096 % 2 ∧ n / 4096 % 2 ≤ 1 := by omega
    generalize n / 2 % 16 = x0 at *
    generalize n / 32 % 64 = x1 at *
    generalize n / 2048 % 2 = x2 at *
    generalize n / 4096 % 2 = x3 at *
    refine ⟨by clear f1 f2 f3 f4 f5 f6 f7 f9 f10 f11 f12; omega, f4, f5, ?_, f1, f3⟩
    rw [show (x2 + 2 * x0) % 2 = x2 by omega, show (x2 + 2 * x0) / 2 = x0 by omega, show (x1 + 64 * x3) % 64 = x1 by omega, show (x1 + 64 * x3) / 64 = x3 by omega]
    exact hn
  · rw [word_U] at e
    obtain ⟨f1, f2, f3, f4, f5, f6, f7, f8⟩ := fieldsU (by omega) a1 (by omega) e
    simp [rdOf, rs1Of, rs2Of, immOf, uRd, uRs1, uRs2]
    omega
  · rw [word_J] at e
    obtain ⟨f1, f2, f3, f4, f5, f6, f7, f8⟩ := fieldsU (by omega) a1 (by omega) e
    simp [rdOf, rs1Of, rs2Of, immOf, uRd, uRs1, uRs2]
    have hn := bitsJ n (by omega) (by omega)
    clear e
    rw [f5, f6, f7, f8]
    have y1 : 0 ≤ n / 4096 % 256 ∧ n / 4096 % 256 ≤ 255 := by omega
    have y2 : 0 ≤ n / 2048 % 2 ∧ n / 2048 % 2 ≤ 1 := by omega
    have y3 : 0 ≤ n / 2 % 1024 ∧ n / 2 % 1024 ≤ 1023 := by omega
    have y4 : 0 ≤ n / 1048576 % 2 ∧ n / 1048576 % 2 ≤ 1 := by omega
    generalize n / 4096 % 256 = x1 at *
    generalize n / 2048 % 2 = x2 at *
    generalize n / 2 % 1024 = x3 at *
    generalize n / 1048576 % 2 = x4 at *
    refine ⟨f2, by clear f1 f2 f3 f4 f5 f6 f7 f8; omega, by clear f1 f2 f3 f4 f5 f6 f7 f8; omega, ?_, f1⟩
    obtain ⟨d1, d2, d3, d4⟩ := digitsJ y1 y2 y3 y4
    rw [d1, d2, d3, d4]
    exact hn
  · rw [word_E] at e
    simp [rdOf, rs1Of, rs2Of, immOf, uRd, uRs1, uRs2]
    omega
  · rw [word_R (.inr rfl)] at e
    obtain ⟨f1, f2, f3, f4, f5, f6, f7, f8, f9, f10, f11, f12⟩ := fields (by omega) a1 (by omega) a2 a3 (by omega) e
    simp [rdOf, rs1Of, rs2Of, immOf, uRd, uRs1, uRs2]
    omega
  · rw [word_T] at e
    obtain ⟨f1, f2, f3, f4, f5, f6, f7, f8, f9, f10, f11, f12⟩ := fields (by omega) a1 (by omega) a2 a2 (by omega) e
    simp [rdOf, rs1Of, rs2Of, immOf, uRd, uRs1, uRs2]
    omega
  · rw [word_Z] at e
    obtain ⟨f1, f2, f3, f4, f5, f6, f7, f8, f9, f10, f11, f12⟩ := fields (by omega) a1 (by omega) a2 (by omega) (by omega) e
    simp [rdOf, rs1Of, rs2Of, immOf, uRd, uRs1, uRs2]
    omega
/-- the parts of any word are right -/
theorem cand_good {k o a b w : Int} (hf : ft k o a b = true) (h0 : 0 ≤ w) (h1 : w < 4294967296) : Good k (rdOf k w) (rs1Of k w) (rs2Of k w) (immOf k w) := by
  rcases kinds hf with h | h | h | h | h | h | h | h | h | h | h <;> subst h <;> simp [Good, rdOf, rs1Of, rs2Of, immOf, uRd, uRs1, uRs2, uImm, fits] <;> omega
theorem or32 {p q : Nat} (hp : p < 32) (hq : q < 32) : p ||| q < 32 := Nat.or_lt_two_pow (n := 5) hp hq
theorem code_good {k o a b w : Int} (hf : ft k o a b = true) (h0 : 0 ≤ w) (h1 : w < 4294967296) : Good k (rdOf k w) (rs1Code k w) (rs2Of k w) (immOf k w) := by
  by_cases hk : k = 9
  · subst hk
    have := or32 (p := (w / 32768 % 32).toNat) (q := (w / 1048576 % 32).toNat) (by omega) (by omega)
    simp [Good, rdOf, rs1Code, rs2Of, immOf, uRd, uRs1, uRs2, uImm]
    omega
  · have := cand_good hf h0 h1
    rw [rs1Code, if_neg hk]; exact this
/-- the word of the parts of w -/
def again (op w : Int) : Int := word (kd op) (o7 op) (f3 op) (f7 op) (rdOf (kd op) w) (rs1Of (kd op) w) (rs2Of (kd op) w) (immOf (kd op) w)
def againCode (op w : Int) : Int := word (kd op) (o7 op) (f3 op) (f7 op) (rdOf (kd op) w) (rs1Code (kd op) w) (rs2Of (kd op) w) (immOf (kd op) w)
/-- w is a word of op's -/
def hit (op w : Int) : Bool := isOp op && again op w == w
theorem hit_op {op w : Int} (h : hit op w = true) : isOp op = true ∧ again op w = w := by simpa [hit] using h
theorem nine {o a b rd x w : Int} (hb : 0 ≤ o ∧ o ≤ 127 ∧ 0 ≤ a ∧ a ≤ 7 ∧ 0 ≤ b ∧ b ≤ 127) (hr : 0 ≤ rd ∧ rd ≤ 31) (hx : 0 ≤ x ∧ x ≤ 31) (e : o + 128 * rd + 4096 * a + 32768 * x + 1048576 * x + 33554432 * b = w) : w / 32768 % 32 = x ∧ w / 1048576 % 32 = x := by
  obtain ⟨f1, f2, f3, f4, f5, _⟩ := fields (w := w) (by omega) hr (by omega) hx hx (by omega) e
  exact ⟨f4, f5⟩
theorem code_same {op w : Int} (ho : isOp op = true) (h0 : 0 ≤ w) (h1 : w < 4294967296) : againCode op w = w ↔ again op w = w := by
  have hf := ft_row ho
  unfold againCode again
  by_cases hk : kd op = 9
  · have hb := ft_bd hf
    have ho := or32 (p := (w / 32768 % 32).toNat) (q := (w / 1048576 % 32).toNat) (by omega) (by omega)
    rw [hk]
    simp [word, rs1Code, rs1Of, uRs1, rdOf, uRd]
    constructor
    · intro e
      have hn := nine (rd := w / 128 % 32) (by omega) (by omega) (x := (((w / 32768 % 32).toNat ||| (w / 1048576 % 32).toNat : Nat) : Int)) (by omega) e
      rw [← hn.1] at e
      exact e
    · intro e
      have hn := nine (rd := w / 128 % 32) (by omega) (by omega) (x := w / 32768 % 32) (by omega) e
      rw [hn.2, Nat.or_self]
      have : (((w / 32768 % 32).toNat : Nat) : Int) = w / 32768 % 32 := by omega
      rw [this]; exact e
  · rw [rs1Code, if_neg hk]
theorem code_rs1 {op w : Int} (ho : isOp op = true) (h0 : 0 ≤ w) (h1 : w < 4294967296) (e : again op w = w) : rs1Code (kd op) w = rs1Of (kd op) w := by
  have hb := ft_bd (ft_row ho)
  by_cases hk : kd op = 9
  · unfold again at e
    rw [hk] at e ⊢
    simp [word, rs1Of, uRs1, rdOf, uRd] at e
    have hn := nine (rd := w / 128 % 32) (by omega) (by omega) (x := w / 32768 % 32) (by omega) e
    simp [rs1Code, rs1Of, uRs1]
    rw [hn.2, Nat.or_self]
    omega
  · rw [rs1Code, if_neg hk]
theorem hit_low {op w : Int} (h : hit op w = true) (h0 : 0 ≤ w) (h1 : w < 4294967296) : w % 128 = o7 op := by
  obtain ⟨ho, e⟩ := hit_op h
  exact (back (ft_row ho) (cand_good (ft_row ho) h0 h1) e).2.2.2.2.1
/-- the row of a word by its fields, as far as they are fixed -/
def nrm (o a b : Int) : Int × Int × Int :=
  if o = 51 ∨ o = 83 ∨ (o = 19 ∧ (a = 1 ∨ a = 5)) then (o, a, b)
  else if o = 55 ∨ o = 23 ∨ o = 111 ∨ o = 115 then (o, 0, 0)
  else (o, a, 0)
def cls (k o a : Int) : Bool :=
  if k = 0 ∨ k = 2 ∨ k = 8 ∨ k = 9 ∨ k = 10 then (o == 51 || o == 83 || (o == 19 && (a == 1 || a == 5)))
  else if k = 5 ∨ k = 6 ∨ k = 7 then (o == 55 || o == 23 || o == 111 || o == 115)
  else !(o == 51 || o == 83 || (o == 19 && (a == 1 || a == 5))) && !(o == 55 || o == 23 || o == 111 || o == 115)
theorem cls_row {op : Int} (h : isOp op = true) : cls (kd op) (o7 op) (f3 op) = true :=
  all_ops (fun op => cls (kd op) (o7 op) (f3 op)) (by decide +kernel) h
theorem hit_nrm {op w : Int} (h : hit op w = true) (h0 : 0 ≤ w) (h1 : w < 4294967296) : nrm (w % 128) (w / 4096 % 8) (w / 33554432) = (o7 op, f3 op, f7 op) := by
  obtain ⟨ho, e⟩ := hit_op h
  have hf := ft_row ho
  have hc := cls_row ho
  have hb := ft_bd hf
  obtain ⟨-, -, -, -, c1, c2, c3⟩ := back hf (cand_good hf h0 h1) e
  clear e h
  rw [c1]
  generalize w / 4096 % 8 = x at *
  generalize w / 33554432 = y at *
  generalize kd op = k at *
  generalize o7 op = o at *
  generalize f3 op = a at *
  generalize f7 op = b at *
  rcases kinds hf with h | h | h | h | h | h | h | h | h | h | h <;> subst h <;> simp [cls] at hc <;> unfold nrm
  all_goals first
    | (rw [show x = a by omega, show y = b by omega, if_pos (by omega)]; done)
    | (rw [show x = a by omega, if_neg (by omega), if_neg (by omega), show b = 0 by omega]; done)
    | (rw [if_neg (by omega), if_pos (by omega), show a = 0 by omega, show b = 0 by omega]; done)
theorem rows_apart : ((List.range 55).all fun i => (List.range 55).all fun j => !((row (i + 1)).2 == (row (j + 1)).2) || i == j) = true := by decide +kernel
theorem row_inj {op op' : Int} (h : isOp op = true) (h' : isOp op' = true) (e : (o7 op, f3 op, f7 op) = (o7 op', f3 op', f7 op')) : op = op' := by
  have b1 := isOp_yes h
  have b2 := isOp_yes h'
  have h2 := List.all_eq_true.1 (List.all_eq_true.1 rows_apart (op.toNat - 1) (List.mem_range.2 (by omega))) (op'.toNat - 1) (List.mem_range.2 (by omega))
  rw [show op.toNat - 1 + 1 = op.toNat by omega, show op'.toNat - 1 + 1 = op'.toNat by omega] at h2
  have e2 : (row op.toNat).2 = (row op'.toNat).2 := e
  rw [e2] at h2
  simp at h2
  omega
theorem hit_one {op op' w : Int} (h : hit op w = true) (h' : hit op' w = true) (h0 : 0 ≤ w) (h1 : w < 4294967296) : op = op' :=
  row_inj (hit_op h).1 (hit_op h').1 ((hit_nrm h h0 h1).symm.trans (hit_nrm h' h0 h1))
/-- the Op of a word; 0: there is none -/
def dec (w : Int) : Int := match (List.range 55).find? fun n => hit ((n + 1 : Nat) : Int) w with
  | some n => ((n + 1 : Nat) : Int)
  | none => 0
theorem dec_hit {op w : Int} (h : hit op w = true) (h0 : 0 ≤ w) (h1 : w < 4294967296) : dec w = op := by
  unfold dec
  cases e : (List.range 55).find? fun n => hit ((n + 1 : Nat) : Int) w with
  | some n => exact hit_one (by simpa using List.find?_some e) h h0 h1
  | none =>
    have hb := isOp_yes (hit_op h).1
    have := List.find?_eq_none.1 e (op.toNat - 1) (List.mem_range.2 (by omega))
    rw [show (((op.toNat - 1 + 1 : Nat)) : Int) = op by omega] at this
    exact absurd h this
theorem dec_none {w : Int} (h : ∀ op, hit op w = false) : dec w = 0 := by
  unfold dec
  cases e : (List.range 55).find? fun n => hit ((n + 1 : Nat) : Int) w with
  | some n => have := List.find?_some e; rw [h] at this; cases this
  | none => rfl
/-- what is made of right parts is a word of op's -/
theorem hit_word {op rd rs1 rs2 n : Int} (ho : isOp op = true) (g : Good (kd op) rd rs1 rs2 n) : hit op (word (kd op) (o7 op) (f3 op) (f7 op) rd rs1 rs2 n) = true := by
  have hf := ft_row ho
  obtain ⟨e1, e2, e3, e4, _⟩ := back hf g rfl
  unfold hit again
  rw [ho, e1, e2, e3, e4]
  simp
/-! ### how each kind uses the four parts: of each the least, the most, the step, and four pieces (from, bits, to) -/
def ul : Nat → List Int
  | 0 => [0, 31, 1, 0, 5, 7, 0, 0, 0, 0, 0, 0, 0, 0, 0, 0, 31, 1, 0, 5, 15, 0, 0, 0, 0, 0, 0, 0, 0, 0, 0, 31, 1, 0, 5, 20, 0, 0, 0, 0, 0, 0, 0, 0, 0, 0, 0, 0, 0, 0, 0, 0, 0, 0, 0, 0, 0, 0, 0, 0]
  | 1 => [0, 31, 1, 0, 5, 7, 0, 0, 0, 0, 0, 0, 0, 0, 0, 0, 31, 1, 0, 5, 15, 0, 0, 0, 0, 0, 0, 0, 0, 0, 0, 0, 0, 0, 0, 0, 0, 0, 0, 0, 0, 0, 0, 0, 0, -2048, 2047, 1, 0, 12, 20, 0, 0, 0, 0, 0, 0, 0, 0, 0]
  | 2 => [0, 31, 1, 0, 5, 7, 0, 0, 0, 0, 0, 0, 0, 0, 0, 0, 31, 1, 0, 5, 15, 0, 0, 0, 0, 0, 0, 0, 0, 0, 0, 0, 0, 0, 0, 0, 0, 0, 0, 0, 0, 0, 0, 0, 0, 0, 31, 1, 0, 5, 20, 0, 0, 0, 0, 0, 0, 0, 0, 0]
  | 3 => [0, 0, 0, 0, 0, 0, 0, 0, 0, 0, 0, 0, 0, 0, 0, 0, 31, 1, 0, 5, 15, 0, 0, 0, 0, 0, 0, 0, 0, 0, 0, 31, 1, 0, 5, 20, 0, 0, 0, 0, 0, 0, 0, 0, 0, -2048, 2047, 1, 0, 5, 7, 5, 7, 25, 0, 0, 0, 0, 0, 0]
  | 4 => [0, 0, 0, 0, 0, 0, 0, 0, 0, 0, 0, 0, 0, 0, 0, 0, 31, 1, 0, 5, 15, 0, 0, 0, 0, 0, 0, 0, 0, 0, 0, 31, 1, 0, 5, 20, 0, 0, 0, 0, 0, 0, 0, 0, 0, -4096, 4094, 2, 11, 1, 7, 1, 4, 8, 5, 6, 25, 12, 1, 31]
  | 5 => [0, 31, 1, 0, 5, 7, 0, 0, 0, 0, 0, 0, 0, 0, 0, 0, 0, 0, 0, 0, 0, 0, 0, 0, 0, 0, 0, 0, 0, 0, 0, 0, 0, 0, 0, 0, 0, 0, 0, 0, 0, 0, 0, 0, 0, 0, 1048575, 1, 0, 20, 12, 0, 0, 0, 0, 0, 0, 0, 0, 0]
  | 6 => [0, 31, 1, 0, 5, 7, 0, 0, 0, 0, 0, 0, 0, 0, 0, 0, 0, 0, 0, 0, 0, 0, 0, 0, 0, 0, 0, 0, 0, 0, 0, 0, 0, 0, 0, 0, 0, 0, 0, 0, 0, 0, 0, 0, 0, -1048576, 1048574, 2, 12, 8, 12, 11, 1, 20, 1, 10, 21, 20, 1, 31]
  | 7 => [0, 0, 0, 0, 0, 0, 0, 0, 0, 0, 0, 0, 0, 0, 0, 0, 0, 0, 0, 0, 0, 0, 0, 0, 0, 0, 0, 0, 0, 0, 0, 0, 0, 0, 0, 0, 0, 0, 0, 0, 0, 0, 0, 0, 0, 0, 0, 0, 0, 0, 0, 0, 0, 0, 0, 0, 0, 0, 0, 0]
  | 8 => [0, 31, 1, 0, 5, 7, 0, 0, 0, 0, 0, 0, 0, 0, 0, 0, 31, 1, 0, 5, 15, 0, 0, 0, 0, 0, 0, 0, 0, 0, 0, 31, 1, 0, 5, 20, 0, 0, 0, 0, 0, 0, 0, 0, 0, 0, 0, 0, 0, 0, 0, 0, 0, 0, 0, 0, 0, 0, 0, 0]
  | 9 => [0, 31, 1, 0, 5, 7, 0, 0, 0, 0, 0, 0, 0, 0, 0, 0, 31, 1, 0, 5, 15, 0, 5, 20, 0, 0, 0, 0, 0, 0, 0, 0, 0, 0, 0, 0, 0, 0, 0, 0, 0, 0, 0, 0, 0, 0, 0, 0, 0, 0, 0, 0, 0, 0, 0, 0, 0, 0, 0, 0]
  | 10 => [0, 31, 1, 0, 5, 7, 0, 0, 0, 0, 0, 0, 0, 0, 0, 0, 31, 1, 0, 5, 15, 0, 0, 0, 0, 0, 0, 0, 0, 0, 0, 0, 0, 0, 0, 0, 0, 0, 0, 0, 0, 0, 0, 0, 0, 0, 0, 0, 0, 0, 0, 0, 0, 0, 0, 0, 0, 0, 0, 0]
  | _ => []
def uv (k : Int) (j : Nat) : Int := (ul k.toNat).getD j 0
def uA (k : Int) : Array Value := ((ul k.toNat).map (Value.int .i64)).toArray
end CM
end Go.Proofs.Ytlmblfkcmhgdaaa
