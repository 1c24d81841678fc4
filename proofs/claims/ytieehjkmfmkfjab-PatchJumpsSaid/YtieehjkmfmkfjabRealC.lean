/-
  What package real's functions answer, each a contract: Canon, Do, Compare, Neg, OfInt, ToInt and what they call. Conditions: bits lie from 0 to below 2^64, words below 2^32.
-/
import Derived.Test.YtieehjkmfmkfjabRows
import Derived.Test.YtieehjkmfmkfjabRealM
import Derived.ProofKit
import Derived.OpenShut
import Derived.WalkKit
import Derived.WalkLawsBesides
import Derived.WalkSpells
import Derived.Laws.FloatArith
import Derived.Laws.Externs
import Derived.Laws.NewFold
import Derived.Deep.Draws
import Derived.Outline
import Derived.Lib.Hide
namespace Go.Proofs.Ytieehjkmfmkfjab
open Go.RowKit
set_option linter.unusedVariables false
namespace RC
open RM
theorem ret_int {k : IntKind} {a b : Int} (h : a = b) : Ending.returned (.int k a) = .returned (.int k b) := by rw [h]
theorem ret_pair {k : IntKind} {a b : Int} {v : Value} (h : a = b) : Ending.returned (.tuple #[.int k a, v]) = .returned (.tuple #[.int k b, v]) := by rw [h]

/-! ### bits and floats, the entries -/
theorem run_from (a : Int) (w : World) : (callFunc 88 #[.int .u64 a]).run Try.prog w = .ok (.value (.float .f64 a.toNat)) w := by
  rw [run_callFunc_extern Try.func88 (by kernel_rfl) (by kernel_rfl) (by kernel_rfl) (e := Extern.MathFloatBits.float64frombits) (by kernel_rfl)]
  rfl
theorem run_bits (a : Nat) (w : World) : (callFunc 87 #[.float .f64 a]).run Try.prog w = .ok (.value (.int .u64 a)) w := by
  rw [run_callFunc_extern Try.func87 (by kernel_rfl) (by kernel_rfl) (by kernel_rfl) (e := Extern.MathFloatBits.float64bits) (by kernel_rfl)]
  rfl
attribute [local go_sem] run_from run_bits

/-! ### operations that have no answer ask for a NaN's bits -/
theorem nan_cut (x y t : Nat) : isNan ((Question.nanBits .f64 x y).cut t) = true := by
  show isNan ((t % 2) * 2 ^ 63 + 0x7ff0000000000000 + 1 + (t / 2) % (2 ^ 52 - 1)) = true
  rw [isNan_iff]
  unfold rg
  have h1 := Nat.mod_lt t (show 0 < 2 by omega)
  have h2 := Nat.mod_lt (t / 2) (show 0 < 2 ^ 52 - 1 by omega)
  generalize t / 2 % (2 ^ 52 - 1) = q at *
  generalize t % 2 = s at *
  rcases (show s = 0 ∨ s = 1 by omega) with rfl | rfl <;> omega
def fop (op : BinOp) (x y : Nat) : Nat := (floatBits op .f64 x y).getD NaN
def isArith (op : BinOp) : Bool := match op with | .add | .sub | .mul | .quo => true | _ => false
theorem clean_fop (op : BinOp) (x y : Nat) : RM.Clean (floatBits op .f64 x y) := by
  cases op <;> first | exact clean_add x y | exact clean_sub x y | exact clean_mul x y | exact clean_div x y | (intro r h; cases h)
/-- what an operation leaves: the canonical bits are the operation's; the world is the same, but for one draw -/
theorem run_fop (op : BinOp) (hop : isArith op = true) (t : TypeId) (x y : Nat) (w : World) :
    ∃ n k, canon n = fop op x y ∧ (binOp op t (.float .f64 x) (.float .f64 y)).run Try.prog w = .ok (.float .f64 n) (w.drewN k) := by
  cases h : floatBits op .f64 x y with
  | some r => exact ⟨r, 0, by rw [fop, h, canon_num (clean_fop op x y r h).2]; rfl, run_float_arith w op t .f64 x y r h⟩
  | none =>
    refine ⟨(Question.nanBits .f64 x y).cut (w.tape w.drawn (.nanBits .f64 x y)), 1, by rw [fop, h, canon_nan (nan_cut x y _)]; rfl, ?_⟩
    unfold floatBits at h
    cases op <;> simp only at h <;> first | (cases hop; done) | skip
    all_goals simp [binOp, Op.floatArith, h, Question.forced, World.drew_is_drewN]

theorem number (a : Nat) (w : World) : Calls Try.prog 75 #[.int .u64 (a : Int)] w fun e w' => e = .returned (.float .f64 a) ∧ w' = w := by
  go_enter Try.func75, Try.ntmps75
  go_wp2
  go_ret
  exact ⟨rfl, rfl⟩
theorem isNaN (b : Nat) (w : World) : Calls Try.prog 78 #[.float .f64 b] w fun e w' => e = .returned (.bool (isNan b)) ∧ w' = w := by
  go_enter Try.func78, Try.ntmps78
  go_wp2
  go_ret
  exact ⟨congrArg (fun z => Ending.returned (.bool z)) (ne_self b), rfl⟩
theorem bits_num (b : Nat) (w : World) (h : isNan b = false) : Calls Try.prog 74 #[.float .f64 b] w fun e w' => e = .returned (.int .u64 (canon b : Nat)) ∧ w' = w := by
  go_enter Try.func74, Try.ntmps74
  go_wp2_with (go_at_call 78; refine (isNaN _ _).mono ?_; rw [h]; rintro e w' ⟨rfl, rfl⟩)
  go_ret
  exact ⟨by rw [canon_num h]; rfl, rfl⟩
theorem bits_nan (b : Nat) (w : World) (h : isNan b = true) : Calls Try.prog 74 #[.float .f64 b] w fun e w' => e = .returned (.int .u64 (canon b : Nat)) ∧ w' = w := by
  go_enter Try.func74, Try.ntmps74
  go_wp2_with (go_at_call 78; refine (isNaN _ _).mono ?_; rw [h]; rintro e w' ⟨rfl, rfl⟩)
  go_ret
  exact ⟨by rw [canon_nan h]; rfl, rfl⟩
theorem bits_ (b : Nat) (w : World) : Calls Try.prog 74 #[.float .f64 b] w fun e w' => e = .returned (.int .u64 (canon b : Nat)) ∧ w' = w := by
  cases h : isNan b
  · exact bits_num b w h
  · exact bits_nan b w h
theorem canon_ (a : Nat) (w : World) : Calls Try.prog 65 #[.int .u64 (a : Int)] w fun e w' => e = .returned (.int .u64 (canon a : Nat)) ∧ w' = w := by
  go_enter Try.func65, Try.ntmps65
  go_wp2_with (first
    | (go_at_call 75; refine (number _ _).mono ?_; rintro e w' ⟨rfl, rfl⟩)
    | (go_at_call 74; refine (bits_ _ _).mono ?_; rintro e w' ⟨rfl, rfl⟩))
  go_ret
  exact ⟨rfl, rfl⟩

/-! ### Do -/
theorem do_add (x y : Nat) (w : World) : Calls Try.prog 72 #[.int .i64 45, .int .u64 (x : Int), .int .u64 (y : Int)] w fun e w' => e = .returned (.tuple #[.int .u64 (fop .add x y : Nat), .int .i64 0]) ∧ ∃ k, w' = w.drewN k := by
  obtain ⟨n, k, hc, hr⟩ := run_fop .add rfl 126 x y w
  have Hc := Lib.hid hc
  clear hc
  go_enter Try.func72, Try.ntmps72
  go_wp2_with (first
    | (go_at_call 75; refine (number _ _).mono ?_; rintro e w' ⟨rfl, rfl⟩)
    | (go_at_call 74; refine (bits_ _ _).mono ?_; rw [Hc.out]; rintro e w' ⟨rfl, rfl⟩))
  go_ret2
  exact ⟨rfl, k, rfl⟩
theorem do_sub (x y : Nat) (w : World) : Calls Try.prog 72 #[.int .i64 46, .int .u64 (x : Int), .int .u64 (y : Int)] w fun e w' => e = .returned (.tuple #[.int .u64 (fop .sub x y : Nat), .int .i64 0]) ∧ ∃ k, w' = w.drewN k := by
  obtain ⟨n, k, hc, hr⟩ := run_fop .sub rfl 126 x y w
  have Hc := Lib.hid hc
  clear hc
  go_enter Try.func72, Try.ntmps72
  go_wp2_with (first
    | (go_at_call 75; refine (number _ _).mono ?_; rintro e w' ⟨rfl, rfl⟩)
    | (go_at_call 74; refine (bits_ _ _).mono ?_; rw [Hc.out]; rintro e w' ⟨rfl, rfl⟩))
  go_ret2
  exact ⟨rfl, k, rfl⟩
theorem do_mul (x y : Nat) (w : World) : Calls Try.prog 72 #[.int .i64 47, .int .u64 (x : Int), .int .u64 (y : Int)] w fun e w' => e = .returned (.tuple #[.int .u64 (fop .mul x y : Nat), .int .i64 0]) ∧ ∃ k, w' = w.drewN k := by
  obtain ⟨n, k, hc, hr⟩ := run_fop .mul rfl 126 x y w
  have Hc := Lib.hid hc
  clear hc
  go_enter Try.func72, Try.ntmps72
  go_wp2_with (first
    | (go_at_call 75; refine (number _ _).mono ?_; rintro e w' ⟨rfl, rfl⟩)
    | (go_at_call 74; refine (bits_ _ _).mono ?_; rw [Hc.out]; rintro e w' ⟨rfl, rfl⟩))
  go_ret2
  exact ⟨rfl, k, rfl⟩
theorem do_quo (x y : Nat) (w : World) : Calls Try.prog 72 #[.int .i64 48, .int .u64 (x : Int), .int .u64 (y : Int)] w fun e w' => e = .returned (.tuple #[.int .u64 (fop .quo x y : Nat), .int .i64 0]) ∧ ∃ k, w' = w.drewN k := by
  obtain ⟨n, k, hc, hr⟩ := run_fop .quo rfl 126 x y w
  have Hc := Lib.hid hc
  clear hc
  go_enter Try.func72, Try.ntmps72
  go_wp2_with (first
    | (go_at_call 75; refine (number _ _).mono ?_; rintro e w' ⟨rfl, rfl⟩)
    | (go_at_call 74; refine (bits_ _ _).mono ?_; rw [Hc.out]; rintro e w' ⟨rfl, rfl⟩))
  go_ret2
  exact ⟨rfl, k, rfl⟩
def isOp (op : Int) : Bool := decide (45 ≤ op ∧ op ≤ 48)
theorem do_no (op : Int) (x y : Nat) (w : World) (h : isOp op = false) : Calls Try.prog 72 #[.int .i64 op, .int .u64 (x : Int), .int .u64 (y : Int)] w fun e w' => e = .returned (.tuple #[.int .u64 0, .int .i64 1]) ∧ w' = w := by
  have h' : ¬ (45 ≤ op ∧ op ≤ 48) := by simpa [isOp] using h
  have h1 : (op == 45) = false := by rw [beq_eq_false_iff_ne]; omega
  have h2 : (op == 46) = false := by rw [beq_eq_false_iff_ne]; omega
  have h3 : (op == 47) = false := by rw [beq_eq_false_iff_ne]; omega
  have h4 : (op == 48) = false := by rw [beq_eq_false_iff_ne]; omega
  clear h h'
  go_enter Try.func72, Try.ntmps72
  go_wp2_with (go_at_call 75; refine (number _ _).mono ?_; rintro e w' ⟨rfl, rfl⟩)
  go_ret2
  exact ⟨rfl, rfl⟩

/-! ### Compare -/
theorem oneIf (b : Bool) (w : World) : Calls Try.prog 79 #[.bool b] w fun e w' => e = .returned (.int .u32 (b.toNat : Int)) ∧ w' = w := by
  cases b
  all_goals
    go_enter Try.func79, Try.ntmps79
    go_wp2
    go_ret
    exact ⟨rfl, rfl⟩
theorem cmp_eq (x y : Nat) (w : World) : Calls Try.prog 71 #[.int .i64 51, .int .u64 (x : Int), .int .u64 (y : Int)] w fun e w' => e = .returned (.tuple #[.int .u32 ((feq x y).toNat : Int), .int .i64 0]) ∧ w' = w := by
  go_enter Try.func71, Try.ntmps71
  go_wp2_with (first
    | (go_at_call 75; refine (number _ _).mono ?_; rintro e w' ⟨rfl, rfl⟩)
    | (go_at_call 79; refine (oneIf _ _).mono ?_; rintro e w' ⟨rfl, rfl⟩))
  go_ret2
  exact ⟨rfl, rfl⟩
theorem cmp_lt (x y : Nat) (w : World) : Calls Try.prog 71 #[.int .i64 52, .int .u64 (x : Int), .int .u64 (y : Int)] w fun e w' => e = .returned (.tuple #[.int .u32 ((flt x y).toNat : Int), .int .i64 0]) ∧ w' = w := by
  go_enter Try.func71, Try.ntmps71
  go_wp2_with (first
    | (go_at_call 75; refine (number _ _).mono ?_; rintro e w' ⟨rfl, rfl⟩)
    | (go_at_call 79; refine (oneIf _ _).mono ?_; rintro e w' ⟨rfl, rfl⟩))
  go_ret2
  exact ⟨rfl, rfl⟩
theorem cmp_le (x y : Nat) (w : World) : Calls Try.prog 71 #[.int .i64 53, .int .u64 (x : Int), .int .u64 (y : Int)] w fun e w' => e = .returned (.tuple #[.int .u32 ((fle x y).toNat : Int), .int .i64 0]) ∧ w' = w := by
  go_enter Try.func71, Try.ntmps71
  go_wp2_with (first
    | (go_at_call 75; refine (number _ _).mono ?_; rintro e w' ⟨rfl, rfl⟩)
    | (go_at_call 79; refine (oneIf _ _).mono ?_; rintro e w' ⟨rfl, rfl⟩))
  go_ret2
  exact ⟨rfl, rfl⟩
def isCmp (op : Int) : Bool := decide (51 ≤ op ∧ op ≤ 53)
theorem cmp_no (op : Int) (x y : Nat) (w : World) (h : isCmp op = false) : Calls Try.prog 71 #[.int .i64 op, .int .u64 (x : Int), .int .u64 (y : Int)] w fun e w' => e = .returned (.tuple #[.int .u32 0, .int .i64 1]) ∧ w' = w := by
  have h' : ¬ (51 ≤ op ∧ op ≤ 53) := by simpa [isCmp] using h
  have h1 : (op == 51) = false := by rw [beq_eq_false_iff_ne]; omega
  have h2 : (op == 52) = false := by rw [beq_eq_false_iff_ne]; omega
  have h3 : (op == 53) = false := by rw [beq_eq_false_iff_ne]; omega
  clear h h'
  go_enter Try.func71, Try.ntmps71
  go_wp2_with (go_at_call 75; refine (number _ _).mono ?_; rintro e w' ⟨rfl, rfl⟩)
  go_ret2
  exact ⟨rfl, rfl⟩
end RC
end Go.Proofs.Ytieehjkmfmkfjab
