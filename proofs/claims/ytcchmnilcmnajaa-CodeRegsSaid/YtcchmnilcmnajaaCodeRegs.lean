/-
  Of each instruction of three registers the law CodeRegs returns true: its registers stand in the word's fields, and another Rd turns that field alone.
  Conditions: none beyond those of the given statement.
-/
import Derived.Test.YtcchmnilcmnajaaRows
import Derived.Test.YtcchmnilcmnajaaCodeP
import Derived.Laws.StructEq
import Derived.BigGuardPart
import Derived.Deep.DeepCutAuto
import Derived.WalkKit
import Derived.ProofKit
import Derived.OpenShut
namespace Go.Proofs.Ytcchmnilcmnajaa.codeRegs
open Go.ChangeShapes Go.WideShapes Go.ChangeAt Go.RowKit
set_option linter.unusedVariables false
set_option linter.unusedSimpArgs false

theorem own : ownKnob Try.prog.godebug = none := by kernel_rfl
open CW CE CD CL
theorem regs_op {p : Int} (h0 : 1 ≤ p) (h1 : p ≤ 17) : CM.isOp p = true ∧ CM.kd p = 0 ∧ CM.o7 p = 51 := by
  rcases (show p = 1 ∨ p = 2 ∨ p = 3 ∨ p = 4 ∨ p = 5 ∨ p = 6 ∨ p = 7 ∨ p = 8 ∨ p = 9 ∨ p = 10 ∨ p = 11 ∨ p = 12 ∨ p = 13 ∨ p = 14 ∨ p = 15 ∨ p = 16 ∨ p = 17 by omega) with h | h | h | h | h | h | h | h | h | h | h | h | h | h | h | h | h <;> subst h <;> decide +kernel
theorem enc0 {p rd rs1 rs2 : Int} (h0 : 1 ≤ p) (h1 : p ≤ 17) (a1 : 0 ≤ rd ∧ rd ≤ 31) (a2 : 0 ≤ rs1 ∧ rs1 ≤ 31) (a3 : 0 ≤ rs2 ∧ rs2 ≤ 31) : encE p rd rs1 rs2 0 = 0 := by
  obtain ⟨e1, e2, e3⟩ := regs_op h0 h1
  rw [encE, e1, e2]
  exact CM.fault_good (k := 0) (n := 0) ⟨a1, a2, a3, fun h => absurd h (by decide), fun h => absurd h (by decide), fun h => absurd h (by decide), fun _ => rfl, fun h => absurd h (by decide)⟩
/-- the word's fields, and the word without Rd's -/
theorem word0 {p rd rs1 rs2 : Int} (h0 : 1 ≤ p) (h1 : p ≤ 17) (a1 : 0 ≤ rd ∧ rd ≤ 31) (a2 : 0 ≤ rs1 ∧ rs1 ≤ 31) (a3 : 0 ≤ rs2 ∧ rs2 ≤ 31) :
    encW p rd rs1 rs2 0 / 128 % 32 = rd ∧ encW p rd rs1 rs2 0 / 32768 % 32 = rs1 ∧ encW p rd rs1 rs2 0 / 1048576 % 32 = rs2 ∧ encW p rd rs1 rs2 0 % 128 = 51 ∧
      encW p rd rs1 rs2 0 = (51 + 4096 * CM.f3 p + 32768 * rs1 + 1048576 * rs2 + 33554432 * CM.f7 p) + rd * 128 ∧ 0 ≤ CM.f3 p ∧ CM.f3 p ≤ 7 ∧ 0 ≤ CM.f7 p ∧ CM.f7 p ≤ 127 := by
  obtain ⟨e1, e2, e3⟩ := regs_op h0 h1
  have hb := CM.ft_bd (CM.ft_row e1)
  have hw := enc_word (enc0 h0 h1 a1 a2 a3)
  rw [e2, e3, CM.word_R (.inl rfl)] at hw
  obtain ⟨f1, f2, f3, f4, f5, -⟩ := CM.fields (by omega) a1 (by omega) a2 a3 (by omega) hw.symm
  refine ⟨f2, f4, f5, f1, ?_, by omega, by omega, by omega, by omega⟩
  rw [hw]; unfold CM.six; omega
theorem mask0 (r : Nat) (h : r < 32) : (r * 128) &&& 4294963327 = 0 := by
  have : ∀ r : Fin 32, (r.val * 128) &&& 4294963327 = 0 := by decide +kernel
  exact this ⟨r, h⟩
theorem without (B r : Int) (hB : 0 ≤ B) (hr : 0 ≤ r ∧ r ≤ 31) (hz : B / 128 % 32 = 0) (hs : B + r * 128 < 4294967296) : bits .andNot .u32 (B + r * 128) 3968 = ((B.toNat &&& 4294963327 : Nat) : Int) := by
  rw [u32_andNot _ _ (by omega) hs (by omega) (by omega)]
  have e : (B + r * 128).toNat = B.toNat ||| r.toNat * 2 ^ 7 := by
    rw [CX.nat_or 7 5 B.toNat r.toNat (by omega) (by omega)]
    omega
  rw [e, show 4294967295 - (3968 : Int).toNat = 4294963327 from rfl, Nat.and_or_distrib_right, show 2 ^ 7 = 128 from rfl, mask0 _ (by omega), Nat.or_zero]
theorem seventeen (x : Int) : 1 ≤ wrap64 (wrap64 ((IntKind.u64.wrap x).tmod 17) + 1) ∧ wrap64 (wrap64 ((IntKind.u64.wrap x).tmod 17) + 1) ≤ 17 := by
  have h0 : 0 ≤ IntKind.u64.wrap x := by rw [show IntKind.u64.wrap x = x % 18446744073709551616 by simp [IntKind.wrap, IntKind.bits, IntKind.signed]]; omega
  rw [Int.tmod_eq_emod_of_nonneg h0]
  generalize IntKind.u64.wrap x = z at *
  unfold wrap64
  omega
theorem stp {wc w1 : World} {o : Obj} (h : Below (wc.alloc o).heap.size (wc.alloc o) w1) : Below wc.heap.size wc w1 := (box0 wc o).trans (h.mono (by simp only [World.size_alloc]; omega))
theorem kept {wc w1 : World} {I : Array Value} {T : TypeId} (h : Below (wc.alloc (.cells I T)).heap.size (wc.alloc (.cells I T)) w1) : w1.heap[wc.heap.size]? = some (.cells I T (0, 0)) := by
  rw [h.block _ (by simp only [World.size_alloc]; omega)]
  exact newAt _ _ _ rfl
theorem kept3 {w w1 : World} {x y z : Int} {T : TypeId} (h : Below (w.alloc (.cells #[.int .u8 x, .int .u8 y, .int .u8 z] T)).heap.size (w.alloc (.cells #[.int .u8 x, .int .u8 y, .int .u8 z] T)) w1) :
    w1.cell? ⟨w.heap.size, 0, none⟩ = some (.int .u8 x) ∧ w1.cell? ⟨w.heap.size, 1, none⟩ = some (.int .u8 y) ∧ w1.cell? ⟨w.heap.size, 2, none⟩ = some (.int .u8 z) :=
  ⟨cell_of_row _ _ _ _ _ _ (kept h), cell_of_row _ _ _ _ _ _ (kept h), cell_of_row _ _ _ _ _ _ (kept h)⟩

set_option maxRecDepth 100000 in
set_option maxHeartbeats 8000000 in
theorem walk (a0 : Int) (wa0 : (Lit.int .i64 a0).wf = true) (a1 b1 c1 : Int) (wa1 : (Lit.int .u8 a1).wf = true) (wb1 : (Lit.int .u8 b1).wf = true) (wc1 : (Lit.int .u8 c1).wf = true) (a2 : Int) (wa2 : (Lit.int .u8 a2).wf = true) (w : World) :
    Calls Try.prog 7 #[.int .i64 a0, .agg #[.int .u8 a1, .int .u8 b1, .int .u8 c1], .int .u8 a2] w fun e w' => e = .returned (.bool true) ∧ Below w.heap.size w w' := by
  have hr := bounds_u8 wa1
  have hs := bounds_u8 wb1
  have ht := bounds_u8 wc1
  have hu := bounds_u8 wa2
  go_enter Try.func7, Try.ntmps7
  go_upto_region 3 with (go_at_call 9; refine (awake _).mono ?_; rintro e w' ⟨rfl, hb0⟩)
  go_cut [0] from 15 (fun s0 wx => wx = w' ∧ ∃ p : Int, s0 = .int .i64 p ∧ 1 ≤ p ∧ p ≤ 17)
  case first =>
    go_wp2
    go_meet
    exact ⟨rfl, _, rfl, seventeen a0⟩
  case rest =>
    obtain ⟨rfl, p, rfl, hp0, hp1⟩ := hcut
    have q1 : 0 ≤ a1 % 32 ∧ a1 % 32 ≤ 31 := by omega
    have q2 : 0 ≤ b1 % 32 ∧ b1 % 32 ≤ 31 := by omega
    have q3 : 0 ≤ c1 % 32 ∧ c1 % 32 ≤ 31 := by omega
    have q4 : 0 ≤ (a1 % 32 + 1 + a2 % 31) % 32 ∧ (a1 % 32 + 1 + a2 % 31) % 32 ≤ 31 := by omega
    have q5 : (a1 % 32 + 1 + a2 % 31) % 32 ≠ a1 % 32 := by omega
    have k1 := fun w => encode_ p (a1 % 32) (b1 % 32) (c1 % 32) 0 (WalkArith.wf_i64 (by omega)) w
    have k2 := fun w => encode_ p ((a1 % 32 + 1 + a2 % 31) % 32) (b1 % 32) (c1 % 32) 0 (WalkArith.wf_i64 (by omega)) w
    rw [enc0 hp0 hp1 q1 q2 q3] at k1
    rw [enc0 hp0 hp1 q4 q2 q3] at k2
    unfold iv at k1 k2
    obtain ⟨f1, f2, f3, f4, f5, f6, f7, f8, f9⟩ := word0 hp0 hp1 q1 q2 q3
    obtain ⟨-, -, -, -, g5, -⟩ := word0 hp0 hp1 q4 q2 q3
    have hW := enc_bd p (a1 % 32) (b1 % 32) (c1 % 32) 0
    have hX := enc_bd p ((a1 % 32 + 1 + a2 % 31) % 32) (b1 % 32) (c1 % 32) 0
    have hne : encW p ((a1 % 32 + 1 + a2 % 31) % 32) (b1 % 32) (c1 % 32) 0 ≠ encW p (a1 % 32) (b1 % 32) (c1 % 32) 0 := by omega
    have hz : (51 + 4096 * CM.f3 p + 32768 * (b1 % 32) + 1048576 * (c1 % 32) + 33554432 * CM.f7 p) / 128 % 32 = 0 := by omega
    have hA : bits .andNot .u32 (encW p ((a1 % 32 + 1 + a2 % 31) % 32) (b1 % 32) (c1 % 32) 0) 3968 = bits .andNot .u32 (encW p (a1 % 32) (b1 % 32) (c1 % 32) 0) 3968 := by
      rw [g5, f5, without _ _ (by omega) q4 hz (by omega), without _ _ (by omega) q1 hz (by omega)]
    have hx : (encW p ((a1 % 32 + 1 + a2 % 31) % 32) (b1 % 32) (c1 % 32) 0 != encW p (a1 % 32) (b1 % 32) (c1 % 32) 0) = true := by simp [hne]
    clear f5 g5 hz hne q5 f6 f7 f8 f9
    generalize encW p (a1 % 32) (b1 % 32) (c1 % 32) 0 = W at *
    generalize encW p ((a1 % 32 + 1 + a2 % 31) % 32) (b1 % 32) (c1 % 32) 0 = X at *
    obtain ⟨r0, r1, r2⟩ := kept3 hb0
    have b0 := stp hb0
    clear hb0
    go_upto_region 6 with ((with_reducible refine (k1 _).mono ?_); rintro e w1 ⟨rfl, hb1⟩)
    obtain ⟨p0, p1, p2, p3, p4⟩ := CP.cells5 (kept hb1)
    have b1' := b0.trans ((stp hb1).mono b0.size)
    have z1 : wc.heap.size < w1.heap.size := by have := hb1.size; simp only [World.size_alloc] at this; omega
    clear r0 r1 r2 b0 hb1
    go_wp2_with ((with_reducible refine (k2 _).mono ?_); rintro e w2 ⟨rfl, hb2⟩)
    go_ret
    exact ⟨rfl, b1'.trans ((stp hb2).mono b1'.size)⟩

set_option maxRecDepth 100000 in
theorem lifted (os : Os) (started : os.Started) (H : Type) (enc : TypeId × Value → H) :
    ReturnsInHanded {} Try.checked os 7 .any (Rows.codeRegsSpec.pre6 enc Try.prog Try.f7 Rows.codeRegsRow.domain false) (Rows.codeRegsSpec.post enc Try.prog Try.f7 false true false false) := by
  refine returnsInHanded_of_change (C := Try.checked) own started (by kernel_rfl) Try.func7
    (ChangeSpec.witness6 (enc := enc) (C := Try.checked) false ⟨#[], #[.int .i64 0, .agg #[.int .u8 0, .int .u8 0, .int .u8 0], .int .u8 0], []⟩ 8 (by kernel_rfl) (by kernel_rfl) (by kernel_rfl) (by kernel_rfl)) ?_
  intro W base args ds gs before hval0 hW hcnd _
  have hval : ∀ (j : Nat) t v, Try.f7.params[j]? = some t → args[j]? = some v → Value.okWide Try.prog W .any base t v := hval0
  have hW' := hW
  obtain ⟨p, q, hA0, hV, rfl, hfz, hnd⟩ := hW
  have hA : DataW.TrodAll enc Try.prog W 0 (fun _ => true) true Try.f7.params.toList args.toList ds p := hA0
  rw [Try.params7] at hA hval
  obtain ⟨v0, vs0, d0, ds0, p0, q0, hargs, rfl, rfl, h0, r0⟩ := trodAll_cons hA
  obtain ⟨v1, vs1, d1, ds1, p1, q1, rfl, rfl, rfl, h1, r1⟩ := trodAll_cons r0
  obtain ⟨v2, vs2, d2, ds2, p2, q2, rfl, rfl, rfl, h2, r2⟩ := trodAll_cons r1
  obtain ⟨rfl, rfl, rfl⟩ := trodAll_nil r2
  obtain rfl : args = #[v0, v1, v2] := by cases args; simp_all
  obtain ⟨rfl, rfl⟩ := trodVars_none hV
  obtain ⟨a0, rfl, rfl, rfl, wa0⟩ := open_int Try.underlying3 (hval 0 3 v0 rfl rfl) h0
  obtain ⟨a1, b1, c1, rfl, rfl, rfl, wa1, wb1, wc1⟩ := CP.open_three (hval 1 43 v1 rfl rfl) h1
  obtain ⟨a2, rfl, rfl, rfl, wa2⟩ := open_int Try.underlying5 (hval 2 5 v2 rfl rfl) h2
  clear hA0 hval0
  simp only [List.append_nil] at hW'
  refine (walk a0 wa0 a1 b1 c1 wa1 wb1 wc1 a2 wa2 W).mono fun e W' ⟨he, hg⟩ => ?_
  subst he
  exact ⟨_, rfl, _, _, _, [], [], [], hW', (trodAll_cons_mk (shut_bool Try.underlying4 _) trodAll_mk0), (trodAll_cons_mk (shut_int Try.underlying3 wa0) (trodAll_cons_mk (CP.shut_three wa1 wb1 wc1) (trodAll_cons_mk (shut_int Try.underlying5 wa2) trodAll_mk0))), rfl, hg.frame _, fun h => by cases h⟩

theorem over : Rows.codeRegsRow.holds Try.pinned (OpenSpec.ofChange Rows.codeRegsSpec) :=
  OpenClaim.holds_of_wide 7 Try.f7 rfl rfl rfl rfl rfl rfl rfl ⟨rfl, rfl, rfl, rfl, rfl⟩ rfl rfl rfl rfl rfl (by kernel_rfl) Try.func7 (by kernel_rfl)
    (of_decide_eq_true (by kernel_rfl)) (by unfold Func.isWrapper; first | (rw [if_pos (by decide +kernel)]; kernel_rfl) | (rw [if_neg (by decide +kernel)]; exact ⟨rfl, rfl⟩))
    (fun os started H enc _ => lifted os started H enc)

/-- The statement. -/
theorem proved : Rows.CodeRegsSaid :=
  over
end Go.Proofs.Ytcchmnilcmnajaa.codeRegs
