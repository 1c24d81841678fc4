/-
  What a run's act answers, by the kinds of instructions: each a contract.
  What a run's act answers, by the kinds of instructions: each a contract.
  What a run's act answers, by the kinds of instructions: each a contract.
  What a run's act answers, by the kinds of instructions: each a contract.
  What a run's act answers, by the kinds of instructions: each a contract.
-/
import Derived.Test.YtlmblfkcmhgdaaaGreatMachQh
namespace Go.Proofs.YtlmblfkcmhgdaaaGreat
open Go.RowKit
set_option linter.unusedVariables false
set_option linter.unusedSimpArgs false
namespace MA
attribute [local go_sem ↓] Go.wp_at_zero Go.wp_at_succ
open MM MC MD MG MH
section
variable {B br bk b bm N : Nat} {sd : List (Nat × Obj)} {w w' : World} {s s' : St} {vi ve : Value} {inp : List Int} {out : List Ev} {n c : Nat}
set_option maxRecDepth 100000 in
set_option maxHeartbeats 4000000 in
theorem act_18 (L : Lives B br bk b bm N sd w s vi ve inp out n c) (hs : Fine s) (hN : N ≤ 2097152) (rd r1 r2 : Nat) (hd : rd < 32) (h1 : r1 < 32) (h2 : r2 < 32) (im : Int)  :
    Calls Tryz.prog 92 #[.pointer (some ⟨br, 0, none⟩), .agg #[.int .i64 18, .int .i64 rd, .int .i64 r1, .int .i64 r2, .int .i64 im]] w fun e w' => e = .returned (.int .u32 ((s.pc + 4) % 4294967296)) ∧ Lives B br bk b bm N sd w' (setx s rd (WM.val 1 (s.x r1) (im % 4294967296))) vi ve inp out n c ∧ Own B b bm w w' := by
  have hB := L.big
  have p0 := L.r0
  have p1 := L.at_.cx h1
  have p2 := L.at_.cx h2
  have p5 := L.at_.cpc
  have pl := lt_of_get L.run
  have pb := lt_of_get L.at_.head
  have i1 : (0 : Int) ≤ r1 ∧ (r1 : Int) < 32 := by omega
  have i2 : (0 : Int) ≤ r2 ∧ (r2 : Int) < 32 := by omega
  have i3 : (0 : Int) ≤ rd ∧ (rd : Int) < 32 := by omega
  have co := fun w => RC.of_ im w
  have x1 := hs.x r1
  have x2 := hs.x r2
  have xm := mod_bd im
  have xp := hs.pc
  have LB := Lives.drew (Lives.box L (.cells #[.int .i64 18, .int .i64 rd, .int .i64 r1, .int .i64 r2, .int .i64 im] 54))
  have cw := fun w => withoutImm_ 18 (by omega) (by omega) w
  rw [show plainOp 18 = 1 from rfl] at cw
  have cr := fun w => reckoned_ 1 (s.x r1) (im % 4294967296) (by decide) x1 xm w
  have cp := put_ (Lives.drew LB) rd hd (WM.val 1 (s.x r1) (im % 4294967296))
  generalize WM.val 1 (s.x r1) (im % 4294967296) = V at *
  clear LB
  clear L hs hN
  generalize im % 4294967296 = J at *
  go_enter Tryz.func92, Tryz.ntmps92
  go_wp2
  refine still_ (by kernel_rfl) (by kernel_rfl) ?_
  repeat still_step
  still_call (co _)
  repeat still_step
  refine wpStill_nil ?_
  go_wp2
  refine tail_ 9 (by kernel_rfl) (by kernel_rfl) ?_
  simp only [List.take_succ_cons, List.take_zero, List.drop_succ_cons, List.drop_zero]
  repeat still_step
  still_call (cw _)
  repeat still_step
  still_call (cr _)
  repeat still_step
  refine wpStill_nil ?_
  go_wp2_with (go_at_call 111; (with_reducible refine cp.mono ?_); rintro e w1 ⟨rfl, L1, O1⟩)
  go_ret
  exact ⟨rfl, L1, (own_drew (own_drew (own_box (by omega) _))).trans O1⟩
end
end MA
end Go.Proofs.YtlmblfkcmhgdaaaGreat
namespace Go.Proofs.YtlmblfkcmhgdaaaGreat
open Go.RowKit
set_option linter.unusedVariables false
set_option linter.unusedSimpArgs false
namespace MA
attribute [local go_sem ↓] Go.wp_at_zero Go.wp_at_succ
open MM MC MD MG MH
section
variable {B br bk b bm N : Nat} {sd : List (Nat × Obj)} {w w' : World} {s s' : St} {vi ve : Value} {inp : List Int} {out : List Ev} {n c : Nat}
set_option maxRecDepth 100000 in
set_option maxHeartbeats 4000000 in
theorem act_29 (L : Lives B br bk b bm N sd w s vi ve inp out n c) (hs : Fine s) (hN : N ≤ 2097152) (rd r1 r2 : Nat) (hd : rd < 32) (h1 : r1 < 32) (h2 : r2 < 32) (im : Int) (hf : fit N ((s.x r1 + im % 4294967296) % 4294967296) 4 = true) :
    Calls Tryz.prog 92 #[.pointer (some ⟨br, 0, none⟩), .agg #[.int .i64 29, .int .i64 rd, .int .i64 r1, .int .i64 r2, .int .i64 im]] w fun e w' => e = .returned (.int .u32 ((s.pc + 4) % 4294967296)) ∧ Lives B br bk b bm N sd w' (setx s rd (num s.mem ((s.x r1 + im % 4294967296) % 4294967296).toNat 4)) vi ve inp out n c ∧ Own B b bm w w' := by
  have hB := L.big
  have p0 := L.r0
  have p1 := L.at_.cx h1
  have p2 := L.at_.cx h2
  have p5 := L.at_.cpc
  have pl := lt_of_get L.run
  have pb := lt_of_get L.at_.head
  have i1 : (0 : Int) ≤ r1 ∧ (r1 : Int) < 32 := by omega
  have i2 : (0 : Int) ≤ r2 ∧ (r2 : Int) < 32 := by omega
  have i3 : (0 : Int) ≤ rd ∧ (rd : Int) < 32 := by omega
  have co := fun w => RC.of_ im w
  have x1 := hs.x r1
  have x2 := hs.x r2
  have xm := mod_bd im
  have xp := hs.pc
  have LB := Lives.drew (Lives.box L (.cells #[.int .i64 29, .int .i64 rd, .int .i64 r1, .int .i64 r2, .int .i64 im] 54))
  have cl := load_29 LB hs hN rd hd r1 r2 im ((s.x r1 + im % 4294967296) % 4294967296) (mod_bd _) hf
  clear LB hf
  generalize setx s rd (num s.mem ((s.x r1 + im % 4294967296) % 4294967296).toNat 4) = S at *
  clear L hs hN
  generalize im % 4294967296 = J at *
  go_enter Tryz.func92, Tryz.ntmps92
  go_wp2
  refine still_ (by kernel_rfl) (by kernel_rfl) ?_
  repeat still_step
  still_call (co _)
  repeat still_step
  refine wpStill_nil ?_
  go_wp2_with (go_at_call 108; (with_reducible refine cl.mono ?_); rintro e w1 ⟨rfl, L1, O1⟩)
  go_ret
  exact ⟨rfl, L1, (own_drew (own_box (by omega) _)).trans O1⟩
end
end MA
end Go.Proofs.YtlmblfkcmhgdaaaGreat
namespace Go.Proofs.YtlmblfkcmhgdaaaGreat
open Go.RowKit
set_option linter.unusedVariables false
set_option linter.unusedSimpArgs false
namespace MA
attribute [local go_sem ↓] Go.wp_at_zero Go.wp_at_succ
open MM MC MD MG MH
section
variable {B br bk b bm N : Nat} {sd : List (Nat × Obj)} {w w' : World} {s s' : St} {vi ve : Value} {inp : List Int} {out : List Ev} {n c : Nat}
end
end MA
end Go.Proofs.YtlmblfkcmhgdaaaGreat
namespace Go.Proofs.YtlmblfkcmhgdaaaGreat
open Go.RowKit
set_option linter.unusedVariables false
set_option linter.unusedSimpArgs false
namespace MA
attribute [local go_sem ↓] Go.wp_at_zero Go.wp_at_succ
open MM MC MD MG MH
theorem even_nat (a : Nat) (h : a < 4294967296) : a &&& 4294967294 = a / 2 * 2 := by
  apply Nat.eq_of_testBit_eq
  intro i
  rw [Nat.testBit_and]
  cases i with
  | zero => simp [Nat.testBit_zero]
  | succ i =>
    rw [Nat.testBit_succ, Nat.testBit_succ, Nat.testBit_succ, Nat.mul_div_cancel _ (by omega)]
    rw [show (4294967294 : Nat) / 2 = 2 ^ 31 - 1 from rfl, Nat.testBit_two_pow_sub_one]
    by_cases hi : i < 31
    · simp [hi]
    · have : (a / 2).testBit i = false := Nat.testBit_lt_two_pow (Nat.lt_of_lt_of_le (show a / 2 < 2 ^ 31 by omega) (Nat.pow_le_pow_right (by omega) (by omega)))
      simp [this]
theorem even_ (x : Int) (h : 0 ≤ x ∧ x < 4294967296) : bits .andNot .u32 x 1 = x / 2 * 2 := by
  obtain ⟨a, rfl⟩ : ∃ a : Nat, x = a := ⟨x.toNat, by omega⟩
  have e : (BitVec.ofInt 32 (a : Int)).toNat = a := by rw [BitVec.toNat_ofInt]; omega
  show IntKind.u32.wrap ((BitVec.ofInt 32 (a : Int) &&& ~~~ BitVec.ofInt 32 1).toNat : Int) = _
  rw [BitVec.toNat_and, e, show (~~~ BitVec.ofInt 32 1).toNat = 4294967294 from rfl, even_nat a (by omega), IntKind.wrap_u32']
  omega
section
variable {B br bk b bm N : Nat} {sd : List (Nat × Obj)} {w w' : World} {s s' : St} {vi ve : Value} {inp : List Int} {out : List Ev} {n c : Nat}
set_option maxRecDepth 100000 in
set_option maxHeartbeats 4000000 in
theorem act_38 (L : Lives B br bk b bm N sd w s vi ve inp out n c) (hs : Fine s) (hN : N ≤ 2097152) (rd r1 r2 : Nat) (hd : rd < 32) (h1 : r1 < 32) (h2 : r2 < 32) (im : Int)  :
    Calls Tryz.prog 92 #[.pointer (some ⟨br, 0, none⟩), .agg #[.int .i64 38, .int .i64 rd, .int .i64 r1, .int .i64 r2, .int .i64 im]] w fun e w' => e = .returned (.int .u32 ((s.pc + 4) % 4294967296)) ∧ Lives B br bk b bm N sd w' (setx s rd (im % 4294967296 * 4096 % 4294967296)) vi ve inp out n c ∧ Own B b bm w w' := by
  have hB := L.big
  have p0 := L.r0
  have p1 := L.at_.cx h1
  have p2 := L.at_.cx h2
  have p5 := L.at_.cpc
  have pl := lt_of_get L.run
  have pb := lt_of_get L.at_.head
  have i1 : (0 : Int) ≤ r1 ∧ (r1 : Int) < 32 := by omega
  have i2 : (0 : Int) ≤ r2 ∧ (r2 : Int) < 32 := by omega
  have i3 : (0 : Int) ≤ rd ∧ (rd : Int) < 32 := by omega
  have co := fun w => RC.of_ im w
  have x1 := hs.x r1
  have x2 := hs.x r2
  have xm := mod_bd im
  have xp := hs.pc
  have LB := Lives.drew (Lives.box L (.cells #[.int .i64 38, .int .i64 rd, .int .i64 r1, .int .i64 r2, .int .i64 im] 54))
  have cp := put_ LB rd hd (im % 4294967296 * 4096 % 4294967296)
  clear LB
  clear L hs hN
  generalize im % 4294967296 = J at *
  go_enter Tryz.func92, Tryz.ntmps92
  go_wp2
  refine still_ (by kernel_rfl) (by kernel_rfl) ?_
  repeat still_step
  still_call (co _)
  repeat still_step
  refine wpStill_nil ?_
  go_wp2_with (go_at_call 111; (with_reducible refine cp.mono ?_); rintro e w1 ⟨rfl, L1, O1⟩)
  go_ret
  exact ⟨rfl, L1, (own_drew (own_box (by omega) _)).trans O1⟩
set_option maxRecDepth 100000 in
set_option maxHeartbeats 4000000 in
theorem act_40 (L : Lives B br bk b bm N sd w s vi ve inp out n c) (hs : Fine s) (hN : N ≤ 2097152) (rd r1 r2 : Nat) (hd : rd < 32) (h1 : r1 < 32) (h2 : r2 < 32) (im : Int)  :
    Calls Tryz.prog 92 #[.pointer (some ⟨br, 0, none⟩), .agg #[.int .i64 40, .int .i64 rd, .int .i64 r1, .int .i64 r2, .int .i64 im]] w fun e w' => e = .returned (.int .u32 ((s.pc + im % 4294967296) % 4294967296)) ∧ Lives B br bk b bm N sd w' (setx s rd ((s.pc + 4) % 4294967296)) vi ve inp out n c ∧ Own B b bm w w' := by
  have hB := L.big
  have p0 := L.r0
  have p1 := L.at_.cx h1
  have p2 := L.at_.cx h2
  have p5 := L.at_.cpc
  have pl := lt_of_get L.run
  have pb := lt_of_get L.at_.head
  have i1 : (0 : Int) ≤ r1 ∧ (r1 : Int) < 32 := by omega
  have i2 : (0 : Int) ≤ r2 ∧ (r2 : Int) < 32 := by omega
  have i3 : (0 : Int) ≤ rd ∧ (rd : Int) < 32 := by omega
  have co := fun w => RC.of_ im w
  have x1 := hs.x r1
  have x2 := hs.x r2
  have xm := mod_bd im
  have xp := hs.pc
  have LB := Lives.drew (Lives.box L (.cells #[.int .i64 40, .int .i64 rd, .int .i64 r1, .int .i64 r2, .int .i64 im] 54))
  have cp := put_ LB rd hd ((s.pc + 4) % 4294967296)
  have hpc : (setx s rd ((s.pc + 4) % 4294967296)).pc = s.pc := by unfold setx; split <;> rfl
  generalize setx s rd ((s.pc + 4) % 4294967296) = S at *
  have HP := Lib.hid hpc
  clear LB hpc
  clear L hs hN
  generalize im % 4294967296 = J at *
  go_enter Tryz.func92, Tryz.ntmps92
  go_wp2
  refine still_ (by kernel_rfl) (by kernel_rfl) ?_
  repeat still_step
  still_call (co _)
  repeat still_step
  refine wpStill_nil ?_
  go_wp2_with (go_at_call 111; (with_reducible refine cp.mono ?_); rintro e w1 ⟨rfl, L1, O1⟩; have q0 := L1.r0; have q5 := L1.at_.cpc; rw [HP.out] at q5; have HL := Lib.hid L1; clear L1)
  go_ret
  exact ⟨rfl, HL.out, (own_drew (own_box (by omega) _)).trans O1⟩
set_option maxRecDepth 100000 in
set_option maxHeartbeats 4000000 in
theorem act_41 (L : Lives B br bk b bm N sd w s vi ve inp out n c) (hs : Fine s) (hN : N ≤ 2097152) (rd r1 r2 : Nat) (hd : rd < 32) (h1 : r1 < 32) (h2 : r2 < 32) (im : Int)  :
    Calls Tryz.prog 92 #[.pointer (some ⟨br, 0, none⟩), .agg #[.int .i64 41, .int .i64 rd, .int .i64 r1, .int .i64 r2, .int .i64 im]] w fun e w' => e = .returned (.int .u32 ((s.x r1 + im % 4294967296) % 4294967296 / 2 * 2)) ∧ Lives B br bk b bm N sd w' (setx s rd ((s.pc + 4) % 4294967296)) vi ve inp out n c ∧ Own B b bm w w' := by
  have hB := L.big
  have p0 := L.r0
  have p1 := L.at_.cx h1
  have p2 := L.at_.cx h2
  have p5 := L.at_.cpc
  have pl := lt_of_get L.run
  have pb := lt_of_get L.at_.head
  have i1 : (0 : Int) ≤ r1 ∧ (r1 : Int) < 32 := by omega
  have i2 : (0 : Int) ≤ r2 ∧ (r2 : Int) < 32 := by omega
  have i3 : (0 : Int) ≤ rd ∧ (rd : Int) < 32 := by omega
  have co := fun w => RC.of_ im w
  have x1 := hs.x r1
  have x2 := hs.x r2
  have xm := mod_bd im
  have xp := hs.pc
  have LB := Lives.drew (Lives.box L (.cells #[.int .i64 41, .int .i64 rd, .int .i64 r1, .int .i64 r2, .int .i64 im] 54))
  have cp := put_ LB rd hd ((s.pc + 4) % 4294967296)
  have he := Lib.hid (even_ ((s.x r1 + im % 4294967296) % 4294967296) (by omega))
  clear LB
  clear L hs hN
  generalize im % 4294967296 = J at *
  go_enter Tryz.func92, Tryz.ntmps92
  go_wp2
  refine still_ (by kernel_rfl) (by kernel_rfl) ?_
  repeat still_step
  still_call (co _)
  repeat still_step
  refine wpStill_nil ?_
  go_wp2_with (go_at_call 111; (with_reducible refine cp.mono ?_); rintro e w1 ⟨rfl, L1, O1⟩)
  go_ret
  exact ⟨ret_int (by first | exact he.out | (simpa using he.out)), L1, (own_drew (own_box (by omega) _)).trans O1⟩
set_option maxRecDepth 100000 in
set_option maxHeartbeats 4000000 in
theorem act_e3 (L : Lives B br bk b bm N sd w s vi ve inp out n c) (hs : Fine s) (hN : N ≤ 2097152) (rd r1 r2 : Nat) (hd : rd < 32) (h1 : r1 < 32) (h2 : r2 < 32) (im : Int) (h : s.x 17 = 3) :
    Calls Tryz.prog 92 #[.pointer (some ⟨br, 0, none⟩), .agg #[.int .i64 42, .int .i64 rd, .int .i64 r1, .int .i64 r2, .int .i64 im]] w fun e w' => e = .returned (.int .u32 ((s.pc + 4) % 4294967296)) ∧ Lives B br bk b bm N sd w' (setst s 1) vi ve inp out n c ∧ Own B b bm w w' := by
  have hB := L.big
  have p0 := L.r0
  have p1 := L.at_.cx h1
  have p2 := L.at_.cx h2
  have p5 := L.at_.cpc
  have pl := lt_of_get L.run
  have pb := lt_of_get L.at_.head
  have i1 : (0 : Int) ≤ r1 ∧ (r1 : Int) < 32 := by omega
  have i2 : (0 : Int) ≤ r2 ∧ (r2 : Int) < 32 := by omega
  have i3 : (0 : Int) ≤ rd ∧ (rd : Int) < 32 := by omega
  have co := fun w => RC.of_ im w
  have x1 := hs.x r1
  have x2 := hs.x r2
  have xm := mod_bd im
  have xp := hs.pc
  have LB := Lives.drew (Lives.box L (.cells #[.int .i64 42, .int .i64 rd, .int .i64 r1, .int .i64 r2, .int .i64 im] 54))
  have cc := ME.call_3 LB h
  clear LB h
  clear L hs hN
  generalize im % 4294967296 = J at *
  go_enter Tryz.func92, Tryz.ntmps92
  go_wp2
  refine still_ (by kernel_rfl) (by kernel_rfl) ?_
  repeat still_step
  still_call (co _)
  repeat still_step
  refine wpStill_nil ?_
  go_wp2_with (go_at_call 112; (with_reducible refine cc.mono ?_); rintro e w1 ⟨rfl, L1, O1⟩)
  go_ret
  exact ⟨rfl, L1, (own_drew (own_box (by omega) _)).trans O1⟩
end
end MA
end Go.Proofs.YtlmblfkcmhgdaaaGreat
namespace Go.Proofs.YtlmblfkcmhgdaaaGreat
open Go.RowKit
set_option linter.unusedVariables false
set_option linter.unusedSimpArgs false
namespace MA
attribute [local go_sem ↓] Go.wp_at_zero Go.wp_at_succ
open MM MC MD MG MH
section
variable {B br bk b bm N : Nat} {sd : List (Nat × Obj)} {w w' : World} {s s' : St} {vi ve : Value} {inp : List Int} {out : List Ev} {n c : Nat}
end
end MA
end Go.Proofs.YtlmblfkcmhgdaaaGreat
