/-
  What a run's act answers, by the kinds of instructions: each a contract.
-/
import Derived.Test.YtlmblfkcmhgdaaaGreatMachQh
namespace Go.Proofs.YtlmblfkcmhgdaaaGreat
open Go.RowKit
set_option linter.unusedVariables false
set_option linter.unusedSimpArgs false
namespace MA
attribute [local go_sem ↓] Go.wp_at_zero Go.wp_at_succ
open MM MC MD MG MH
section
variable {B br bk b bm N : Nat} {sd : List (Nat × Obj)} {w w' : World} {s s' : St} {vi ve : Value} {inp : List Int} {out : List Ev} {n c : Nat}
set_option maxRecDepth 100000 in
set_option maxHeartbeats 4000000 in
theorem act_alu (L : Lives B br bk b bm N sd w s vi ve inp out n c) (hs : Fine s) (hN : N ≤ 2097152) (rd r1 r2 : Nat) (hd : rd < 32) (h1 : r1 < 32) (h2 : r2 < 32) (im : Int) (op : Int) (ho : 1 ≤ op ∧ op ≤ 17) :
    Calls Tryz.prog 92 #[.pointer (some ⟨br, 0, none⟩), .agg #[.int .i64 op, .int .i64 rd, .int .i64 r1, .int .i64 r2, .int .i64 im]] w fun e w' => e = .returned (.int .u32 ((s.pc + 4) % 4294967296)) ∧ Lives B br bk b bm N sd w' (setx s rd (WM.val op (s.x r1) (s.x r2))) vi ve inp out n c ∧ Own B b bm w w' := by
  have hB := L.big
  have p0 := L.r0
  have p1 := L.at_.cx h1
  have p2 := L.at_.cx h2
  have p5 := L.at_.cpc
  have pl := lt_of_get L.run
  have pb := lt_of_get L.at_.head
  have i1 : (0 : Int) ≤ r1 ∧ (r1 : Int) < 32 := by omega
  have i2 : (0 : Int) ≤ r2 ∧ (r2 : Int) < 32 := by omega
  have i3 : (0 : Int) ≤ rd ∧ (rd : Int) < 32 := by omega
  have co := fun w => RC.of_ im w
  have x1 := hs.x r1
  have x2 := hs.x r2
  have xm := mod_bd im
  have xp := hs.pc
  have LB := Lives.drew (Lives.box L (.cells #[.int .i64 op, .int .i64 rd, .int .i64 r1, .int .i64 r2, .int .i64 im] 54))
  have f27 : (op == 27) = false := by simp; omega
  have f28 : (op == 28) = false := by simp; omega
  have f29 : (op == 29) = false := by simp; omega
  have f43 : (op == 43) = false := by simp; omega
  have f30 : (op == 30) = false := by simp; omega
  have f31 : (op == 31) = false := by simp; omega
  have f44 : (op == 44) = false := by simp; omega
  have f32 : (op == 32) = false := by simp; omega
  have f33 : (op == 33) = false := by simp; omega
  have f34 : (op == 34) = false := by simp; omega
  have f35 : (op == 35) = false := by simp; omega
  have f36 : (op == 36) = false := by simp; omega
  have f37 : (op == 37) = false := by simp; omega
  have f38 : (op == 38) = false := by simp; omega
  have f39 : (op == 39) = false := by simp; omega
  have f40 : (op == 40) = false := by simp; omega
  have f41 : (op == 41) = false := by simp; omega
  have f42 : (op == 42) = false := by simp; omega
  have f45 : (op == 45) = false := by simp; omega
  have f46 : (op == 46) = false := by simp; omega
  have f47 : (op == 47) = false := by simp; omega
  have f48 : (op == 48) = false := by simp; omega
  have f49 : (op == 49) = false := by simp; omega
  have f50 : (op == 50) = false := by simp; omega
  have f51 : (op == 51) = false := by simp; omega
  have f52 : (op == 52) = false := by simp; omega
  have f53 : (op == 53) = false := by simp; omega
  have f54 : (op == 54) = false := by simp; omega
  have f55 : (op == 55) = false := by simp; omega
  have f18 : (op == 18) = false := by simp; omega
  have f19 : (op == 19) = false := by simp; omega
  have f20 : (op == 20) = false := by simp; omega
  have f21 : (op == 21) = false := by simp; omega
  have f22 : (op == 22) = false := by simp; omega
  have f23 : (op == 23) = false := by simp; omega
  have f24 : (op == 24) = false := by simp; omega
  have f25 : (op == 25) = false := by simp; omega
  have f26 : (op == 26) = false := by simp; omega
  have cr := fun w => reckoned_ op (s.x r1) (s.x r2) (by simp [WM.isOp]; omega) x1 x2 w
  have cp := put_ (Lives.drew LB) rd hd (WM.val op (s.x r1) (s.x r2))
  generalize WM.val op (s.x r1) (s.x r2) = V at *
  clear LB
  clear L hs hN
  generalize im % 4294967296 = J at *
  go_enter Tryz.func92, Tryz.ntmps92
  go_wp2
  refine still_ (by kernel_rfl) (by kernel_rfl) ?_
  repeat still_step
  still_call (co _)
  repeat still_step
  refine wpStill_nil ?_
  go_wp2
  refine tail_ 8 (by kernel_rfl) (by kernel_rfl) ?_
  simp only [List.take_succ_cons, List.take_zero, List.drop_succ_cons, List.drop_zero]
  repeat still_step
  still_call (cr _)
  repeat still_step
  refine wpStill_nil ?_
  go_wp2_with (go_at_call 111; (with_reducible refine cp.mono ?_); rintro e w1 ⟨rfl, L1, O1⟩)
  go_ret
  exact ⟨rfl, L1, (own_drew (own_drew (own_box (by omega) _))).trans O1⟩
set_option maxRecDepth 100000 in
set_option maxHeartbeats 4000000 in
theorem act_18 (L : Lives B br bk b bm N sd w s vi ve inp out n c) (hs : Fine s) (hN : N ≤ 2097152) (rd r1 r2 : Nat) (hd : rd < 32) (h1 : r1 < 32) (h2 : r2 < 32) (im : Int)  :
    Calls Tryz.prog 92 #[.pointer (some ⟨br, 0, none⟩), .agg #[.int .i64 18, .int .i64 rd, .int .i64 r1, .int .i64 r2, .int .i64 im]] w fun e w' => e = .returned (.int .u32 ((s.pc + 4) % 4294967296)) ∧ Lives B br bk b bm N sd w' (setx s rd (WM.val 1 (s.x r1) (im % 4294967296))) vi ve inp out n c ∧ Own B b bm w w' := by
  have hB := L.big
  have p0 := L.r0
  have p1 := L.at_.cx h1
  have p2 := L.at_.cx h2
  have p5 := L.at_.cpc
  have pl := lt_of_get L.run
  have pb := lt_of_get L.at_.head
  have i1 : (0 : Int) ≤ r1 ∧ (r1 : Int) < 32 := by omega
  have i2 : (0 : Int) ≤ r2 ∧ (r2 : Int) < 32 := by omega
  have i3 : (0 : Int) ≤ rd ∧ (rd : Int) < 32 := by omega
  have co := fun w => RC.of_ im w
  have x1 := hs.x r1
  have x2 := hs.x r2
  have xm := mod_bd im
  have xp := hs.pc
  have LB := Lives.drew (Lives.box L (.cells #[.int .i64 18, .int .i64 rd, .int .i64 r1, .int .i64 r2, .int .i64 im] 54))
  have cw := fun w => withoutImm_ 18 (by omega) (by omega) w
  rw [show plainOp 18 = 1 from rfl] at cw
  have cr := fun w => reckoned_ 1 (s.x r1) (im % 4294967296) (by decide) x1 xm w
  have cp := put_ (Lives.drew LB) rd hd (WM.val 1 (s.x r1) (im % 4294967296))
  generalize WM.val 1 (s.x r1) (im % 4294967296) = V at *
  clear LB
  clear L hs hN
  generalize im % 4294967296 = J at *
  go_enter Tryz.func92, Tryz.ntmps92
  go_wp2
  refine still_ (by kernel_rfl) (by kernel_rfl) ?_
  repeat still_step
  still_call (co _)
  repeat still_step
  refine wpStill_nil ?_
  go_wp2
  refine tail_ 9 (by kernel_rfl) (by kernel_rfl) ?_
  simp only [List.take_succ_cons, List.take_zero, List.drop_succ_cons, List.drop_zero]
  repeat still_step
  still_call (cw _)
  repeat still_step
  still_call (cr _)
  repeat still_step
  refine wpStill_nil ?_
  go_wp2_with (go_at_call 111; (with_reducible refine cp.mono ?_); rintro e w1 ⟨rfl, L1, O1⟩)
  go_ret
  exact ⟨rfl, L1, (own_drew (own_drew (own_box (by omega) _))).trans O1⟩
set_option maxRecDepth 100000 in
set_option maxHeartbeats 4000000 in
theorem act_19 (L : Lives B br bk b bm N sd w s vi ve inp out n c) (hs : Fine s) (hN : N ≤ 2097152) (rd r1 r2 : Nat) (hd : rd < 32) (h1 : r1 < 32) (h2 : r2 < 32) (im : Int)  :
    Calls Tryz.prog 92 #[.pointer (some ⟨br, 0, none⟩), .agg #[.int .i64 19, .int .i64 rd, .int .i64 r1, .int .i64 r2, .int .i64 im]] w fun e w' => e = .returned (.int .u32 ((s.pc + 4) % 4294967296)) ∧ Lives B br bk b bm N sd w' (setx s rd (WM.val 4 (s.x r1) (im % 4294967296))) vi ve inp out n c ∧ Own B b bm w w' := by
  have hB := L.big
  have p0 := L.r0
  have p1 := L.at_.cx h1
  have p2 := L.at_.cx h2
  have p5 := L.at_.cpc
  have pl := lt_of_get L.run
  have pb := lt_of_get L.at_.head
  have i1 : (0 : Int) ≤ r1 ∧ (r1 : Int) < 32 := by omega
  have i2 : (0 : Int) ≤ r2 ∧ (r2 : Int) < 32 := by omega
  have i3 : (0 : Int) ≤ rd ∧ (rd : Int) < 32 := by omega
  have co := fun w => RC.of_ im w
  have x1 := hs.x r1
  have x2 := hs.x r2
  have xm := mod_bd im
  have xp := hs.pc
  have LB := Lives.drew (Lives.box L (.cells #[.int .i64 19, .int .i64 rd, .int .i64 r1, .int .i64 r2, .int .i64 im] 54))
  have cw := fun w => withoutImm_ 19 (by omega) (by omega) w
  rw [show plainOp 19 = 4 from rfl] at cw
  have cr := fun w => reckoned_ 4 (s.x r1) (im % 4294967296) (by decide) x1 xm w
  have cp := put_ (Lives.drew LB) rd hd (WM.val 4 (s.x r1) (im % 4294967296))
  generalize WM.val 4 (s.x r1) (im % 4294967296) = V at *
  clear LB
  clear L hs hN
  generalize im % 4294967296 = J at *
  go_enter Tryz.func92, Tryz.ntmps92
  go_wp2
  refine still_ (by kernel_rfl) (by kernel_rfl) ?_
  repeat still_step
  still_call (co _)
  repeat still_step
  refine wpStill_nil ?_
  go_wp2
  refine tail_ 9 (by kernel_rfl) (by kernel_rfl) ?_
  simp only [List.take_succ_cons, List.take_zero, List.drop_succ_cons, List.drop_zero]
  repeat still_step
  still_call (cw _)
  repeat still_step
  still_call (cr _)
  repeat still_step
  refine wpStill_nil ?_
  go_wp2_with (go_at_call 111; (with_reducible refine cp.mono ?_); rintro e w1 ⟨rfl, L1, O1⟩)
  go_ret
  exact ⟨rfl, L1, (own_drew (own_drew (own_box (by omega) _))).trans O1⟩
set_option maxRecDepth 100000 in
set_option maxHeartbeats 4000000 in
theorem act_20 (L : Lives B br bk b bm N sd w s vi ve inp out n c) (hs : Fine s) (hN : N ≤ 2097152) (rd r1 r2 : Nat) (hd : rd < 32) (h1 : r1 < 32) (h2 : r2 < 32) (im : Int)  :
    Calls Tryz.prog 92 #[.pointer (some ⟨br, 0, none⟩), .agg #[.int .i64 20, .int .i64 rd, .int .i64 r1, .int .i64 r2, .int .i64 im]] w fun e w' => e = .returned (.int .u32 ((s.pc + 4) % 4294967296)) ∧ Lives B br bk b bm N sd w' (setx s rd (WM.val 5 (s.x r1) (im % 4294967296))) vi ve inp out n c ∧ Own B b bm w w' := by
  have hB := L.big
  have p0 := L.r0
  have p1 := L.at_.cx h1
  have p2 := L.at_.cx h2
  have p5 := L.at_.cpc
  have pl := lt_of_get L.run
  have pb := lt_of_get L.at_.head
  have i1 : (0 : Int) ≤ r1 ∧ (r1 : Int) < 32 := by omega
  have i2 : (0 : Int) ≤ r2 ∧ (r2 : Int) < 32 := by omega
  have i3 : (0 : Int) ≤ rd ∧ (rd : Int) < 32 := by omega
  have co := fun w => RC.of_ im w
  have x1 := hs.x r1
  have x2 := hs.x r2
  have xm := mod_bd im
  have xp := hs.pc
  have LB := Lives.drew (Lives.box L (.cells #[.int .i64 20, .int .i64 rd, .int .i64 r1, .int .i64 r2, .int .i64 im] 54))
  have cw := fun w => withoutImm_ 20 (by omega) (by omega) w
  rw [show plainOp 20 = 5 from rfl] at cw
  have cr := fun w => reckoned_ 5 (s.x r1) (im % 4294967296) (by decide) x1 xm w
  have cp := put_ (Lives.drew LB) rd hd (WM.val 5 (s.x r1) (im % 4294967296))
  generalize WM.val 5 (s.x r1) (im % 4294967296) = V at *
  clear LB
  clear L hs hN
  generalize im % 4294967296 = J at *
  go_enter Tryz.func92, Tryz.ntmps92
  go_wp2
  refine still_ (by kernel_rfl) (by kernel_rfl) ?_
  repeat still_step
  still_call (co _)
  repeat still_step
  refine wpStill_nil ?_
  go_wp2
  refine tail_ 9 (by kernel_rfl) (by kernel_rfl) ?_
  simp only [List.take_succ_cons, List.take_zero, List.drop_succ_cons, List.drop_zero]
  repeat still_step
  still_call (cw _)
  repeat still_step
  still_call (cr _)
  repeat still_step
  refine wpStill_nil ?_
  go_wp2_with (go_at_call 111; (with_reducible refine cp.mono ?_); rintro e w1 ⟨rfl, L1, O1⟩)
  go_ret
  exact ⟨rfl, L1, (own_drew (own_drew (own_box (by omega) _))).trans O1⟩
set_option maxRecDepth 100000 in
set_option maxHeartbeats 4000000 in
theorem act_21 (L : Lives B br bk b bm N sd w s vi ve inp out n c) (hs : Fine s) (hN : N ≤ 2097152) (rd r1 r2 : Nat) (hd : rd < 32) (h1 : r1 < 32) (h2 : r2 < 32) (im : Int)  :
    Calls Tryz.prog 92 #[.pointer (some ⟨br, 0, none⟩), .agg #[.int .i64 21, .int .i64 rd, .int .i64 r1, .int .i64 r2, .int .i64 im]] w fun e w' => e = .returned (.int .u32 ((s.pc + 4) % 4294967296)) ∧ Lives B br bk b bm N sd w' (setx s rd (WM.val 6 (s.x r1) (im % 4294967296))) vi ve inp out n c ∧ Own B b bm w w' := by
  have hB := L.big
  have p0 := L.r0
  have p1 := L.at_.cx h1
  have p2 := L.at_.cx h2
  have p5 := L.at_.cpc
  have pl := lt_of_get L.run
  have pb := lt_of_get L.at_.head
  have i1 : (0 : Int) ≤ r1 ∧ (r1 : Int) < 32 := by omega
  have i2 : (0 : Int) ≤ r2 ∧ (r2 : Int) < 32 := by omega
  have i3 : (0 : Int) ≤ rd ∧ (rd : Int) < 32 := by omega
  have co := fun w => RC.of_ im w
  have x1 := hs.x r1
  have x2 := hs.x r2
  have xm := mod_bd im
  have xp := hs.pc
  have LB := Lives.drew (Lives.box L (.cells #[.int .i64 21, .int .i64 rd, .int .i64 r1, .int .i64 r2, .int .i64 im] 54))
  have cw := fun w => withoutImm_ 21 (by omega) (by omega) w
  rw [show plainOp 21 = 6 from rfl] at cw
  have cr := fun w => reckoned_ 6 (s.x r1) (im % 4294967296) (by decide) x1 xm w
  have cp := put_ (Lives.drew LB) rd hd (WM.val 6 (s.x r1) (im % 4294967296))
  generalize WM.val 6 (s.x r1) (im % 4294967296) = V at *
  clear LB
  clear L hs hN
  generalize im % 4294967296 = J at *
  go_enter Tryz.func92, Tryz.ntmps92
  go_wp2
  refine still_ (by kernel_rfl) (by kernel_rfl) ?_
  repeat still_step
  still_call (co _)
  repeat still_step
  refine wpStill_nil ?_
  go_wp2
  refine tail_ 9 (by kernel_rfl) (by kernel_rfl) ?_
  simp only [List.take_succ_cons, List.take_zero, List.drop_succ_cons, List.drop_zero]
  repeat still_step
  still_call (cw _)
  repeat still_step
  still_call (cr _)
  repeat still_step
  refine wpStill_nil ?_
  go_wp2_with (go_at_call 111; (with_reducible refine cp.mono ?_); rintro e w1 ⟨rfl, L1, O1⟩)
  go_ret
  exact ⟨rfl, L1, (own_drew (own_drew (own_box (by omega) _))).trans O1⟩
set_option maxRecDepth 100000 in
set_option maxHeartbeats 4000000 in
theorem act_22 (L : Lives B br bk b bm N sd w s vi ve inp out n c) (hs : Fine s) (hN : N ≤ 2097152) (rd r1 r2 : Nat) (hd : rd < 32) (h1 : r1 < 32) (h2 : r2 < 32) (im : Int)  :
    Calls Tryz.prog 92 #[.pointer (some ⟨br, 0, none⟩), .agg #[.int .i64 22, .int .i64 rd, .int .i64 r1, .int .i64 r2, .int .i64 im]] w fun e w' => e = .returned (.int .u32 ((s.pc + 4) % 4294967296)) ∧ Lives B br bk b bm N sd w' (setx s rd (WM.val 9 (s.x r1) (im % 4294967296))) vi ve inp out n c ∧ Own B b bm w w' := by
  have hB := L.big
  have p0 := L.r0
  have p1 := L.at_.cx h1
  have p2 := L.at_.cx h2
  have p5 := L.at_.cpc
  have pl := lt_of_get L.run
  have pb := lt_of_get L.at_.head
  have i1 : (0 : Int) ≤ r1 ∧ (r1 : Int) < 32 := by omega
  have i2 : (0 : Int) ≤ r2 ∧ (r2 : Int) < 32 := by omega
  have i3 : (0 : Int) ≤ rd ∧ (rd : Int) < 32 := by omega
  have co := fun w => RC.of_ im w
  have x1 := hs.x r1
  have x2 := hs.x r2
  have xm := mod_bd im
  have xp := hs.pc
  have LB := Lives.drew (Lives.box L (.cells #[.int .i64 22, .int .i64 rd, .int .i64 r1, .int .i64 r2, .int .i64 im] 54))
  have cw := fun w => withoutImm_ 22 (by omega) (by omega) w
  rw [show plainOp 22 = 9 from rfl] at cw
  have cr := fun w => reckoned_ 9 (s.x r1) (im % 4294967296) (by decide) x1 xm w
  have cp := put_ (Lives.drew LB) rd hd (WM.val 9 (s.x r1) (im % 4294967296))
  generalize WM.val 9 (s.x r1) (im % 4294967296) = V at *
  clear LB
  clear L hs hN
  generalize im % 4294967296 = J at *
  go_enter Tryz.func92, Tryz.ntmps92
  go_wp2
  refine still_ (by kernel_rfl) (by kernel_rfl) ?_
  repeat still_step
  still_call (co _)
  repeat still_step
  refine wpStill_nil ?_
  go_wp2
  refine tail_ 9 (by kernel_rfl) (by kernel_rfl) ?_
  simp only [List.take_succ_cons, List.take_zero, List.drop_succ_cons, List.drop_zero]
  repeat still_step
  still_call (cw _)
  repeat still_step
  still_call (cr _)
  repeat still_step
  refine wpStill_nil ?_
  go_wp2_with (go_at_call 111; (with_reducible refine cp.mono ?_); rintro e w1 ⟨rfl, L1, O1⟩)
  go_ret
  exact ⟨rfl, L1, (own_drew (own_drew (own_box (by omega) _))).trans O1⟩
set_option maxRecDepth 100000 in
set_option maxHeartbeats 4000000 in
theorem act_23 (L : Lives B br bk b bm N sd w s vi ve inp out n c) (hs : Fine s) (hN : N ≤ 2097152) (rd r1 r2 : Nat) (hd : rd < 32) (h1 : r1 < 32) (h2 : r2 < 32) (im : Int)  :
    Calls Tryz.prog 92 #[.pointer (some ⟨br, 0, none⟩), .agg #[.int .i64 23, .int .i64 rd, .int .i64 r1, .int .i64 r2, .int .i64 im]] w fun e w' => e = .returned (.int .u32 ((s.pc + 4) % 4294967296)) ∧ Lives B br bk b bm N sd w' (setx s rd (WM.val 10 (s.x r1) (im % 4294967296))) vi ve inp out n c ∧ Own B b bm w w' := by
  have hB := L.big
  have p0 := L.r0
  have p1 := L.at_.cx h1
  have p2 := L.at_.cx h2
  have p5 := L.at_.cpc
  have pl := lt_of_get L.run
  have pb := lt_of_get L.at_.head
  have i1 : (0 : Int) ≤ r1 ∧ (r1 : Int) < 32 := by omega
  have i2 : (0 : Int) ≤ r2 ∧ (r2 : Int) < 32 := by omega
  have i3 : (0 : Int) ≤ rd ∧ (rd : Int) < 32 := by omega
  have co := fun w => RC.of_ im w
  have x1 := hs.x r1
  have x2 := hs.x r2
  have xm := mod_bd im
  have xp := hs.pc
  have LB := Lives.drew (Lives.box L (.cells #[.int .i64 23, .int .i64 rd, .int .i64 r1, .int .i64 r2, .int .i64 im] 54))
  have cw := fun w => withoutImm_ 23 (by omega) (by omega) w
  rw [show plainOp 23 = 10 from rfl] at cw
  have cr := fun w => reckoned_ 10 (s.x r1) (im % 4294967296) (by decide) x1 xm w
  have cp := put_ (Lives.drew LB) rd hd (WM.val 10 (s.x r1) (im % 4294967296))
  generalize WM.val 10 (s.x r1) (im % 4294967296) = V at *
  clear LB
  clear L hs hN
  generalize im % 4294967296 = J at *
  go_enter Tryz.func92, Tryz.ntmps92
  go_wp2
  refine still_ (by kernel_rfl) (by kernel_rfl) ?_
  repeat still_step
  still_call (co _)
  repeat still_step
  refine wpStill_nil ?_
  go_wp2
  refine tail_ 9 (by kernel_rfl) (by kernel_rfl) ?_
  simp only [List.take_succ_cons, List.take_zero, List.drop_succ_cons, List.drop_zero]
  repeat still_step
  still_call (cw _)
  repeat still_step
  still_call (cr _)
  repeat still_step
  refine wpStill_nil ?_
  go_wp2_with (go_at_call 111; (with_reducible refine cp.mono ?_); rintro e w1 ⟨rfl, L1, O1⟩)
  go_ret
  exact ⟨rfl, L1, (own_drew (own_drew (own_box (by omega) _))).trans O1⟩
set_option maxRecDepth 100000 in
set_option maxHeartbeats 4000000 in
theorem act_24 (L : Lives B br bk b bm N sd w s vi ve inp out n c) (hs : Fine s) (hN : N ≤ 2097152) (rd r1 r2 : Nat) (hd : rd < 32) (h1 : r1 < 32) (h2 : r2 < 32) (im : Int)  :
    Calls Tryz.prog 92 #[.pointer (some ⟨br, 0, none⟩), .agg #[.int .i64 24, .int .i64 rd, .int .i64 r1, .int .i64 r2, .int .i64 im]] w fun e w' => e = .returned (.int .u32 ((s.pc + 4) % 4294967296)) ∧ Lives B br bk b bm N sd w' (setx s rd (WM.val 3 (s.x r1) (im % 4294967296))) vi ve inp out n c ∧ Own B b bm w w' := by
  have hB := L.big
  have p0 := L.r0
  have p1 := L.at_.cx h1
  have p2 := L.at_.cx h2
  have p5 := L.at_.cpc
  have pl := lt_of_get L.run
  have pb := lt_of_get L.at_.head
  have i1 : (0 : Int) ≤ r1 ∧ (r1 : Int) < 32 := by omega
  have i2 : (0 : Int) ≤ r2 ∧ (r2 : Int) < 32 := by omega
  have i3 : (0 : Int) ≤ rd ∧ (rd : Int) < 32 := by omega
  have co := fun w => RC.of_ im w
  have x1 := hs.x r1
  have x2 := hs.x r2
  have xm := mod_bd im
  have xp := hs.pc
  have LB := Lives.drew (Lives.box L (.cells #[.int .i64 24, .int .i64 rd, .int .i64 r1, .int .i64 r2, .int .i64 im] 54))
  have cw := fun w => withoutImm_ 24 (by omega) (by omega) w
  rw [show plainOp 24 = 3 from rfl] at cw
  have cr := fun w => reckoned_ 3 (s.x r1) (im % 4294967296) (by decide) x1 xm w
  have cp := put_ (Lives.drew LB) rd hd (WM.val 3 (s.x r1) (im % 4294967296))
  generalize WM.val 3 (s.x r1) (im % 4294967296) = V at *
  clear LB
  clear L hs hN
  generalize im % 4294967296 = J at *
  go_enter Tryz.func92, Tryz.ntmps92
  go_wp2
  refine still_ (by kernel_rfl) (by kernel_rfl) ?_
  repeat still_step
  still_call (co _)
  repeat still_step
  refine wpStill_nil ?_
  go_wp2
  refine tail_ 9 (by kernel_rfl) (by kernel_rfl) ?_
  simp only [List.take_succ_cons, List.take_zero, List.drop_succ_cons, List.drop_zero]
  repeat still_step
  still_call (cw _)
  repeat still_step
  still_call (cr _)
  repeat still_step
  refine wpStill_nil ?_
  go_wp2_with (go_at_call 111; (with_reducible refine cp.mono ?_); rintro e w1 ⟨rfl, L1, O1⟩)
  go_ret
  exact ⟨rfl, L1, (own_drew (own_drew (own_box (by omega) _))).trans O1⟩
set_option maxRecDepth 100000 in
set_option maxHeartbeats 4000000 in
theorem act_25 (L : Lives B br bk b bm N sd w s vi ve inp out n c) (hs : Fine s) (hN : N ≤ 2097152) (rd r1 r2 : Nat) (hd : rd < 32) (h1 : r1 < 32) (h2 : r2 < 32) (im : Int)  :
    Calls Tryz.prog 92 #[.pointer (some ⟨br, 0, none⟩), .agg #[.int .i64 25, .int .i64 rd, .int .i64 r1, .int .i64 r2, .int .i64 im]] w fun e w' => e = .returned (.int .u32 ((s.pc + 4) % 4294967296)) ∧ Lives B br bk b bm N sd w' (setx s rd (WM.val 7 (s.x r1) (im % 4294967296))) vi ve inp out n c ∧ Own B b bm w w' := by
  have hB := L.big
  have p0 := L.r0
  have p1 := L.at_.cx h1
  have p2 := L.at_.cx h2
  have p5 := L.at_.cpc
  have pl := lt_of_get L.run
  have pb := lt_of_get L.at_.head
  have i1 : (0 : Int) ≤ r1 ∧ (r1 : Int) < 32 := by omega
  have i2 : (0 : Int) ≤ r2 ∧ (r2 : Int) < 32 := by omega
  have i3 : (0 : Int) ≤ rd ∧ (rd : Int) < 32 := by omega
  have co := fun w => RC.of_ im w
  have x1 := hs.x r1
  have x2 := hs.x r2
  have xm := mod_bd im
  have xp := hs.pc
  have LB := Lives.drew (Lives.box L (.cells #[.int .i64 25, .int .i64 rd, .int .i64 r1, .int .i64 r2, .int .i64 im] 54))
  have cw := fun w => withoutImm_ 25 (by omega) (by omega) w
  rw [show plainOp 25 = 7 from rfl] at cw
  have cr := fun w => reckoned_ 7 (s.x r1) (im % 4294967296) (by decide) x1 xm w
  have cp := put_ (Lives.drew LB) rd hd (WM.val 7 (s.x r1) (im % 4294967296))
  generalize WM.val 7 (s.x r1) (im % 4294967296) = V at *
  clear LB
  clear L hs hN
  generalize im % 4294967296 = J at *
  go_enter Tryz.func92, Tryz.ntmps92
  go_wp2
  refine still_ (by kernel_rfl) (by kernel_rfl) ?_
  repeat still_step
  still_call (co _)
  repeat still_step
  refine wpStill_nil ?_
  go_wp2
  refine tail_ 9 (by kernel_rfl) (by kernel_rfl) ?_
  simp only [List.take_succ_cons, List.take_zero, List.drop_succ_cons, List.drop_zero]
  repeat still_step
  still_call (cw _)
  repeat still_step
  still_call (cr _)
  repeat still_step
  refine wpStill_nil ?_
  go_wp2_with (go_at_call 111; (with_reducible refine cp.mono ?_); rintro e w1 ⟨rfl, L1, O1⟩)
  go_ret
  exact ⟨rfl, L1, (own_drew (own_drew (own_box (by omega) _))).trans O1⟩
set_option maxRecDepth 100000 in
set_option maxHeartbeats 4000000 in
theorem act_26 (L : Lives B br bk b bm N sd w s vi ve inp out n c) (hs : Fine s) (hN : N ≤ 2097152) (rd r1 r2 : Nat) (hd : rd < 32) (h1 : r1 < 32) (h2 : r2 < 32) (im : Int)  :
    Calls Tryz.prog 92 #[.pointer (some ⟨br, 0, none⟩), .agg #[.int .i64 26, .int .i64 rd, .int .i64 r1, .int .i64 r2, .int .i64 im]] w fun e w' => e = .returned (.int .u32 ((s.pc + 4) % 4294967296)) ∧ Lives B br bk b bm N sd w' (setx s rd (WM.val 8 (s.x r1) (im % 4294967296))) vi ve inp out n c ∧ Own B b bm w w' := by
  have hB := L.big
  have p0 := L.r0
  have p1 := L.at_.cx h1
  have p2 := L.at_.cx h2
  have p5 := L.at_.cpc
  have pl := lt_of_get L.run
  have pb := lt_of_get L.at_.head
  have i1 : (0 : Int) ≤ r1 ∧ (r1 : Int) < 32 := by omega
  have i2 : (0 : Int) ≤ r2 ∧ (r2 : Int) < 32 := by omega
  have i3 : (0 : Int) ≤ rd ∧ (rd : Int) < 32 := by omega
  have co := fun w => RC.of_ im w
  have x1 := hs.x r1
  have x2 := hs.x r2
  have xm := mod_bd im
  have xp := hs.pc
  have LB := Lives.drew (Lives.box L (.cells #[.int .i64 26, .int .i64 rd, .int .i64 r1, .int .i64 r2, .int .i64 im] 54))
  have cw := fun w => withoutImm_ 26 (by omega) (by omega) w
  rw [show plainOp 26 = 8 from rfl] at cw
  have cr := fun w => reckoned_ 8 (s.x r1) (im % 4294967296) (by decide) x1 xm w
  have cp := put_ (Lives.drew LB) rd hd (WM.val 8 (s.x r1) (im % 4294967296))
  generalize WM.val 8 (s.x r1) (im % 4294967296) = V at *
  clear LB
  clear L hs hN
  generalize im % 4294967296 = J at *
  go_enter Tryz.func92, Tryz.ntmps92
  go_wp2
  refine still_ (by kernel_rfl) (by kernel_rfl) ?_
  repeat still_step
  still_call (co _)
  repeat still_step
  refine wpStill_nil ?_
  go_wp2
  refine tail_ 9 (by kernel_rfl) (by kernel_rfl) ?_
  simp only [List.take_succ_cons, List.take_zero, List.drop_succ_cons, List.drop_zero]
  repeat still_step
  still_call (cw _)
  repeat still_step
  still_call (cr _)
  repeat still_step
  refine wpStill_nil ?_
  go_wp2_with (go_at_call 111; (with_reducible refine cp.mono ?_); rintro e w1 ⟨rfl, L1, O1⟩)
  go_ret
  exact ⟨rfl, L1, (own_drew (own_drew (own_box (by omega) _))).trans O1⟩
end
end MA
end Go.Proofs.YtlmblfkcmhgdaaaGreat
