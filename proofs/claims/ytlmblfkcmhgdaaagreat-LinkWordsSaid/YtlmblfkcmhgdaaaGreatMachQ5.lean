/-
  What a run's act answers, by the kinds of instructions: each a contract.
-/
import Derived.Test.YtlmblfkcmhgdaaaGreatMachQh
namespace Go.Proofs.YtlmblfkcmhgdaaaGreat
open Go.RowKit
set_option linter.unusedVariables false
set_option linter.unusedSimpArgs false
namespace MA
attribute [local go_sem ↓] Go.wp_at_zero Go.wp_at_succ
open MM MC MD MG MH
section
variable {B br bk b bm N : Nat} {sd : List (Nat × Obj)} {w w' : World} {s s' : St} {vi ve : Value} {inp : List Int} {out : List Ev} {n c : Nat}
set_option maxRecDepth 100000 in
set_option maxHeartbeats 4000000 in
theorem act_45 (L : Lives B br bk b bm N sd w s vi ve inp out n c) (hs : Fine s) (hN : N ≤ 2097152) (rd r1 r2 : Nat) (hd : rd < 32) (h1 : r1 < 32) (h2 : r2 < 32) (im : Int)  :
    Calls Tryz.prog 92 #[.pointer (some ⟨br, 0, none⟩), .agg #[.int .i64 45, .int .i64 rd, .int .i64 r1, .int .i64 r2, .int .i64 im]] w fun e w' => e = .returned (.int .u32 ((s.pc + 4) % 4294967296)) ∧ Lives B br bk b bm N sd w' (setf s rd (RM.fadd (s.f r1) (s.f r2))) vi ve inp out n c ∧ Own B b bm w w' := by
  have hB := L.big
  have p0 := L.r0
  have p1 := L.at_.cx h1
  have p2 := L.at_.cx h2
  have p5 := L.at_.cpc
  have pl := lt_of_get L.run
  have pb := lt_of_get L.at_.head
  have i1 : (0 : Int) ≤ r1 ∧ (r1 : Int) < 32 := by omega
  have i2 : (0 : Int) ≤ r2 ∧ (r2 : Int) < 32 := by omega
  have i3 : (0 : Int) ≤ rd ∧ (rd : Int) < 32 := by omega
  have co := fun w => RC.of_ im w
  have x1 := hs.x r1
  have x2 := hs.x r2
  have xm := mod_bd im
  have xp := hs.pc
  have LB := Lives.drew (Lives.box L (.cells #[.int .i64 45, .int .i64 rd, .int .i64 r1, .int .i64 r2, .int .i64 im] 54))
  have cc := real_45 LB hs rd r1 r2 hd h1 h2 im
  generalize setf s rd (RM.fadd (s.f r1) (s.f r2)) = S at *
  clear LB
  clear L hs hN
  generalize im % 4294967296 = J at *
  go_enter Tryz.func92, Tryz.ntmps92
  go_wp2
  refine still_ (by kernel_rfl) (by kernel_rfl) ?_
  repeat still_step
  still_call (co _)
  repeat still_step
  refine wpStill_nil ?_
  go_wp2_with (go_at_call 113; (with_reducible refine cc.mono ?_); rintro e w1 ⟨rfl, L1, O1⟩)
  go_ret
  exact ⟨rfl, L1, (own_drew (own_box (by omega) _)).trans O1⟩
set_option maxRecDepth 100000 in
set_option maxHeartbeats 4000000 in
theorem act_46 (L : Lives B br bk b bm N sd w s vi ve inp out n c) (hs : Fine s) (hN : N ≤ 2097152) (rd r1 r2 : Nat) (hd : rd < 32) (h1 : r1 < 32) (h2 : r2 < 32) (im : Int)  :
    Calls Tryz.prog 92 #[.pointer (some ⟨br, 0, none⟩), .agg #[.int .i64 46, .int .i64 rd, .int .i64 r1, .int .i64 r2, .int .i64 im]] w fun e w' => e = .returned (.int .u32 ((s.pc + 4) % 4294967296)) ∧ Lives B br bk b bm N sd w' (setf s rd (RM.fsub (s.f r1) (s.f r2))) vi ve inp out n c ∧ Own B b bm w w' := by
  have hB := L.big
  have p0 := L.r0
  have p1 := L.at_.cx h1
  have p2 := L.at_.cx h2
  have p5 := L.at_.cpc
  have pl := lt_of_get L.run
  have pb := lt_of_get L.at_.head
  have i1 : (0 : Int) ≤ r1 ∧ (r1 : Int) < 32 := by omega
  have i2 : (0 : Int) ≤ r2 ∧ (r2 : Int) < 32 := by omega
  have i3 : (0 : Int) ≤ rd ∧ (rd : Int) < 32 := by omega
  have co := fun w => RC.of_ im w
  have x1 := hs.x r1
  have x2 := hs.x r2
  have xm := mod_bd im
  have xp := hs.pc
  have LB := Lives.drew (Lives.box L (.cells #[.int .i64 46, .int .i64 rd, .int .i64 r1, .int .i64 r2, .int .i64 im] 54))
  have cc := real_46 LB hs rd r1 r2 hd h1 h2 im
  generalize setf s rd (RM.fsub (s.f r1) (s.f r2)) = S at *
  clear LB
  clear L hs hN
  generalize im % 4294967296 = J at *
  go_enter Tryz.func92, Tryz.ntmps92
  go_wp2
  refine still_ (by kernel_rfl) (by kernel_rfl) ?_
  repeat still_step
  still_call (co _)
  repeat still_step
  refine wpStill_nil ?_
  go_wp2_with (go_at_call 113; (with_reducible refine cc.mono ?_); rintro e w1 ⟨rfl, L1, O1⟩)
  go_ret
  exact ⟨rfl, L1, (own_drew (own_box (by omega) _)).trans O1⟩
set_option maxRecDepth 100000 in
set_option maxHeartbeats 4000000 in
theorem act_47 (L : Lives B br bk b bm N sd w s vi ve inp out n c) (hs : Fine s) (hN : N ≤ 2097152) (rd r1 r2 : Nat) (hd : rd < 32) (h1 : r1 < 32) (h2 : r2 < 32) (im : Int)  :
    Calls Tryz.prog 92 #[.pointer (some ⟨br, 0, none⟩), .agg #[.int .i64 47, .int .i64 rd, .int .i64 r1, .int .i64 r2, .int .i64 im]] w fun e w' => e = .returned (.int .u32 ((s.pc + 4) % 4294967296)) ∧ Lives B br bk b bm N sd w' (setf s rd (RM.fmul (s.f r1) (s.f r2))) vi ve inp out n c ∧ Own B b bm w w' := by
  have hB := L.big
  have p0 := L.r0
  have p1 := L.at_.cx h1
  have p2 := L.at_.cx h2
  have p5 := L.at_.cpc
  have pl := lt_of_get L.run
  have pb := lt_of_get L.at_.head
  have i1 : (0 : Int) ≤ r1 ∧ (r1 : Int) < 32 := by omega
  have i2 : (0 : Int) ≤ r2 ∧ (r2 : Int) < 32 := by omega
  have i3 : (0 : Int) ≤ rd ∧ (rd : Int) < 32 := by omega
  have co := fun w => RC.of_ im w
  have x1 := hs.x r1
  have x2 := hs.x r2
  have xm := mod_bd im
  have xp := hs.pc
  have LB := Lives.drew (Lives.box L (.cells #[.int .i64 47, .int .i64 rd, .int .i64 r1, .int .i64 r2, .int .i64 im] 54))
  have cc := real_47 LB hs rd r1 r2 hd h1 h2 im
  generalize setf s rd (RM.fmul (s.f r1) (s.f r2)) = S at *
  clear LB
  clear L hs hN
  generalize im % 4294967296 = J at *
  go_enter Tryz.func92, Tryz.ntmps92
  go_wp2
  refine still_ (by kernel_rfl) (by kernel_rfl) ?_
  repeat still_step
  still_call (co _)
  repeat still_step
  refine wpStill_nil ?_
  go_wp2_with (go_at_call 113; (with_reducible refine cc.mono ?_); rintro e w1 ⟨rfl, L1, O1⟩)
  go_ret
  exact ⟨rfl, L1, (own_drew (own_box (by omega) _)).trans O1⟩
set_option maxRecDepth 100000 in
set_option maxHeartbeats 4000000 in
theorem act_48 (L : Lives B br bk b bm N sd w s vi ve inp out n c) (hs : Fine s) (hN : N ≤ 2097152) (rd r1 r2 : Nat) (hd : rd < 32) (h1 : r1 < 32) (h2 : r2 < 32) (im : Int)  :
    Calls Tryz.prog 92 #[.pointer (some ⟨br, 0, none⟩), .agg #[.int .i64 48, .int .i64 rd, .int .i64 r1, .int .i64 r2, .int .i64 im]] w fun e w' => e = .returned (.int .u32 ((s.pc + 4) % 4294967296)) ∧ Lives B br bk b bm N sd w' (setf s rd (RM.fdiv (s.f r1) (s.f r2))) vi ve inp out n c ∧ Own B b bm w w' := by
  have hB := L.big
  have p0 := L.r0
  have p1 := L.at_.cx h1
  have p2 := L.at_.cx h2
  have p5 := L.at_.cpc
  have pl := lt_of_get L.run
  have pb := lt_of_get L.at_.head
  have i1 : (0 : Int) ≤ r1 ∧ (r1 : Int) < 32 := by omega
  have i2 : (0 : Int) ≤ r2 ∧ (r2 : Int) < 32 := by omega
  have i3 : (0 : Int) ≤ rd ∧ (rd : Int) < 32 := by omega
  have co := fun w => RC.of_ im w
  have x1 := hs.x r1
  have x2 := hs.x r2
  have xm := mod_bd im
  have xp := hs.pc
  have LB := Lives.drew (Lives.box L (.cells #[.int .i64 48, .int .i64 rd, .int .i64 r1, .int .i64 r2, .int .i64 im] 54))
  have cc := real_48 LB hs rd r1 r2 hd h1 h2 im
  generalize setf s rd (RM.fdiv (s.f r1) (s.f r2)) = S at *
  clear LB
  clear L hs hN
  generalize im % 4294967296 = J at *
  go_enter Tryz.func92, Tryz.ntmps92
  go_wp2
  refine still_ (by kernel_rfl) (by kernel_rfl) ?_
  repeat still_step
  still_call (co _)
  repeat still_step
  refine wpStill_nil ?_
  go_wp2_with (go_at_call 113; (with_reducible refine cc.mono ?_); rintro e w1 ⟨rfl, L1, O1⟩)
  go_ret
  exact ⟨rfl, L1, (own_drew (own_box (by omega) _)).trans O1⟩
set_option maxRecDepth 100000 in
set_option maxHeartbeats 4000000 in
theorem act_49 (L : Lives B br bk b bm N sd w s vi ve inp out n c) (hs : Fine s) (hN : N ≤ 2097152) (rd r1 r2 : Nat) (hd : rd < 32) (h1 : r1 < 32) (h2 : r2 < 32) (im : Int)  :
    Calls Tryz.prog 92 #[.pointer (some ⟨br, 0, none⟩), .agg #[.int .i64 49, .int .i64 rd, .int .i64 r1, .int .i64 r2, .int .i64 im]] w fun e w' => e = .returned (.int .u32 ((s.pc + 4) % 4294967296)) ∧ Lives B br bk b bm N sd w' (setf s rd (s.f r1)) vi ve inp out n c ∧ Own B b bm w w' := by
  have hB := L.big
  have p0 := L.r0
  have p1 := L.at_.cx h1
  have p2 := L.at_.cx h2
  have p5 := L.at_.cpc
  have pl := lt_of_get L.run
  have pb := lt_of_get L.at_.head
  have i1 : (0 : Int) ≤ r1 ∧ (r1 : Int) < 32 := by omega
  have i2 : (0 : Int) ≤ r2 ∧ (r2 : Int) < 32 := by omega
  have i3 : (0 : Int) ≤ rd ∧ (rd : Int) < 32 := by omega
  have co := fun w => RC.of_ im w
  have x1 := hs.x r1
  have x2 := hs.x r2
  have xm := mod_bd im
  have xp := hs.pc
  have LB := Lives.drew (Lives.box L (.cells #[.int .i64 49, .int .i64 rd, .int .i64 r1, .int .i64 r2, .int .i64 im] 54))
  have cc := real_49 LB hs rd r1 r2 hd h1 h2 im
  generalize setf s rd (s.f r1) = S at *
  clear LB
  clear L hs hN
  generalize im % 4294967296 = J at *
  go_enter Tryz.func92, Tryz.ntmps92
  go_wp2
  refine still_ (by kernel_rfl) (by kernel_rfl) ?_
  repeat still_step
  still_call (co _)
  repeat still_step
  refine wpStill_nil ?_
  go_wp2_with (go_at_call 113; (with_reducible refine cc.mono ?_); rintro e w1 ⟨rfl, L1, O1⟩)
  go_ret
  exact ⟨rfl, L1, (own_drew (own_box (by omega) _)).trans O1⟩
set_option maxRecDepth 100000 in
set_option maxHeartbeats 4000000 in
theorem act_50 (L : Lives B br bk b bm N sd w s vi ve inp out n c) (hs : Fine s) (hN : N ≤ 2097152) (rd r1 r2 : Nat) (hd : rd < 32) (h1 : r1 < 32) (h2 : r2 < 32) (im : Int)  :
    Calls Tryz.prog 92 #[.pointer (some ⟨br, 0, none⟩), .agg #[.int .i64 50, .int .i64 rd, .int .i64 r1, .int .i64 r2, .int .i64 im]] w fun e w' => e = .returned (.int .u32 ((s.pc + 4) % 4294967296)) ∧ Lives B br bk b bm N sd w' (setf s rd (RM.fneg (s.f r1))) vi ve inp out n c ∧ Own B b bm w w' := by
  have hB := L.big
  have p0 := L.r0
  have p1 := L.at_.cx h1
  have p2 := L.at_.cx h2
  have p5 := L.at_.cpc
  have pl := lt_of_get L.run
  have pb := lt_of_get L.at_.head
  have i1 : (0 : Int) ≤ r1 ∧ (r1 : Int) < 32 := by omega
  have i2 : (0 : Int) ≤ r2 ∧ (r2 : Int) < 32 := by omega
  have i3 : (0 : Int) ≤ rd ∧ (rd : Int) < 32 := by omega
  have co := fun w => RC.of_ im w
  have x1 := hs.x r1
  have x2 := hs.x r2
  have xm := mod_bd im
  have xp := hs.pc
  have LB := Lives.drew (Lives.box L (.cells #[.int .i64 50, .int .i64 rd, .int .i64 r1, .int .i64 r2, .int .i64 im] 54))
  have cc := real_50 LB hs rd r1 r2 hd h1 h2 im
  generalize setf s rd (RM.fneg (s.f r1)) = S at *
  clear LB
  clear L hs hN
  generalize im % 4294967296 = J at *
  go_enter Tryz.func92, Tryz.ntmps92
  go_wp2
  refine still_ (by kernel_rfl) (by kernel_rfl) ?_
  repeat still_step
  still_call (co _)
  repeat still_step
  refine wpStill_nil ?_
  go_wp2_with (go_at_call 113; (with_reducible refine cc.mono ?_); rintro e w1 ⟨rfl, L1, O1⟩)
  go_ret
  exact ⟨rfl, L1, (own_drew (own_box (by omega) _)).trans O1⟩
set_option maxRecDepth 100000 in
set_option maxHeartbeats 4000000 in
theorem act_51 (L : Lives B br bk b bm N sd w s vi ve inp out n c) (hs : Fine s) (hN : N ≤ 2097152) (rd r1 r2 : Nat) (hd : rd < 32) (h1 : r1 < 32) (h2 : r2 < 32) (im : Int)  :
    Calls Tryz.prog 92 #[.pointer (some ⟨br, 0, none⟩), .agg #[.int .i64 51, .int .i64 rd, .int .i64 r1, .int .i64 r2, .int .i64 im]] w fun e w' => e = .returned (.int .u32 ((s.pc + 4) % 4294967296)) ∧ Lives B br bk b bm N sd w' (setx s rd ((RM.feq (s.f r1) (s.f r2)).toNat : Int)) vi ve inp out n c ∧ Own B b bm w w' := by
  have hB := L.big
  have p0 := L.r0
  have p1 := L.at_.cx h1
  have p2 := L.at_.cx h2
  have p5 := L.at_.cpc
  have pl := lt_of_get L.run
  have pb := lt_of_get L.at_.head
  have i1 : (0 : Int) ≤ r1 ∧ (r1 : Int) < 32 := by omega
  have i2 : (0 : Int) ≤ r2 ∧ (r2 : Int) < 32 := by omega
  have i3 : (0 : Int) ≤ rd ∧ (rd : Int) < 32 := by omega
  have co := fun w => RC.of_ im w
  have x1 := hs.x r1
  have x2 := hs.x r2
  have xm := mod_bd im
  have xp := hs.pc
  have LB := Lives.drew (Lives.box L (.cells #[.int .i64 51, .int .i64 rd, .int .i64 r1, .int .i64 r2, .int .i64 im] 54))
  have cc := real_51 LB hs rd r1 r2 hd h1 h2 im
  generalize setx s rd ((RM.feq (s.f r1) (s.f r2)).toNat : Int) = S at *
  clear LB
  clear L hs hN
  generalize im % 4294967296 = J at *
  go_enter Tryz.func92, Tryz.ntmps92
  go_wp2
  refine still_ (by kernel_rfl) (by kernel_rfl) ?_
  repeat still_step
  still_call (co _)
  repeat still_step
  refine wpStill_nil ?_
  go_wp2_with (go_at_call 113; (with_reducible refine cc.mono ?_); rintro e w1 ⟨rfl, L1, O1⟩)
  go_ret
  exact ⟨rfl, L1, (own_drew (own_box (by omega) _)).trans O1⟩
set_option maxRecDepth 100000 in
set_option maxHeartbeats 4000000 in
theorem act_52 (L : Lives B br bk b bm N sd w s vi ve inp out n c) (hs : Fine s) (hN : N ≤ 2097152) (rd r1 r2 : Nat) (hd : rd < 32) (h1 : r1 < 32) (h2 : r2 < 32) (im : Int)  :
    Calls Tryz.prog 92 #[.pointer (some ⟨br, 0, none⟩), .agg #[.int .i64 52, .int .i64 rd, .int .i64 r1, .int .i64 r2, .int .i64 im]] w fun e w' => e = .returned (.int .u32 ((s.pc + 4) % 4294967296)) ∧ Lives B br bk b bm N sd w' (setx s rd ((RM.flt (s.f r1) (s.f r2)).toNat : Int)) vi ve inp out n c ∧ Own B b bm w w' := by
  have hB := L.big
  have p0 := L.r0
  have p1 := L.at_.cx h1
  have p2 := L.at_.cx h2
  have p5 := L.at_.cpc
  have pl := lt_of_get L.run
  have pb := lt_of_get L.at_.head
  have i1 : (0 : Int) ≤ r1 ∧ (r1 : Int) < 32 := by omega
  have i2 : (0 : Int) ≤ r2 ∧ (r2 : Int) < 32 := by omega
  have i3 : (0 : Int) ≤ rd ∧ (rd : Int) < 32 := by omega
  have co := fun w => RC.of_ im w
  have x1 := hs.x r1
  have x2 := hs.x r2
  have xm := mod_bd im
  have xp := hs.pc
  have LB := Lives.drew (Lives.box L (.cells #[.int .i64 52, .int .i64 rd, .int .i64 r1, .int .i64 r2, .int .i64 im] 54))
  have cc := real_52 LB hs rd r1 r2 hd h1 h2 im
  generalize setx s rd ((RM.flt (s.f r1) (s.f r2)).toNat : Int) = S at *
  clear LB
  clear L hs hN
  generalize im % 4294967296 = J at *
  go_enter Tryz.func92, Tryz.ntmps92
  go_wp2
  refine still_ (by kernel_rfl) (by kernel_rfl) ?_
  repeat still_step
  still_call (co _)
  repeat still_step
  refine wpStill_nil ?_
  go_wp2_with (go_at_call 113; (with_reducible refine cc.mono ?_); rintro e w1 ⟨rfl, L1, O1⟩)
  go_ret
  exact ⟨rfl, L1, (own_drew (own_box (by omega) _)).trans O1⟩
set_option maxRecDepth 100000 in
set_option maxHeartbeats 4000000 in
theorem act_53 (L : Lives B br bk b bm N sd w s vi ve inp out n c) (hs : Fine s) (hN : N ≤ 2097152) (rd r1 r2 : Nat) (hd : rd < 32) (h1 : r1 < 32) (h2 : r2 < 32) (im : Int)  :
    Calls Tryz.prog 92 #[.pointer (some ⟨br, 0, none⟩), .agg #[.int .i64 53, .int .i64 rd, .int .i64 r1, .int .i64 r2, .int .i64 im]] w fun e w' => e = .returned (.int .u32 ((s.pc + 4) % 4294967296)) ∧ Lives B br bk b bm N sd w' (setx s rd ((RM.fle (s.f r1) (s.f r2)).toNat : Int)) vi ve inp out n c ∧ Own B b bm w w' := by
  have hB := L.big
  have p0 := L.r0
  have p1 := L.at_.cx h1
  have p2 := L.at_.cx h2
  have p5 := L.at_.cpc
  have pl := lt_of_get L.run
  have pb := lt_of_get L.at_.head
  have i1 : (0 : Int) ≤ r1 ∧ (r1 : Int) < 32 := by omega
  have i2 : (0 : Int) ≤ r2 ∧ (r2 : Int) < 32 := by omega
  have i3 : (0 : Int) ≤ rd ∧ (rd : Int) < 32 := by omega
  have co := fun w => RC.of_ im w
  have x1 := hs.x r1
  have x2 := hs.x r2
  have xm := mod_bd im
  have xp := hs.pc
  have LB := Lives.drew (Lives.box L (.cells #[.int .i64 53, .int .i64 rd, .int .i64 r1, .int .i64 r2, .int .i64 im] 54))
  have cc := real_53 LB hs rd r1 r2 hd h1 h2 im
  generalize setx s rd ((RM.fle (s.f r1) (s.f r2)).toNat : Int) = S at *
  clear LB
  clear L hs hN
  generalize im % 4294967296 = J at *
  go_enter Tryz.func92, Tryz.ntmps92
  go_wp2
  refine still_ (by kernel_rfl) (by kernel_rfl) ?_
  repeat still_step
  still_call (co _)
  repeat still_step
  refine wpStill_nil ?_
  go_wp2_with (go_at_call 113; (with_reducible refine cc.mono ?_); rintro e w1 ⟨rfl, L1, O1⟩)
  go_ret
  exact ⟨rfl, L1, (own_drew (own_box (by omega) _)).trans O1⟩
set_option maxRecDepth 100000 in
set_option maxHeartbeats 4000000 in
theorem act_54 (L : Lives B br bk b bm N sd w s vi ve inp out n c) (hs : Fine s) (hN : N ≤ 2097152) (rd r1 r2 : Nat) (hd : rd < 32) (h1 : r1 < 32) (h2 : r2 < 32) (im : Int)  :
    Calls Tryz.prog 92 #[.pointer (some ⟨br, 0, none⟩), .agg #[.int .i64 54, .int .i64 rd, .int .i64 r1, .int .i64 r2, .int .i64 im]] w fun e w' => e = .returned (.int .u32 ((s.pc + 4) % 4294967296)) ∧ Lives B br bk b bm N sd w' (setx s rd (RM.toWord (s.f r1))) vi ve inp out n c ∧ Own B b bm w w' := by
  have hB := L.big
  have p0 := L.r0
  have p1 := L.at_.cx h1
  have p2 := L.at_.cx h2
  have p5 := L.at_.cpc
  have pl := lt_of_get L.run
  have pb := lt_of_get L.at_.head
  have i1 : (0 : Int) ≤ r1 ∧ (r1 : Int) < 32 := by omega
  have i2 : (0 : Int) ≤ r2 ∧ (r2 : Int) < 32 := by omega
  have i3 : (0 : Int) ≤ rd ∧ (rd : Int) < 32 := by omega
  have co := fun w => RC.of_ im w
  have x1 := hs.x r1
  have x2 := hs.x r2
  have xm := mod_bd im
  have xp := hs.pc
  have LB := Lives.drew (Lives.box L (.cells #[.int .i64 54, .int .i64 rd, .int .i64 r1, .int .i64 r2, .int .i64 im] 54))
  have cc := real_54 LB hs rd r1 r2 hd h1 h2 im
  generalize setx s rd (RM.toWord (s.f r1)) = S at *
  clear LB
  clear L hs hN
  generalize im % 4294967296 = J at *
  go_enter Tryz.func92, Tryz.ntmps92
  go_wp2
  refine still_ (by kernel_rfl) (by kernel_rfl) ?_
  repeat still_step
  still_call (co _)
  repeat still_step
  refine wpStill_nil ?_
  go_wp2_with (go_at_call 113; (with_reducible refine cc.mono ?_); rintro e w1 ⟨rfl, L1, O1⟩)
  go_ret
  exact ⟨rfl, L1, (own_drew (own_box (by omega) _)).trans O1⟩
set_option maxRecDepth 100000 in
set_option maxHeartbeats 4000000 in
theorem act_55 (L : Lives B br bk b bm N sd w s vi ve inp out n c) (hs : Fine s) (hN : N ≤ 2097152) (rd r1 r2 : Nat) (hd : rd < 32) (h1 : r1 < 32) (h2 : r2 < 32) (im : Int)  :
    Calls Tryz.prog 92 #[.pointer (some ⟨br, 0, none⟩), .agg #[.int .i64 55, .int .i64 rd, .int .i64 r1, .int .i64 r2, .int .i64 im]] w fun e w' => e = .returned (.int .u32 ((s.pc + 4) % 4294967296)) ∧ Lives B br bk b bm N sd w' (setf s rd (RM.ofInt (wrap32 (s.x r1)))) vi ve inp out n c ∧ Own B b bm w w' := by
  have hB := L.big
  have p0 := L.r0
  have p1 := L.at_.cx h1
  have p2 := L.at_.cx h2
  have p5 := L.at_.cpc
  have pl := lt_of_get L.run
  have pb := lt_of_get L.at_.head
  have i1 : (0 : Int) ≤ r1 ∧ (r1 : Int) < 32 := by omega
  have i2 : (0 : Int) ≤ r2 ∧ (r2 : Int) < 32 := by omega
  have i3 : (0 : Int) ≤ rd ∧ (rd : Int) < 32 := by omega
  have co := fun w => RC.of_ im w
  have x1 := hs.x r1
  have x2 := hs.x r2
  have xm := mod_bd im
  have xp := hs.pc
  have LB := Lives.drew (Lives.box L (.cells #[.int .i64 55, .int .i64 rd, .int .i64 r1, .int .i64 r2, .int .i64 im] 54))
  have cc := real_55 LB hs rd r1 r2 hd h1 h2 im
  generalize setf s rd (RM.ofInt (wrap32 (s.x r1))) = S at *
  clear LB
  clear L hs hN
  generalize im % 4294967296 = J at *
  go_enter Tryz.func92, Tryz.ntmps92
  go_wp2
  refine still_ (by kernel_rfl) (by kernel_rfl) ?_
  repeat still_step
  still_call (co _)
  repeat still_step
  refine wpStill_nil ?_
  go_wp2_with (go_at_call 113; (with_reducible refine cc.mono ?_); rintro e w1 ⟨rfl, L1, O1⟩)
  go_ret
  exact ⟨rfl, L1, (own_drew (own_box (by omega) _)).trans O1⟩
end
end MA
end Go.Proofs.YtlmblfkcmhgdaaaGreat
