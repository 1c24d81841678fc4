/-
  What a run's act answers, by the kinds of instructions: each a contract.
-/
import Derived.Test.YtlmblfkcmhgdaaaGreatMachQh
namespace Go.Proofs.YtlmblfkcmhgdaaaGreat
open Go.RowKit
set_option linter.unusedVariables false
set_option linter.unusedSimpArgs false
namespace MA
attribute [local go_sem ↓] Go.wp_at_zero Go.wp_at_succ
open MM MC MD MG MH
section
variable {B br bk b bm N : Nat} {sd : List (Nat × Obj)} {w w' : World} {s s' : St} {vi ve : Value} {inp : List Int} {out : List Ev} {n c : Nat}
set_option maxRecDepth 100000 in
set_option maxHeartbeats 4000000 in
theorem act_27 (L : Lives B br bk b bm N sd w s vi ve inp out n c) (hs : Fine s) (hN : N ≤ 2097152) (rd r1 r2 : Nat) (hd : rd < 32) (h1 : r1 < 32) (h2 : r2 < 32) (im : Int) (hf : fit N ((s.x r1 + im % 4294967296) % 4294967296) 1 = true) :
    Calls Tryz.prog 92 #[.pointer (some ⟨br, 0, none⟩), .agg #[.int .i64 27, .int .i64 rd, .int .i64 r1, .int .i64 r2, .int .i64 im]] w fun e w' => e = .returned (.int .u32 ((s.pc + 4) % 4294967296)) ∧ Lives B br bk b bm N sd w' (setx s rd (WM.ext (num s.mem ((s.x r1 + im % 4294967296) % 4294967296).toNat 1) 8)) vi ve inp out n c ∧ Own B b bm w w' := by
  have hB := L.big
  have p0 := L.r0
  have p1 := L.at_.cx h1
  have p2 := L.at_.cx h2
  have p5 := L.at_.cpc
  have pl := lt_of_get L.run
  have pb := lt_of_get L.at_.head
  have i1 : (0 : Int) ≤ r1 ∧ (r1 : Int) < 32 := by omega
  have i2 : (0 : Int) ≤ r2 ∧ (r2 : Int) < 32 := by omega
  have i3 : (0 : Int) ≤ rd ∧ (rd : Int) < 32 := by omega
  have co := fun w => RC.of_ im w
  have x1 := hs.x r1
  have x2 := hs.x r2
  have xm := mod_bd im
  have xp := hs.pc
  have LB := Lives.drew (Lives.box L (.cells #[.int .i64 27, .int .i64 rd, .int .i64 r1, .int .i64 r2, .int .i64 im] 54))
  have cl := load_LB LB hs hN rd hd r1 r2 im ((s.x r1 + im % 4294967296) % 4294967296) (mod_bd _) hf
  clear LB hf
  generalize setx s rd (WM.ext (num s.mem ((s.x r1 + im % 4294967296) % 4294967296).toNat 1) 8) = S at *
  clear L hs hN
  generalize im % 4294967296 = J at *
  go_enter Tryz.func92, Tryz.ntmps92
  go_wp2
  refine still_ (by kernel_rfl) (by kernel_rfl) ?_
  repeat still_step
  still_call (co _)
  repeat still_step
  refine wpStill_nil ?_
  go_wp2_with (go_at_call 108; (with_reducible refine cl.mono ?_); rintro e w1 ⟨rfl, L1, O1⟩)
  go_ret
  exact ⟨rfl, L1, (own_drew (own_box (by omega) _)).trans O1⟩
set_option maxRecDepth 100000 in
set_option maxHeartbeats 4000000 in
theorem act_bad_27 (L : Lives B br bk b bm N sd w s vi ve inp out n c) (hs : Fine s) (hN : N ≤ 2097152) (rd r1 r2 : Nat) (hd : rd < 32) (h1 : r1 < 32) (h2 : r2 < 32) (im : Int) (hf : fit N ((s.x r1 + im % 4294967296) % 4294967296) 1 = false) :
    Calls Tryz.prog 92 #[.pointer (some ⟨br, 0, none⟩), .agg #[.int .i64 27, .int .i64 rd, .int .i64 r1, .int .i64 r2, .int .i64 im]] w fun e w' => e = .panicked [{ v := .iface 138 (.int .i64 3), recovered := false }] ∧ Lives B br bk b bm N sd w' s vi ve inp out n c ∧ Own B b bm w w' := by
  have hB := L.big
  have p0 := L.r0
  have p1 := L.at_.cx h1
  have p2 := L.at_.cx h2
  have p5 := L.at_.cpc
  have pl := lt_of_get L.run
  have pb := lt_of_get L.at_.head
  have i1 : (0 : Int) ≤ r1 ∧ (r1 : Int) < 32 := by omega
  have i2 : (0 : Int) ≤ r2 ∧ (r2 : Int) < 32 := by omega
  have i3 : (0 : Int) ≤ rd ∧ (rd : Int) < 32 := by omega
  have co := fun w => RC.of_ im w
  have x1 := hs.x r1
  have x2 := hs.x r2
  have xm := mod_bd im
  have xp := hs.pc
  have LB := Lives.drew (Lives.box L (.cells #[.int .i64 27, .int .i64 rd, .int .i64 r1, .int .i64 r2, .int .i64 im] 54))
  have cl := load_bad_27 LB hs hN rd r1 r2 im i3 ((s.x r1 + im % 4294967296) % 4294967296) (mod_bd _) hf
  clear LB hf
  clear L hs hN
  generalize im % 4294967296 = J at *
  go_enter Tryz.func92, Tryz.ntmps92
  go_wp2
  refine still_ (by kernel_rfl) (by kernel_rfl) ?_
  repeat still_step
  still_call (co _)
  repeat still_step
  refine wpStill_nil ?_
  go_wp2_with (go_at_call 108; (with_reducible refine cl.mono ?_); rintro e w1 ⟨rfl, L1, O1⟩)
  exact ⟨rfl, rfl, L1, (own_drew (own_box (by omega) _)).trans O1⟩
set_option maxRecDepth 100000 in
set_option maxHeartbeats 4000000 in
theorem act_28 (L : Lives B br bk b bm N sd w s vi ve inp out n c) (hs : Fine s) (hN : N ≤ 2097152) (rd r1 r2 : Nat) (hd : rd < 32) (h1 : r1 < 32) (h2 : r2 < 32) (im : Int) (hf : fit N ((s.x r1 + im % 4294967296) % 4294967296) 1 = true) :
    Calls Tryz.prog 92 #[.pointer (some ⟨br, 0, none⟩), .agg #[.int .i64 28, .int .i64 rd, .int .i64 r1, .int .i64 r2, .int .i64 im]] w fun e w' => e = .returned (.int .u32 ((s.pc + 4) % 4294967296)) ∧ Lives B br bk b bm N sd w' (setx s rd (num s.mem ((s.x r1 + im % 4294967296) % 4294967296).toNat 1)) vi ve inp out n c ∧ Own B b bm w w' := by
  have hB := L.big
  have p0 := L.r0
  have p1 := L.at_.cx h1
  have p2 := L.at_.cx h2
  have p5 := L.at_.cpc
  have pl := lt_of_get L.run
  have pb := lt_of_get L.at_.head
  have i1 : (0 : Int) ≤ r1 ∧ (r1 : Int) < 32 := by omega
  have i2 : (0 : Int) ≤ r2 ∧ (r2 : Int) < 32 := by omega
  have i3 : (0 : Int) ≤ rd ∧ (rd : Int) < 32 := by omega
  have co := fun w => RC.of_ im w
  have x1 := hs.x r1
  have x2 := hs.x r2
  have xm := mod_bd im
  have xp := hs.pc
  have LB := Lives.drew (Lives.box L (.cells #[.int .i64 28, .int .i64 rd, .int .i64 r1, .int .i64 r2, .int .i64 im] 54))
  have cl := load_28 LB hs hN rd hd r1 r2 im ((s.x r1 + im % 4294967296) % 4294967296) (mod_bd _) hf
  clear LB hf
  generalize setx s rd (num s.mem ((s.x r1 + im % 4294967296) % 4294967296).toNat 1) = S at *
  clear L hs hN
  generalize im % 4294967296 = J at *
  go_enter Tryz.func92, Tryz.ntmps92
  go_wp2
  refine still_ (by kernel_rfl) (by kernel_rfl) ?_
  repeat still_step
  still_call (co _)
  repeat still_step
  refine wpStill_nil ?_
  go_wp2_with (go_at_call 108; (with_reducible refine cl.mono ?_); rintro e w1 ⟨rfl, L1, O1⟩)
  go_ret
  exact ⟨rfl, L1, (own_drew (own_box (by omega) _)).trans O1⟩
set_option maxRecDepth 100000 in
set_option maxHeartbeats 4000000 in
theorem act_bad_28 (L : Lives B br bk b bm N sd w s vi ve inp out n c) (hs : Fine s) (hN : N ≤ 2097152) (rd r1 r2 : Nat) (hd : rd < 32) (h1 : r1 < 32) (h2 : r2 < 32) (im : Int) (hf : fit N ((s.x r1 + im % 4294967296) % 4294967296) 1 = false) :
    Calls Tryz.prog 92 #[.pointer (some ⟨br, 0, none⟩), .agg #[.int .i64 28, .int .i64 rd, .int .i64 r1, .int .i64 r2, .int .i64 im]] w fun e w' => e = .panicked [{ v := .iface 138 (.int .i64 3), recovered := false }] ∧ Lives B br bk b bm N sd w' s vi ve inp out n c ∧ Own B b bm w w' := by
  have hB := L.big
  have p0 := L.r0
  have p1 := L.at_.cx h1
  have p2 := L.at_.cx h2
  have p5 := L.at_.cpc
  have pl := lt_of_get L.run
  have pb := lt_of_get L.at_.head
  have i1 : (0 : Int) ≤ r1 ∧ (r1 : Int) < 32 := by omega
  have i2 : (0 : Int) ≤ r2 ∧ (r2 : Int) < 32 := by omega
  have i3 : (0 : Int) ≤ rd ∧ (rd : Int) < 32 := by omega
  have co := fun w => RC.of_ im w
  have x1 := hs.x r1
  have x2 := hs.x r2
  have xm := mod_bd im
  have xp := hs.pc
  have LB := Lives.drew (Lives.box L (.cells #[.int .i64 28, .int .i64 rd, .int .i64 r1, .int .i64 r2, .int .i64 im] 54))
  have cl := load_bad_28 LB hs hN rd r1 r2 im i3 ((s.x r1 + im % 4294967296) % 4294967296) (mod_bd _) hf
  clear LB hf
  clear L hs hN
  generalize im % 4294967296 = J at *
  go_enter Tryz.func92, Tryz.ntmps92
  go_wp2
  refine still_ (by kernel_rfl) (by kernel_rfl) ?_
  repeat still_step
  still_call (co _)
  repeat still_step
  refine wpStill_nil ?_
  go_wp2_with (go_at_call 108; (with_reducible refine cl.mono ?_); rintro e w1 ⟨rfl, L1, O1⟩)
  exact ⟨rfl, rfl, L1, (own_drew (own_box (by omega) _)).trans O1⟩
set_option maxRecDepth 100000 in
set_option maxHeartbeats 4000000 in
theorem act_29 (L : Lives B br bk b bm N sd w s vi ve inp out n c) (hs : Fine s) (hN : N ≤ 2097152) (rd r1 r2 : Nat) (hd : rd < 32) (h1 : r1 < 32) (h2 : r2 < 32) (im : Int) (hf : fit N ((s.x r1 + im % 4294967296) % 4294967296) 4 = true) :
    Calls Tryz.prog 92 #[.pointer (some ⟨br, 0, none⟩), .agg #[.int .i64 29, .int .i64 rd, .int .i64 r1, .int .i64 r2, .int .i64 im]] w fun e w' => e = .returned (.int .u32 ((s.pc + 4) % 4294967296)) ∧ Lives B br bk b bm N sd w' (setx s rd (num s.mem ((s.x r1 + im % 4294967296) % 4294967296).toNat 4)) vi ve inp out n c ∧ Own B b bm w w' := by
  have hB := L.big
  have p0 := L.r0
  have p1 := L.at_.cx h1
  have p2 := L.at_.cx h2
  have p5 := L.at_.cpc
  have pl := lt_of_get L.run
  have pb := lt_of_get L.at_.head
  have i1 : (0 : Int) ≤ r1 ∧ (r1 : Int) < 32 := by omega
  have i2 : (0 : Int) ≤ r2 ∧ (r2 : Int) < 32 := by omega
  have i3 : (0 : Int) ≤ rd ∧ (rd : Int) < 32 := by omega
  have co := fun w => RC.of_ im w
  have x1 := hs.x r1
  have x2 := hs.x r2
  have xm := mod_bd im
  have xp := hs.pc
  have LB := Lives.drew (Lives.box L (.cells #[.int .i64 29, .int .i64 rd, .int .i64 r1, .int .i64 r2, .int .i64 im] 54))
  have cl := load_29 LB hs hN rd hd r1 r2 im ((s.x r1 + im % 4294967296) % 4294967296) (mod_bd _) hf
  clear LB hf
  generalize setx s rd (num s.mem ((s.x r1 + im % 4294967296) % 4294967296).toNat 4) = S at *
  clear L hs hN
  generalize im % 4294967296 = J at *
  go_enter Tryz.func92, Tryz.ntmps92
  go_wp2
  refine still_ (by kernel_rfl) (by kernel_rfl) ?_
  repeat still_step
  still_call (co _)
  repeat still_step
  refine wpStill_nil ?_
  go_wp2_with (go_at_call 108; (with_reducible refine cl.mono ?_); rintro e w1 ⟨rfl, L1, O1⟩)
  go_ret
  exact ⟨rfl, L1, (own_drew (own_box (by omega) _)).trans O1⟩
set_option maxRecDepth 100000 in
set_option maxHeartbeats 4000000 in
theorem act_bad_29 (L : Lives B br bk b bm N sd w s vi ve inp out n c) (hs : Fine s) (hN : N ≤ 2097152) (rd r1 r2 : Nat) (hd : rd < 32) (h1 : r1 < 32) (h2 : r2 < 32) (im : Int) (hf : fit N ((s.x r1 + im % 4294967296) % 4294967296) 4 = false) :
    Calls Tryz.prog 92 #[.pointer (some ⟨br, 0, none⟩), .agg #[.int .i64 29, .int .i64 rd, .int .i64 r1, .int .i64 r2, .int .i64 im]] w fun e w' => e = .panicked [{ v := .iface 138 (.int .i64 3), recovered := false }] ∧ Lives B br bk b bm N sd w' s vi ve inp out n c ∧ Own B b bm w w' := by
  have hB := L.big
  have p0 := L.r0
  have p1 := L.at_.cx h1
  have p2 := L.at_.cx h2
  have p5 := L.at_.cpc
  have pl := lt_of_get L.run
  have pb := lt_of_get L.at_.head
  have i1 : (0 : Int) ≤ r1 ∧ (r1 : Int) < 32 := by omega
  have i2 : (0 : Int) ≤ r2 ∧ (r2 : Int) < 32 := by omega
  have i3 : (0 : Int) ≤ rd ∧ (rd : Int) < 32 := by omega
  have co := fun w => RC.of_ im w
  have x1 := hs.x r1
  have x2 := hs.x r2
  have xm := mod_bd im
  have xp := hs.pc
  have LB := Lives.drew (Lives.box L (.cells #[.int .i64 29, .int .i64 rd, .int .i64 r1, .int .i64 r2, .int .i64 im] 54))
  have cl := load_bad_29 LB hs hN rd r1 r2 im i3 ((s.x r1 + im % 4294967296) % 4294967296) (mod_bd _) hf
  clear LB hf
  clear L hs hN
  generalize im % 4294967296 = J at *
  go_enter Tryz.func92, Tryz.ntmps92
  go_wp2
  refine still_ (by kernel_rfl) (by kernel_rfl) ?_
  repeat still_step
  still_call (co _)
  repeat still_step
  refine wpStill_nil ?_
  go_wp2_with (go_at_call 108; (with_reducible refine cl.mono ?_); rintro e w1 ⟨rfl, L1, O1⟩)
  exact ⟨rfl, rfl, L1, (own_drew (own_box (by omega) _)).trans O1⟩
set_option maxRecDepth 100000 in
set_option maxHeartbeats 4000000 in
theorem act_43 (L : Lives B br bk b bm N sd w s vi ve inp out n c) (hs : Fine s) (hN : N ≤ 2097152) (rd r1 r2 : Nat) (hd : rd < 32) (h1 : r1 < 32) (h2 : r2 < 32) (im : Int) (hf : fit N ((s.x r1 + im % 4294967296) % 4294967296) 8 = true) :
    Calls Tryz.prog 92 #[.pointer (some ⟨br, 0, none⟩), .agg #[.int .i64 43, .int .i64 rd, .int .i64 r1, .int .i64 r2, .int .i64 im]] w fun e w' => e = .returned (.int .u32 ((s.pc + 4) % 4294967296)) ∧ Lives B br bk b bm N sd w' (setf s rd (RM.canon (num s.mem ((s.x r1 + im % 4294967296) % 4294967296).toNat 8).toNat)) vi ve inp out n c ∧ Own B b bm w w' := by
  have hB := L.big
  have p0 := L.r0
  have p1 := L.at_.cx h1
  have p2 := L.at_.cx h2
  have p5 := L.at_.cpc
  have pl := lt_of_get L.run
  have pb := lt_of_get L.at_.head
  have i1 : (0 : Int) ≤ r1 ∧ (r1 : Int) < 32 := by omega
  have i2 : (0 : Int) ≤ r2 ∧ (r2 : Int) < 32 := by omega
  have i3 : (0 : Int) ≤ rd ∧ (rd : Int) < 32 := by omega
  have co := fun w => RC.of_ im w
  have x1 := hs.x r1
  have x2 := hs.x r2
  have xm := mod_bd im
  have xp := hs.pc
  have LB := Lives.drew (Lives.box L (.cells #[.int .i64 43, .int .i64 rd, .int .i64 r1, .int .i64 r2, .int .i64 im] 54))
  have cl := load_43 LB hs hN rd hd r1 r2 im ((s.x r1 + im % 4294967296) % 4294967296) (mod_bd _) hf
  clear LB hf
  generalize setf s rd (RM.canon (num s.mem ((s.x r1 + im % 4294967296) % 4294967296).toNat 8).toNat) = S at *
  clear L hs hN
  generalize im % 4294967296 = J at *
  go_enter Tryz.func92, Tryz.ntmps92
  go_wp2
  refine still_ (by kernel_rfl) (by kernel_rfl) ?_
  repeat still_step
  still_call (co _)
  repeat still_step
  refine wpStill_nil ?_
  go_wp2_with (go_at_call 108; (with_reducible refine cl.mono ?_); rintro e w1 ⟨rfl, L1, O1⟩)
  go_ret
  exact ⟨rfl, L1, (own_drew (own_box (by omega) _)).trans O1⟩
set_option maxRecDepth 100000 in
set_option maxHeartbeats 4000000 in
theorem act_bad_43 (L : Lives B br bk b bm N sd w s vi ve inp out n c) (hs : Fine s) (hN : N ≤ 2097152) (rd r1 r2 : Nat) (hd : rd < 32) (h1 : r1 < 32) (h2 : r2 < 32) (im : Int) (hf : fit N ((s.x r1 + im % 4294967296) % 4294967296) 8 = false) :
    Calls Tryz.prog 92 #[.pointer (some ⟨br, 0, none⟩), .agg #[.int .i64 43, .int .i64 rd, .int .i64 r1, .int .i64 r2, .int .i64 im]] w fun e w' => e = .panicked [{ v := .iface 138 (.int .i64 3), recovered := false }] ∧ Lives B br bk b bm N sd w' s vi ve inp out n c ∧ Own B b bm w w' := by
  have hB := L.big
  have p0 := L.r0
  have p1 := L.at_.cx h1
  have p2 := L.at_.cx h2
  have p5 := L.at_.cpc
  have pl := lt_of_get L.run
  have pb := lt_of_get L.at_.head
  have i1 : (0 : Int) ≤ r1 ∧ (r1 : Int) < 32 := by omega
  have i2 : (0 : Int) ≤ r2 ∧ (r2 : Int) < 32 := by omega
  have i3 : (0 : Int) ≤ rd ∧ (rd : Int) < 32 := by omega
  have co := fun w => RC.of_ im w
  have x1 := hs.x r1
  have x2 := hs.x r2
  have xm := mod_bd im
  have xp := hs.pc
  have LB := Lives.drew (Lives.box L (.cells #[.int .i64 43, .int .i64 rd, .int .i64 r1, .int .i64 r2, .int .i64 im] 54))
  have cl := load_bad_43 LB hs hN rd r1 r2 im i3 ((s.x r1 + im % 4294967296) % 4294967296) (mod_bd _) hf
  clear LB hf
  clear L hs hN
  generalize im % 4294967296 = J at *
  go_enter Tryz.func92, Tryz.ntmps92
  go_wp2
  refine still_ (by kernel_rfl) (by kernel_rfl) ?_
  repeat still_step
  still_call (co _)
  repeat still_step
  refine wpStill_nil ?_
  go_wp2_with (go_at_call 108; (with_reducible refine cl.mono ?_); rintro e w1 ⟨rfl, L1, O1⟩)
  exact ⟨rfl, rfl, L1, (own_drew (own_box (by omega) _)).trans O1⟩
set_option maxRecDepth 100000 in
set_option maxHeartbeats 4000000 in
theorem act_30 (L : Lives B br bk b bm N sd w s vi ve inp out n c) (hs : Fine s) (hN : N ≤ 2097152) (rd r1 r2 : Nat) (hd : rd < 32) (h1 : r1 < 32) (h2 : r2 < 32) (im : Int) (hf : fit N ((s.x r1 + im % 4294967296) % 4294967296) 1 = true) :
    Calls Tryz.prog 92 #[.pointer (some ⟨br, 0, none⟩), .agg #[.int .i64 30, .int .i64 rd, .int .i64 r1, .int .i64 r2, .int .i64 im]] w fun e w' => e = .returned (.int .u32 ((s.pc + 4) % 4294967296)) ∧ Lives B br bk b bm N sd w' { s with mem := lay s.mem ((s.x r1 + im % 4294967296) % 4294967296).toNat 1 (s.x r2) } vi ve inp out n c ∧ Own B b bm w w' := by
  have hB := L.big
  have p0 := L.r0
  have p1 := L.at_.cx h1
  have p2 := L.at_.cx h2
  have p5 := L.at_.cpc
  have pl := lt_of_get L.run
  have pb := lt_of_get L.at_.head
  have i1 : (0 : Int) ≤ r1 ∧ (r1 : Int) < 32 := by omega
  have i2 : (0 : Int) ≤ r2 ∧ (r2 : Int) < 32 := by omega
  have i3 : (0 : Int) ≤ rd ∧ (rd : Int) < 32 := by omega
  have co := fun w => RC.of_ im w
  have x1 := hs.x r1
  have x2 := hs.x r2
  have xm := mod_bd im
  have xp := hs.pc
  have LB := Lives.drew (Lives.box L (.cells #[.int .i64 30, .int .i64 rd, .int .i64 r1, .int .i64 r2, .int .i64 im] 54))
  have cl := store_30 LB hs hN r2 h2 rd r1 im ((s.x r1 + im % 4294967296) % 4294967296) (mod_bd _) hf
  clear LB hf
  generalize ({ s with mem := lay s.mem ((s.x r1 + im % 4294967296) % 4294967296).toNat 1 (s.x r2) } : St) = S at *
  clear L hs hN
  generalize im % 4294967296 = J at *
  go_enter Tryz.func92, Tryz.ntmps92
  go_wp2
  refine still_ (by kernel_rfl) (by kernel_rfl) ?_
  repeat still_step
  still_call (co _)
  repeat still_step
  refine wpStill_nil ?_
  go_wp2_with (go_at_call 109; (with_reducible refine cl.mono ?_); rintro e w1 ⟨rfl, L1, O1⟩)
  go_ret
  exact ⟨rfl, L1, (own_drew (own_box (by omega) _)).trans O1⟩
set_option maxRecDepth 100000 in
set_option maxHeartbeats 4000000 in
theorem act_bad_30 (L : Lives B br bk b bm N sd w s vi ve inp out n c) (hs : Fine s) (hN : N ≤ 2097152) (rd r1 r2 : Nat) (hd : rd < 32) (h1 : r1 < 32) (h2 : r2 < 32) (im : Int) (hf : fit N ((s.x r1 + im % 4294967296) % 4294967296) 1 = false) :
    Calls Tryz.prog 92 #[.pointer (some ⟨br, 0, none⟩), .agg #[.int .i64 30, .int .i64 rd, .int .i64 r1, .int .i64 r2, .int .i64 im]] w fun e w' => e = .panicked [{ v := .iface 138 (.int .i64 3), recovered := false }] ∧ Lives B br bk b bm N sd w' s vi ve inp out n c ∧ Own B b bm w w' := by
  have hB := L.big
  have p0 := L.r0
  have p1 := L.at_.cx h1
  have p2 := L.at_.cx h2
  have p5 := L.at_.cpc
  have pl := lt_of_get L.run
  have pb := lt_of_get L.at_.head
  have i1 : (0 : Int) ≤ r1 ∧ (r1 : Int) < 32 := by omega
  have i2 : (0 : Int) ≤ r2 ∧ (r2 : Int) < 32 := by omega
  have i3 : (0 : Int) ≤ rd ∧ (rd : Int) < 32 := by omega
  have co := fun w => RC.of_ im w
  have x1 := hs.x r1
  have x2 := hs.x r2
  have xm := mod_bd im
  have xp := hs.pc
  have LB := Lives.drew (Lives.box L (.cells #[.int .i64 30, .int .i64 rd, .int .i64 r1, .int .i64 r2, .int .i64 im] 54))
  have cl := store_bad_30 LB hs hN rd r1 im r2 h2 ((s.x r1 + im % 4294967296) % 4294967296) (mod_bd _) hf
  clear LB hf
  clear L hs hN
  generalize im % 4294967296 = J at *
  go_enter Tryz.func92, Tryz.ntmps92
  go_wp2
  refine still_ (by kernel_rfl) (by kernel_rfl) ?_
  repeat still_step
  still_call (co _)
  repeat still_step
  refine wpStill_nil ?_
  go_wp2_with (go_at_call 109; (with_reducible refine cl.mono ?_); rintro e w1 ⟨rfl, L1, O1⟩)
  exact ⟨rfl, rfl, L1, (own_drew (own_box (by omega) _)).trans O1⟩
set_option maxRecDepth 100000 in
set_option maxHeartbeats 4000000 in
theorem act_31 (L : Lives B br bk b bm N sd w s vi ve inp out n c) (hs : Fine s) (hN : N ≤ 2097152) (rd r1 r2 : Nat) (hd : rd < 32) (h1 : r1 < 32) (h2 : r2 < 32) (im : Int) (hf : fit N ((s.x r1 + im % 4294967296) % 4294967296) 4 = true) :
    Calls Tryz.prog 92 #[.pointer (some ⟨br, 0, none⟩), .agg #[.int .i64 31, .int .i64 rd, .int .i64 r1, .int .i64 r2, .int .i64 im]] w fun e w' => e = .returned (.int .u32 ((s.pc + 4) % 4294967296)) ∧ Lives B br bk b bm N sd w' { s with mem := lay s.mem ((s.x r1 + im % 4294967296) % 4294967296).toNat 4 (s.x r2) } vi ve inp out n c ∧ Own B b bm w w' := by
  have hB := L.big
  have p0 := L.r0
  have p1 := L.at_.cx h1
  have p2 := L.at_.cx h2
  have p5 := L.at_.cpc
  have pl := lt_of_get L.run
  have pb := lt_of_get L.at_.head
  have i1 : (0 : Int) ≤ r1 ∧ (r1 : Int) < 32 := by omega
  have i2 : (0 : Int) ≤ r2 ∧ (r2 : Int) < 32 := by omega
  have i3 : (0 : Int) ≤ rd ∧ (rd : Int) < 32 := by omega
  have co := fun w => RC.of_ im w
  have x1 := hs.x r1
  have x2 := hs.x r2
  have xm := mod_bd im
  have xp := hs.pc
  have LB := Lives.drew (Lives.box L (.cells #[.int .i64 31, .int .i64 rd, .int .i64 r1, .int .i64 r2, .int .i64 im] 54))
  have cl := store_31 LB hs hN r2 h2 rd r1 im ((s.x r1 + im % 4294967296) % 4294967296) (mod_bd _) hf
  clear LB hf
  generalize ({ s with mem := lay s.mem ((s.x r1 + im % 4294967296) % 4294967296).toNat 4 (s.x r2) } : St) = S at *
  clear L hs hN
  generalize im % 4294967296 = J at *
  go_enter Tryz.func92, Tryz.ntmps92
  go_wp2
  refine still_ (by kernel_rfl) (by kernel_rfl) ?_
  repeat still_step
  still_call (co _)
  repeat still_step
  refine wpStill_nil ?_
  go_wp2_with (go_at_call 109; (with_reducible refine cl.mono ?_); rintro e w1 ⟨rfl, L1, O1⟩)
  go_ret
  exact ⟨rfl, L1, (own_drew (own_box (by omega) _)).trans O1⟩
set_option maxRecDepth 100000 in
set_option maxHeartbeats 4000000 in
theorem act_bad_31 (L : Lives B br bk b bm N sd w s vi ve inp out n c) (hs : Fine s) (hN : N ≤ 2097152) (rd r1 r2 : Nat) (hd : rd < 32) (h1 : r1 < 32) (h2 : r2 < 32) (im : Int) (hf : fit N ((s.x r1 + im % 4294967296) % 4294967296) 4 = false) :
    Calls Tryz.prog 92 #[.pointer (some ⟨br, 0, none⟩), .agg #[.int .i64 31, .int .i64 rd, .int .i64 r1, .int .i64 r2, .int .i64 im]] w fun e w' => e = .panicked [{ v := .iface 138 (.int .i64 3), recovered := false }] ∧ Lives B br bk b bm N sd w' s vi ve inp out n c ∧ Own B b bm w w' := by
  have hB := L.big
  have p0 := L.r0
  have p1 := L.at_.cx h1
  have p2 := L.at_.cx h2
  have p5 := L.at_.cpc
  have pl := lt_of_get L.run
  have pb := lt_of_get L.at_.head
  have i1 : (0 : Int) ≤ r1 ∧ (r1 : Int) < 32 := by omega
  have i2 : (0 : Int) ≤ r2 ∧ (r2 : Int) < 32 := by omega
  have i3 : (0 : Int) ≤ rd ∧ (rd : Int) < 32 := by omega
  have co := fun w => RC.of_ im w
  have x1 := hs.x r1
  have x2 := hs.x r2
  have xm := mod_bd im
  have xp := hs.pc
  have LB := Lives.drew (Lives.box L (.cells #[.int .i64 31, .int .i64 rd, .int .i64 r1, .int .i64 r2, .int .i64 im] 54))
  have cl := store_bad_31 LB hs hN rd r1 im r2 h2 ((s.x r1 + im % 4294967296) % 4294967296) (mod_bd _) hf
  clear LB hf
  clear L hs hN
  generalize im % 4294967296 = J at *
  go_enter Tryz.func92, Tryz.ntmps92
  go_wp2
  refine still_ (by kernel_rfl) (by kernel_rfl) ?_
  repeat still_step
  still_call (co _)
  repeat still_step
  refine wpStill_nil ?_
  go_wp2_with (go_at_call 109; (with_reducible refine cl.mono ?_); rintro e w1 ⟨rfl, L1, O1⟩)
  exact ⟨rfl, rfl, L1, (own_drew (own_box (by omega) _)).trans O1⟩
set_option maxRecDepth 100000 in
set_option maxHeartbeats 4000000 in
theorem act_44 (L : Lives B br bk b bm N sd w s vi ve inp out n c) (hs : Fine s) (hN : N ≤ 2097152) (rd r1 r2 : Nat) (hd : rd < 32) (h1 : r1 < 32) (h2 : r2 < 32) (im : Int) (hf : fit N ((s.x r1 + im % 4294967296) % 4294967296) 8 = true) :
    Calls Tryz.prog 92 #[.pointer (some ⟨br, 0, none⟩), .agg #[.int .i64 44, .int .i64 rd, .int .i64 r1, .int .i64 r2, .int .i64 im]] w fun e w' => e = .returned (.int .u32 ((s.pc + 4) % 4294967296)) ∧ Lives B br bk b bm N sd w' { s with mem := lay s.mem ((s.x r1 + im % 4294967296) % 4294967296).toNat 8 ((s.f r2 : Nat) : Int) } vi ve inp out n c ∧ Own B b bm w w' := by
  have hB := L.big
  have p0 := L.r0
  have p1 := L.at_.cx h1
  have p2 := L.at_.cx h2
  have p5 := L.at_.cpc
  have pl := lt_of_get L.run
  have pb := lt_of_get L.at_.head
  have i1 : (0 : Int) ≤ r1 ∧ (r1 : Int) < 32 := by omega
  have i2 : (0 : Int) ≤ r2 ∧ (r2 : Int) < 32 := by omega
  have i3 : (0 : Int) ≤ rd ∧ (rd : Int) < 32 := by omega
  have co := fun w => RC.of_ im w
  have x1 := hs.x r1
  have x2 := hs.x r2
  have xm := mod_bd im
  have xp := hs.pc
  have LB := Lives.drew (Lives.box L (.cells #[.int .i64 44, .int .i64 rd, .int .i64 r1, .int .i64 r2, .int .i64 im] 54))
  have cl := store_44 LB hs hN r2 h2 rd r1 im ((s.x r1 + im % 4294967296) % 4294967296) (mod_bd _) hf
  clear LB hf
  generalize ({ s with mem := lay s.mem ((s.x r1 + im % 4294967296) % 4294967296).toNat 8 ((s.f r2 : Nat) : Int) } : St) = S at *
  clear L hs hN
  generalize im % 4294967296 = J at *
  go_enter Tryz.func92, Tryz.ntmps92
  go_wp2
  refine still_ (by kernel_rfl) (by kernel_rfl) ?_
  repeat still_step
  still_call (co _)
  repeat still_step
  refine wpStill_nil ?_
  go_wp2_with (go_at_call 109; (with_reducible refine cl.mono ?_); rintro e w1 ⟨rfl, L1, O1⟩)
  go_ret
  exact ⟨rfl, L1, (own_drew (own_box (by omega) _)).trans O1⟩
set_option maxRecDepth 100000 in
set_option maxHeartbeats 4000000 in
theorem act_bad_44 (L : Lives B br bk b bm N sd w s vi ve inp out n c) (hs : Fine s) (hN : N ≤ 2097152) (rd r1 r2 : Nat) (hd : rd < 32) (h1 : r1 < 32) (h2 : r2 < 32) (im : Int) (hf : fit N ((s.x r1 + im % 4294967296) % 4294967296) 8 = false) :
    Calls Tryz.prog 92 #[.pointer (some ⟨br, 0, none⟩), .agg #[.int .i64 44, .int .i64 rd, .int .i64 r1, .int .i64 r2, .int .i64 im]] w fun e w' => e = .panicked [{ v := .iface 138 (.int .i64 3), recovered := false }] ∧ Lives B br bk b bm N sd w' s vi ve inp out n c ∧ Own B b bm w w' := by
  have hB := L.big
  have p0 := L.r0
  have p1 := L.at_.cx h1
  have p2 := L.at_.cx h2
  have p5 := L.at_.cpc
  have pl := lt_of_get L.run
  have pb := lt_of_get L.at_.head
  have i1 : (0 : Int) ≤ r1 ∧ (r1 : Int) < 32 := by omega
  have i2 : (0 : Int) ≤ r2 ∧ (r2 : Int) < 32 := by omega
  have i3 : (0 : Int) ≤ rd ∧ (rd : Int) < 32 := by omega
  have co := fun w => RC.of_ im w
  have x1 := hs.x r1
  have x2 := hs.x r2
  have xm := mod_bd im
  have xp := hs.pc
  have LB := Lives.drew (Lives.box L (.cells #[.int .i64 44, .int .i64 rd, .int .i64 r1, .int .i64 r2, .int .i64 im] 54))
  have cl := store_bad_44 LB hs hN rd r1 im r2 h2 ((s.x r1 + im % 4294967296) % 4294967296) (mod_bd _) hf
  clear LB hf
  clear L hs hN
  generalize im % 4294967296 = J at *
  go_enter Tryz.func92, Tryz.ntmps92
  go_wp2
  refine still_ (by kernel_rfl) (by kernel_rfl) ?_
  repeat still_step
  still_call (co _)
  repeat still_step
  refine wpStill_nil ?_
  go_wp2_with (go_at_call 109; (with_reducible refine cl.mono ?_); rintro e w1 ⟨rfl, L1, O1⟩)
  exact ⟨rfl, rfl, L1, (own_drew (own_box (by omega) _)).trans O1⟩
end
end MA
end Go.Proofs.YtlmblfkcmhgdaaaGreat
