/-
  What a run's act answers, by the kinds of instructions: each a contract.
-/
import Derived.Test.YtlmblfkcmhgdaaaGreatMachQh
namespace Go.Proofs.YtlmblfkcmhgdaaaGreat
open Go.RowKit
set_option linter.unusedVariables false
set_option linter.unusedSimpArgs false
namespace MA
attribute [local go_sem ↓] Go.wp_at_zero Go.wp_at_succ
open MM MC MD MG MH
section
variable {B br bk b bm N : Nat} {sd : List (Nat × Obj)} {w w' : World} {s s' : St} {vi ve : Value} {inp : List Int} {out : List Ev} {n c : Nat}
set_option maxRecDepth 100000 in
set_option maxHeartbeats 4000000 in
theorem act_32_true (L : Lives B br bk b bm N sd w s vi ve inp out n c) (hs : Fine s) (hN : N ≤ 2097152) (rd r1 r2 : Nat) (hd : rd < 32) (h1 : r1 < 32) (h2 : r2 < 32) (im : Int) (ht : taken 32 (s.x r1) (s.x r2) = true) :
    Calls Tryz.prog 92 #[.pointer (some ⟨br, 0, none⟩), .agg #[.int .i64 32, .int .i64 rd, .int .i64 r1, .int .i64 r2, .int .i64 im]] w fun e w' => e = .returned (.int .u32 ((s.pc + im % 4294967296) % 4294967296)) ∧ Lives B br bk b bm N sd w' s vi ve inp out n c ∧ Own B b bm w w' := by
  have hB := L.big
  have p0 := L.r0
  have p1 := L.at_.cx h1
  have p2 := L.at_.cx h2
  have p5 := L.at_.cpc
  have pl := lt_of_get L.run
  have pb := lt_of_get L.at_.head
  have i1 : (0 : Int) ≤ r1 ∧ (r1 : Int) < 32 := by omega
  have i2 : (0 : Int) ≤ r2 ∧ (r2 : Int) < 32 := by omega
  have i3 : (0 : Int) ≤ rd ∧ (rd : Int) < 32 := by omega
  have co := fun w => RC.of_ im w
  have x1 := hs.x r1
  have x2 := hs.x r2
  have xm := mod_bd im
  have xp := hs.pc
  have LB := Lives.drew (Lives.box L (.cells #[.int .i64 32, .int .i64 rd, .int .i64 r1, .int .i64 r2, .int .i64 im] 54))
  have cb := fun w => branches_ 32 (s.x r1) (s.x r2) (by omega) (by omega) w
  rw [ht] at cb
  clear ht
  clear L hs hN
  generalize im % 4294967296 = J at *
  go_enter Tryz.func92, Tryz.ntmps92
  go_wp2
  refine still_ (by kernel_rfl) (by kernel_rfl) ?_
  repeat still_step
  still_call (co _)
  repeat still_step
  refine wpStill_nil ?_
  go_wp2_with (go_at_call 110; (with_reducible refine (cb _).mono ?_); rintro e w1 ⟨rfl, rfl⟩)
  go_ret
  exact ⟨rfl, LB, own_drew (own_box (by omega) _)⟩
set_option maxRecDepth 100000 in
set_option maxHeartbeats 4000000 in
theorem act_32_false (L : Lives B br bk b bm N sd w s vi ve inp out n c) (hs : Fine s) (hN : N ≤ 2097152) (rd r1 r2 : Nat) (hd : rd < 32) (h1 : r1 < 32) (h2 : r2 < 32) (im : Int) (ht : taken 32 (s.x r1) (s.x r2) = false) :
    Calls Tryz.prog 92 #[.pointer (some ⟨br, 0, none⟩), .agg #[.int .i64 32, .int .i64 rd, .int .i64 r1, .int .i64 r2, .int .i64 im]] w fun e w' => e = .returned (.int .u32 ((s.pc + 4) % 4294967296)) ∧ Lives B br bk b bm N sd w' s vi ve inp out n c ∧ Own B b bm w w' := by
  have hB := L.big
  have p0 := L.r0
  have p1 := L.at_.cx h1
  have p2 := L.at_.cx h2
  have p5 := L.at_.cpc
  have pl := lt_of_get L.run
  have pb := lt_of_get L.at_.head
  have i1 : (0 : Int) ≤ r1 ∧ (r1 : Int) < 32 := by omega
  have i2 : (0 : Int) ≤ r2 ∧ (r2 : Int) < 32 := by omega
  have i3 : (0 : Int) ≤ rd ∧ (rd : Int) < 32 := by omega
  have co := fun w => RC.of_ im w
  have x1 := hs.x r1
  have x2 := hs.x r2
  have xm := mod_bd im
  have xp := hs.pc
  have LB := Lives.drew (Lives.box L (.cells #[.int .i64 32, .int .i64 rd, .int .i64 r1, .int .i64 r2, .int .i64 im] 54))
  have cb := fun w => branches_ 32 (s.x r1) (s.x r2) (by omega) (by omega) w
  rw [ht] at cb
  clear ht
  clear L hs hN
  generalize im % 4294967296 = J at *
  go_enter Tryz.func92, Tryz.ntmps92
  go_wp2
  refine still_ (by kernel_rfl) (by kernel_rfl) ?_
  repeat still_step
  still_call (co _)
  repeat still_step
  refine wpStill_nil ?_
  go_wp2_with (go_at_call 110; (with_reducible refine (cb _).mono ?_); rintro e w1 ⟨rfl, rfl⟩)
  go_ret
  exact ⟨rfl, LB, own_drew (own_box (by omega) _)⟩
set_option maxRecDepth 100000 in
set_option maxHeartbeats 4000000 in
theorem act_33_true (L : Lives B br bk b bm N sd w s vi ve inp out n c) (hs : Fine s) (hN : N ≤ 2097152) (rd r1 r2 : Nat) (hd : rd < 32) (h1 : r1 < 32) (h2 : r2 < 32) (im : Int) (ht : taken 33 (s.x r1) (s.x r2) = true) :
    Calls Tryz.prog 92 #[.pointer (some ⟨br, 0, none⟩), .agg #[.int .i64 33, .int .i64 rd, .int .i64 r1, .int .i64 r2, .int .i64 im]] w fun e w' => e = .returned (.int .u32 ((s.pc + im % 4294967296) % 4294967296)) ∧ Lives B br bk b bm N sd w' s vi ve inp out n c ∧ Own B b bm w w' := by
  have hB := L.big
  have p0 := L.r0
  have p1 := L.at_.cx h1
  have p2 := L.at_.cx h2
  have p5 := L.at_.cpc
  have pl := lt_of_get L.run
  have pb := lt_of_get L.at_.head
  have i1 : (0 : Int) ≤ r1 ∧ (r1 : Int) < 32 := by omega
  have i2 : (0 : Int) ≤ r2 ∧ (r2 : Int) < 32 := by omega
  have i3 : (0 : Int) ≤ rd ∧ (rd : Int) < 32 := by omega
  have co := fun w => RC.of_ im w
  have x1 := hs.x r1
  have x2 := hs.x r2
  have xm := mod_bd im
  have xp := hs.pc
  have LB := Lives.drew (Lives.box L (.cells #[.int .i64 33, .int .i64 rd, .int .i64 r1, .int .i64 r2, .int .i64 im] 54))
  have cb := fun w => branches_ 33 (s.x r1) (s.x r2) (by omega) (by omega) w
  rw [ht] at cb
  clear ht
  clear L hs hN
  generalize im % 4294967296 = J at *
  go_enter Tryz.func92, Tryz.ntmps92
  go_wp2
  refine still_ (by kernel_rfl) (by kernel_rfl) ?_
  repeat still_step
  still_call (co _)
  repeat still_step
  refine wpStill_nil ?_
  go_wp2_with (go_at_call 110; (with_reducible refine (cb _).mono ?_); rintro e w1 ⟨rfl, rfl⟩)
  go_ret
  exact ⟨rfl, LB, own_drew (own_box (by omega) _)⟩
set_option maxRecDepth 100000 in
set_option maxHeartbeats 4000000 in
theorem act_33_false (L : Lives B br bk b bm N sd w s vi ve inp out n c) (hs : Fine s) (hN : N ≤ 2097152) (rd r1 r2 : Nat) (hd : rd < 32) (h1 : r1 < 32) (h2 : r2 < 32) (im : Int) (ht : taken 33 (s.x r1) (s.x r2) = false) :
    Calls Tryz.prog 92 #[.pointer (some ⟨br, 0, none⟩), .agg #[.int .i64 33, .int .i64 rd, .int .i64 r1, .int .i64 r2, .int .i64 im]] w fun e w' => e = .returned (.int .u32 ((s.pc + 4) % 4294967296)) ∧ Lives B br bk b bm N sd w' s vi ve inp out n c ∧ Own B b bm w w' := by
  have hB := L.big
  have p0 := L.r0
  have p1 := L.at_.cx h1
  have p2 := L.at_.cx h2
  have p5 := L.at_.cpc
  have pl := lt_of_get L.run
  have pb := lt_of_get L.at_.head
  have i1 : (0 : Int) ≤ r1 ∧ (r1 : Int) < 32 := by omega
  have i2 : (0 : Int) ≤ r2 ∧ (r2 : Int) < 32 := by omega
  have i3 : (0 : Int) ≤ rd ∧ (rd : Int) < 32 := by omega
  have co := fun w => RC.of_ im w
  have x1 := hs.x r1
  have x2 := hs.x r2
  have xm := mod_bd im
  have xp := hs.pc
  have LB := Lives.drew (Lives.box L (.cells #[.int .i64 33, .int .i64 rd, .int .i64 r1, .int .i64 r2, .int .i64 im] 54))
  have cb := fun w => branches_ 33 (s.x r1) (s.x r2) (by omega) (by omega) w
  rw [ht] at cb
  clear ht
  clear L hs hN
  generalize im % 4294967296 = J at *
  go_enter Tryz.func92, Tryz.ntmps92
  go_wp2
  refine still_ (by kernel_rfl) (by kernel_rfl) ?_
  repeat still_step
  still_call (co _)
  repeat still_step
  refine wpStill_nil ?_
  go_wp2_with (go_at_call 110; (with_reducible refine (cb _).mono ?_); rintro e w1 ⟨rfl, rfl⟩)
  go_ret
  exact ⟨rfl, LB, own_drew (own_box (by omega) _)⟩
set_option maxRecDepth 100000 in
set_option maxHeartbeats 4000000 in
theorem act_34_true (L : Lives B br bk b bm N sd w s vi ve inp out n c) (hs : Fine s) (hN : N ≤ 2097152) (rd r1 r2 : Nat) (hd : rd < 32) (h1 : r1 < 32) (h2 : r2 < 32) (im : Int) (ht : taken 34 (s.x r1) (s.x r2) = true) :
    Calls Tryz.prog 92 #[.pointer (some ⟨br, 0, none⟩), .agg #[.int .i64 34, .int .i64 rd, .int .i64 r1, .int .i64 r2, .int .i64 im]] w fun e w' => e = .returned (.int .u32 ((s.pc + im % 4294967296) % 4294967296)) ∧ Lives B br bk b bm N sd w' s vi ve inp out n c ∧ Own B b bm w w' := by
  have hB := L.big
  have p0 := L.r0
  have p1 := L.at_.cx h1
  have p2 := L.at_.cx h2
  have p5 := L.at_.cpc
  have pl := lt_of_get L.run
  have pb := lt_of_get L.at_.head
  have i1 : (0 : Int) ≤ r1 ∧ (r1 : Int) < 32 := by omega
  have i2 : (0 : Int) ≤ r2 ∧ (r2 : Int) < 32 := by omega
  have i3 : (0 : Int) ≤ rd ∧ (rd : Int) < 32 := by omega
  have co := fun w => RC.of_ im w
  have x1 := hs.x r1
  have x2 := hs.x r2
  have xm := mod_bd im
  have xp := hs.pc
  have LB := Lives.drew (Lives.box L (.cells #[.int .i64 34, .int .i64 rd, .int .i64 r1, .int .i64 r2, .int .i64 im] 54))
  have cb := fun w => branches_ 34 (s.x r1) (s.x r2) (by omega) (by omega) w
  rw [ht] at cb
  clear ht
  clear L hs hN
  generalize im % 4294967296 = J at *
  go_enter Tryz.func92, Tryz.ntmps92
  go_wp2
  refine still_ (by kernel_rfl) (by kernel_rfl) ?_
  repeat still_step
  still_call (co _)
  repeat still_step
  refine wpStill_nil ?_
  go_wp2_with (go_at_call 110; (with_reducible refine (cb _).mono ?_); rintro e w1 ⟨rfl, rfl⟩)
  go_ret
  exact ⟨rfl, LB, own_drew (own_box (by omega) _)⟩
set_option maxRecDepth 100000 in
set_option maxHeartbeats 4000000 in
theorem act_34_false (L : Lives B br bk b bm N sd w s vi ve inp out n c) (hs : Fine s) (hN : N ≤ 2097152) (rd r1 r2 : Nat) (hd : rd < 32) (h1 : r1 < 32) (h2 : r2 < 32) (im : Int) (ht : taken 34 (s.x r1) (s.x r2) = false) :
    Calls Tryz.prog 92 #[.pointer (some ⟨br, 0, none⟩), .agg #[.int .i64 34, .int .i64 rd, .int .i64 r1, .int .i64 r2, .int .i64 im]] w fun e w' => e = .returned (.int .u32 ((s.pc + 4) % 4294967296)) ∧ Lives B br bk b bm N sd w' s vi ve inp out n c ∧ Own B b bm w w' := by
  have hB := L.big
  have p0 := L.r0
  have p1 := L.at_.cx h1
  have p2 := L.at_.cx h2
  have p5 := L.at_.cpc
  have pl := lt_of_get L.run
  have pb := lt_of_get L.at_.head
  have i1 : (0 : Int) ≤ r1 ∧ (r1 : Int) < 32 := by omega
  have i2 : (0 : Int) ≤ r2 ∧ (r2 : Int) < 32 := by omega
  have i3 : (0 : Int) ≤ rd ∧ (rd : Int) < 32 := by omega
  have co := fun w => RC.of_ im w
  have x1 := hs.x r1
  have x2 := hs.x r2
  have xm := mod_bd im
  have xp := hs.pc
  have LB := Lives.drew (Lives.box L (.cells #[.int .i64 34, .int .i64 rd, .int .i64 r1, .int .i64 r2, .int .i64 im] 54))
  have cb := fun w => branches_ 34 (s.x r1) (s.x r2) (by omega) (by omega) w
  rw [ht] at cb
  clear ht
  clear L hs hN
  generalize im % 4294967296 = J at *
  go_enter Tryz.func92, Tryz.ntmps92
  go_wp2
  refine still_ (by kernel_rfl) (by kernel_rfl) ?_
  repeat still_step
  still_call (co _)
  repeat still_step
  refine wpStill_nil ?_
  go_wp2_with (go_at_call 110; (with_reducible refine (cb _).mono ?_); rintro e w1 ⟨rfl, rfl⟩)
  go_ret
  exact ⟨rfl, LB, own_drew (own_box (by omega) _)⟩
set_option maxRecDepth 100000 in
set_option maxHeartbeats 4000000 in
theorem act_35_true (L : Lives B br bk b bm N sd w s vi ve inp out n c) (hs : Fine s) (hN : N ≤ 2097152) (rd r1 r2 : Nat) (hd : rd < 32) (h1 : r1 < 32) (h2 : r2 < 32) (im : Int) (ht : taken 35 (s.x r1) (s.x r2) = true) :
    Calls Tryz.prog 92 #[.pointer (some ⟨br, 0, none⟩), .agg #[.int .i64 35, .int .i64 rd, .int .i64 r1, .int .i64 r2, .int .i64 im]] w fun e w' => e = .returned (.int .u32 ((s.pc + im % 4294967296) % 4294967296)) ∧ Lives B br bk b bm N sd w' s vi ve inp out n c ∧ Own B b bm w w' := by
  have hB := L.big
  have p0 := L.r0
  have p1 := L.at_.cx h1
  have p2 := L.at_.cx h2
  have p5 := L.at_.cpc
  have pl := lt_of_get L.run
  have pb := lt_of_get L.at_.head
  have i1 : (0 : Int) ≤ r1 ∧ (r1 : Int) < 32 := by omega
  have i2 : (0 : Int) ≤ r2 ∧ (r2 : Int) < 32 := by omega
  have i3 : (0 : Int) ≤ rd ∧ (rd : Int) < 32 := by omega
  have co := fun w => RC.of_ im w
  have x1 := hs.x r1
  have x2 := hs.x r2
  have xm := mod_bd im
  have xp := hs.pc
  have LB := Lives.drew (Lives.box L (.cells #[.int .i64 35, .int .i64 rd, .int .i64 r1, .int .i64 r2, .int .i64 im] 54))
  have cb := fun w => branches_ 35 (s.x r1) (s.x r2) (by omega) (by omega) w
  rw [ht] at cb
  clear ht
  clear L hs hN
  generalize im % 4294967296 = J at *
  go_enter Tryz.func92, Tryz.ntmps92
  go_wp2
  refine still_ (by kernel_rfl) (by kernel_rfl) ?_
  repeat still_step
  still_call (co _)
  repeat still_step
  refine wpStill_nil ?_
  go_wp2_with (go_at_call 110; (with_reducible refine (cb _).mono ?_); rintro e w1 ⟨rfl, rfl⟩)
  go_ret
  exact ⟨rfl, LB, own_drew (own_box (by omega) _)⟩
set_option maxRecDepth 100000 in
set_option maxHeartbeats 4000000 in
theorem act_35_false (L : Lives B br bk b bm N sd w s vi ve inp out n c) (hs : Fine s) (hN : N ≤ 2097152) (rd r1 r2 : Nat) (hd : rd < 32) (h1 : r1 < 32) (h2 : r2 < 32) (im : Int) (ht : taken 35 (s.x r1) (s.x r2) = false) :
    Calls Tryz.prog 92 #[.pointer (some ⟨br, 0, none⟩), .agg #[.int .i64 35, .int .i64 rd, .int .i64 r1, .int .i64 r2, .int .i64 im]] w fun e w' => e = .returned (.int .u32 ((s.pc + 4) % 4294967296)) ∧ Lives B br bk b bm N sd w' s vi ve inp out n c ∧ Own B b bm w w' := by
  have hB := L.big
  have p0 := L.r0
  have p1 := L.at_.cx h1
  have p2 := L.at_.cx h2
  have p5 := L.at_.cpc
  have pl := lt_of_get L.run
  have pb := lt_of_get L.at_.head
  have i1 : (0 : Int) ≤ r1 ∧ (r1 : Int) < 32 := by omega
  have i2 : (0 : Int) ≤ r2 ∧ (r2 : Int) < 32 := by omega
  have i3 : (0 : Int) ≤ rd ∧ (rd : Int) < 32 := by omega
  have co := fun w => RC.of_ im w
  have x1 := hs.x r1
  have x2 := hs.x r2
  have xm := mod_bd im
  have xp := hs.pc
  have LB := Lives.drew (Lives.box L (.cells #[.int .i64 35, .int .i64 rd, .int .i64 r1, .int .i64 r2, .int .i64 im] 54))
  have cb := fun w => branches_ 35 (s.x r1) (s.x r2) (by omega) (by omega) w
  rw [ht] at cb
  clear ht
  clear L hs hN
  generalize im % 4294967296 = J at *
  go_enter Tryz.func92, Tryz.ntmps92
  go_wp2
  refine still_ (by kernel_rfl) (by kernel_rfl) ?_
  repeat still_step
  still_call (co _)
  repeat still_step
  refine wpStill_nil ?_
  go_wp2_with (go_at_call 110; (with_reducible refine (cb _).mono ?_); rintro e w1 ⟨rfl, rfl⟩)
  go_ret
  exact ⟨rfl, LB, own_drew (own_box (by omega) _)⟩
set_option maxRecDepth 100000 in
set_option maxHeartbeats 4000000 in
theorem act_36_true (L : Lives B br bk b bm N sd w s vi ve inp out n c) (hs : Fine s) (hN : N ≤ 2097152) (rd r1 r2 : Nat) (hd : rd < 32) (h1 : r1 < 32) (h2 : r2 < 32) (im : Int) (ht : taken 36 (s.x r1) (s.x r2) = true) :
    Calls Tryz.prog 92 #[.pointer (some ⟨br, 0, none⟩), .agg #[.int .i64 36, .int .i64 rd, .int .i64 r1, .int .i64 r2, .int .i64 im]] w fun e w' => e = .returned (.int .u32 ((s.pc + im % 4294967296) % 4294967296)) ∧ Lives B br bk b bm N sd w' s vi ve inp out n c ∧ Own B b bm w w' := by
  have hB := L.big
  have p0 := L.r0
  have p1 := L.at_.cx h1
  have p2 := L.at_.cx h2
  have p5 := L.at_.cpc
  have pl := lt_of_get L.run
  have pb := lt_of_get L.at_.head
  have i1 : (0 : Int) ≤ r1 ∧ (r1 : Int) < 32 := by omega
  have i2 : (0 : Int) ≤ r2 ∧ (r2 : Int) < 32 := by omega
  have i3 : (0 : Int) ≤ rd ∧ (rd : Int) < 32 := by omega
  have co := fun w => RC.of_ im w
  have x1 := hs.x r1
  have x2 := hs.x r2
  have xm := mod_bd im
  have xp := hs.pc
  have LB := Lives.drew (Lives.box L (.cells #[.int .i64 36, .int .i64 rd, .int .i64 r1, .int .i64 r2, .int .i64 im] 54))
  have cb := fun w => branches_ 36 (s.x r1) (s.x r2) (by omega) (by omega) w
  rw [ht] at cb
  clear ht
  clear L hs hN
  generalize im % 4294967296 = J at *
  go_enter Tryz.func92, Tryz.ntmps92
  go_wp2
  refine still_ (by kernel_rfl) (by kernel_rfl) ?_
  repeat still_step
  still_call (co _)
  repeat still_step
  refine wpStill_nil ?_
  go_wp2_with (go_at_call 110; (with_reducible refine (cb _).mono ?_); rintro e w1 ⟨rfl, rfl⟩)
  go_ret
  exact ⟨rfl, LB, own_drew (own_box (by omega) _)⟩
set_option maxRecDepth 100000 in
set_option maxHeartbeats 4000000 in
theorem act_36_false (L : Lives B br bk b bm N sd w s vi ve inp out n c) (hs : Fine s) (hN : N ≤ 2097152) (rd r1 r2 : Nat) (hd : rd < 32) (h1 : r1 < 32) (h2 : r2 < 32) (im : Int) (ht : taken 36 (s.x r1) (s.x r2) = false) :
    Calls Tryz.prog 92 #[.pointer (some ⟨br, 0, none⟩), .agg #[.int .i64 36, .int .i64 rd, .int .i64 r1, .int .i64 r2, .int .i64 im]] w fun e w' => e = .returned (.int .u32 ((s.pc + 4) % 4294967296)) ∧ Lives B br bk b bm N sd w' s vi ve inp out n c ∧ Own B b bm w w' := by
  have hB := L.big
  have p0 := L.r0
  have p1 := L.at_.cx h1
  have p2 := L.at_.cx h2
  have p5 := L.at_.cpc
  have pl := lt_of_get L.run
  have pb := lt_of_get L.at_.head
  have i1 : (0 : Int) ≤ r1 ∧ (r1 : Int) < 32 := by omega
  have i2 : (0 : Int) ≤ r2 ∧ (r2 : Int) < 32 := by omega
  have i3 : (0 : Int) ≤ rd ∧ (rd : Int) < 32 := by omega
  have co := fun w => RC.of_ im w
  have x1 := hs.x r1
  have x2 := hs.x r2
  have xm := mod_bd im
  have xp := hs.pc
  have LB := Lives.drew (Lives.box L (.cells #[.int .i64 36, .int .i64 rd, .int .i64 r1, .int .i64 r2, .int .i64 im] 54))
  have cb := fun w => branches_ 36 (s.x r1) (s.x r2) (by omega) (by omega) w
  rw [ht] at cb
  clear ht
  clear L hs hN
  generalize im % 4294967296 = J at *
  go_enter Tryz.func92, Tryz.ntmps92
  go_wp2
  refine still_ (by kernel_rfl) (by kernel_rfl) ?_
  repeat still_step
  still_call (co _)
  repeat still_step
  refine wpStill_nil ?_
  go_wp2_with (go_at_call 110; (with_reducible refine (cb _).mono ?_); rintro e w1 ⟨rfl, rfl⟩)
  go_ret
  exact ⟨rfl, LB, own_drew (own_box (by omega) _)⟩
set_option maxRecDepth 100000 in
set_option maxHeartbeats 4000000 in
theorem act_37_true (L : Lives B br bk b bm N sd w s vi ve inp out n c) (hs : Fine s) (hN : N ≤ 2097152) (rd r1 r2 : Nat) (hd : rd < 32) (h1 : r1 < 32) (h2 : r2 < 32) (im : Int) (ht : taken 37 (s.x r1) (s.x r2) = true) :
    Calls Tryz.prog 92 #[.pointer (some ⟨br, 0, none⟩), .agg #[.int .i64 37, .int .i64 rd, .int .i64 r1, .int .i64 r2, .int .i64 im]] w fun e w' => e = .returned (.int .u32 ((s.pc + im % 4294967296) % 4294967296)) ∧ Lives B br bk b bm N sd w' s vi ve inp out n c ∧ Own B b bm w w' := by
  have hB := L.big
  have p0 := L.r0
  have p1 := L.at_.cx h1
  have p2 := L.at_.cx h2
  have p5 := L.at_.cpc
  have pl := lt_of_get L.run
  have pb := lt_of_get L.at_.head
  have i1 : (0 : Int) ≤ r1 ∧ (r1 : Int) < 32 := by omega
  have i2 : (0 : Int) ≤ r2 ∧ (r2 : Int) < 32 := by omega
  have i3 : (0 : Int) ≤ rd ∧ (rd : Int) < 32 := by omega
  have co := fun w => RC.of_ im w
  have x1 := hs.x r1
  have x2 := hs.x r2
  have xm := mod_bd im
  have xp := hs.pc
  have LB := Lives.drew (Lives.box L (.cells #[.int .i64 37, .int .i64 rd, .int .i64 r1, .int .i64 r2, .int .i64 im] 54))
  have cb := fun w => branches_ 37 (s.x r1) (s.x r2) (by omega) (by omega) w
  rw [ht] at cb
  clear ht
  clear L hs hN
  generalize im % 4294967296 = J at *
  go_enter Tryz.func92, Tryz.ntmps92
  go_wp2
  refine still_ (by kernel_rfl) (by kernel_rfl) ?_
  repeat still_step
  still_call (co _)
  repeat still_step
  refine wpStill_nil ?_
  go_wp2_with (go_at_call 110; (with_reducible refine (cb _).mono ?_); rintro e w1 ⟨rfl, rfl⟩)
  go_ret
  exact ⟨rfl, LB, own_drew (own_box (by omega) _)⟩
set_option maxRecDepth 100000 in
set_option maxHeartbeats 4000000 in
theorem act_37_false (L : Lives B br bk b bm N sd w s vi ve inp out n c) (hs : Fine s) (hN : N ≤ 2097152) (rd r1 r2 : Nat) (hd : rd < 32) (h1 : r1 < 32) (h2 : r2 < 32) (im : Int) (ht : taken 37 (s.x r1) (s.x r2) = false) :
    Calls Tryz.prog 92 #[.pointer (some ⟨br, 0, none⟩), .agg #[.int .i64 37, .int .i64 rd, .int .i64 r1, .int .i64 r2, .int .i64 im]] w fun e w' => e = .returned (.int .u32 ((s.pc + 4) % 4294967296)) ∧ Lives B br bk b bm N sd w' s vi ve inp out n c ∧ Own B b bm w w' := by
  have hB := L.big
  have p0 := L.r0
  have p1 := L.at_.cx h1
  have p2 := L.at_.cx h2
  have p5 := L.at_.cpc
  have pl := lt_of_get L.run
  have pb := lt_of_get L.at_.head
  have i1 : (0 : Int) ≤ r1 ∧ (r1 : Int) < 32 := by omega
  have i2 : (0 : Int) ≤ r2 ∧ (r2 : Int) < 32 := by omega
  have i3 : (0 : Int) ≤ rd ∧ (rd : Int) < 32 := by omega
  have co := fun w => RC.of_ im w
  have x1 := hs.x r1
  have x2 := hs.x r2
  have xm := mod_bd im
  have xp := hs.pc
  have LB := Lives.drew (Lives.box L (.cells #[.int .i64 37, .int .i64 rd, .int .i64 r1, .int .i64 r2, .int .i64 im] 54))
  have cb := fun w => branches_ 37 (s.x r1) (s.x r2) (by omega) (by omega) w
  rw [ht] at cb
  clear ht
  clear L hs hN
  generalize im % 4294967296 = J at *
  go_enter Tryz.func92, Tryz.ntmps92
  go_wp2
  refine still_ (by kernel_rfl) (by kernel_rfl) ?_
  repeat still_step
  still_call (co _)
  repeat still_step
  refine wpStill_nil ?_
  go_wp2_with (go_at_call 110; (with_reducible refine (cb _).mono ?_); rintro e w1 ⟨rfl, rfl⟩)
  go_ret
  exact ⟨rfl, LB, own_drew (own_box (by omega) _)⟩
end
end MA
end Go.Proofs.YtlmblfkcmhgdaaaGreat
