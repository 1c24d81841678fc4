/-
  What a run's operations of reals answer: each a contract.
-/
import Derived.Test.YtlmblfkcmhgdaaaGreatMachQf
namespace Go.Proofs.YtlmblfkcmhgdaaaGreat
open Go.RowKit
set_option linter.unusedVariables false
set_option linter.unusedSimpArgs false
namespace MH
attribute [local go_sem ↓] Go.wp_at_zero Go.wp_at_succ
open MM MC MD MG
theorem still_ {P : Program} {id : Nat} {Q : Exit → Act → World → Prop} {a : Act} {w : World} {l : List Oper} (hm : P.follows .mixedOrders = true) (hB : Region.lexB .any l.toArray = true)
    (h : wpStill P l.toArray w.drew (fun a' => Q .normal a' w.drew) l a) : (Code.region id l.toArray true).wp P Q a w := wp_region_still_lit hm hB h
theorem tail_ {P : Program} {id : Nat} {Q : Exit → Act → World → Prop} {a : Act} {w : World} {l : List Oper} (n : Nat) (hm : P.follows .mixedOrders = true) (hB : Region.lexTailB .any l.toArray n = true)
    (h : wpStill P l.toArray w.drew (fun a' => wpList P l.toArray Q (l.drop n) a' w.drew) (l.take n) a) : (Code.region id l.toArray true).wp P Q a w := wp_region_still_tail n hm hB h
section
variable {B br bk b bm N : Nat} {sd : List (Nat × Obj)} {w w' : World} {s s' : St} {vi ve : Value} {inp : List Int} {out : List Ev} {n c : Nat}
theorem Lives.drewN (L : Lives B br bk b bm N sd w s vi ve inp out n c) (k : Nat) : Lives B br bk b bm N sd (w.drewN k) s vi ve inp out n c := Lives.kept L (Nat.le_refl _) (fun _ _ => rfl)
theorem own_drewN {u : World} (h : Own B b bm u w) (k : Nat) : Own B b bm u (w.drewN k) := ⟨h.os, h.tape, h.output, h.size, h.block⟩
set_option maxRecDepth 100000 in
set_option maxHeartbeats 4000000 in
theorem real_49 (L : Lives B br bk b bm N sd w s vi ve inp out n c) (hs : Fine s) (rd r1 r2 : Nat) (hd : rd < 32) (h1 : r1 < 32) (h2 : r2 < 32) (im : Int) :
    Calls Tryz.prog 113 #[.pointer (some ⟨br, 0, none⟩), .agg #[.int .i64 49, .int .i64 rd, .int .i64 r1, .int .i64 r2, .int .i64 im]] w fun e w' => e = .returned (.tuple #[]) ∧ Lives B br bk b bm N sd w' (setf s rd (s.f r1)) vi ve inp out n c ∧ Own B b bm w w' := by
  have hB := L.big
  have p0 := L.r0
  have p1 := L.at_.cf h1
  have p2 := L.at_.cf h2
  have p3 := L.at_.cf hd
  have p4 := L.at_.fb (33 + rd)
  have pl := lt_of_get L.run
  have pb := lt_of_get L.at_.head
  have n0 := L.pl
  have n1 : br ≠ b := by omega
  have n2 : w.heap.size ≠ b := by omega
  have n3 : b ≠ br := by omega
  have n4 : b ≠ w.heap.size := by omega
  clear n0
  have i1 : (0 : Int) ≤ r1 ∧ (r1 : Int) < 32 := by omega
  have i2 : (0 : Int) ≤ r2 ∧ (r2 : Int) < 32 := by omega
  have i3 : (0 : Int) ≤ rd ∧ (rd : Int) < 32 := by omega
  have HL := Lib.hid L
  have HD := Lib.hid hd
  clear L hs
  go_enter Tryz.func113, Tryz.ntmps113
  go_wp2
  refine still_ (by kernel_rfl) (by kernel_rfl) ?_
  repeat still_step
  refine wpStill_nil ?_
  go_wp2
  refine tail_ 10 (by kernel_rfl) (by kernel_rfl) ?_
  simp only [List.take_succ_cons, List.take_zero, List.drop_succ_cons, List.drop_zero]
  repeat still_step
  refine wpStill_nil ?_
  go_wp2
  go_end0
  refine ⟨rfl, ?_, own_drew (own_drew ((Own.set _ _ _).trans (own_box (by simp only [World.size_setCell]; omega) _)))⟩
  exact Lives.drew (Lives.drew (Lives.box (HL.out.set _ _ (set_f bm N s HD.out _) rfl) _))
set_option maxRecDepth 100000 in
set_option maxHeartbeats 4000000 in
theorem real_50 (L : Lives B br bk b bm N sd w s vi ve inp out n c) (hs : Fine s) (rd r1 r2 : Nat) (hd : rd < 32) (h1 : r1 < 32) (h2 : r2 < 32) (im : Int) :
    Calls Tryz.prog 113 #[.pointer (some ⟨br, 0, none⟩), .agg #[.int .i64 50, .int .i64 rd, .int .i64 r1, .int .i64 r2, .int .i64 im]] w fun e w' => e = .returned (.tuple #[]) ∧ Lives B br bk b bm N sd w' (setf s rd (RM.fneg (s.f r1))) vi ve inp out n c ∧ Own B b bm w w' := by
  have hB := L.big
  have p0 := L.r0
  have p1 := L.at_.cf h1
  have p2 := L.at_.cf h2
  have p3 := L.at_.cf hd
  have p4 := L.at_.fb (33 + rd)
  have pl := lt_of_get L.run
  have pb := lt_of_get L.at_.head
  have n0 := L.pl
  have n1 : br ≠ b := by omega
  have n2 : w.heap.size ≠ b := by omega
  have n3 : b ≠ br := by omega
  have n4 : b ≠ w.heap.size := by omega
  clear n0
  have i1 : (0 : Int) ≤ r1 ∧ (r1 : Int) < 32 := by omega
  have i2 : (0 : Int) ≤ r2 ∧ (r2 : Int) < 32 := by omega
  have i3 : (0 : Int) ≤ rd ∧ (rd : Int) < 32 := by omega
  have HL := Lib.hid L
  have HD := Lib.hid hd
  have cc := fun w => RC.neg_ (s.f r1) (hs.f r1) w
  generalize RM.fneg (s.f r1) = E at *
  clear L hs
  go_enter Tryz.func113, Tryz.ntmps113
  go_wp2
  refine still_ (by kernel_rfl) (by kernel_rfl) ?_
  repeat still_step
  refine wpStill_nil ?_
  go_wp2
  refine tail_ 11 (by kernel_rfl) (by kernel_rfl) ?_
  simp only [List.take_succ_cons, List.take_zero, List.drop_succ_cons, List.drop_zero]
  repeat still_step
  still_call (cc _)
  repeat still_step
  refine wpStill_nil ?_
  go_wp2
  go_end0
  refine ⟨rfl, ?_, own_drew (own_drew ((Own.set _ _ _).trans (own_box (by simp only [World.size_setCell]; omega) _)))⟩
  exact Lives.drew (Lives.drew (Lives.box (HL.out.set _ _ (set_f bm N s HD.out _) rfl) _))
set_option maxRecDepth 100000 in
set_option maxHeartbeats 4000000 in
theorem real_54 (L : Lives B br bk b bm N sd w s vi ve inp out n c) (hs : Fine s) (rd r1 r2 : Nat) (hd : rd < 32) (h1 : r1 < 32) (h2 : r2 < 32) (im : Int) :
    Calls Tryz.prog 113 #[.pointer (some ⟨br, 0, none⟩), .agg #[.int .i64 54, .int .i64 rd, .int .i64 r1, .int .i64 r2, .int .i64 im]] w fun e w' => e = .returned (.tuple #[]) ∧ Lives B br bk b bm N sd w' (setx s rd (RM.toWord (s.f r1))) vi ve inp out n c ∧ Own B b bm w w' := by
  have hB := L.big
  have p0 := L.r0
  have p1 := L.at_.cf h1
  have p2 := L.at_.cf h2
  have p3 := L.at_.cf hd
  have p4 := L.at_.fb (33 + rd)
  have pl := lt_of_get L.run
  have pb := lt_of_get L.at_.head
  have n0 := L.pl
  have n1 : br ≠ b := by omega
  have n2 : w.heap.size ≠ b := by omega
  have n3 : b ≠ br := by omega
  have n4 : b ≠ w.heap.size := by omega
  clear n0
  have i1 : (0 : Int) ≤ r1 ∧ (r1 : Int) < 32 := by omega
  have i2 : (0 : Int) ≤ r2 ∧ (r2 : Int) < 32 := by omega
  have i3 : (0 : Int) ≤ rd ∧ (rd : Int) < 32 := by omega
  have HL := Lib.hid L
  have HD := Lib.hid hd
  have cc := fun w => RC.toWord_ (s.f r1) w
  have cp := put_ (Lives.drew (Lives.drew (Lives.box L (.cells #[.int .i64 54, .int .i64 rd, .int .i64 r1, .int .i64 r2, .int .i64 im] 54)))) rd hd (RM.toWord (s.f r1))
  generalize RM.toWord (s.f r1) = E at *
  clear L hs
  go_enter Tryz.func113, Tryz.ntmps113
  go_wp2
  refine still_ (by kernel_rfl) (by kernel_rfl) ?_
  repeat still_step
  refine wpStill_nil ?_
  go_wp2
  refine tail_ 5 (by kernel_rfl) (by kernel_rfl) ?_
  simp only [List.take_succ_cons, List.take_zero, List.drop_succ_cons, List.drop_zero]
  repeat still_step
  still_call (cc _)
  repeat still_step
  refine wpStill_nil ?_
  go_wp2_with (go_at_call 111; (with_reducible refine cp.mono ?_); rintro e w1 ⟨rfl, L1, O1⟩)
  go_end0
  exact ⟨rfl, L1, (own_drew (own_drew (own_box (by omega) _))).trans O1⟩
set_option maxRecDepth 100000 in
set_option maxHeartbeats 4000000 in
theorem real_55 (L : Lives B br bk b bm N sd w s vi ve inp out n c) (hs : Fine s) (rd r1 r2 : Nat) (hd : rd < 32) (h1 : r1 < 32) (h2 : r2 < 32) (im : Int) :
    Calls Tryz.prog 113 #[.pointer (some ⟨br, 0, none⟩), .agg #[.int .i64 55, .int .i64 rd, .int .i64 r1, .int .i64 r2, .int .i64 im]] w fun e w' => e = .returned (.tuple #[]) ∧ Lives B br bk b bm N sd w' (setf s rd (RM.ofInt (wrap32 (s.x r1)))) vi ve inp out n c ∧ Own B b bm w w' := by
  have hB := L.big
  have p0 := L.r0
  have p1 := L.at_.cf h1
  have p2 := L.at_.cf h2
  have p3 := L.at_.cf hd
  have p4 := L.at_.fb (33 + rd)
  have pl := lt_of_get L.run
  have pb := lt_of_get L.at_.head
  have n0 := L.pl
  have n1 : br ≠ b := by omega
  have n2 : w.heap.size ≠ b := by omega
  have n3 : b ≠ br := by omega
  have n4 : b ≠ w.heap.size := by omega
  clear n0
  have i1 : (0 : Int) ≤ r1 ∧ (r1 : Int) < 32 := by omega
  have i2 : (0 : Int) ≤ r2 ∧ (r2 : Int) < 32 := by omega
  have i3 : (0 : Int) ≤ rd ∧ (rd : Int) < 32 := by omega
  have HL := Lib.hid L
  have HD := Lib.hid hd
  have p5 := L.at_.cx h1
  have cc := fun w => RC.ofInt_ (s.x r1) w
  generalize RM.ofInt (wrap32 (s.x r1)) = E at *
  clear L hs
  go_enter Tryz.func113, Tryz.ntmps113
  go_wp2
  refine still_ (by kernel_rfl) (by kernel_rfl) ?_
  repeat still_step
  refine wpStill_nil ?_
  go_wp2
  refine tail_ 20 (by kernel_rfl) (by kernel_rfl) ?_
  simp only [List.take_succ_cons, List.take_zero, List.drop_succ_cons, List.drop_zero]
  repeat still_step
  still_call (cc _)
  repeat still_step
  refine wpStill_nil ?_
  go_wp2
  go_end0
  refine ⟨rfl, ?_, own_drew (own_drew ((Own.set _ _ _).trans (own_box (by simp only [World.size_setCell]; omega) _)))⟩
  exact Lives.drew (Lives.drew (Lives.box (HL.out.set _ _ (set_f bm N s HD.out _) rfl) _))
set_option maxRecDepth 100000 in
set_option maxHeartbeats 4000000 in
theorem real_51 (L : Lives B br bk b bm N sd w s vi ve inp out n c) (hs : Fine s) (rd r1 r2 : Nat) (hd : rd < 32) (h1 : r1 < 32) (h2 : r2 < 32) (im : Int) :
    Calls Tryz.prog 113 #[.pointer (some ⟨br, 0, none⟩), .agg #[.int .i64 51, .int .i64 rd, .int .i64 r1, .int .i64 r2, .int .i64 im]] w fun e w' => e = .returned (.tuple #[]) ∧ Lives B br bk b bm N sd w' (setx s rd ((RM.feq (s.f r1) (s.f r2)).toNat : Int)) vi ve inp out n c ∧ Own B b bm w w' := by
  have hB := L.big
  have p0 := L.r0
  have p1 := L.at_.cf h1
  have p2 := L.at_.cf h2
  have p3 := L.at_.cf hd
  have p4 := L.at_.fb (33 + rd)
  have pl := lt_of_get L.run
  have pb := lt_of_get L.at_.head
  have n0 := L.pl
  have n1 : br ≠ b := by omega
  have n2 : w.heap.size ≠ b := by omega
  have n3 : b ≠ br := by omega
  have n4 : b ≠ w.heap.size := by omega
  clear n0
  have i1 : (0 : Int) ≤ r1 ∧ (r1 : Int) < 32 := by omega
  have i2 : (0 : Int) ≤ r2 ∧ (r2 : Int) < 32 := by omega
  have i3 : (0 : Int) ≤ rd ∧ (rd : Int) < 32 := by omega
  have HL := Lib.hid L
  have HD := Lib.hid hd
  have cc := fun w => RC.cmp_eq (s.f r1) (s.f r2) w
  have cp := put_ (Lives.drew (Lives.box L (.cells #[.int .i64 51, .int .i64 rd, .int .i64 r1, .int .i64 r2, .int .i64 im] 54))) rd hd ((RM.feq (s.f r1) (s.f r2)).toNat : Int)
  generalize ((RM.feq (s.f r1) (s.f r2)).toNat : Int) = E at *
  clear L hs
  go_enter Tryz.func113, Tryz.ntmps113
  go_wp2
  refine still_ (by kernel_rfl) (by kernel_rfl) ?_
  repeat still_step
  refine wpStill_nil ?_
  go_wp2_with (first
    | (go_at_call 135; (with_reducible refine (cc _).mono ?_); rintro e w1 ⟨rfl, rfl⟩)
    | (go_at_call 111; (with_reducible refine cp.mono ?_); rintro e w1 ⟨rfl, L1, O1⟩))
  go_end0
  exact ⟨rfl, L1, (own_drew (own_box (by omega) _)).trans O1⟩
set_option maxRecDepth 100000 in
set_option maxHeartbeats 4000000 in
theorem real_52 (L : Lives B br bk b bm N sd w s vi ve inp out n c) (hs : Fine s) (rd r1 r2 : Nat) (hd : rd < 32) (h1 : r1 < 32) (h2 : r2 < 32) (im : Int) :
    Calls Tryz.prog 113 #[.pointer (some ⟨br, 0, none⟩), .agg #[.int .i64 52, .int .i64 rd, .int .i64 r1, .int .i64 r2, .int .i64 im]] w fun e w' => e = .returned (.tuple #[]) ∧ Lives B br bk b bm N sd w' (setx s rd ((RM.flt (s.f r1) (s.f r2)).toNat : Int)) vi ve inp out n c ∧ Own B b bm w w' := by
  have hB := L.big
  have p0 := L.r0
  have p1 := L.at_.cf h1
  have p2 := L.at_.cf h2
  have p3 := L.at_.cf hd
  have p4 := L.at_.fb (33 + rd)
  have pl := lt_of_get L.run
  have pb := lt_of_get L.at_.head
  have n0 := L.pl
  have n1 : br ≠ b := by omega
  have n2 : w.heap.size ≠ b := by omega
  have n3 : b ≠ br := by omega
  have n4 : b ≠ w.heap.size := by omega
  clear n0
  have i1 : (0 : Int) ≤ r1 ∧ (r1 : Int) < 32 := by omega
  have i2 : (0 : Int) ≤ r2 ∧ (r2 : Int) < 32 := by omega
  have i3 : (0 : Int) ≤ rd ∧ (rd : Int) < 32 := by omega
  have HL := Lib.hid L
  have HD := Lib.hid hd
  have cc := fun w => RC.cmp_lt (s.f r1) (s.f r2) w
  have cp := put_ (Lives.drew (Lives.box L (.cells #[.int .i64 52, .int .i64 rd, .int .i64 r1, .int .i64 r2, .int .i64 im] 54))) rd hd ((RM.flt (s.f r1) (s.f r2)).toNat : Int)
  generalize ((RM.flt (s.f r1) (s.f r2)).toNat : Int) = E at *
  clear L hs
  go_enter Tryz.func113, Tryz.ntmps113
  go_wp2
  refine still_ (by kernel_rfl) (by kernel_rfl) ?_
  repeat still_step
  refine wpStill_nil ?_
  go_wp2_with (first
    | (go_at_call 135; (with_reducible refine (cc _).mono ?_); rintro e w1 ⟨rfl, rfl⟩)
    | (go_at_call 111; (with_reducible refine cp.mono ?_); rintro e w1 ⟨rfl, L1, O1⟩))
  go_end0
  exact ⟨rfl, L1, (own_drew (own_box (by omega) _)).trans O1⟩
set_option maxRecDepth 100000 in
set_option maxHeartbeats 4000000 in
theorem real_53 (L : Lives B br bk b bm N sd w s vi ve inp out n c) (hs : Fine s) (rd r1 r2 : Nat) (hd : rd < 32) (h1 : r1 < 32) (h2 : r2 < 32) (im : Int) :
    Calls Tryz.prog 113 #[.pointer (some ⟨br, 0, none⟩), .agg #[.int .i64 53, .int .i64 rd, .int .i64 r1, .int .i64 r2, .int .i64 im]] w fun e w' => e = .returned (.tuple #[]) ∧ Lives B br bk b bm N sd w' (setx s rd ((RM.fle (s.f r1) (s.f r2)).toNat : Int)) vi ve inp out n c ∧ Own B b bm w w' := by
  have hB := L.big
  have p0 := L.r0
  have p1 := L.at_.cf h1
  have p2 := L.at_.cf h2
  have p3 := L.at_.cf hd
  have p4 := L.at_.fb (33 + rd)
  have pl := lt_of_get L.run
  have pb := lt_of_get L.at_.head
  have n0 := L.pl
  have n1 : br ≠ b := by omega
  have n2 : w.heap.size ≠ b := by omega
  have n3 : b ≠ br := by omega
  have n4 : b ≠ w.heap.size := by omega
  clear n0
  have i1 : (0 : Int) ≤ r1 ∧ (r1 : Int) < 32 := by omega
  have i2 : (0 : Int) ≤ r2 ∧ (r2 : Int) < 32 := by omega
  have i3 : (0 : Int) ≤ rd ∧ (rd : Int) < 32 := by omega
  have HL := Lib.hid L
  have HD := Lib.hid hd
  have cc := fun w => RC.cmp_le (s.f r1) (s.f r2) w
  have cp := put_ (Lives.drew (Lives.box L (.cells #[.int .i64 53, .int .i64 rd, .int .i64 r1, .int .i64 r2, .int .i64 im] 54))) rd hd ((RM.fle (s.f r1) (s.f r2)).toNat : Int)
  generalize ((RM.fle (s.f r1) (s.f r2)).toNat : Int) = E at *
  clear L hs
  go_enter Tryz.func113, Tryz.ntmps113
  go_wp2
  refine still_ (by kernel_rfl) (by kernel_rfl) ?_
  repeat still_step
  refine wpStill_nil ?_
  go_wp2_with (first
    | (go_at_call 135; (with_reducible refine (cc _).mono ?_); rintro e w1 ⟨rfl, rfl⟩)
    | (go_at_call 111; (with_reducible refine cp.mono ?_); rintro e w1 ⟨rfl, L1, O1⟩))
  go_end0
  exact ⟨rfl, L1, (own_drew (own_box (by omega) _)).trans O1⟩
set_option maxRecDepth 100000 in
set_option maxHeartbeats 4000000 in
theorem real_45 (L : Lives B br bk b bm N sd w s vi ve inp out n c) (hs : Fine s) (rd r1 r2 : Nat) (hd : rd < 32) (h1 : r1 < 32) (h2 : r2 < 32) (im : Int) :
    Calls Tryz.prog 113 #[.pointer (some ⟨br, 0, none⟩), .agg #[.int .i64 45, .int .i64 rd, .int .i64 r1, .int .i64 r2, .int .i64 im]] w fun e w' => e = .returned (.tuple #[]) ∧ Lives B br bk b bm N sd w' (setf s rd (RM.fadd (s.f r1) (s.f r2))) vi ve inp out n c ∧ Own B b bm w w' := by
  have hB := L.big
  have p0 := L.r0
  have p1 := L.at_.cf h1
  have p2 := L.at_.cf h2
  have p3 := L.at_.cf hd
  have p4 := L.at_.fb (33 + rd)
  have pl := lt_of_get L.run
  have pb := lt_of_get L.at_.head
  have n0 := L.pl
  have n1 : br ≠ b := by omega
  have n2 : w.heap.size ≠ b := by omega
  have n3 : b ≠ br := by omega
  have n4 : b ≠ w.heap.size := by omega
  clear n0
  have i1 : (0 : Int) ≤ r1 ∧ (r1 : Int) < 32 := by omega
  have i2 : (0 : Int) ≤ r2 ∧ (r2 : Int) < 32 := by omega
  have i3 : (0 : Int) ≤ rd ∧ (rd : Int) < 32 := by omega
  have HL := Lib.hid L
  have HD := Lib.hid hd
  have cc := fun w => RC.do_add (s.f r1) (s.f r2) w
  rw [show RC.fop .add (s.f r1) (s.f r2) = RM.fadd (s.f r1) (s.f r2) from rfl] at cc
  generalize RM.fadd (s.f r1) (s.f r2) = E at *
  clear L hs
  go_enter Tryz.func113, Tryz.ntmps113
  go_wp2
  refine still_ (by kernel_rfl) (by kernel_rfl) ?_
  repeat still_step
  refine wpStill_nil ?_
  go_wp2
  go_region_held3 (fun w' => w'.cell? ⟨br, 0, none⟩ = some (.pointer (some ⟨b, 0, none⟩)) ∧ w'.cell? ⟨w.heap.size, 0, none⟩ = some (.int .i64 45) ∧ w'.cell? ⟨w.heap.size, 1, none⟩ = some (.int .i64 rd)) (go_keep)
    ((go_at_call 136; (with_reducible refine (cc _).mono ?_); rintro e w1 ⟨rfl, k, rfl⟩))
  go_wp2
  go_end0
  first
    | exact ⟨rfl, (Lives.drewN (Lives.box HL.out _) _).set _ _ (set_f bm N s HD.out _) rfl, (own_drewN (own_box (by omega) _) _).trans (Own.set _ _ _)⟩
    | exact ⟨rfl, Lives.drewN (Lives.box (HL.out.set _ _ (set_f bm N s HD.out _) rfl) _) _, own_drewN ((Own.set _ _ _).trans (own_box (by simp only [World.size_setCell]; omega) _)) _⟩
set_option maxRecDepth 100000 in
set_option maxHeartbeats 4000000 in
theorem real_46 (L : Lives B br bk b bm N sd w s vi ve inp out n c) (hs : Fine s) (rd r1 r2 : Nat) (hd : rd < 32) (h1 : r1 < 32) (h2 : r2 < 32) (im : Int) :
    Calls Tryz.prog 113 #[.pointer (some ⟨br, 0, none⟩), .agg #[.int .i64 46, .int .i64 rd, .int .i64 r1, .int .i64 r2, .int .i64 im]] w fun e w' => e = .returned (.tuple #[]) ∧ Lives B br bk b bm N sd w' (setf s rd (RM.fsub (s.f r1) (s.f r2))) vi ve inp out n c ∧ Own B b bm w w' := by
  have hB := L.big
  have p0 := L.r0
  have p1 := L.at_.cf h1
  have p2 := L.at_.cf h2
  have p3 := L.at_.cf hd
  have p4 := L.at_.fb (33 + rd)
  have pl := lt_of_get L.run
  have pb := lt_of_get L.at_.head
  have n0 := L.pl
  have n1 : br ≠ b := by omega
  have n2 : w.heap.size ≠ b := by omega
  have n3 : b ≠ br := by omega
  have n4 : b ≠ w.heap.size := by omega
  clear n0
  have i1 : (0 : Int) ≤ r1 ∧ (r1 : Int) < 32 := by omega
  have i2 : (0 : Int) ≤ r2 ∧ (r2 : Int) < 32 := by omega
  have i3 : (0 : Int) ≤ rd ∧ (rd : Int) < 32 := by omega
  have HL := Lib.hid L
  have HD := Lib.hid hd
  have cc := fun w => RC.do_sub (s.f r1) (s.f r2) w
  rw [show RC.fop .sub (s.f r1) (s.f r2) = RM.fsub (s.f r1) (s.f r2) from rfl] at cc
  generalize RM.fsub (s.f r1) (s.f r2) = E at *
  clear L hs
  go_enter Tryz.func113, Tryz.ntmps113
  go_wp2
  refine still_ (by kernel_rfl) (by kernel_rfl) ?_
  repeat still_step
  refine wpStill_nil ?_
  go_wp2
  go_region_held3 (fun w' => w'.cell? ⟨br, 0, none⟩ = some (.pointer (some ⟨b, 0, none⟩)) ∧ w'.cell? ⟨w.heap.size, 0, none⟩ = some (.int .i64 46) ∧ w'.cell? ⟨w.heap.size, 1, none⟩ = some (.int .i64 rd)) (go_keep)
    ((go_at_call 136; (with_reducible refine (cc _).mono ?_); rintro e w1 ⟨rfl, k, rfl⟩))
  go_wp2
  go_end0
  first
    | exact ⟨rfl, (Lives.drewN (Lives.box HL.out _) _).set _ _ (set_f bm N s HD.out _) rfl, (own_drewN (own_box (by omega) _) _).trans (Own.set _ _ _)⟩
    | exact ⟨rfl, Lives.drewN (Lives.box (HL.out.set _ _ (set_f bm N s HD.out _) rfl) _) _, own_drewN ((Own.set _ _ _).trans (own_box (by simp only [World.size_setCell]; omega) _)) _⟩
set_option maxRecDepth 100000 in
set_option maxHeartbeats 4000000 in
theorem real_47 (L : Lives B br bk b bm N sd w s vi ve inp out n c) (hs : Fine s) (rd r1 r2 : Nat) (hd : rd < 32) (h1 : r1 < 32) (h2 : r2 < 32) (im : Int) :
    Calls Tryz.prog 113 #[.pointer (some ⟨br, 0, none⟩), .agg #[.int .i64 47, .int .i64 rd, .int .i64 r1, .int .i64 r2, .int .i64 im]] w fun e w' => e = .returned (.tuple #[]) ∧ Lives B br bk b bm N sd w' (setf s rd (RM.fmul (s.f r1) (s.f r2))) vi ve inp out n c ∧ Own B b bm w w' := by
  have hB := L.big
  have p0 := L.r0
  have p1 := L.at_.cf h1
  have p2 := L.at_.cf h2
  have p3 := L.at_.cf hd
  have p4 := L.at_.fb (33 + rd)
  have pl := lt_of_get L.run
  have pb := lt_of_get L.at_.head
  have n0 := L.pl
  have n1 : br ≠ b := by omega
  have n2 : w.heap.size ≠ b := by omega
  have n3 : b ≠ br := by omega
  have n4 : b ≠ w.heap.size := by omega
  clear n0
  have i1 : (0 : Int) ≤ r1 ∧ (r1 : Int) < 32 := by omega
  have i2 : (0 : Int) ≤ r2 ∧ (r2 : Int) < 32 := by omega
  have i3 : (0 : Int) ≤ rd ∧ (rd : Int) < 32 := by omega
  have HL := Lib.hid L
  have HD := Lib.hid hd
  have cc := fun w => RC.do_mul (s.f r1) (s.f r2) w
  rw [show RC.fop .mul (s.f r1) (s.f r2) = RM.fmul (s.f r1) (s.f r2) from rfl] at cc
  generalize RM.fmul (s.f r1) (s.f r2) = E at *
  clear L hs
  go_enter Tryz.func113, Tryz.ntmps113
  go_wp2
  refine still_ (by kernel_rfl) (by kernel_rfl) ?_
  repeat still_step
  refine wpStill_nil ?_
  go_wp2
  go_region_held3 (fun w' => w'.cell? ⟨br, 0, none⟩ = some (.pointer (some ⟨b, 0, none⟩)) ∧ w'.cell? ⟨w.heap.size, 0, none⟩ = some (.int .i64 47) ∧ w'.cell? ⟨w.heap.size, 1, none⟩ = some (.int .i64 rd)) (go_keep)
    ((go_at_call 136; (with_reducible refine (cc _).mono ?_); rintro e w1 ⟨rfl, k, rfl⟩))
  go_wp2
  go_end0
  first
    | exact ⟨rfl, (Lives.drewN (Lives.box HL.out _) _).set _ _ (set_f bm N s HD.out _) rfl, (own_drewN (own_box (by omega) _) _).trans (Own.set _ _ _)⟩
    | exact ⟨rfl, Lives.drewN (Lives.box (HL.out.set _ _ (set_f bm N s HD.out _) rfl) _) _, own_drewN ((Own.set _ _ _).trans (own_box (by simp only [World.size_setCell]; omega) _)) _⟩
set_option maxRecDepth 100000 in
set_option maxHeartbeats 4000000 in
theorem real_48 (L : Lives B br bk b bm N sd w s vi ve inp out n c) (hs : Fine s) (rd r1 r2 : Nat) (hd : rd < 32) (h1 : r1 < 32) (h2 : r2 < 32) (im : Int) :
    Calls Tryz.prog 113 #[.pointer (some ⟨br, 0, none⟩), .agg #[.int .i64 48, .int .i64 rd, .int .i64 r1, .int .i64 r2, .int .i64 im]] w fun e w' => e = .returned (.tuple #[]) ∧ Lives B br bk b bm N sd w' (setf s rd (RM.fdiv (s.f r1) (s.f r2))) vi ve inp out n c ∧ Own B b bm w w' := by
  have hB := L.big
  have p0 := L.r0
  have p1 := L.at_.cf h1
  have p2 := L.at_.cf h2
  have p3 := L.at_.cf hd
  have p4 := L.at_.fb (33 + rd)
  have pl := lt_of_get L.run
  have pb := lt_of_get L.at_.head
  have n0 := L.pl
  have n1 : br ≠ b := by omega
  have n2 : w.heap.size ≠ b := by omega
  have n3 : b ≠ br := by omega
  have n4 : b ≠ w.heap.size := by omega
  clear n0
  have i1 : (0 : Int) ≤ r1 ∧ (r1 : Int) < 32 := by omega
  have i2 : (0 : Int) ≤ r2 ∧ (r2 : Int) < 32 := by omega
  have i3 : (0 : Int) ≤ rd ∧ (rd : Int) < 32 := by omega
  have HL := Lib.hid L
  have HD := Lib.hid hd
  have cc := fun w => RC.do_quo (s.f r1) (s.f r2) w
  rw [show RC.fop .quo (s.f r1) (s.f r2) = RM.fdiv (s.f r1) (s.f r2) from rfl] at cc
  generalize RM.fdiv (s.f r1) (s.f r2) = E at *
  clear L hs
  go_enter Tryz.func113, Tryz.ntmps113
  go_wp2
  refine still_ (by kernel_rfl) (by kernel_rfl) ?_
  repeat still_step
  refine wpStill_nil ?_
  go_wp2
  go_region_held3 (fun w' => w'.cell? ⟨br, 0, none⟩ = some (.pointer (some ⟨b, 0, none⟩)) ∧ w'.cell? ⟨w.heap.size, 0, none⟩ = some (.int .i64 48) ∧ w'.cell? ⟨w.heap.size, 1, none⟩ = some (.int .i64 rd)) (go_keep)
    ((go_at_call 136; (with_reducible refine (cc _).mono ?_); rintro e w1 ⟨rfl, k, rfl⟩))
  go_wp2
  go_end0
  first
    | exact ⟨rfl, (Lives.drewN (Lives.box HL.out _) _).set _ _ (set_f bm N s HD.out _) rfl, (own_drewN (own_box (by omega) _) _).trans (Own.set _ _ _)⟩
    | exact ⟨rfl, Lives.drewN (Lives.box (HL.out.set _ _ (set_f bm N s HD.out _) rfl) _) _, own_drewN ((Own.set _ _ _).trans (own_box (by simp only [World.size_setCell]; omega) _)) _⟩
end
end MH
end Go.Proofs.YtlmblfkcmhgdaaaGreat
