/-
  What a run's small operations answer: the operations of words, branches, loads and stores: each a contract.
-/
import Derived.Test.YtieehjkmfmkfjabMachE
import Derived.Test.YtieehjkmfmkfjabWordC
import Derived.Test.YtieehjkmfmkfjabRealD
import Derived.StillTailTactics
import Derived.Deep.RegionHeld3
namespace Go.Proofs.Ytieehjkmfmkfjab
open Go.RowKit
set_option linter.unusedVariables false
set_option linter.unusedSimpArgs false
namespace MG
attribute [local go_sem ↓] Go.wp_at_zero Go.wp_at_succ
open MM MC MD
set_option maxHeartbeats 400000 in
theorem extend8 (a : Int) (ha : WM.Ok a) (w : World) : Calls Try.prog 21 #[.int .u32 a, .int .i64 8] w fun e w' => e = .returned (.tuple #[.int .u32 (WM.ext a 8), .int .i64 0]) ∧ w' = w := by
  have he := WM.ext_moved a 8 (by omega) (by omega)
  rw [show (32 - (8 : Int)).toNat = 24 from rfl, show (2 : Int) ^ 24 = 16777216 from rfl] at he
  have HE := Lib.hid he
  clear he
  go_enter Try.func21, Try.ntmps21
  go_wp2
  go_ret2
  exact ⟨WC.ret_pair (by exact HE.out), rfl⟩
theorem reckoned_ (op a b : Int) (ho : WM.isOp op = true) (ha : WM.Ok a) (hb : WM.Ok b) (w : World) : Calls Try.prog 63 #[.int .i64 op, .int .u32 a, .int .u32 b] w fun e w' => e = .returned (.int .u32 (WM.val op a b)) ∧ w' = w := by
  have c := fun w => WC.do_yes op a b ho ha hb w
  generalize WM.val op a b = v at *
  clear ho ha hb
  go_enter Try.func63, Try.ntmps63
  go_wp2_with (go_at_call 73; (with_reducible refine (c _).mono ?_); rintro e w1 ⟨rfl, rfl⟩)
  go_ret
  exact ⟨rfl, rfl⟩
theorem withoutImm_ (op : Int) (h1 : 18 ≤ op) (h2 : op ≤ 26) (w : World) : Calls Try.prog 64 #[.int .i64 op] w fun e w' => e = .returned (.int .i64 (plainOp op)) ∧ w' = w := by
  rcases (show op = 18 ∨ op = 19 ∨ op = 20 ∨ op = 21 ∨ op = 22 ∨ op = 23 ∨ op = 24 ∨ op = 25 ∨ op = 26 by omega) with rfl | rfl | rfl | rfl | rfl | rfl | rfl | rfl | rfl
  all_goals
    clear h1 h2
    go_enter Try.func64, Try.ntmps64
    go_wp2
    go_ret
    exact ⟨rfl, rfl⟩
theorem ret_b {a b : Bool} (h : a = b) : Ending.returned (.bool a) = .returned (.bool b) := by rw [h]
theorem branches_ (op a b : Int) (h1 : 32 ≤ op) (h2 : op ≤ 37) (w : World) : Calls Try.prog 59 #[.int .i64 op, .int .u32 a, .int .u32 b] w fun e w' => e = .returned (.bool (taken op a b)) ∧ w' = w := by
  have c1 := fun w => RC.signed_ a w
  have c2 := fun w => RC.signed_ b w
  have t1 := Lib.hid (show taken 32 a b = decide (a = b) by simp [taken])
  have t2 := Lib.hid (show taken 33 a b = decide (a ≠ b) by simp [taken])
  have t3 := Lib.hid (show taken 34 a b = decide (wrap32 a < wrap32 b) by simp [taken])
  have t4 := Lib.hid (show taken 35 a b = decide (wrap32 b ≤ wrap32 a) by simp [taken])
  have t5 := Lib.hid (show taken 36 a b = decide (a < b) by simp [taken])
  have t6 := Lib.hid (show taken 37 a b = decide (b ≤ a) by simp [taken])
  generalize wrap32 a = A at *
  generalize wrap32 b = C at *
  rcases (show op = 32 ∨ op = 33 ∨ op = 34 ∨ op = 35 ∨ op = 36 ∨ op = 37 by omega) with rfl | rfl | rfl | rfl | rfl | rfl
  all_goals
    clear h1 h2
    go_enter Try.func59, Try.ntmps59
    go_wp2_with (first
      | ((with_reducible refine (c1 _).mono ?_); rintro e w1 ⟨rfl, rfl⟩)
      | ((with_reducible refine (c2 _).mono ?_); rintro e w1 ⟨rfl, rfl⟩))
    go_ret
    refine ⟨ret_b ?_, rfl⟩
    first
      | (rw [t1.out, Bool.eq_iff_iff]; simp; done)
      | (rw [t2.out, Bool.eq_iff_iff]; simp; done)
      | (rw [t3.out]; done)
      | (rw [t4.out]; done)
      | (rw [t5.out]; done)
      | (rw [t6.out]; done)
/-! ### loads -/
theorem fit_lt {N : Nat} {a n : Int} (h : fit N a n = true) (ha : 0 ≤ a) (hn : 0 ≤ n) : a.toNat + n.toNat ≤ N := by
  have h' : a % n = 0 ∧ a + n ≤ N := by simpa [fit] using h
  omega
theorem fit_room {N : Nat} {a n : Int} (h : fit N a n = true) : a + n ≤ N := by
  have h' : a % n = 0 ∧ a + n ≤ N := by simpa [fit] using h
  exact h'.2
section
variable {B br bk b bm N : Nat} {sd : List (Nat × Obj)} {w w' : World} {s s' : St} {vi ve : Value} {inp : List Int} {out : List Ev} {n c : Nat}
/-- the number at a place -/
theorem num_at (L : Lives B br bk b bm N sd w s vi ve inp out n c) (hs : Fine s) (a : Nat) (m cc : Nat) (hm : m ≤ 8) (ha : a + m ≤ N) :
    Calls Try.prog 51 #[.slice (some ⟨bm, a, none⟩) m cc] w fun e w' => e = .returned (.int .u64 (num s.mem a m)) ∧ w' = w :=
  (number_ bm a m cc s.mem hs.mem hm w (fun k hk => L.at_.cm (i := a + k) (by omega))).mono fun _ _ h => ⟨h.1, h.2.symm⟩
theorem bytes_at (L : Lives B br bk b bm N sd w s vi ve inp out n c) (hN : N ≤ 2097152) (a m : Int) (ha : 0 ≤ a ∧ a ≤ 4294967295) (hm : 1 ≤ m ∧ m ≤ 8) (hf : fit N a m = true) :
    Calls Try.prog 52 #[.pointer (some ⟨br, 0, none⟩), .int .u32 a, .int .i64 m] w fun e w' => e = .returned (.slice (some ⟨bm, a.toNat, none⟩) m.toNat (N - a.toNat)) ∧ w' = w :=
  (bytes_yes br b bm N hN a m ha hm hf w L.r0 L.at_.c0).mono fun _ _ h => ⟨h.1, h.2.symm⟩
theorem bytes_bad (L : Lives B br bk b bm N sd w s vi ve inp out n c) (hN : N ≤ 2097152) (a m : Int) (ha : 0 ≤ a ∧ a ≤ 4294967295) (hm : 1 ≤ m ∧ m ≤ 8) (hf : fit N a m = false) :
    Calls Try.prog 52 #[.pointer (some ⟨br, 0, none⟩), .int .u32 a, .int .i64 m] w fun e w' => e = .panicked [{ v := .iface 97 (.int .i64 3), recovered := false }] ∧ w' = w :=
  (bytes_no br b bm N hN a m ha hm hf w L.r0 L.at_.c0).mono fun _ _ h => ⟨h.1, h.2.symm⟩
theorem Lives.box (L : Lives B br bk b bm N sd w s vi ve inp out n c) (o : Obj) : Lives B br bk b bm N sd (w.alloc o) s vi ve inp out n c := Lives.below L ((Below.refl _ _).alloc (Nat.le_refl _) _)
theorem Lives.drew (L : Lives B br bk b bm N sd w s vi ve inp out n c) : Lives B br bk b bm N sd w.drew s vi ve inp out n c := Lives.kept L (Nat.le_refl _) (fun _ _ => rfl)
theorem own_box (hB : B ≤ w.heap.size) (o : Obj) : Own B b bm w (w.alloc o) := Own.of_below ((Below.refl _ _).alloc (Nat.le_refl _) _) hB
theorem own_drew {u : World} (h : Own B b bm u w) : Own B b bm u w.drew := ⟨h.os, h.tape, h.output, h.size, h.block⟩
set_option maxHeartbeats 1000000 in
theorem load_LB (L : Lives B br bk b bm N sd w s vi ve inp out n c) (hs : Fine s) (hN : N ≤ 2097152) (rd : Nat) (hr : rd < 32) (r1 r2 im : Int) (a : Int) (ha : 0 ≤ a ∧ a ≤ 4294967295) (hf : fit N a 1 = true) :
    Calls Try.prog 57 #[.pointer (some ⟨br, 0, none⟩), .agg #[.int .i64 27, .int .i64 rd, .int .i64 r1, .int .i64 r2, .int .i64 im], .int .u32 a] w fun e w' => e = .returned (.tuple #[]) ∧ Lives B br bk b bm N sd w' (setx s rd (WM.ext (num s.mem a.toNat 1) 8)) vi ve inp out n c ∧ Own B b bm w w' := by
  have LB := Lives.box L (.cells #[.int .i64 27, .int .i64 rd, .int .i64 r1, .int .i64 r2, .int .i64 im] 31)
  have hB := L.big
  have c1 := bytes_at LB hN a 1 ha (by omega) hf
  have c2 := fun cc => num_at LB hs a.toNat 1 cc (by omega) (fit_lt hf ha.1 (by omega))
  have hn := num1 s.mem hs.mem a.toNat
  have c3 := fun w => extend8 (num s.mem a.toNat 1) ⟨hn.1, by omega⟩ w
  have c4 := put_ LB rd hr (WM.ext (num s.mem a.toNat 1) 8)
  rw [show (1 : Int).toNat = 1 from rfl] at c1
  clear L LB hs hf ha
  generalize WM.ext (num s.mem a.toNat 1) 8 = E at *
  generalize num s.mem a.toNat 1 = M at *
  go_enter Try.func57, Try.ntmps57
  go_wp2_with (first
    | (go_at_call 52; (with_reducible refine c1.mono ?_); rintro e w1 ⟨rfl, rfl⟩)
    | (go_at_call 51; (with_reducible refine (c2 _).mono ?_); rintro e w1 ⟨rfl, rfl⟩)
    | (go_at_call 21; (with_reducible refine (c3 _).mono ?_); rintro e w1 ⟨rfl, rfl⟩)
    | (go_at_call 60; (with_reducible refine c4.mono ?_); rintro e w1 ⟨rfl, L1, O1⟩))
  go_end0
  exact ⟨rfl, L1, (own_box (by omega) _).trans O1⟩
end
/-! ### by kinds -/
section
variable {B br bk b bm N : Nat} {sd : List (Nat × Obj)} {w w' : World} {s s' : St} {vi ve : Value} {inp : List Int} {out : List Ev} {n c : Nat}
set_option maxRecDepth 100000 in
set_option maxHeartbeats 2000000 in
theorem load_28 (L : Lives B br bk b bm N sd w s vi ve inp out n c) (hs : Fine s) (hN : N ≤ 2097152) (rd : Nat) (hr : rd < 32) (r1 r2 im : Int) (a : Int) (ha : 0 ≤ a ∧ a ≤ 4294967295) (hf : fit N a 1 = true) :
    Calls Try.prog 57 #[.pointer (some ⟨br, 0, none⟩), .agg #[.int .i64 28, .int .i64 rd, .int .i64 r1, .int .i64 r2, .int .i64 im], .int .u32 a] w fun e w' => e = .returned (.tuple #[]) ∧ Lives B br bk b bm N sd w' (setx s rd (num s.mem a.toNat 1)) vi ve inp out n c ∧ Own B b bm w w' := by
  have LB := Lives.drew (Lives.box L (.cells #[.int .i64 28, .int .i64 rd, .int .i64 r1, .int .i64 r2, .int .i64 im] 31))
  have hB := L.big
  have c1 := bytes_at LB hN a 1 ha (by omega) hf
  have c2 := fun cc => num_at LB hs a.toNat 1 cc (by omega) (fit_lt hf ha.1 (by omega))
  have hn := num1 s.mem hs.mem a.toNat
  rw [show (1 : Int).toNat = 1 from rfl] at c1
  have c4 := put_ LB rd hr (num s.mem a.toNat 1)
  clear L LB hs hf ha
  generalize num s.mem a.toNat 1 = M at *
  go_enter Try.func57, Try.ntmps57
  go_wp2
  refine wp_region_still_tail 8 (by kernel_rfl) (by kernel_rfl) ?_
  simp only [List.take_succ_cons, List.take_zero, List.drop_succ_cons, List.drop_zero]
  change wpStill _ _ ((w.alloc (.cells #[.int .i64 28, .int .i64 rd, .int .i64 r1, .int .i64 r2, .int .i64 im] 31)).drew) _ _ _
  repeat still_step
  still_call c1
  repeat still_step
  still_call (c2 _)
  repeat still_step
  refine wpStill_nil ?_
  change wpList _ _ _ _ _ ((w.alloc (.cells #[.int .i64 28, .int .i64 rd, .int .i64 r1, .int .i64 r2, .int .i64 im] 31)).drew)
  go_wp2_with (go_at_call 60; (with_reducible refine c4.mono ?_); rintro e w1 ⟨rfl, L1, O1⟩)
  go_end0
  exact ⟨rfl, L1, (own_drew (own_box (by omega) _)).trans O1⟩
set_option maxRecDepth 100000 in
set_option maxHeartbeats 2000000 in
theorem load_29 (L : Lives B br bk b bm N sd w s vi ve inp out n c) (hs : Fine s) (hN : N ≤ 2097152) (rd : Nat) (hr : rd < 32) (r1 r2 im : Int) (a : Int) (ha : 0 ≤ a ∧ a ≤ 4294967295) (hf : fit N a 4 = true) :
    Calls Try.prog 57 #[.pointer (some ⟨br, 0, none⟩), .agg #[.int .i64 29, .int .i64 rd, .int .i64 r1, .int .i64 r2, .int .i64 im], .int .u32 a] w fun e w' => e = .returned (.tuple #[]) ∧ Lives B br bk b bm N sd w' (setx s rd (num s.mem a.toNat 4)) vi ve inp out n c ∧ Own B b bm w w' := by
  have LB := Lives.drew (Lives.box L (.cells #[.int .i64 29, .int .i64 rd, .int .i64 r1, .int .i64 r2, .int .i64 im] 31))
  have hB := L.big
  have c1 := bytes_at LB hN a 4 ha (by omega) hf
  have c2 := fun cc => num_at LB hs a.toNat 4 cc (by omega) (fit_lt hf ha.1 (by omega))
  have hn := num4 s.mem hs.mem a.toNat
  rw [show (4 : Int).toNat = 4 from rfl] at c1
  have c4 := put_ LB rd hr (num s.mem a.toNat 4)
  clear L LB hs hf ha
  generalize num s.mem a.toNat 4 = M at *
  go_enter Try.func57, Try.ntmps57
  go_wp2
  refine wp_region_still_tail 8 (by kernel_rfl) (by kernel_rfl) ?_
  simp only [List.take_succ_cons, List.take_zero, List.drop_succ_cons, List.drop_zero]
  change wpStill _ _ ((w.alloc (.cells #[.int .i64 29, .int .i64 rd, .int .i64 r1, .int .i64 r2, .int .i64 im] 31)).drew) _ _ _
  repeat still_step
  still_call c1
  repeat still_step
  still_call (c2 _)
  repeat still_step
  refine wpStill_nil ?_
  change wpList _ _ _ _ _ ((w.alloc (.cells #[.int .i64 29, .int .i64 rd, .int .i64 r1, .int .i64 r2, .int .i64 im] 31)).drew)
  go_wp2_with (go_at_call 60; (with_reducible refine c4.mono ?_); rintro e w1 ⟨rfl, L1, O1⟩)
  go_end0
  exact ⟨rfl, L1, (own_drew (own_box (by omega) _)).trans O1⟩
set_option maxRecDepth 100000 in
set_option maxHeartbeats 2000000 in
theorem load_43 (L : Lives B br bk b bm N sd w s vi ve inp out n c) (hs : Fine s) (hN : N ≤ 2097152) (rd : Nat) (hr : rd < 32) (r1 r2 im : Int) (a : Int) (ha : 0 ≤ a ∧ a ≤ 4294967295) (hf : fit N a 8 = true) :
    Calls Try.prog 57 #[.pointer (some ⟨br, 0, none⟩), .agg #[.int .i64 43, .int .i64 rd, .int .i64 r1, .int .i64 r2, .int .i64 im], .int .u32 a] w fun e w' => e = .returned (.tuple #[]) ∧ Lives B br bk b bm N sd w' (setf s rd (RM.canon (num s.mem a.toNat 8).toNat)) vi ve inp out n c ∧ Own B b bm w w' := by
  have LB := Lives.drew (Lives.box L (.cells #[.int .i64 43, .int .i64 rd, .int .i64 r1, .int .i64 r2, .int .i64 im] 31))
  have hB := L.big
  have c1 := bytes_at LB hN a 8 ha (by omega) hf
  have c2 := fun cc => num_at LB hs a.toNat 8 cc (by omega) (fit_lt hf ha.1 (by omega))
  have hn := num8 s.mem hs.mem a.toNat
  rw [show (8 : Int).toNat = 8 from rfl] at c1
  obtain ⟨M, hM⟩ : ∃ M : Nat, num s.mem a.toNat 8 = M := ⟨(num s.mem a.toNat 8).toNat, by omega⟩
  rw [hM] at c2 hn ⊢
  rw [Int.toNat_natCast]
  have c3 := fun w => RC.canon_ M w
  have h0 := LB.r0
  have h1 := LB.at_.cf hr
  have h2 := LB.at_.fb (33 + rd)
  have h3 : (0 : Int) ≤ rd ∧ (rd : Int) < 32 := by omega
  have HL := Lib.hid LB
  have HR := Lib.hid hr
  clear L LB hs hf ha hM
  generalize RM.canon M = E at *
  go_enter Try.func57, Try.ntmps57
  go_wp2
  refine wp_region_still_tail 14 (by kernel_rfl) (by kernel_rfl) ?_
  simp only [List.take_succ_cons, List.take_zero, List.drop_succ_cons, List.drop_zero]
  change wpStill _ _ ((w.alloc (.cells #[.int .i64 43, .int .i64 rd, .int .i64 r1, .int .i64 r2, .int .i64 im] 31)).drew) _ _ _
  repeat still_step
  still_call c1
  repeat still_step
  still_call (c2 _)
  repeat still_step
  still_call (c3 _)
  repeat still_step
  refine wpStill_nil ?_
  change wpList _ _ _ _ _ ((w.alloc (.cells #[.int .i64 43, .int .i64 rd, .int .i64 r1, .int .i64 r2, .int .i64 im] 31)).drew)
  go_wp2
  go_end0
  refine ⟨rfl, ?_, (own_drew (own_box (by omega) _)).trans (Own.set _ _ _)⟩
  have e : setf s rd E = { s with f := upd s.f rd E } := rfl
  rw [e]
  exact HL.out.set _ _ (set_f bm N s HR.out E) rfl
set_option maxRecDepth 100000 in
set_option maxHeartbeats 2000000 in
theorem store_30 (L : Lives B br bk b bm N sd w s vi ve inp out n c) (hs : Fine s) (hN : N ≤ 2097152) (r2 : Nat) (hr : r2 < 32) (rd r1 im : Int) (a : Int) (ha : 0 ≤ a ∧ a ≤ 4294967295) (hf : fit N a 1 = true) :
    Calls Try.prog 58 #[.pointer (some ⟨br, 0, none⟩), .agg #[.int .i64 30, .int .i64 rd, .int .i64 r1, .int .i64 r2, .int .i64 im], .int .u32 a] w fun e w' => e = .returned (.tuple #[]) ∧ Lives B br bk b bm N sd w' { s with mem := lay s.mem a.toNat 1 (s.x r2) } vi ve inp out n c ∧ Own B b bm w w' := by
  have LB := Lives.drew (Lives.box L (.cells #[.int .i64 30, .int .i64 rd, .int .i64 r1, .int .i64 r2, .int .i64 im] 31))
  have hB := L.big
  have c1 := bytes_at LB hN a 1 ha (by omega) hf
  have hx := hs.x r2
  have c4 := fun cc => ME.lay_ LB a.toNat 1 cc (by omega) (fit_lt hf ha.1 (by omega)) (s.x r2) ⟨hx.1, by omega⟩
  have h0 := LB.r0
  have h1 := LB.at_.cx hr
  have h3 : (0 : Int) ≤ r2 ∧ (r2 : Int) < 32 := by omega
  rw [show (1 : Int).toNat = 1 from rfl] at c1
  clear L LB hs hf ha
  go_enter Try.func58, Try.ntmps58
  go_wp2
  refine wp_region_still_tail 14 (by kernel_rfl) (by kernel_rfl) ?_
  simp only [List.take_succ_cons, List.take_zero, List.drop_succ_cons, List.drop_zero]
  change wpStill _ _ ((w.alloc (.cells #[.int .i64 30, .int .i64 rd, .int .i64 r1, .int .i64 r2, .int .i64 im] 31)).drew) _ _ _
  repeat still_step
  still_call c1
  repeat still_step
  refine wpStill_nil ?_
  change wpList _ _ _ _ _ ((w.alloc (.cells #[.int .i64 30, .int .i64 rd, .int .i64 r1, .int .i64 r2, .int .i64 im] 31)).drew)
  go_wp2_with (go_at_call 66; (with_reducible refine (c4 _).mono ?_); rintro e w1 ⟨rfl, L1, O1⟩)
  go_end0
  exact ⟨rfl, L1, (own_drew (own_box (by omega) _)).trans O1⟩
set_option maxRecDepth 100000 in
set_option maxHeartbeats 2000000 in
theorem store_31 (L : Lives B br bk b bm N sd w s vi ve inp out n c) (hs : Fine s) (hN : N ≤ 2097152) (r2 : Nat) (hr : r2 < 32) (rd r1 im : Int) (a : Int) (ha : 0 ≤ a ∧ a ≤ 4294967295) (hf : fit N a 4 = true) :
    Calls Try.prog 58 #[.pointer (some ⟨br, 0, none⟩), .agg #[.int .i64 31, .int .i64 rd, .int .i64 r1, .int .i64 r2, .int .i64 im], .int .u32 a] w fun e w' => e = .returned (.tuple #[]) ∧ Lives B br bk b bm N sd w' { s with mem := lay s.mem a.toNat 4 (s.x r2) } vi ve inp out n c ∧ Own B b bm w w' := by
  have LB := Lives.drew (Lives.box L (.cells #[.int .i64 31, .int .i64 rd, .int .i64 r1, .int .i64 r2, .int .i64 im] 31))
  have hB := L.big
  have c1 := bytes_at LB hN a 4 ha (by omega) hf
  have hx := hs.x r2
  have c4 := fun cc => ME.lay_ LB a.toNat 4 cc (by omega) (fit_lt hf ha.1 (by omega)) (s.x r2) ⟨hx.1, by omega⟩
  have h0 := LB.r0
  have h1 := LB.at_.cx hr
  have h3 : (0 : Int) ≤ r2 ∧ (r2 : Int) < 32 := by omega
  rw [show (4 : Int).toNat = 4 from rfl] at c1
  clear L LB hs hf ha
  go_enter Try.func58, Try.ntmps58
  go_wp2
  refine wp_region_still_tail 14 (by kernel_rfl) (by kernel_rfl) ?_
  simp only [List.take_succ_cons, List.take_zero, List.drop_succ_cons, List.drop_zero]
  change wpStill _ _ ((w.alloc (.cells #[.int .i64 31, .int .i64 rd, .int .i64 r1, .int .i64 r2, .int .i64 im] 31)).drew) _ _ _
  repeat still_step
  still_call c1
  repeat still_step
  refine wpStill_nil ?_
  change wpList _ _ _ _ _ ((w.alloc (.cells #[.int .i64 31, .int .i64 rd, .int .i64 r1, .int .i64 r2, .int .i64 im] 31)).drew)
  go_wp2_with (go_at_call 66; (with_reducible refine (c4 _).mono ?_); rintro e w1 ⟨rfl, L1, O1⟩)
  go_end0
  exact ⟨rfl, L1, (own_drew (own_box (by omega) _)).trans O1⟩
set_option maxRecDepth 100000 in
set_option maxHeartbeats 2000000 in
theorem store_44 (L : Lives B br bk b bm N sd w s vi ve inp out n c) (hs : Fine s) (hN : N ≤ 2097152) (r2 : Nat) (hr : r2 < 32) (rd r1 im : Int) (a : Int) (ha : 0 ≤ a ∧ a ≤ 4294967295) (hf : fit N a 8 = true) :
    Calls Try.prog 58 #[.pointer (some ⟨br, 0, none⟩), .agg #[.int .i64 44, .int .i64 rd, .int .i64 r1, .int .i64 r2, .int .i64 im], .int .u32 a] w fun e w' => e = .returned (.tuple #[]) ∧ Lives B br bk b bm N sd w' { s with mem := lay s.mem a.toNat 8 ((s.f r2 : Nat) : Int) } vi ve inp out n c ∧ Own B b bm w w' := by
  have LB := Lives.drew (Lives.box L (.cells #[.int .i64 44, .int .i64 rd, .int .i64 r1, .int .i64 r2, .int .i64 im] 31))
  have hB := L.big
  have c1 := bytes_at LB hN a 8 ha (by omega) hf
  have hx := hs.f r2
  have c4 := fun cc => ME.lay_ LB a.toNat 8 cc (by omega) (fit_lt hf ha.1 (by omega)) ((s.f r2 : Nat) : Int) ⟨by omega, by unfold RM.W at hx; omega⟩
  have h0 := LB.r0
  have h1 := LB.at_.cf hr
  have h3 : (0 : Int) ≤ r2 ∧ (r2 : Int) < 32 := by omega
  rw [show (8 : Int).toNat = 8 from rfl] at c1
  clear L LB hs hf ha
  go_enter Try.func58, Try.ntmps58
  go_wp2
  refine wp_region_still_tail 13 (by kernel_rfl) (by kernel_rfl) ?_
  simp only [List.take_succ_cons, List.take_zero, List.drop_succ_cons, List.drop_zero]
  change wpStill _ _ ((w.alloc (.cells #[.int .i64 44, .int .i64 rd, .int .i64 r1, .int .i64 r2, .int .i64 im] 31)).drew) _ _ _
  repeat still_step
  still_call c1
  repeat still_step
  refine wpStill_nil ?_
  change wpList _ _ _ _ _ ((w.alloc (.cells #[.int .i64 44, .int .i64 rd, .int .i64 r1, .int .i64 r2, .int .i64 im] 31)).drew)
  go_wp2_with (go_at_call 66; (with_reducible refine (c4 _).mono ?_); rintro e w1 ⟨rfl, L1, O1⟩)
  go_end0
  exact ⟨rfl, L1, (own_drew (own_box (by omega) _)).trans O1⟩
set_option maxRecDepth 100000 in
set_option maxHeartbeats 2000000 in
theorem load_bad_27 (L : Lives B br bk b bm N sd w s vi ve inp out n c) (hs : Fine s) (hN : N ≤ 2097152) (rd r1 r2 im : Int) (hrd : 0 ≤ rd ∧ rd < 32) (a : Int) (ha : 0 ≤ a ∧ a ≤ 4294967295) (hf : fit N a 1 = false) :
    Calls Try.prog 57 #[.pointer (some ⟨br, 0, none⟩), .agg #[.int .i64 27, .int .i64 rd, .int .i64 r1, .int .i64 r2, .int .i64 im], .int .u32 a] w fun e w' => e = .panicked [{ v := .iface 97 (.int .i64 3), recovered := false }] ∧ Lives B br bk b bm N sd w' s vi ve inp out n c ∧ Own B b bm w w' := by
  have LB := Lives.box L (.cells #[.int .i64 27, .int .i64 rd, .int .i64 r1, .int .i64 r2, .int .i64 im] 31)
  have hB := L.big
  have c1 := bytes_bad LB hN a 1 ha (by omega) hf
  have HL := Lib.hid LB
  clear L LB hs hf ha
  go_enter Try.func57, Try.ntmps57
  go_wp2_with (go_at_call 52; (with_reducible refine c1.mono ?_); rintro e w1 ⟨rfl, rfl⟩)
  exact ⟨rfl, rfl, HL.out, own_box (by omega) _⟩
set_option maxRecDepth 100000 in
set_option maxHeartbeats 2000000 in
theorem load_bad_28 (L : Lives B br bk b bm N sd w s vi ve inp out n c) (hs : Fine s) (hN : N ≤ 2097152) (rd r1 r2 im : Int) (hrd : 0 ≤ rd ∧ rd < 32) (a : Int) (ha : 0 ≤ a ∧ a ≤ 4294967295) (hf : fit N a 1 = false) :
    Calls Try.prog 57 #[.pointer (some ⟨br, 0, none⟩), .agg #[.int .i64 28, .int .i64 rd, .int .i64 r1, .int .i64 r2, .int .i64 im], .int .u32 a] w fun e w' => e = .panicked [{ v := .iface 97 (.int .i64 3), recovered := false }] ∧ Lives B br bk b bm N sd w' s vi ve inp out n c ∧ Own B b bm w w' := by
  have LB := Lives.drew (Lives.box L (.cells #[.int .i64 28, .int .i64 rd, .int .i64 r1, .int .i64 r2, .int .i64 im] 31))
  have hB := L.big
  have c1 := bytes_bad LB hN a 1 ha (by omega) hf
  have HL := Lib.hid LB
  clear L LB hs hf ha
  go_enter Try.func57, Try.ntmps57
  go_wp2
  refine wp_region_held_drew (S := fun w' => w' = ((w.alloc (.cells #[.int .i64 28, .int .i64 rd, .int .i64 r1, .int .i64 r2, .int .i64 im] 31)).drew)) (by kernel_rfl) rfl (fun hHeld => ?_)
  refine wpAnyH_take (i := 0) (oi := _) (v := ?_) rfl (by kernel_rfl) (by kernel_rfl) (by kernel_rfl) (fun _ _ _ h => h) (Or.inl ⟨by rfl, ?_⟩) rfl ?_
  rotate_left
  · intro w hw; subst hw; go_simp; with_reducible rfl
  simp only [Act.put, List.setIfInBounds_toArray, List.set_cons_zero, List.set_cons_succ]
  refine wpAnyH_take (i := 1) (oi := _) (v := ?_) rfl (by kernel_rfl) (by kernel_rfl) (by kernel_rfl) (fun _ _ _ h => h) (Or.inl ⟨by rfl, ?_⟩) rfl ?_
  rotate_left
  · intro w hw; subst hw; go_simp; with_reducible rfl
  simp only [Act.put, List.setIfInBounds_toArray, List.set_cons_zero, List.set_cons_succ]
  refine wpAnyH_take (i := 2) (oi := _) (v := ?_) rfl (by kernel_rfl) (by kernel_rfl) (by kernel_rfl) (fun _ _ _ h => h) (Or.inl ⟨by rfl, ?_⟩) rfl ?_
  rotate_left
  · intro w hw; subst hw; go_simp; with_reducible rfl
  simp only [Act.put, List.setIfInBounds_toArray, List.set_cons_zero, List.set_cons_succ]
  refine wpAnyH_take (i := 3) (oi := _) (v := ?_) rfl (by kernel_rfl) (by kernel_rfl) (by kernel_rfl) (fun _ _ _ h => h) (Or.inl ⟨by rfl, ?_⟩) rfl ?_
  rotate_left
  · intro w hw; subst hw; go_simp; with_reducible rfl
  simp only [Act.put, List.setIfInBounds_toArray, List.set_cons_zero, List.set_cons_succ]
  refine wpAnyH_take (i := 4) (oi := _) (v := ?_) rfl (by kernel_rfl) (by kernel_rfl) (by kernel_rfl) (fun _ _ _ h => h) (Or.inl ⟨by rfl, ?_⟩) rfl ?_
  rotate_left
  · intro w hw; subst hw; go_simp; with_reducible rfl
  simp only [Act.put, List.setIfInBounds_toArray, List.set_cons_zero, List.set_cons_succ]
  refine wpAnyH_ready (rs := [5]) (by kernel_rfl) (by simp) ?_
  refine AllReadyH.cons (o := _) rfl (fun K hK => ?_) AllReadyH.nil
  go_simp
  refine c1.mono ?_
  rintro e w1 ⟨rfl, rfl⟩
  exact ⟨rfl, rfl, HL.out, own_drew (own_box (by omega) _)⟩
set_option maxRecDepth 100000 in
set_option maxHeartbeats 2000000 in
theorem load_bad_29 (L : Lives B br bk b bm N sd w s vi ve inp out n c) (hs : Fine s) (hN : N ≤ 2097152) (rd r1 r2 im : Int) (hrd : 0 ≤ rd ∧ rd < 32) (a : Int) (ha : 0 ≤ a ∧ a ≤ 4294967295) (hf : fit N a 4 = false) :
    Calls Try.prog 57 #[.pointer (some ⟨br, 0, none⟩), .agg #[.int .i64 29, .int .i64 rd, .int .i64 r1, .int .i64 r2, .int .i64 im], .int .u32 a] w fun e w' => e = .panicked [{ v := .iface 97 (.int .i64 3), recovered := false }] ∧ Lives B br bk b bm N sd w' s vi ve inp out n c ∧ Own B b bm w w' := by
  have LB := Lives.drew (Lives.box L (.cells #[.int .i64 29, .int .i64 rd, .int .i64 r1, .int .i64 r2, .int .i64 im] 31))
  have hB := L.big
  have c1 := bytes_bad LB hN a 4 ha (by omega) hf
  have HL := Lib.hid LB
  clear L LB hs hf ha
  go_enter Try.func57, Try.ntmps57
  go_wp2
  refine wp_region_held_drew (S := fun w' => w' = ((w.alloc (.cells #[.int .i64 29, .int .i64 rd, .int .i64 r1, .int .i64 r2, .int .i64 im] 31)).drew)) (by kernel_rfl) rfl (fun hHeld => ?_)
  refine wpAnyH_take (i := 0) (oi := _) (v := ?_) rfl (by kernel_rfl) (by kernel_rfl) (by kernel_rfl) (fun _ _ _ h => h) (Or.inl ⟨by rfl, ?_⟩) rfl ?_
  rotate_left
  · intro w hw; subst hw; go_simp; with_reducible rfl
  simp only [Act.put, List.setIfInBounds_toArray, List.set_cons_zero, List.set_cons_succ]
  refine wpAnyH_take (i := 1) (oi := _) (v := ?_) rfl (by kernel_rfl) (by kernel_rfl) (by kernel_rfl) (fun _ _ _ h => h) (Or.inl ⟨by rfl, ?_⟩) rfl ?_
  rotate_left
  · intro w hw; subst hw; go_simp; with_reducible rfl
  simp only [Act.put, List.setIfInBounds_toArray, List.set_cons_zero, List.set_cons_succ]
  refine wpAnyH_take (i := 2) (oi := _) (v := ?_) rfl (by kernel_rfl) (by kernel_rfl) (by kernel_rfl) (fun _ _ _ h => h) (Or.inl ⟨by rfl, ?_⟩) rfl ?_
  rotate_left
  · intro w hw; subst hw; go_simp; with_reducible rfl
  simp only [Act.put, List.setIfInBounds_toArray, List.set_cons_zero, List.set_cons_succ]
  refine wpAnyH_take (i := 3) (oi := _) (v := ?_) rfl (by kernel_rfl) (by kernel_rfl) (by kernel_rfl) (fun _ _ _ h => h) (Or.inl ⟨by rfl, ?_⟩) rfl ?_
  rotate_left
  · intro w hw; subst hw; go_simp; with_reducible rfl
  simp only [Act.put, List.setIfInBounds_toArray, List.set_cons_zero, List.set_cons_succ]
  refine wpAnyH_take (i := 4) (oi := _) (v := ?_) rfl (by kernel_rfl) (by kernel_rfl) (by kernel_rfl) (fun _ _ _ h => h) (Or.inl ⟨by rfl, ?_⟩) rfl ?_
  rotate_left
  · intro w hw; subst hw; go_simp; with_reducible rfl
  simp only [Act.put, List.setIfInBounds_toArray, List.set_cons_zero, List.set_cons_succ]
  refine wpAnyH_ready (rs := [5]) (by kernel_rfl) (by simp) ?_
  refine AllReadyH.cons (o := _) rfl (fun K hK => ?_) AllReadyH.nil
  go_simp
  refine c1.mono ?_
  rintro e w1 ⟨rfl, rfl⟩
  exact ⟨rfl, rfl, HL.out, own_drew (own_box (by omega) _)⟩
set_option maxRecDepth 100000 in
set_option maxHeartbeats 2000000 in
theorem load_bad_43 (L : Lives B br bk b bm N sd w s vi ve inp out n c) (hs : Fine s) (hN : N ≤ 2097152) (rd r1 r2 im : Int) (hrd : 0 ≤ rd ∧ rd < 32) (a : Int) (ha : 0 ≤ a ∧ a ≤ 4294967295) (hf : fit N a 8 = false) :
    Calls Try.prog 57 #[.pointer (some ⟨br, 0, none⟩), .agg #[.int .i64 43, .int .i64 rd, .int .i64 r1, .int .i64 r2, .int .i64 im], .int .u32 a] w fun e w' => e = .panicked [{ v := .iface 97 (.int .i64 3), recovered := false }] ∧ Lives B br bk b bm N sd w' s vi ve inp out n c ∧ Own B b bm w w' := by
  have LB := Lives.drew (Lives.box L (.cells #[.int .i64 43, .int .i64 rd, .int .i64 r1, .int .i64 r2, .int .i64 im] 31))
  have hB := L.big
  have c1 := bytes_bad LB hN a 8 ha (by omega) hf
  have h0 := LB.r0
  have HL := Lib.hid LB
  clear L LB hs hf ha
  go_enter Try.func57, Try.ntmps57
  go_wp2
  refine wp_region_held_drew (S := fun w' => w' = ((w.alloc (.cells #[.int .i64 43, .int .i64 rd, .int .i64 r1, .int .i64 r2, .int .i64 im] 31)).drew)) (by kernel_rfl) rfl (fun hHeld => ?_)
  refine wpAnyH_take (i := 0) (oi := _) (v := ?_) rfl (by kernel_rfl) (by kernel_rfl) (by kernel_rfl) (fun _ _ _ h => h) (Or.inl ⟨by rfl, ?_⟩) rfl ?_
  rotate_left
  · intro w hw; subst hw; go_simp; with_reducible rfl
  simp only [Act.put, List.setIfInBounds_toArray, List.set_cons_zero, List.set_cons_succ]
  refine wpAnyH_take (i := 1) (oi := _) (v := ?_) rfl (by kernel_rfl) (by kernel_rfl) (by kernel_rfl) (fun _ _ _ h => h) (Or.inl ⟨by rfl, ?_⟩) rfl ?_
  rotate_left
  · intro w hw; subst hw; go_simp; with_reducible rfl
  simp only [Act.put, List.setIfInBounds_toArray, List.set_cons_zero, List.set_cons_succ]
  refine wpAnyH_take (i := 2) (oi := _) (v := ?_) rfl (by kernel_rfl) (by kernel_rfl) (by kernel_rfl) (fun _ _ _ h => h) (Or.inl ⟨by rfl, ?_⟩) rfl ?_
  rotate_left
  · intro w hw; subst hw; go_simp; with_reducible rfl
  simp only [Act.put, List.setIfInBounds_toArray, List.set_cons_zero, List.set_cons_succ]
  refine wpAnyH_take (i := 3) (oi := _) (v := ?_) rfl (by kernel_rfl) (by kernel_rfl) (by kernel_rfl) (fun _ _ _ h => h) (Or.inl ⟨by rfl, ?_⟩) rfl ?_
  rotate_left
  · intro w hw; subst hw; go_simp; with_reducible rfl
  simp only [Act.put, List.setIfInBounds_toArray, List.set_cons_zero, List.set_cons_succ]
  refine wpAnyH_take (i := 4) (oi := _) (v := ?_) rfl (by kernel_rfl) (by kernel_rfl) (by kernel_rfl) (fun _ _ _ h => h) (Or.inl ⟨by rfl, ?_⟩) rfl ?_
  rotate_left
  · intro w hw; subst hw; go_simp; with_reducible rfl
  simp only [Act.put, List.setIfInBounds_toArray, List.set_cons_zero, List.set_cons_succ]
  refine wpAnyH_take (i := 5) (oi := _) (v := ?_) rfl (by kernel_rfl) (by kernel_rfl) (by kernel_rfl) (fun _ _ _ h => h) (Or.inl ⟨by rfl, ?_⟩) rfl ?_
  rotate_left
  · intro w hw; subst hw; go_simp; with_reducible rfl
  simp only [Act.put, List.setIfInBounds_toArray, List.set_cons_zero, List.set_cons_succ]
  refine wpAnyH_take (i := 6) (oi := _) (v := ?_) rfl (by kernel_rfl) (by kernel_rfl) (by kernel_rfl) (fun _ _ _ h => h) (Or.inl ⟨by rfl, ?_⟩) rfl ?_
  rotate_left
  · intro w hw; subst hw; go_simp; with_reducible rfl
  simp only [Act.put, List.setIfInBounds_toArray, List.set_cons_zero, List.set_cons_succ]
  refine wpAnyH_take (i := 7) (oi := _) (v := ?_) rfl (by kernel_rfl) (by kernel_rfl) (by kernel_rfl) (fun _ _ _ h => h) (Or.inl ⟨by rfl, ?_⟩) rfl ?_
  rotate_left
  · intro w hw; subst hw; go_simp; with_reducible rfl
  simp only [Act.put, List.setIfInBounds_toArray, List.set_cons_zero, List.set_cons_succ]
  refine wpAnyH_take (i := 11) (oi := _) (v := ?_) rfl (by kernel_rfl) (by kernel_rfl) (by kernel_rfl) (fun _ _ _ h => h) (Or.inl ⟨by rfl, ?_⟩) rfl ?_
  rotate_left
  · intro w hw; subst hw; go_simp; with_reducible rfl
  simp only [Act.put, List.setIfInBounds_toArray, List.set_cons_zero, List.set_cons_succ]
  refine wpAnyH_take (i := 12) (oi := _) (v := ?_) rfl (by kernel_rfl) (by kernel_rfl) (by kernel_rfl) (fun _ _ _ h => h) (Or.inl ⟨by rfl, ?_⟩) rfl ?_
  rotate_left
  · intro w hw; subst hw; go_simp; with_reducible rfl
  simp only [Act.put, List.setIfInBounds_toArray, List.set_cons_zero, List.set_cons_succ]
  refine wpAnyH_ready (rs := [8]) (by kernel_rfl) (by simp) ?_
  refine AllReadyH.cons (o := _) rfl (fun K hK => ?_) AllReadyH.nil
  go_simp
  refine c1.mono ?_
  rintro e w1 ⟨rfl, rfl⟩
  exact ⟨rfl, rfl, HL.out, own_drew (own_box (by omega) _)⟩
set_option maxRecDepth 100000 in
set_option maxHeartbeats 2000000 in
theorem store_bad_30 (L : Lives B br bk b bm N sd w s vi ve inp out n c) (hs : Fine s) (hN : N ≤ 2097152) (rd r1 im : Int) (r2 : Nat) (hr2 : r2 < 32) (a : Int) (ha : 0 ≤ a ∧ a ≤ 4294967295) (hf : fit N a 1 = false) :
    Calls Try.prog 58 #[.pointer (some ⟨br, 0, none⟩), .agg #[.int .i64 30, .int .i64 rd, .int .i64 r1, .int .i64 r2, .int .i64 im], .int .u32 a] w fun e w' => e = .panicked [{ v := .iface 97 (.int .i64 3), recovered := false }] ∧ Lives B br bk b bm N sd w' s vi ve inp out n c ∧ Own B b bm w w' := by
  have LB := Lives.drew (Lives.box L (.cells #[.int .i64 30, .int .i64 rd, .int .i64 r1, .int .i64 r2, .int .i64 im] 31))
  have hB := L.big
  have c1 := bytes_bad LB hN a 1 ha (by omega) hf
  have h0 := LB.r0
  have h1 := LB.at_.cx (i := r2) hr2
  have h3 : (0 : Int) ≤ r2 ∧ (r2 : Int) < 32 := by omega
  have HL := Lib.hid LB
  clear L LB hs hf ha
  go_enter Try.func58, Try.ntmps58
  go_wp2
  refine wp_region_held_drew (S := fun w' => w' = ((w.alloc (.cells #[.int .i64 30, .int .i64 rd, .int .i64 r1, .int .i64 r2, .int .i64 im] 31)).drew)) (by kernel_rfl) rfl (fun hHeld => ?_)
  refine wpAnyH_take (i := 0) (oi := _) (v := ?_) rfl (by kernel_rfl) (by kernel_rfl) (by kernel_rfl) (fun _ _ _ h => h) (Or.inl ⟨by rfl, ?_⟩) rfl ?_
  rotate_left
  · intro w hw; subst hw; go_simp; with_reducible rfl
  simp only [Act.put, List.setIfInBounds_toArray, List.set_cons_zero, List.set_cons_succ]
  refine wpAnyH_take (i := 1) (oi := _) (v := ?_) rfl (by kernel_rfl) (by kernel_rfl) (by kernel_rfl) (fun _ _ _ h => h) (Or.inl ⟨by rfl, ?_⟩) rfl ?_
  rotate_left
  · intro w hw; subst hw; go_simp; with_reducible rfl
  simp only [Act.put, List.setIfInBounds_toArray, List.set_cons_zero, List.set_cons_succ]
  refine wpAnyH_take (i := 3) (oi := _) (v := ?_) rfl (by kernel_rfl) (by kernel_rfl) (by kernel_rfl) (fun _ _ _ h => h) (Or.inl ⟨by rfl, ?_⟩) rfl ?_
  rotate_left
  · intro w hw; subst hw; go_simp; with_reducible rfl
  simp only [Act.put, List.setIfInBounds_toArray, List.set_cons_zero, List.set_cons_succ]
  refine wpAnyH_take (i := 4) (oi := _) (v := ?_) rfl (by kernel_rfl) (by kernel_rfl) (by kernel_rfl) (fun _ _ _ h => h) (Or.inl ⟨by rfl, ?_⟩) rfl ?_
  rotate_left
  · intro w hw; subst hw; go_simp; with_reducible rfl
  simp only [Act.put, List.setIfInBounds_toArray, List.set_cons_zero, List.set_cons_succ]
  refine wpAnyH_take (i := 5) (oi := _) (v := ?_) rfl (by kernel_rfl) (by kernel_rfl) (by kernel_rfl) (fun _ _ _ h => h) (Or.inl ⟨by rfl, ?_⟩) rfl ?_
  rotate_left
  · intro w hw; subst hw; go_simp; with_reducible rfl
  simp only [Act.put, List.setIfInBounds_toArray, List.set_cons_zero, List.set_cons_succ]
  refine wpAnyH_take (i := 6) (oi := _) (v := ?_) rfl (by kernel_rfl) (by kernel_rfl) (by kernel_rfl) (fun _ _ _ h => h) (Or.inl ⟨by rfl, ?_⟩) rfl ?_
  rotate_left
  · intro w hw; subst hw; go_simp; with_reducible rfl
  simp only [Act.put, List.setIfInBounds_toArray, List.set_cons_zero, List.set_cons_succ]
  refine wpAnyH_take (i := 7) (oi := _) (v := ?_) rfl (by kernel_rfl) (by kernel_rfl) (by kernel_rfl) (fun _ _ _ h => h) (Or.inl ⟨by rfl, ?_⟩) rfl ?_
  rotate_left
  · intro w hw; subst hw; go_simp; with_reducible rfl
  simp only [Act.put, List.setIfInBounds_toArray, List.set_cons_zero, List.set_cons_succ]
  refine wpAnyH_take (i := 8) (oi := _) (v := ?_) rfl (by kernel_rfl) (by kernel_rfl) (by kernel_rfl) (fun _ _ _ h => h) (Or.inl ⟨by rfl, ?_⟩) rfl ?_
  rotate_left
  · intro w hw; subst hw; go_simp; with_reducible rfl
  simp only [Act.put, List.setIfInBounds_toArray, List.set_cons_zero, List.set_cons_succ]
  refine wpAnyH_take (i := 9) (oi := _) (v := ?_) rfl (by kernel_rfl) (by kernel_rfl) (by kernel_rfl) (fun _ _ _ h => h) (Or.inl ⟨by rfl, ?_⟩) rfl ?_
  rotate_left
  · intro w hw; subst hw; go_simp; with_reducible rfl
  simp only [Act.put, List.setIfInBounds_toArray, List.set_cons_zero, List.set_cons_succ]
  refine wpAnyH_take (i := 10) (oi := _) (v := ?_) rfl (by kernel_rfl) (by kernel_rfl) (by kernel_rfl) (fun _ _ _ h => h) (Or.inl ⟨by rfl, ?_⟩) rfl ?_
  rotate_left
  · intro w hw; subst hw; go_simp; with_reducible rfl
  simp only [Act.put, List.setIfInBounds_toArray, List.set_cons_zero, List.set_cons_succ]
  refine wpAnyH_take (i := 11) (oi := _) (v := ?_) rfl (by kernel_rfl) (by kernel_rfl) (by kernel_rfl) (fun _ _ _ h => h) (Or.inl ⟨by rfl, ?_⟩) rfl ?_
  rotate_left
  · intro w hw; subst hw; go_simp; with_reducible rfl
  simp only [Act.put, List.setIfInBounds_toArray, List.set_cons_zero, List.set_cons_succ]
  refine wpAnyH_take (i := 12) (oi := _) (v := ?_) rfl (by kernel_rfl) (by kernel_rfl) (by kernel_rfl) (fun _ _ _ h => h) (Or.inl ⟨by rfl, ?_⟩) rfl ?_
  rotate_left
  · intro w hw; subst hw; go_simp; with_reducible rfl
  simp only [Act.put, List.setIfInBounds_toArray, List.set_cons_zero, List.set_cons_succ]
  refine wpAnyH_take (i := 13) (oi := _) (v := ?_) rfl (by kernel_rfl) (by kernel_rfl) (by kernel_rfl) (fun _ _ _ h => h) (Or.inl ⟨by rfl, ?_⟩) rfl ?_
  rotate_left
  · intro w hw; subst hw; go_simp; with_reducible rfl
  simp only [Act.put, List.setIfInBounds_toArray, List.set_cons_zero, List.set_cons_succ]
  refine wpAnyH_ready (rs := [2]) (by kernel_rfl) (by simp) ?_
  refine AllReadyH.cons (o := _) rfl (fun K hK => ?_) AllReadyH.nil
  go_simp
  refine c1.mono ?_
  rintro e w1 ⟨rfl, rfl⟩
  exact ⟨rfl, rfl, HL.out, own_drew (own_box (by omega) _)⟩
set_option maxRecDepth 100000 in
set_option maxHeartbeats 2000000 in
theorem store_bad_31 (L : Lives B br bk b bm N sd w s vi ve inp out n c) (hs : Fine s) (hN : N ≤ 2097152) (rd r1 im : Int) (r2 : Nat) (hr2 : r2 < 32) (a : Int) (ha : 0 ≤ a ∧ a ≤ 4294967295) (hf : fit N a 4 = false) :
    Calls Try.prog 58 #[.pointer (some ⟨br, 0, none⟩), .agg #[.int .i64 31, .int .i64 rd, .int .i64 r1, .int .i64 r2, .int .i64 im], .int .u32 a] w fun e w' => e = .panicked [{ v := .iface 97 (.int .i64 3), recovered := false }] ∧ Lives B br bk b bm N sd w' s vi ve inp out n c ∧ Own B b bm w w' := by
  have LB := Lives.drew (Lives.box L (.cells #[.int .i64 31, .int .i64 rd, .int .i64 r1, .int .i64 r2, .int .i64 im] 31))
  have hB := L.big
  have c1 := bytes_bad LB hN a 4 ha (by omega) hf
  have h0 := LB.r0
  have h1 := LB.at_.cx (i := r2) hr2
  have h3 : (0 : Int) ≤ r2 ∧ (r2 : Int) < 32 := by omega
  have HL := Lib.hid LB
  clear L LB hs hf ha
  go_enter Try.func58, Try.ntmps58
  go_wp2
  refine wp_region_held_drew (S := fun w' => w' = ((w.alloc (.cells #[.int .i64 31, .int .i64 rd, .int .i64 r1, .int .i64 r2, .int .i64 im] 31)).drew)) (by kernel_rfl) rfl (fun hHeld => ?_)
  refine wpAnyH_take (i := 0) (oi := _) (v := ?_) rfl (by kernel_rfl) (by kernel_rfl) (by kernel_rfl) (fun _ _ _ h => h) (Or.inl ⟨by rfl, ?_⟩) rfl ?_
  rotate_left
  · intro w hw; subst hw; go_simp; with_reducible rfl
  simp only [Act.put, List.setIfInBounds_toArray, List.set_cons_zero, List.set_cons_succ]
  refine wpAnyH_take (i := 1) (oi := _) (v := ?_) rfl (by kernel_rfl) (by kernel_rfl) (by kernel_rfl) (fun _ _ _ h => h) (Or.inl ⟨by rfl, ?_⟩) rfl ?_
  rotate_left
  · intro w hw; subst hw; go_simp; with_reducible rfl
  simp only [Act.put, List.setIfInBounds_toArray, List.set_cons_zero, List.set_cons_succ]
  refine wpAnyH_take (i := 3) (oi := _) (v := ?_) rfl (by kernel_rfl) (by kernel_rfl) (by kernel_rfl) (fun _ _ _ h => h) (Or.inl ⟨by rfl, ?_⟩) rfl ?_
  rotate_left
  · intro w hw; subst hw; go_simp; with_reducible rfl
  simp only [Act.put, List.setIfInBounds_toArray, List.set_cons_zero, List.set_cons_succ]
  refine wpAnyH_take (i := 4) (oi := _) (v := ?_) rfl (by kernel_rfl) (by kernel_rfl) (by kernel_rfl) (fun _ _ _ h => h) (Or.inl ⟨by rfl, ?_⟩) rfl ?_
  rotate_left
  · intro w hw; subst hw; go_simp; with_reducible rfl
  simp only [Act.put, List.setIfInBounds_toArray, List.set_cons_zero, List.set_cons_succ]
  refine wpAnyH_take (i := 5) (oi := _) (v := ?_) rfl (by kernel_rfl) (by kernel_rfl) (by kernel_rfl) (fun _ _ _ h => h) (Or.inl ⟨by rfl, ?_⟩) rfl ?_
  rotate_left
  · intro w hw; subst hw; go_simp; with_reducible rfl
  simp only [Act.put, List.setIfInBounds_toArray, List.set_cons_zero, List.set_cons_succ]
  refine wpAnyH_take (i := 6) (oi := _) (v := ?_) rfl (by kernel_rfl) (by kernel_rfl) (by kernel_rfl) (fun _ _ _ h => h) (Or.inl ⟨by rfl, ?_⟩) rfl ?_
  rotate_left
  · intro w hw; subst hw; go_simp; with_reducible rfl
  simp only [Act.put, List.setIfInBounds_toArray, List.set_cons_zero, List.set_cons_succ]
  refine wpAnyH_take (i := 7) (oi := _) (v := ?_) rfl (by kernel_rfl) (by kernel_rfl) (by kernel_rfl) (fun _ _ _ h => h) (Or.inl ⟨by rfl, ?_⟩) rfl ?_
  rotate_left
  · intro w hw; subst hw; go_simp; with_reducible rfl
  simp only [Act.put, List.setIfInBounds_toArray, List.set_cons_zero, List.set_cons_succ]
  refine wpAnyH_take (i := 8) (oi := _) (v := ?_) rfl (by kernel_rfl) (by kernel_rfl) (by kernel_rfl) (fun _ _ _ h => h) (Or.inl ⟨by rfl, ?_⟩) rfl ?_
  rotate_left
  · intro w hw; subst hw; go_simp; with_reducible rfl
  simp only [Act.put, List.setIfInBounds_toArray, List.set_cons_zero, List.set_cons_succ]
  refine wpAnyH_take (i := 9) (oi := _) (v := ?_) rfl (by kernel_rfl) (by kernel_rfl) (by kernel_rfl) (fun _ _ _ h => h) (Or.inl ⟨by rfl, ?_⟩) rfl ?_
  rotate_left
  · intro w hw; subst hw; go_simp; with_reducible rfl
  simp only [Act.put, List.setIfInBounds_toArray, List.set_cons_zero, List.set_cons_succ]
  refine wpAnyH_take (i := 10) (oi := _) (v := ?_) rfl (by kernel_rfl) (by kernel_rfl) (by kernel_rfl) (fun _ _ _ h => h) (Or.inl ⟨by rfl, ?_⟩) rfl ?_
  rotate_left
  · intro w hw; subst hw; go_simp; with_reducible rfl
  simp only [Act.put, List.setIfInBounds_toArray, List.set_cons_zero, List.set_cons_succ]
  refine wpAnyH_take (i := 11) (oi := _) (v := ?_) rfl (by kernel_rfl) (by kernel_rfl) (by kernel_rfl) (fun _ _ _ h => h) (Or.inl ⟨by rfl, ?_⟩) rfl ?_
  rotate_left
  · intro w hw; subst hw; go_simp; with_reducible rfl
  simp only [Act.put, List.setIfInBounds_toArray, List.set_cons_zero, List.set_cons_succ]
  refine wpAnyH_take (i := 12) (oi := _) (v := ?_) rfl (by kernel_rfl) (by kernel_rfl) (by kernel_rfl) (fun _ _ _ h => h) (Or.inl ⟨by rfl, ?_⟩) rfl ?_
  rotate_left
  · intro w hw; subst hw; go_simp; with_reducible rfl
  simp only [Act.put, List.setIfInBounds_toArray, List.set_cons_zero, List.set_cons_succ]
  refine wpAnyH_take (i := 13) (oi := _) (v := ?_) rfl (by kernel_rfl) (by kernel_rfl) (by kernel_rfl) (fun _ _ _ h => h) (Or.inl ⟨by rfl, ?_⟩) rfl ?_
  rotate_left
  · intro w hw; subst hw; go_simp; with_reducible rfl
  simp only [Act.put, List.setIfInBounds_toArray, List.set_cons_zero, List.set_cons_succ]
  refine wpAnyH_ready (rs := [2]) (by kernel_rfl) (by simp) ?_
  refine AllReadyH.cons (o := _) rfl (fun K hK => ?_) AllReadyH.nil
  go_simp
  refine c1.mono ?_
  rintro e w1 ⟨rfl, rfl⟩
  exact ⟨rfl, rfl, HL.out, own_drew (own_box (by omega) _)⟩
set_option maxRecDepth 100000 in
set_option maxHeartbeats 2000000 in
theorem store_bad_44 (L : Lives B br bk b bm N sd w s vi ve inp out n c) (hs : Fine s) (hN : N ≤ 2097152) (rd r1 im : Int) (r2 : Nat) (hr2 : r2 < 32) (a : Int) (ha : 0 ≤ a ∧ a ≤ 4294967295) (hf : fit N a 8 = false) :
    Calls Try.prog 58 #[.pointer (some ⟨br, 0, none⟩), .agg #[.int .i64 44, .int .i64 rd, .int .i64 r1, .int .i64 r2, .int .i64 im], .int .u32 a] w fun e w' => e = .panicked [{ v := .iface 97 (.int .i64 3), recovered := false }] ∧ Lives B br bk b bm N sd w' s vi ve inp out n c ∧ Own B b bm w w' := by
  have LB := Lives.drew (Lives.box L (.cells #[.int .i64 44, .int .i64 rd, .int .i64 r1, .int .i64 r2, .int .i64 im] 31))
  have hB := L.big
  have c1 := bytes_bad LB hN a 8 ha (by omega) hf
  have h0 := LB.r0
  have h1 := LB.at_.cf (i := r2) hr2
  have h3 : (0 : Int) ≤ r2 ∧ (r2 : Int) < 32 := by omega
  have HL := Lib.hid LB
  clear L LB hs hf ha
  go_enter Try.func58, Try.ntmps58
  go_wp2
  refine wp_region_held_drew (S := fun w' => w' = ((w.alloc (.cells #[.int .i64 44, .int .i64 rd, .int .i64 r1, .int .i64 r2, .int .i64 im] 31)).drew)) (by kernel_rfl) rfl (fun hHeld => ?_)
  refine wpAnyH_take (i := 0) (oi := _) (v := ?_) rfl (by kernel_rfl) (by kernel_rfl) (by kernel_rfl) (fun _ _ _ h => h) (Or.inl ⟨by rfl, ?_⟩) rfl ?_
  rotate_left
  · intro w hw; subst hw; go_simp; with_reducible rfl
  simp only [Act.put, List.setIfInBounds_toArray, List.set_cons_zero, List.set_cons_succ]
  refine wpAnyH_take (i := 1) (oi := _) (v := ?_) rfl (by kernel_rfl) (by kernel_rfl) (by kernel_rfl) (fun _ _ _ h => h) (Or.inl ⟨by rfl, ?_⟩) rfl ?_
  rotate_left
  · intro w hw; subst hw; go_simp; with_reducible rfl
  simp only [Act.put, List.setIfInBounds_toArray, List.set_cons_zero, List.set_cons_succ]
  refine wpAnyH_take (i := 3) (oi := _) (v := ?_) rfl (by kernel_rfl) (by kernel_rfl) (by kernel_rfl) (fun _ _ _ h => h) (Or.inl ⟨by rfl, ?_⟩) rfl ?_
  rotate_left
  · intro w hw; subst hw; go_simp; with_reducible rfl
  simp only [Act.put, List.setIfInBounds_toArray, List.set_cons_zero, List.set_cons_succ]
  refine wpAnyH_take (i := 4) (oi := _) (v := ?_) rfl (by kernel_rfl) (by kernel_rfl) (by kernel_rfl) (fun _ _ _ h => h) (Or.inl ⟨by rfl, ?_⟩) rfl ?_
  rotate_left
  · intro w hw; subst hw; go_simp; with_reducible rfl
  simp only [Act.put, List.setIfInBounds_toArray, List.set_cons_zero, List.set_cons_succ]
  refine wpAnyH_take (i := 5) (oi := _) (v := ?_) rfl (by kernel_rfl) (by kernel_rfl) (by kernel_rfl) (fun _ _ _ h => h) (Or.inl ⟨by rfl, ?_⟩) rfl ?_
  rotate_left
  · intro w hw; subst hw; go_simp; with_reducible rfl
  simp only [Act.put, List.setIfInBounds_toArray, List.set_cons_zero, List.set_cons_succ]
  refine wpAnyH_take (i := 6) (oi := _) (v := ?_) rfl (by kernel_rfl) (by kernel_rfl) (by kernel_rfl) (fun _ _ _ h => h) (Or.inl ⟨by rfl, ?_⟩) rfl ?_
  rotate_left
  · intro w hw; subst hw; go_simp; with_reducible rfl
  simp only [Act.put, List.setIfInBounds_toArray, List.set_cons_zero, List.set_cons_succ]
  refine wpAnyH_take (i := 7) (oi := _) (v := ?_) rfl (by kernel_rfl) (by kernel_rfl) (by kernel_rfl) (fun _ _ _ h => h) (Or.inl ⟨by rfl, ?_⟩) rfl ?_
  rotate_left
  · intro w hw; subst hw; go_simp; with_reducible rfl
  simp only [Act.put, List.setIfInBounds_toArray, List.set_cons_zero, List.set_cons_succ]
  refine wpAnyH_take (i := 8) (oi := _) (v := ?_) rfl (by kernel_rfl) (by kernel_rfl) (by kernel_rfl) (fun _ _ _ h => h) (Or.inl ⟨by rfl, ?_⟩) rfl ?_
  rotate_left
  · intro w hw; subst hw; go_simp; with_reducible rfl
  simp only [Act.put, List.setIfInBounds_toArray, List.set_cons_zero, List.set_cons_succ]
  refine wpAnyH_take (i := 9) (oi := _) (v := ?_) rfl (by kernel_rfl) (by kernel_rfl) (by kernel_rfl) (fun _ _ _ h => h) (Or.inl ⟨by rfl, ?_⟩) rfl ?_
  rotate_left
  · intro w hw; subst hw; go_simp; with_reducible rfl
  simp only [Act.put, List.setIfInBounds_toArray, List.set_cons_zero, List.set_cons_succ]
  refine wpAnyH_take (i := 10) (oi := _) (v := ?_) rfl (by kernel_rfl) (by kernel_rfl) (by kernel_rfl) (fun _ _ _ h => h) (Or.inl ⟨by rfl, ?_⟩) rfl ?_
  rotate_left
  · intro w hw; subst hw; go_simp; with_reducible rfl
  simp only [Act.put, List.setIfInBounds_toArray, List.set_cons_zero, List.set_cons_succ]
  refine wpAnyH_take (i := 11) (oi := _) (v := ?_) rfl (by kernel_rfl) (by kernel_rfl) (by kernel_rfl) (fun _ _ _ h => h) (Or.inl ⟨by rfl, ?_⟩) rfl ?_
  rotate_left
  · intro w hw; subst hw; go_simp; with_reducible rfl
  simp only [Act.put, List.setIfInBounds_toArray, List.set_cons_zero, List.set_cons_succ]
  refine wpAnyH_take (i := 12) (oi := _) (v := ?_) rfl (by kernel_rfl) (by kernel_rfl) (by kernel_rfl) (fun _ _ _ h => h) (Or.inl ⟨by rfl, ?_⟩) rfl ?_
  rotate_left
  · intro w hw; subst hw; go_simp; with_reducible rfl
  simp only [Act.put, List.setIfInBounds_toArray, List.set_cons_zero, List.set_cons_succ]
  refine wpAnyH_ready (rs := [2]) (by kernel_rfl) (by simp) ?_
  refine AllReadyH.cons (o := _) rfl (fun K hK => ?_) AllReadyH.nil
  go_simp
  refine c1.mono ?_
  rintro e w1 ⟨rfl, rfl⟩
  exact ⟨rfl, rfl, HL.out, own_drew (own_box (by omega) _)⟩
end
end MG
end Go.Proofs.Ytieehjkmfmkfjab
