/-
  What Imm fits by the document's row (package solderref03's Fits), a contract. Condition: the row's first cell is a letter.
  The document's word of an instruction (package solderref03's Encode), a contract. Conditions: five ints.
  The document's word of any instruction (package solderref03's Encode), a contract. Conditions: four ints as parts.
-/
import Derived.Test.YtlmblfkcmhgdaaaGreatCodeQr
import Derived.Deep.DeepCutAuto
import Derived.Test.YtlmblfkcmhgdaaaGreatCodeQd
import Derived.Deep.QuietTactic
import Derived.BigQuiet
import Derived.BigGuardPart
import Derived.IntWalk
import Derived.Test.YtlmblfkcmhgdaaaGreatCodeQo
namespace Go.Proofs.YtlmblfkcmhgdaaaGreat
open Go.RowKit
set_option linter.unusedVariables false
set_option linter.unusedSimpArgs false
namespace CA
open CC CW CR
/-- what fits, by the kind's letter -/
def fl (c n : Int) : Bool :=
  if c = 73 ∨ c = 83 then decide (-2048 ≤ n) && decide (n ≤ 2047)
  else if c = 72 then decide (0 ≤ n) && decide (n ≤ 31)
  else if c = 66 then decide (-4096 ≤ n) && decide (n ≤ 4094) && decide (n % 2 = 0)
  else if c = 85 then decide (0 ≤ n) && decide (n < 1048576)
  else if c = 74 then decide (-1048576 ≤ n) && decide (n ≤ 1048574) && decide (n % 2 = 0)
  else false
theorem tm2 (n : Int) : (n.tmod 2 = 0) ↔ n % 2 = 0 := by
  constructor
  · intro h; exact Int.emod_eq_zero_of_dvd (Int.dvd_of_tmod_eq_zero h)
  · intro h; exact Int.tmod_eq_zero_of_dvd (Int.dvd_of_emod_eq_zero h)
set_option maxHeartbeats 8000000 in
theorem fits_ (V : Array Value) (c n : Int) (hV : V[0]? = some (.int .u8 c)) (w : World) : Calls Tryz.prog 50 #[.agg V, .int .i64 n] w fun e w' => e = .returned (.bool (fl c n)) ∧ Below w.heap.size w w' := by
  have hb := CE.box0 w (.cells V 124)
  have t2 := tm2 n
  go_enter Tryz.func50, Tryz.ntmps50
  go_wp2
  all_goals
    go_ret
    refine ⟨?_, hb⟩
    try simp_all [fl]
  all_goals first
    | omega
    | (rw [Bool.eq_iff_iff]; simp [t2])
end CA
end Go.Proofs.YtlmblfkcmhgdaaaGreat
namespace Go.Proofs.YtlmblfkcmhgdaaaGreat
open Go.RowKit
set_option linter.unusedVariables false
set_option linter.unusedSimpArgs false
namespace CB
open CC CW CR CA
theorem cells5 {w : World} {b : Nat} {v0 v1 v2 v3 v4 : Value} {T : TypeId} (h : w.heap[b]? = some (.cells #[v0, v1, v2, v3, v4] T (0, 0))) : w.cell? ⟨b, 0, none⟩ = some v0 ∧ w.cell? ⟨b, 1, none⟩ = some v1 ∧ w.cell? ⟨b, 2, none⟩ = some v2 ∧ w.cell? ⟨b, 3, none⟩ = some v3 ∧ w.cell? ⟨b, 4, none⟩ = some v4 :=
  ⟨cell_of_row _ _ _ _ _ _ h, cell_of_row _ _ _ _ _ _ h, cell_of_row _ _ _ _ _ _ h, cell_of_row _ _ _ _ _ _ h, cell_of_row _ _ _ _ _ _ h⟩
def res (k o a c rd rs1 rs2 imm : Int) : Value := .tuple #[.int .u32 (if CM.fault k rd rs1 rs2 imm = 0 then CM.word k o a c rd rs1 rs2 imm else 0), .int .i64 (CM.fault k rd rs1 rs2 imm)]
theorem res2 {k o a c rd rs1 rs2 imm : Int} (h : CM.bad2 k rd rs1 rs2 imm = true) : Ending.returned (.tuple #[.int .u32 0, .int .i64 2]) = .returned (res k o a c rd rs1 rs2 imm) := by
  simp [res, CM.fault, h]
theorem res1 {k o a c rd rs1 rs2 imm : Int} (h : CM.bad2 k rd rs1 rs2 imm = false) (h' : CM.bad1 k rd rs1 rs2 imm = true) : Ending.returned (.tuple #[.int .u32 0, .int .i64 1]) = .returned (res k o a c rd rs1 rs2 imm) := by
  simp [res, CM.fault, h, h']
theorem res0 {k o a c rd rs1 rs2 imm W : Int} (h : CM.bad2 k rd rs1 rs2 imm = false) (h' : CM.bad1 k rd rs1 rs2 imm = false) (e : W = CM.word k o a c rd rs1 rs2 imm) : Ending.returned (.tuple #[.int .u32 W, .int .i64 0]) = .returned (res k o a c rd rs1 rs2 imm) := by
  simp [res, CM.fault, h, h', e]
theorem bdN {B : Nat} {a w : World} (h : Below B a w) (m : Nat) : Below B a (w.drewN m) := ⟨h.os, h.tape, h.output, h.size, h.block⟩
theorem field_at (x : Int) (hx : (Lit.int .i64 x).wf = true) (m n : Nat) (hm : m ≤ 31) (hn : n ≤ 31) (M P : Int) (hM : (2 : Int) ^ m = M) (hP : (2 : Int) ^ n = P) (w : World) :
    Calls Tryz.prog 52 #[.int .i64 x, .int .i64 (m : Int), .int .i64 (n : Int)] w fun e w' => e = .returned (.int .i64 (x / M % P)) ∧ w' = w := by
  have h := field_ x m n (bounds_i64 hx).1 (bounds_i64 hx).2 hm (by omega) (by omega) w
  rw [Int.toNat_natCast, hM, hP] at h
  exact h
theorem kept2 {w1 w2 : World} {b : Nat} {o O : Obj} (h : w1.heap[b]? = some O) (hb : Below (w1.alloc o).heap.size (w1.alloc o) w2) : w2.heap[b]? = some O :=
  (hb.block _ (by have := lt_of_get h; simp only [World.size_alloc]; omega)).trans ((Below.heap_alloc _ _ _ (lt_of_get h)).trans h)
theorem new2 {w1 w2 : World} {C : Array Value} {T : TypeId} (hb : Below (w1.alloc (.cells C T)).heap.size (w1.alloc (.cells C T)) w2) : w2.heap[w1.heap.size]? = some (.cells C T (0, 0)) :=
  (hb.block _ (by simp only [World.size_alloc]; omega)).trans (newAt _ _ _ rfl)
theorem bel2 {w w1 w2 : World} {o : Obj} (h : Below w.heap.size w w1) (hb : Below (w1.alloc o).heap.size (w1.alloc o) w2) : Below w.heap.size w w2 :=
  (h.alloc h.size _).trans (hb.mono (h.alloc h.size o).size)
set_option maxRecDepth 100000 in
set_option maxHeartbeats 8000000 in
theorem enc_R (op rd rs1 rs2 imm o a c : Int) (h1 : (Lit.int .i64 rd).wf = true) (h2 : (Lit.int .i64 rs1).wf = true) (h3 : (Lit.int .i64 rs2).wf = true) (h4 : (Lit.int .i64 imm).wf = true) (ho : 0 ≤ o ∧ o ≤ 127) (ha : 0 ≤ a ∧ a ≤ 7) (hc : 0 ≤ c ∧ c ≤ 127)
    (hOf : ∀ w, Calls Tryz.prog 49 #[.int .i64 op] w fun e w' => e = .returned (.agg #[.int .u8 82, .int .i64 o, .int .i64 a, .int .i64 c, .int .i64 (-1)]) ∧ Below w.heap.size w w') (w : World) :
    Calls Tryz.prog 28 #[.agg #[.int .i64 op, .int .i64 rd, .int .i64 rs1, .int .i64 rs2, .int .i64 imm]] w fun e w' => e = .returned (res 0 o a c rd rs1 rs2 imm) ∧ Below w.heap.size w w' := by
  go_enter Tryz.func28, Tryz.ntmps28
  go_upto_region 1 with fail
  go_upto_region 2 with (go_at_call 49; refine (hOf _).mono ?_; rintro e w1 ⟨rfl, hb0⟩)
  have HI := Lib.hid (show w1.heap[w.heap.size]? = some (.cells #[.int .i64 op, .int .i64 rd, .int .i64 rs1, .int .i64 rs2, .int .i64 imm] 54 (0, 0)) from (hb0.block _ (by simp only [World.size_alloc]; omega)).trans (newAt _ _ _ rfl))
  obtain ⟨p0, p1, p2, p3, p4⟩ := cells5 HI.out
  have hlt : w.heap.size < w1.heap.size := by have := hb0.size; simp only [World.size_alloc] at this; omega
  have hb1 : Below w.heap.size w w1 := (CE.box0 w _).trans (hb0.mono (by simp only [World.size_alloc]; omega))
  clear hb0 hOf
  go_wp2
  go_wp2
  all_goals (try go_wp2_with (go_at_call 51; refine (word_ _ _ _ _ _ _ ho (by omega) ha (by omega) (by omega) (by omega) _).mono ?_; rintro e w3 ⟨rfl, rfl⟩))
  all_goals go_ret2
  all_goals refine ⟨?_, ?_⟩
  all_goals first
    | exact hbe
    | exact bdN hbe _
    | exact hb1.alloc hb1.size _
    | exact res2 (by simp_all [CM.bad2, CM.uRd, CM.uRs1, CM.uRs2, CM.uImm])
    | exact res1 (by simp_all [CM.bad2, CM.uRd, CM.uRs1, CM.uRs2, CM.uImm]) (by simp_all [CM.bad1, CM.isReg, CM.uRd, CM.uRs1, CM.uRs2, CM.uImm]; try omega)
    | exact res0 (by simp_all [CM.bad2, CM.uRd, CM.uRs1, CM.uRs2, CM.uImm]) (by simp_all [CM.bad1, CM.isReg, CM.uRd, CM.uRs1, CM.uRs2, CM.uImm]) ((CM.word_R (by decide)).symm)
set_option maxRecDepth 100000 in
set_option maxHeartbeats 8000000 in
theorem enc_P (op rd rs1 rs2 imm o a c : Int) (h1 : (Lit.int .i64 rd).wf = true) (h2 : (Lit.int .i64 rs1).wf = true) (h3 : (Lit.int .i64 rs2).wf = true) (h4 : (Lit.int .i64 imm).wf = true) (ho : 0 ≤ o ∧ o ≤ 127) (ha : 0 ≤ a ∧ a ≤ 7) (hc : 0 ≤ c ∧ c ≤ 127)
    (hOf : ∀ w, Calls Tryz.prog 49 #[.int .i64 op] w fun e w' => e = .returned (.agg #[.int .u8 82, .int .i64 o, .int .i64 a, .int .i64 c, .int .i64 (-1)]) ∧ Below w.heap.size w w') (w : World) :
    Calls Tryz.prog 28 #[.agg #[.int .i64 op, .int .i64 rd, .int .i64 rs1, .int .i64 rs2, .int .i64 imm]] w fun e w' => e = .returned (res 8 o a c rd rs1 rs2 imm) ∧ Below w.heap.size w w' := by
  go_enter Tryz.func28, Tryz.ntmps28
  go_upto_region 1 with fail
  go_upto_region 2 with (go_at_call 49; refine (hOf _).mono ?_; rintro e w1 ⟨rfl, hb0⟩)
  have HI := Lib.hid (show w1.heap[w.heap.size]? = some (.cells #[.int .i64 op, .int .i64 rd, .int .i64 rs1, .int .i64 rs2, .int .i64 imm] 54 (0, 0)) from (hb0.block _ (by simp only [World.size_alloc]; omega)).trans (newAt _ _ _ rfl))
  obtain ⟨p0, p1, p2, p3, p4⟩ := cells5 HI.out
  have hlt : w.heap.size < w1.heap.size := by have := hb0.size; simp only [World.size_alloc] at this; omega
  have hb1 : Below w.heap.size w w1 := (CE.box0 w _).trans (hb0.mono (by simp only [World.size_alloc]; omega))
  clear hb0 hOf
  go_wp2
  go_wp2
  all_goals (try go_wp2_with (go_at_call 51; refine (word_ _ _ _ _ _ _ ho (by omega) ha (by omega) (by omega) (by omega) _).mono ?_; rintro e w3 ⟨rfl, rfl⟩))
  all_goals go_ret2
  all_goals refine ⟨?_, ?_⟩
  all_goals first
    | exact hbe
    | exact bdN hbe _
    | exact hb1.alloc hb1.size _
    | exact res2 (by simp_all [CM.bad2, CM.uRd, CM.uRs1, CM.uRs2, CM.uImm])
    | exact res1 (by simp_all [CM.bad2, CM.uRd, CM.uRs1, CM.uRs2, CM.uImm]) (by simp_all [CM.bad1, CM.isReg, CM.uRd, CM.uRs1, CM.uRs2, CM.uImm]; try omega)
    | exact res0 (by simp_all [CM.bad2, CM.uRd, CM.uRs1, CM.uRs2, CM.uImm]) (by simp_all [CM.bad1, CM.isReg, CM.uRd, CM.uRs1, CM.uRs2, CM.uImm]) ((CM.word_R (by decide)).symm)
set_option maxRecDepth 100000 in
set_option maxHeartbeats 8000000 in
theorem enc_T (op rd rs1 rs2 imm o a c : Int) (h1 : (Lit.int .i64 rd).wf = true) (h2 : (Lit.int .i64 rs1).wf = true) (h3 : (Lit.int .i64 rs2).wf = true) (h4 : (Lit.int .i64 imm).wf = true) (ho : 0 ≤ o ∧ o ≤ 127) (ha : 0 ≤ a ∧ a ≤ 7) (hc : 0 ≤ c ∧ c ≤ 127)
    (hOf : ∀ w, Calls Tryz.prog 49 #[.int .i64 op] w fun e w' => e = .returned (.agg #[.int .u8 82, .int .i64 o, .int .i64 a, .int .i64 c, .int .i64 (32)]) ∧ Below w.heap.size w w') (w : World) :
    Calls Tryz.prog 28 #[.agg #[.int .i64 op, .int .i64 rd, .int .i64 rs1, .int .i64 rs2, .int .i64 imm]] w fun e w' => e = .returned (res 9 o a c rd rs1 rs2 imm) ∧ Below w.heap.size w w' := by
  go_enter Tryz.func28, Tryz.ntmps28
  go_upto_region 1 with fail
  go_upto_region 2 with (go_at_call 49; refine (hOf _).mono ?_; rintro e w1 ⟨rfl, hb0⟩)
  have HI := Lib.hid (show w1.heap[w.heap.size]? = some (.cells #[.int .i64 op, .int .i64 rd, .int .i64 rs1, .int .i64 rs2, .int .i64 imm] 54 (0, 0)) from (hb0.block _ (by simp only [World.size_alloc]; omega)).trans (newAt _ _ _ rfl))
  obtain ⟨p0, p1, p2, p3, p4⟩ := cells5 HI.out
  have hlt : w.heap.size < w1.heap.size := by have := hb0.size; simp only [World.size_alloc] at this; omega
  have hb1 : Below w.heap.size w w1 := (CE.box0 w _).trans (hb0.mono (by simp only [World.size_alloc]; omega))
  clear hb0 hOf
  go_wp2
  go_wp2
  all_goals (try go_wp2_with (go_at_call 51; refine (word_ _ _ _ _ _ _ ho (by omega) ha (by omega) (by omega) (by omega) _).mono ?_; rintro e w3 ⟨rfl, rfl⟩))
  all_goals go_ret2
  all_goals refine ⟨?_, ?_⟩
  all_goals first
    | exact hbe
    | exact bdN hbe _
    | exact hb1.alloc hb1.size _
    | exact res2 (by simp_all [CM.bad2, CM.uRd, CM.uRs1, CM.uRs2, CM.uImm])
    | exact res1 (by simp_all [CM.bad2, CM.uRd, CM.uRs1, CM.uRs2, CM.uImm]) (by simp_all [CM.bad1, CM.isReg, CM.uRd, CM.uRs1, CM.uRs2, CM.uImm]; try omega)
    | exact res0 (by simp_all [CM.bad2, CM.uRd, CM.uRs1, CM.uRs2, CM.uImm]) (by simp_all [CM.bad1, CM.isReg, CM.uRd, CM.uRs1, CM.uRs2, CM.uImm]) (CM.word_T.symm)
set_option maxRecDepth 100000 in
set_option maxHeartbeats 8000000 in
theorem enc_Z (op rd rs1 rs2 imm o a c : Int) (h1 : (Lit.int .i64 rd).wf = true) (h2 : (Lit.int .i64 rs1).wf = true) (h3 : (Lit.int .i64 rs2).wf = true) (h4 : (Lit.int .i64 imm).wf = true) (ho : 0 ≤ o ∧ o ≤ 127) (ha : 0 ≤ a ∧ a ≤ 7) (hc : 0 ≤ c ∧ c ≤ 127)
    (hOf : ∀ w, Calls Tryz.prog 49 #[.int .i64 op] w fun e w' => e = .returned (.agg #[.int .u8 82, .int .i64 o, .int .i64 a, .int .i64 c, .int .i64 (0)]) ∧ Below w.heap.size w w') (w : World) :
    Calls Tryz.prog 28 #[.agg #[.int .i64 op, .int .i64 rd, .int .i64 rs1, .int .i64 rs2, .int .i64 imm]] w fun e w' => e = .returned (res 10 o a c rd rs1 rs2 imm) ∧ Below w.heap.size w w' := by
  go_enter Tryz.func28, Tryz.ntmps28
  go_upto_region 1 with fail
  go_upto_region 2 with (go_at_call 49; refine (hOf _).mono ?_; rintro e w1 ⟨rfl, hb0⟩)
  have HI := Lib.hid (show w1.heap[w.heap.size]? = some (.cells #[.int .i64 op, .int .i64 rd, .int .i64 rs1, .int .i64 rs2, .int .i64 imm] 54 (0, 0)) from (hb0.block _ (by simp only [World.size_alloc]; omega)).trans (newAt _ _ _ rfl))
  obtain ⟨p0, p1, p2, p3, p4⟩ := cells5 HI.out
  have hlt : w.heap.size < w1.heap.size := by have := hb0.size; simp only [World.size_alloc] at this; omega
  have hb1 : Below w.heap.size w w1 := (CE.box0 w _).trans (hb0.mono (by simp only [World.size_alloc]; omega))
  clear hb0 hOf
  go_wp2
  go_wp2
  all_goals (try go_wp2_with (go_at_call 51; refine (word_ _ _ _ _ _ _ ho (by omega) ha (by omega) (by omega) (by omega) _).mono ?_; rintro e w3 ⟨rfl, rfl⟩))
  all_goals go_ret2
  all_goals refine ⟨?_, ?_⟩
  all_goals first
    | exact hbe
    | exact bdN hbe _
    | exact hb1.alloc hb1.size _
    | exact res2 (by simp_all [CM.bad2, CM.uRd, CM.uRs1, CM.uRs2, CM.uImm])
    | exact res1 (by simp_all [CM.bad2, CM.uRd, CM.uRs1, CM.uRs2, CM.uImm]) (by simp_all [CM.bad1, CM.isReg, CM.uRd, CM.uRs1, CM.uRs2, CM.uImm]; try omega)
    | exact res0 (by simp_all [CM.bad2, CM.uRd, CM.uRs1, CM.uRs2, CM.uImm]) (by simp_all [CM.bad1, CM.isReg, CM.uRd, CM.uRs1, CM.uRs2, CM.uImm]) (by simp_all [CM.word_Z, CM.six])
set_option maxRecDepth 100000 in
set_option maxHeartbeats 8000000 in
theorem enc_E (op rd rs1 rs2 imm o a c : Int) (h1 : (Lit.int .i64 rd).wf = true) (h2 : (Lit.int .i64 rs1).wf = true) (h3 : (Lit.int .i64 rs2).wf = true) (h4 : (Lit.int .i64 imm).wf = true) (ho : 0 ≤ o ∧ o ≤ 127) (ha : 0 ≤ a ∧ a ≤ 7) (hc : 0 ≤ c ∧ c ≤ 127)
    (hOf : ∀ w, Calls Tryz.prog 49 #[.int .i64 op] w fun e w' => e = .returned (.agg #[.int .u8 69, .int .i64 o, .int .i64 a, .int .i64 c, .int .i64 (0)]) ∧ Below w.heap.size w w') (w : World) :
    Calls Tryz.prog 28 #[.agg #[.int .i64 op, .int .i64 rd, .int .i64 rs1, .int .i64 rs2, .int .i64 imm]] w fun e w' => e = .returned (res 7 o a c rd rs1 rs2 imm) ∧ Below w.heap.size w w' := by
  go_enter Tryz.func28, Tryz.ntmps28
  go_upto_region 1 with fail
  go_upto_region 2 with (go_at_call 49; refine (hOf _).mono ?_; rintro e w1 ⟨rfl, hb0⟩)
  have HI := Lib.hid (show w1.heap[w.heap.size]? = some (.cells #[.int .i64 op, .int .i64 rd, .int .i64 rs1, .int .i64 rs2, .int .i64 imm] 54 (0, 0)) from (hb0.block _ (by simp only [World.size_alloc]; omega)).trans (newAt _ _ _ rfl))
  obtain ⟨p0, p1, p2, p3, p4⟩ := cells5 HI.out
  have hlt : w.heap.size < w1.heap.size := by have := hb0.size; simp only [World.size_alloc] at this; omega
  have hb1 : Below w.heap.size w w1 := (CE.box0 w _).trans (hb0.mono (by simp only [World.size_alloc]; omega))
  clear hb0 hOf
  go_wp2
  go_wp2
  all_goals (try go_wp2_with (go_at_call 51; refine (word_ _ _ _ _ _ _ ho (by omega) ha (by omega) (by omega) (by omega) _).mono ?_; rintro e w3 ⟨rfl, rfl⟩))
  all_goals go_ret2
  all_goals refine ⟨?_, ?_⟩
  all_goals first
    | exact hbe
    | exact bdN hbe _
    | exact hb1.alloc hb1.size _
    | exact res2 (by simp_all [CM.bad2, CM.uRd, CM.uRs1, CM.uRs2, CM.uImm])
    | exact res1 (by simp_all [CM.bad2, CM.uRd, CM.uRs1, CM.uRs2, CM.uImm]) (by simp_all [CM.bad1, CM.isReg, CM.uRd, CM.uRs1, CM.uRs2, CM.uImm]; try omega)
    | exact res0 (by simp_all [CM.bad2, CM.uRd, CM.uRs1, CM.uRs2, CM.uImm]) (by simp_all [CM.bad1, CM.isReg, CM.uRd, CM.uRs1, CM.uRs2, CM.uImm]) (CM.word_E.symm)
set_option maxRecDepth 100000 in
set_option maxHeartbeats 8000000 in
theorem enc_H (op rd rs1 rs2 imm o a c : Int) (h1 : (Lit.int .i64 rd).wf = true) (h2 : (Lit.int .i64 rs1).wf = true) (h3 : (Lit.int .i64 rs2).wf = true) (h4 : (Lit.int .i64 imm).wf = true) (ho : 0 ≤ o ∧ o ≤ 127) (ha : 0 ≤ a ∧ a ≤ 7) (hc : 0 ≤ c ∧ c ≤ 127)
    (hOf : ∀ w, Calls Tryz.prog 49 #[.int .i64 op] w fun e w' => e = .returned (.agg #[.int .u8 72, .int .i64 o, .int .i64 a, .int .i64 c, .int .i64 (-1)]) ∧ Below w.heap.size w w') (w : World) :
    Calls Tryz.prog 28 #[.agg #[.int .i64 op, .int .i64 rd, .int .i64 rs1, .int .i64 rs2, .int .i64 imm]] w fun e w' => e = .returned (res 2 o a c rd rs1 rs2 imm) ∧ Below w.heap.size w w' := by
  have hF := fun w => CA.fits_ #[.int .u8 72, .int .i64 o, .int .i64 a, .int .i64 c, .int .i64 (-1)] 72 imm rfl w
  rw [show fl 72 imm = CM.fits 2 imm by (simp [fl, CM.fits, Bool.and_assoc]; try (rw [Bool.eq_iff_iff]; simp; omega))] at hF
  have hG := Lib.hid (show CM.fits 2 imm = true → 0 ≤ imm ∧ imm ≤ 31 from fun h => by simpa [CM.fits] using h)
  generalize hB : CM.fits 2 imm = B at hF hG
  go_enter Tryz.func28, Tryz.ntmps28
  go_upto_region 1 with fail
  go_upto_region 2 with (go_at_call 49; refine (hOf _).mono ?_; rintro e w1 ⟨rfl, hb0⟩)
  have HI := Lib.hid (show w1.heap[w.heap.size]? = some (.cells #[.int .i64 op, .int .i64 rd, .int .i64 rs1, .int .i64 rs2, .int .i64 imm] 54 (0, 0)) from (hb0.block _ (by simp only [World.size_alloc]; omega)).trans (newAt _ _ _ rfl))
  obtain ⟨p0, p1, p2, p3, p4⟩ := cells5 HI.out
  have hlt : w.heap.size < w1.heap.size := by have := hb0.size; simp only [World.size_alloc] at this; omega
  have hb1 : Below w.heap.size w w1 := (CE.box0 w _).trans (hb0.mono (by simp only [World.size_alloc]; omega))
  clear hb0 hOf
  go_wp2_with (go_at_call 50; refine (hF _).mono ?_; rintro e w2 ⟨rfl, hb2⟩; have hbe := bel2 hb1 hb2; have hlt2 := lt_of_get (new2 hb2); obtain ⟨r0, r1, r2, r3, r4⟩ := cells5 (kept2 HI.out hb2); obtain ⟨q0, q1, q2, q3, q4⟩ := cells5 (new2 hb2))
  all_goals (try go_wp2_with (go_at_call 50; refine (hF _).mono ?_; rintro e w2 ⟨rfl, hb2⟩; have hbe := bel2 hb1 hb2; have hlt2 := lt_of_get (new2 hb2); obtain ⟨r0, r1, r2, r3, r4⟩ := cells5 (kept2 HI.out hb2); obtain ⟨q0, q1, q2, q3, q4⟩ := cells5 (new2 hb2)))
  all_goals (try go_wp2_with (go_at_call 50; refine (hF _).mono ?_; rintro e w2 ⟨rfl, hb2⟩; have hbe := bel2 hb1 hb2; have hlt2 := lt_of_get (new2 hb2); obtain ⟨r0, r1, r2, r3, r4⟩ := cells5 (kept2 HI.out hb2); obtain ⟨q0, q1, q2, q3, q4⟩ := cells5 (new2 hb2)))
  all_goals (try go_wp2_with (first | (go_at_call 50; refine (hF _).mono ?_; rintro e w2 ⟨rfl, hb2⟩; have hbe := bel2 hb1 hb2; have hlt2 := lt_of_get (new2 hb2); obtain ⟨r0, r1, r2, r3, r4⟩ := cells5 (kept2 HI.out hb2); obtain ⟨q0, q1, q2, q3, q4⟩ := cells5 (new2 hb2)) | (go_at_call 51; (try (have hi := hG.out (by first | assumption | (simpa using ‹(!B) = false›)))); refine (word_ _ _ _ _ _ _ ho (by omega) ha (by omega) (by omega) (by omega) _).mono ?_; rintro e w3 ⟨rfl, rfl⟩)))
  all_goals (try go_wp2_with (first | (go_at_call 50; refine (hF _).mono ?_; rintro e w2 ⟨rfl, hb2⟩; have hbe := bel2 hb1 hb2; have hlt2 := lt_of_get (new2 hb2); obtain ⟨r0, r1, r2, r3, r4⟩ := cells5 (kept2 HI.out hb2); obtain ⟨q0, q1, q2, q3, q4⟩ := cells5 (new2 hb2)) | (go_at_call 51; (try (have hi := hG.out (by first | assumption | (simpa using ‹(!B) = false›)))); refine (word_ _ _ _ _ _ _ ho (by omega) ha (by omega) (by omega) (by omega) _).mono ?_; rintro e w3 ⟨rfl, rfl⟩)))
  all_goals go_ret2
  all_goals refine ⟨?_, ?_⟩
  all_goals first
    | exact hbe
    | exact bdN hbe _
    | exact hb1.alloc hb1.size _
    | exact res2 (by simp_all [CM.bad2, CM.uRd, CM.uRs1, CM.uRs2, CM.uImm])
    | exact res1 (by simp_all [CM.bad2, CM.uRd, CM.uRs1, CM.uRs2, CM.uImm]) (by simp_all [CM.bad1, CM.isReg, CM.uRd, CM.uRs1, CM.uRs2, CM.uImm]; try omega)
    | exact res0 (by simp_all [CM.bad2, CM.uRd, CM.uRs1, CM.uRs2, CM.uImm]) (by simp_all [CM.bad1, CM.isReg, CM.uRd, CM.uRs1, CM.uRs2, CM.uImm]) (CM.word_H.symm)
set_option maxRecDepth 100000 in
set_option maxHeartbeats 8000000 in
theorem enc_U (op rd rs1 rs2 imm o a c : Int) (h1 : (Lit.int .i64 rd).wf = true) (h2 : (Lit.int .i64 rs1).wf = true) (h3 : (Lit.int .i64 rs2).wf = true) (h4 : (Lit.int .i64 imm).wf = true) (ho : 0 ≤ o ∧ o ≤ 127) (ha : 0 ≤ a ∧ a ≤ 7) (hc : 0 ≤ c ∧ c ≤ 127)
    (hOf : ∀ w, Calls Tryz.prog 49 #[.int .i64 op] w fun e w' => e = .returned (.agg #[.int .u8 85, .int .i64 o, .int .i64 a, .int .i64 c, .int .i64 (-1)]) ∧ Below w.heap.size w w') (w : World) :
    Calls Tryz.prog 28 #[.agg #[.int .i64 op, .int .i64 rd, .int .i64 rs1, .int .i64 rs2, .int .i64 imm]] w fun e w' => e = .returned (res 5 o a c rd rs1 rs2 imm) ∧ Below w.heap.size w w' := by
  have hF := fun w => CA.fits_ #[.int .u8 85, .int .i64 o, .int .i64 a, .int .i64 c, .int .i64 (-1)] 85 imm rfl w
  rw [show fl 85 imm = CM.fits 5 imm by (simp [fl, CM.fits, Bool.and_assoc]; try (rw [Bool.eq_iff_iff]; simp; omega))] at hF
  have hG := Lib.hid (show CM.fits 5 imm = true → 0 ≤ imm ∧ imm ≤ 1048575 from fun h => by simpa [CM.fits] using h)
  generalize hB : CM.fits 5 imm = B at hF hG
  go_enter Tryz.func28, Tryz.ntmps28
  go_upto_region 1 with fail
  go_upto_region 2 with (go_at_call 49; refine (hOf _).mono ?_; rintro e w1 ⟨rfl, hb0⟩)
  have HI := Lib.hid (show w1.heap[w.heap.size]? = some (.cells #[.int .i64 op, .int .i64 rd, .int .i64 rs1, .int .i64 rs2, .int .i64 imm] 54 (0, 0)) from (hb0.block _ (by simp only [World.size_alloc]; omega)).trans (newAt _ _ _ rfl))
  obtain ⟨p0, p1, p2, p3, p4⟩ := cells5 HI.out
  have hlt : w.heap.size < w1.heap.size := by have := hb0.size; simp only [World.size_alloc] at this; omega
  have hb1 : Below w.heap.size w w1 := (CE.box0 w _).trans (hb0.mono (by simp only [World.size_alloc]; omega))
  clear hb0 hOf
  go_wp2_with (go_at_call 50; refine (hF _).mono ?_; rintro e w2 ⟨rfl, hb2⟩; have hbe := bel2 hb1 hb2; have hlt2 := lt_of_get (new2 hb2); obtain ⟨r0, r1, r2, r3, r4⟩ := cells5 (kept2 HI.out hb2); obtain ⟨q0, q1, q2, q3, q4⟩ := cells5 (new2 hb2))
  all_goals (try go_wp2_with (go_at_call 50; refine (hF _).mono ?_; rintro e w2 ⟨rfl, hb2⟩; have hbe := bel2 hb1 hb2; have hlt2 := lt_of_get (new2 hb2); obtain ⟨r0, r1, r2, r3, r4⟩ := cells5 (kept2 HI.out hb2); obtain ⟨q0, q1, q2, q3, q4⟩ := cells5 (new2 hb2)))
  all_goals (try go_wp2_with (go_at_call 50; refine (hF _).mono ?_; rintro e w2 ⟨rfl, hb2⟩; have hbe := bel2 hb1 hb2; have hlt2 := lt_of_get (new2 hb2); obtain ⟨r0, r1, r2, r3, r4⟩ := cells5 (kept2 HI.out hb2); obtain ⟨q0, q1, q2, q3, q4⟩ := cells5 (new2 hb2)))
  all_goals (try go_wp2_with (first | (go_at_call 50; refine (hF _).mono ?_; rintro e w2 ⟨rfl, hb2⟩; have hbe := bel2 hb1 hb2; have hlt2 := lt_of_get (new2 hb2); obtain ⟨r0, r1, r2, r3, r4⟩ := cells5 (kept2 HI.out hb2); obtain ⟨q0, q1, q2, q3, q4⟩ := cells5 (new2 hb2)) | (go_at_call 51; (try (have hi := hG.out (by first | assumption | (simpa using ‹(!B) = false›)))); refine (word_ _ _ _ _ _ _ ho (by omega) ha (by omega) (by omega) (by omega) _).mono ?_; rintro e w3 ⟨rfl, rfl⟩)))
  all_goals (try go_wp2_with (first | (go_at_call 50; refine (hF _).mono ?_; rintro e w2 ⟨rfl, hb2⟩; have hbe := bel2 hb1 hb2; have hlt2 := lt_of_get (new2 hb2); obtain ⟨r0, r1, r2, r3, r4⟩ := cells5 (kept2 HI.out hb2); obtain ⟨q0, q1, q2, q3, q4⟩ := cells5 (new2 hb2)) | (go_at_call 51; (try (have hi := hG.out (by first | assumption | (simpa using ‹(!B) = false›)))); refine (word_ _ _ _ _ _ _ ho (by omega) ha (by omega) (by omega) (by omega) _).mono ?_; rintro e w3 ⟨rfl, rfl⟩)))
  all_goals go_ret2
  all_goals refine ⟨?_, ?_⟩
  all_goals first
    | exact hbe
    | exact bdN hbe _
    | exact hb1.alloc hb1.size _
    | exact res2 (by simp_all [CM.bad2, CM.uRd, CM.uRs1, CM.uRs2, CM.uImm])
    | exact res1 (by simp_all [CM.bad2, CM.uRd, CM.uRs1, CM.uRs2, CM.uImm]) (by simp_all [CM.bad1, CM.isReg, CM.uRd, CM.uRs1, CM.uRs2, CM.uImm]; try omega)
    | exact res0 (by simp_all [CM.bad2, CM.uRd, CM.uRs1, CM.uRs2, CM.uImm]) (by simp_all [CM.bad1, CM.isReg, CM.uRd, CM.uRs1, CM.uRs2, CM.uImm]) (by have hi := hG.out (by first | assumption | (simpa using ‹(!B) = false›)); rw [CM.word_U]; unfold wrap64; omega)
set_option maxRecDepth 100000 in
set_option maxHeartbeats 8000000 in
theorem enc_I (op rd rs1 rs2 imm o a c : Int) (h1 : (Lit.int .i64 rd).wf = true) (h2 : (Lit.int .i64 rs1).wf = true) (h3 : (Lit.int .i64 rs2).wf = true) (h4 : (Lit.int .i64 imm).wf = true) (ho : 0 ≤ o ∧ o ≤ 127) (ha : 0 ≤ a ∧ a ≤ 7) (hc : 0 ≤ c ∧ c ≤ 127)
    (hOf : ∀ w, Calls Tryz.prog 49 #[.int .i64 op] w fun e w' => e = .returned (.agg #[.int .u8 73, .int .i64 o, .int .i64 a, .int .i64 c, .int .i64 (-1)]) ∧ Below w.heap.size w w') (w : World) :
    Calls Tryz.prog 28 #[.agg #[.int .i64 op, .int .i64 rd, .int .i64 rs1, .int .i64 rs2, .int .i64 imm]] w fun e w' => e = .returned (res 1 o a c rd rs1 rs2 imm) ∧ Below w.heap.size w w' := by
  have hF := fun w => CA.fits_ #[.int .u8 73, .int .i64 o, .int .i64 a, .int .i64 c, .int .i64 (-1)] 73 imm rfl w
  rw [show fl 73 imm = CM.fits 1 imm by (simp [fl, CM.fits, Bool.and_assoc]; try (rw [Bool.eq_iff_iff]; simp; omega))] at hF
  have hG := Lib.hid (show CM.fits 1 imm = true → -2048 ≤ imm ∧ imm ≤ 2047 from fun h => by simpa [CM.fits] using h)
  generalize hB : CM.fits 1 imm = B at hF hG
  have f0_5 : ∀ w, Calls Tryz.prog 52 #[.int .i64 imm, .int .i64 0, .int .i64 5] w fun e w' => e = .returned (.int .i64 (imm % 32)) ∧ w' = w := fun w => by rw [← Int.ediv_one imm]; rw [Int.ediv_one imm]; simpa using field_at imm h4 0 5 (by decide) (by decide) 1 32 (by decide) (by decide) w
  have f5_7 : ∀ w, Calls Tryz.prog 52 #[.int .i64 imm, .int .i64 5, .int .i64 7] w fun e w' => e = .returned (.int .i64 (imm / 32 % 128)) ∧ w' = w := fun w => field_at imm h4 5 7 (by decide) (by decide) 32 128 (by decide) (by decide) w
  go_enter Tryz.func28, Tryz.ntmps28
  go_upto_region 1 with fail
  go_upto_region 2 with (go_at_call 49; refine (hOf _).mono ?_; rintro e w1 ⟨rfl, hb0⟩)
  have HI := Lib.hid (show w1.heap[w.heap.size]? = some (.cells #[.int .i64 op, .int .i64 rd, .int .i64 rs1, .int .i64 rs2, .int .i64 imm] 54 (0, 0)) from (hb0.block _ (by simp only [World.size_alloc]; omega)).trans (newAt _ _ _ rfl))
  obtain ⟨p0, p1, p2, p3, p4⟩ := cells5 HI.out
  have hlt : w.heap.size < w1.heap.size := by have := hb0.size; simp only [World.size_alloc] at this; omega
  have hb1 : Below w.heap.size w w1 := (CE.box0 w _).trans (hb0.mono (by simp only [World.size_alloc]; omega))
  clear hb0 hOf
  go_wp2_with (go_at_call 50; refine (hF _).mono ?_; rintro e w2 ⟨rfl, hb2⟩; have hbe := bel2 hb1 hb2; have hlt2 := lt_of_get (new2 hb2); obtain ⟨r0, r1, r2, r3, r4⟩ := cells5 (kept2 HI.out hb2); obtain ⟨q0, q1, q2, q3, q4⟩ := cells5 (new2 hb2))
  all_goals (try go_wp2_with (go_at_call 50; refine (hF _).mono ?_; rintro e w2 ⟨rfl, hb2⟩; have hbe := bel2 hb1 hb2; have hlt2 := lt_of_get (new2 hb2); obtain ⟨r0, r1, r2, r3, r4⟩ := cells5 (kept2 HI.out hb2); obtain ⟨q0, q1, q2, q3, q4⟩ := cells5 (new2 hb2)))
  all_goals (try go_wp2_with (go_at_call 50; refine (hF _).mono ?_; rintro e w2 ⟨rfl, hb2⟩; have hbe := bel2 hb1 hb2; have hlt2 := lt_of_get (new2 hb2); obtain ⟨r0, r1, r2, r3, r4⟩ := cells5 (kept2 HI.out hb2); obtain ⟨q0, q1, q2, q3, q4⟩ := cells5 (new2 hb2)))
  all_goals (try go_wp2_with (first | (go_at_call 50; refine (hF _).mono ?_; rintro e w2 ⟨rfl, hb2⟩; have hbe := bel2 hb1 hb2; have hlt2 := lt_of_get (new2 hb2); obtain ⟨r0, r1, r2, r3, r4⟩ := cells5 (kept2 HI.out hb2); obtain ⟨q0, q1, q2, q3, q4⟩ := cells5 (new2 hb2)) | (go_at_call 51; (try (have hi := hG.out (by first | assumption | (simpa using ‹(!B) = false›)))); refine (word_ _ _ _ _ _ _ ho (by omega) ha (by omega) (by omega) (by omega) _).mono ?_; rintro e w3 ⟨rfl, rfl⟩)))
  all_goals (try go_wp2_with (first | (go_at_call 50; refine (hF _).mono ?_; rintro e w2 ⟨rfl, hb2⟩; have hbe := bel2 hb1 hb2; have hlt2 := lt_of_get (new2 hb2); obtain ⟨r0, r1, r2, r3, r4⟩ := cells5 (kept2 HI.out hb2); obtain ⟨q0, q1, q2, q3, q4⟩ := cells5 (new2 hb2)) | (go_at_call 51; (try (have hi := hG.out (by first | assumption | (simpa using ‹(!B) = false›)))); refine (word_ _ _ _ _ _ _ ho (by omega) ha (by omega) (by omega) (by omega) _).mono ?_; rintro e w3 ⟨rfl, rfl⟩)))
  all_goals (try (have hi := hG.out (by first | assumption | (simpa using ‹(!B) = false›)); go_quiet ((first | (go_at_call 52; with_reducible exact Calls.quiet_of_same (f0_5 _)) | (go_at_call 52; with_reducible exact Calls.quiet_of_same (f5_7 _)) | (go_at_call 51; (with_reducible refine Calls.quiet_of_same (word_ _ _ _ _ _ _ ho ?_ ha ?_ ?_ ?_ _)) <;> omega))); go_wp2))
  all_goals go_ret2
  all_goals refine ⟨?_, ?_⟩
  all_goals first
    | exact hbe
    | exact bdN hbe _
    | exact hb1.alloc hb1.size _
    | exact res2 (by simp_all [CM.bad2, CM.uRd, CM.uRs1, CM.uRs2, CM.uImm])
    | exact res1 (by simp_all [CM.bad2, CM.uRd, CM.uRs1, CM.uRs2, CM.uImm]) (by simp_all [CM.bad1, CM.isReg, CM.uRd, CM.uRs1, CM.uRs2, CM.uImm]; try omega)
    | exact res0 (by simp_all [CM.bad2, CM.uRd, CM.uRs1, CM.uRs2, CM.uImm]) (by simp_all [CM.bad1, CM.isReg, CM.uRd, CM.uRs1, CM.uRs2, CM.uImm]) (CM.word_I.symm)
set_option maxRecDepth 100000 in
set_option maxHeartbeats 8000000 in
theorem enc_S (op rd rs1 rs2 imm o a c : Int) (h1 : (Lit.int .i64 rd).wf = true) (h2 : (Lit.int .i64 rs1).wf = true) (h3 : (Lit.int .i64 rs2).wf = true) (h4 : (Lit.int .i64 imm).wf = true) (ho : 0 ≤ o ∧ o ≤ 127) (ha : 0 ≤ a ∧ a ≤ 7) (hc : 0 ≤ c ∧ c ≤ 127)
    (hOf : ∀ w, Calls Tryz.prog 49 #[.int .i64 op] w fun e w' => e = .returned (.agg #[.int .u8 83, .int .i64 o, .int .i64 a, .int .i64 c, .int .i64 (-1)]) ∧ Below w.heap.size w w') (w : World) :
    Calls Tryz.prog 28 #[.agg #[.int .i64 op, .int .i64 rd, .int .i64 rs1, .int .i64 rs2, .int .i64 imm]] w fun e w' => e = .returned (res 3 o a c rd rs1 rs2 imm) ∧ Below w.heap.size w w' := by
  have hF := fun w => CA.fits_ #[.int .u8 83, .int .i64 o, .int .i64 a, .int .i64 c, .int .i64 (-1)] 83 imm rfl w
  rw [show fl 83 imm = CM.fits 3 imm by (simp [fl, CM.fits, Bool.and_assoc]; try (rw [Bool.eq_iff_iff]; simp; omega))] at hF
  have hG := Lib.hid (show CM.fits 3 imm = true → -2048 ≤ imm ∧ imm ≤ 2047 from fun h => by simpa [CM.fits] using h)
  generalize hB : CM.fits 3 imm = B at hF hG
  have f0_5 : ∀ w, Calls Tryz.prog 52 #[.int .i64 imm, .int .i64 0, .int .i64 5] w fun e w' => e = .returned (.int .i64 (imm % 32)) ∧ w' = w := fun w => by rw [← Int.ediv_one imm]; rw [Int.ediv_one imm]; simpa using field_at imm h4 0 5 (by decide) (by decide) 1 32 (by decide) (by decide) w
  have f5_7 : ∀ w, Calls Tryz.prog 52 #[.int .i64 imm, .int .i64 5, .int .i64 7] w fun e w' => e = .returned (.int .i64 (imm / 32 % 128)) ∧ w' = w := fun w => field_at imm h4 5 7 (by decide) (by decide) 32 128 (by decide) (by decide) w
  go_enter Tryz.func28, Tryz.ntmps28
  go_upto_region 1 with fail
  go_upto_region 2 with (go_at_call 49; refine (hOf _).mono ?_; rintro e w1 ⟨rfl, hb0⟩)
  have HI := Lib.hid (show w1.heap[w.heap.size]? = some (.cells #[.int .i64 op, .int .i64 rd, .int .i64 rs1, .int .i64 rs2, .int .i64 imm] 54 (0, 0)) from (hb0.block _ (by simp only [World.size_alloc]; omega)).trans (newAt _ _ _ rfl))
  obtain ⟨p0, p1, p2, p3, p4⟩ := cells5 HI.out
  have hlt : w.heap.size < w1.heap.size := by have := hb0.size; simp only [World.size_alloc] at this; omega
  have hb1 : Below w.heap.size w w1 := (CE.box0 w _).trans (hb0.mono (by simp only [World.size_alloc]; omega))
  clear hb0 hOf
  go_wp2_with (go_at_call 50; refine (hF _).mono ?_; rintro e w2 ⟨rfl, hb2⟩; have hbe := bel2 hb1 hb2; have hlt2 := lt_of_get (new2 hb2); obtain ⟨r0, r1, r2, r3, r4⟩ := cells5 (kept2 HI.out hb2); obtain ⟨q0, q1, q2, q3, q4⟩ := cells5 (new2 hb2))
  all_goals (try go_wp2_with (go_at_call 50; refine (hF _).mono ?_; rintro e w2 ⟨rfl, hb2⟩; have hbe := bel2 hb1 hb2; have hlt2 := lt_of_get (new2 hb2); obtain ⟨r0, r1, r2, r3, r4⟩ := cells5 (kept2 HI.out hb2); obtain ⟨q0, q1, q2, q3, q4⟩ := cells5 (new2 hb2)))
  all_goals (try go_wp2_with (go_at_call 50; refine (hF _).mono ?_; rintro e w2 ⟨rfl, hb2⟩; have hbe := bel2 hb1 hb2; have hlt2 := lt_of_get (new2 hb2); obtain ⟨r0, r1, r2, r3, r4⟩ := cells5 (kept2 HI.out hb2); obtain ⟨q0, q1, q2, q3, q4⟩ := cells5 (new2 hb2)))
  all_goals (try go_wp2_with (first | (go_at_call 50; refine (hF _).mono ?_; rintro e w2 ⟨rfl, hb2⟩; have hbe := bel2 hb1 hb2; have hlt2 := lt_of_get (new2 hb2); obtain ⟨r0, r1, r2, r3, r4⟩ := cells5 (kept2 HI.out hb2); obtain ⟨q0, q1, q2, q3, q4⟩ := cells5 (new2 hb2)) | (go_at_call 51; (try (have hi := hG.out (by first | assumption | (simpa using ‹(!B) = false›)))); refine (word_ _ _ _ _ _ _ ho (by omega) ha (by omega) (by omega) (by omega) _).mono ?_; rintro e w3 ⟨rfl, rfl⟩)))
  all_goals (try go_wp2_with (first | (go_at_call 50; refine (hF _).mono ?_; rintro e w2 ⟨rfl, hb2⟩; have hbe := bel2 hb1 hb2; have hlt2 := lt_of_get (new2 hb2); obtain ⟨r0, r1, r2, r3, r4⟩ := cells5 (kept2 HI.out hb2); obtain ⟨q0, q1, q2, q3, q4⟩ := cells5 (new2 hb2)) | (go_at_call 51; (try (have hi := hG.out (by first | assumption | (simpa using ‹(!B) = false›)))); refine (word_ _ _ _ _ _ _ ho (by omega) ha (by omega) (by omega) (by omega) _).mono ?_; rintro e w3 ⟨rfl, rfl⟩)))
  all_goals (try (have hi := hG.out (by first | assumption | (simpa using ‹(!B) = false›)); go_quiet ((first | (go_at_call 52; with_reducible exact Calls.quiet_of_same (f0_5 _)) | (go_at_call 52; with_reducible exact Calls.quiet_of_same (f5_7 _)) | (go_at_call 51; (with_reducible refine Calls.quiet_of_same (word_ _ _ _ _ _ _ ho ?_ ha ?_ ?_ ?_ _)) <;> omega))); go_wp2))
  all_goals go_ret2
  all_goals refine ⟨?_, ?_⟩
  all_goals first
    | exact hbe
    | exact bdN hbe _
    | exact hb1.alloc hb1.size _
    | exact res2 (by simp_all [CM.bad2, CM.uRd, CM.uRs1, CM.uRs2, CM.uImm])
    | exact res1 (by simp_all [CM.bad2, CM.uRd, CM.uRs1, CM.uRs2, CM.uImm]) (by simp_all [CM.bad1, CM.isReg, CM.uRd, CM.uRs1, CM.uRs2, CM.uImm]; try omega)
    | exact res0 (by simp_all [CM.bad2, CM.uRd, CM.uRs1, CM.uRs2, CM.uImm]) (by simp_all [CM.bad1, CM.isReg, CM.uRd, CM.uRs1, CM.uRs2, CM.uImm]) (CM.word_S.symm)
set_option maxRecDepth 100000 in
set_option maxHeartbeats 8000000 in
theorem enc_B (op rd rs1 rs2 imm o a c : Int) (h1 : (Lit.int .i64 rd).wf = true) (h2 : (Lit.int .i64 rs1).wf = true) (h3 : (Lit.int .i64 rs2).wf = true) (h4 : (Lit.int .i64 imm).wf = true) (ho : 0 ≤ o ∧ o ≤ 127) (ha : 0 ≤ a ∧ a ≤ 7) (hc : 0 ≤ c ∧ c ≤ 127)
    (hOf : ∀ w, Calls Tryz.prog 49 #[.int .i64 op] w fun e w' => e = .returned (.agg #[.int .u8 66, .int .i64 o, .int .i64 a, .int .i64 c, .int .i64 (-1)]) ∧ Below w.heap.size w w') (w : World) :
    Calls Tryz.prog 28 #[.agg #[.int .i64 op, .int .i64 rd, .int .i64 rs1, .int .i64 rs2, .int .i64 imm]] w fun e w' => e = .returned (res 4 o a c rd rs1 rs2 imm) ∧ Below w.heap.size w w' := by
  have hF := fun w => CA.fits_ #[.int .u8 66, .int .i64 o, .int .i64 a, .int .i64 c, .int .i64 (-1)] 66 imm rfl w
  rw [show fl 66 imm = CM.fits 4 imm by (simp [fl, CM.fits, Bool.and_assoc]; try (rw [Bool.eq_iff_iff]; simp; omega))] at hF
  have hG := Lib.hid (show CM.fits 4 imm = true → -4096 ≤ imm ∧ imm ≤ 4094 ∧ imm % 2 = 0 from fun h => by simpa [CM.fits] using h)
  generalize hB : CM.fits 4 imm = B at hF hG
  have f11_1 : ∀ w, Calls Tryz.prog 52 #[.int .i64 imm, .int .i64 11, .int .i64 1] w fun e w' => e = .returned (.int .i64 (imm / 2048 % 2)) ∧ w' = w := fun w => field_at imm h4 11 1 (by decide) (by decide) 2048 2 (by decide) (by decide) w
  have f1_4 : ∀ w, Calls Tryz.prog 52 #[.int .i64 imm, .int .i64 1, .int .i64 4] w fun e w' => e = .returned (.int .i64 (imm / 2 % 16)) ∧ w' = w := fun w => field_at imm h4 1 4 (by decide) (by decide) 2 16 (by decide) (by decide) w
  have f5_6 : ∀ w, Calls Tryz.prog 52 #[.int .i64 imm, .int .i64 5, .int .i64 6] w fun e w' => e = .returned (.int .i64 (imm / 32 % 64)) ∧ w' = w := fun w => field_at imm h4 5 6 (by decide) (by decide) 32 64 (by decide) (by decide) w
  have f12_1 : ∀ w, Calls Tryz.prog 52 #[.int .i64 imm, .int .i64 12, .int .i64 1] w fun e w' => e = .returned (.int .i64 (imm / 4096 % 2)) ∧ w' = w := fun w => field_at imm h4 12 1 (by decide) (by decide) 4096 2 (by decide) (by decide) w
  obtain ⟨x0, hx0⟩ : ∃ x, imm / 2048 % 2 = x := ⟨_, rfl⟩
  rw [hx0] at f11_1
  have bx0 : 0 ≤ x0 ∧ x0 ≤ 1 := by rw [← hx0]; omega
  have HX0 := Lib.hid hx0
  clear hx0
  obtain ⟨x1, hx1⟩ : ∃ x, imm / 2 % 16 = x := ⟨_, rfl⟩
  rw [hx1] at f1_4
  have bx1 : 0 ≤ x1 ∧ x1 ≤ 15 := by rw [← hx1]; omega
  have HX1 := Lib.hid hx1
  clear hx1
  obtain ⟨x2, hx2⟩ : ∃ x, imm / 32 % 64 = x := ⟨_, rfl⟩
  rw [hx2] at f5_6
  have bx2 : 0 ≤ x2 ∧ x2 ≤ 63 := by rw [← hx2]; omega
  have HX2 := Lib.hid hx2
  clear hx2
  obtain ⟨x3, hx3⟩ : ∃ x, imm / 4096 % 2 = x := ⟨_, rfl⟩
  rw [hx3] at f12_1
  have bx3 : 0 ≤ x3 ∧ x3 ≤ 1 := by rw [← hx3]; omega
  have HX3 := Lib.hid hx3
  clear hx3
  go_enter Tryz.func28, Tryz.ntmps28
  go_upto_region 1 with fail
  go_upto_region 2 with (go_at_call 49; refine (hOf _).mono ?_; rintro e w1 ⟨rfl, hb0⟩)
  have HI := Lib.hid (show w1.heap[w.heap.size]? = some (.cells #[.int .i64 op, .int .i64 rd, .int .i64 rs1, .int .i64 rs2, .int .i64 imm] 54 (0, 0)) from (hb0.block _ (by simp only [World.size_alloc]; omega)).trans (newAt _ _ _ rfl))
  obtain ⟨p0, p1, p2, p3, p4⟩ := cells5 HI.out
  have hlt : w.heap.size < w1.heap.size := by have := hb0.size; simp only [World.size_alloc] at this; omega
  have hb1 : Below w.heap.size w w1 := (CE.box0 w _).trans (hb0.mono (by simp only [World.size_alloc]; omega))
  clear hb0 hOf
  go_wp2_with (go_at_call 50; refine (hF _).mono ?_; rintro e w2 ⟨rfl, hb2⟩; have hbe := bel2 hb1 hb2; have hlt2 := lt_of_get (new2 hb2); obtain ⟨r0, r1, r2, r3, r4⟩ := cells5 (kept2 HI.out hb2); obtain ⟨q0, q1, q2, q3, q4⟩ := cells5 (new2 hb2))
  all_goals (try go_wp2_with (go_at_call 50; refine (hF _).mono ?_; rintro e w2 ⟨rfl, hb2⟩; have hbe := bel2 hb1 hb2; have hlt2 := lt_of_get (new2 hb2); obtain ⟨r0, r1, r2, r3, r4⟩ := cells5 (kept2 HI.out hb2); obtain ⟨q0, q1, q2, q3, q4⟩ := cells5 (new2 hb2)))
  all_goals (try go_wp2_with (go_at_call 50; refine (hF _).mono ?_; rintro e w2 ⟨rfl, hb2⟩; have hbe := bel2 hb1 hb2; have hlt2 := lt_of_get (new2 hb2); obtain ⟨r0, r1, r2, r3, r4⟩ := cells5 (kept2 HI.out hb2); obtain ⟨q0, q1, q2, q3, q4⟩ := cells5 (new2 hb2)))
  all_goals (try go_wp2_with (first | (go_at_call 50; refine (hF _).mono ?_; rintro e w2 ⟨rfl, hb2⟩; have hbe := bel2 hb1 hb2; have hlt2 := lt_of_get (new2 hb2); obtain ⟨r0, r1, r2, r3, r4⟩ := cells5 (kept2 HI.out hb2); obtain ⟨q0, q1, q2, q3, q4⟩ := cells5 (new2 hb2)) | (go_at_call 51; (try (have hi := hG.out (by first | assumption | (simpa using ‹(!B) = false›)))); refine (word_ _ _ _ _ _ _ ho (by omega) ha (by omega) (by omega) (by omega) _).mono ?_; rintro e w3 ⟨rfl, rfl⟩)))
  all_goals (try go_wp2_with (first | (go_at_call 50; refine (hF _).mono ?_; rintro e w2 ⟨rfl, hb2⟩; have hbe := bel2 hb1 hb2; have hlt2 := lt_of_get (new2 hb2); obtain ⟨r0, r1, r2, r3, r4⟩ := cells5 (kept2 HI.out hb2); obtain ⟨q0, q1, q2, q3, q4⟩ := cells5 (new2 hb2)) | (go_at_call 51; (try (have hi := hG.out (by first | assumption | (simpa using ‹(!B) = false›)))); refine (word_ _ _ _ _ _ _ ho (by omega) ha (by omega) (by omega) (by omega) _).mono ?_; rintro e w3 ⟨rfl, rfl⟩)))
  all_goals (try (have hi := hG.out (by first | assumption | (simpa using ‹(!B) = false›)); have hw := fun w => word_ o (x0 + 2 * x1) a rs1 rs2 (x2 + 64 * x3) ho (by omega) ha (by omega) (by omega) (by omega) w; have v0 := (IntWalk.i64_in (2 * x1) (by omega)); have v1 := (IntWalk.i64_in (x0 + 2 * x1) (by omega)); have v2 := (IntWalk.i64_in (64 * x3) (by omega)); have v3 := (IntWalk.i64_in (x2 + 64 * x3) (by omega)); go_quiet ((first | (go_at_call 52; with_reducible exact Calls.quiet_of_same (f11_1 _)) | (go_at_call 52; with_reducible exact Calls.quiet_of_same (f1_4 _)) | (go_at_call 52; with_reducible exact Calls.quiet_of_same (f5_6 _)) | (go_at_call 52; with_reducible exact Calls.quiet_of_same (f12_1 _)) | (go_at_call 51; with_reducible exact Calls.quiet_of_same (hw _)))); clear v0 v1 v2 v3; go_wp2))
  all_goals go_ret2
  all_goals refine ⟨?_, ?_⟩
  all_goals first
    | exact hbe
    | exact bdN hbe _
    | exact hb1.alloc hb1.size _
    | exact res2 (by simp_all [CM.bad2, CM.uRd, CM.uRs1, CM.uRs2, CM.uImm])
    | exact res1 (by simp_all [CM.bad2, CM.uRd, CM.uRs1, CM.uRs2, CM.uImm]) (by simp_all [CM.bad1, CM.isReg, CM.uRd, CM.uRs1, CM.uRs2, CM.uImm]; try omega)
    | exact res0 (by simp_all [CM.bad2, CM.uRd, CM.uRs1, CM.uRs2, CM.uImm]) (by simp_all [CM.bad1, CM.isReg, CM.uRd, CM.uRs1, CM.uRs2, CM.uImm]) (by rw [CM.word_B]; simp only [HX0.out, HX1.out, HX2.out, HX3.out])
set_option maxRecDepth 100000 in
set_option maxHeartbeats 8000000 in
theorem enc_J (op rd rs1 rs2 imm o a c : Int) (h1 : (Lit.int .i64 rd).wf = true) (h2 : (Lit.int .i64 rs1).wf = true) (h3 : (Lit.int .i64 rs2).wf = true) (h4 : (Lit.int .i64 imm).wf = true) (ho : 0 ≤ o ∧ o ≤ 127) (ha : 0 ≤ a ∧ a ≤ 7) (hc : 0 ≤ c ∧ c ≤ 127)
    (hOf : ∀ w, Calls Tryz.prog 49 #[.int .i64 op] w fun e w' => e = .returned (.agg #[.int .u8 74, .int .i64 o, .int .i64 a, .int .i64 c, .int .i64 (-1)]) ∧ Below w.heap.size w w') (w : World) :
    Calls Tryz.prog 28 #[.agg #[.int .i64 op, .int .i64 rd, .int .i64 rs1, .int .i64 rs2, .int .i64 imm]] w fun e w' => e = .returned (res 6 o a c rd rs1 rs2 imm) ∧ Below w.heap.size w w' := by
  have hF := fun w => CA.fits_ #[.int .u8 74, .int .i64 o, .int .i64 a, .int .i64 c, .int .i64 (-1)] 74 imm rfl w
  rw [show fl 74 imm = CM.fits 6 imm by (simp [fl, CM.fits, Bool.and_assoc]; try (rw [Bool.eq_iff_iff]; simp; omega))] at hF
  have hG := Lib.hid (show CM.fits 6 imm = true → -1048576 ≤ imm ∧ imm ≤ 1048574 ∧ imm % 2 = 0 from fun h => by simpa [CM.fits] using h)
  generalize hB : CM.fits 6 imm = B at hF hG
  have f12_8 : ∀ w, Calls Tryz.prog 52 #[.int .i64 imm, .int .i64 12, .int .i64 8] w fun e w' => e = .returned (.int .i64 (imm / 4096 % 256)) ∧ w' = w := fun w => field_at imm h4 12 8 (by decide) (by decide) 4096 256 (by decide) (by decide) w
  have f11_1 : ∀ w, Calls Tryz.prog 52 #[.int .i64 imm, .int .i64 11, .int .i64 1] w fun e w' => e = .returned (.int .i64 (imm / 2048 % 2)) ∧ w' = w := fun w => field_at imm h4 11 1 (by decide) (by decide) 2048 2 (by decide) (by decide) w
  have f1_10 : ∀ w, Calls Tryz.prog 52 #[.int .i64 imm, .int .i64 1, .int .i64 10] w fun e w' => e = .returned (.int .i64 (imm / 2 % 1024)) ∧ w' = w := fun w => field_at imm h4 1 10 (by decide) (by decide) 2 1024 (by decide) (by decide) w
  have f20_1 : ∀ w, Calls Tryz.prog 52 #[.int .i64 imm, .int .i64 20, .int .i64 1] w fun e w' => e = .returned (.int .i64 (imm / 1048576 % 2)) ∧ w' = w := fun w => field_at imm h4 20 1 (by decide) (by decide) 1048576 2 (by decide) (by decide) w
  obtain ⟨x0, hx0⟩ : ∃ x, imm / 4096 % 256 = x := ⟨_, rfl⟩
  rw [hx0] at f12_8
  have bx0 : 0 ≤ x0 ∧ x0 ≤ 255 := by rw [← hx0]; omega
  have HX0 := Lib.hid hx0
  clear hx0
  obtain ⟨x1, hx1⟩ : ∃ x, imm / 2048 % 2 = x := ⟨_, rfl⟩
  rw [hx1] at f11_1
  have bx1 : 0 ≤ x1 ∧ x1 ≤ 1 := by rw [← hx1]; omega
  have HX1 := Lib.hid hx1
  clear hx1
  obtain ⟨x2, hx2⟩ : ∃ x, imm / 2 % 1024 = x := ⟨_, rfl⟩
  rw [hx2] at f1_10
  have bx2 : 0 ≤ x2 ∧ x2 ≤ 1023 := by rw [← hx2]; omega
  have HX2 := Lib.hid hx2
  clear hx2
  obtain ⟨x3, hx3⟩ : ∃ x, imm / 1048576 % 2 = x := ⟨_, rfl⟩
  rw [hx3] at f20_1
  have bx3 : 0 ≤ x3 ∧ x3 ≤ 1 := by rw [← hx3]; omega
  have HX3 := Lib.hid hx3
  clear hx3
  go_enter Tryz.func28, Tryz.ntmps28
  go_upto_region 1 with fail
  go_upto_region 2 with (go_at_call 49; refine (hOf _).mono ?_; rintro e w1 ⟨rfl, hb0⟩)
  have HI := Lib.hid (show w1.heap[w.heap.size]? = some (.cells #[.int .i64 op, .int .i64 rd, .int .i64 rs1, .int .i64 rs2, .int .i64 imm] 54 (0, 0)) from (hb0.block _ (by simp only [World.size_alloc]; omega)).trans (newAt _ _ _ rfl))
  obtain ⟨p0, p1, p2, p3, p4⟩ := cells5 HI.out
  have hlt : w.heap.size < w1.heap.size := by have := hb0.size; simp only [World.size_alloc] at this; omega
  have hb1 : Below w.heap.size w w1 := (CE.box0 w _).trans (hb0.mono (by simp only [World.size_alloc]; omega))
  clear hb0 hOf
  go_wp2_with (go_at_call 50; refine (hF _).mono ?_; rintro e w2 ⟨rfl, hb2⟩; have hbe := bel2 hb1 hb2; have hlt2 := lt_of_get (new2 hb2); obtain ⟨r0, r1, r2, r3, r4⟩ := cells5 (kept2 HI.out hb2); obtain ⟨q0, q1, q2, q3, q4⟩ := cells5 (new2 hb2))
  all_goals (try go_wp2_with (go_at_call 50; refine (hF _).mono ?_; rintro e w2 ⟨rfl, hb2⟩; have hbe := bel2 hb1 hb2; have hlt2 := lt_of_get (new2 hb2); obtain ⟨r0, r1, r2, r3, r4⟩ := cells5 (kept2 HI.out hb2); obtain ⟨q0, q1, q2, q3, q4⟩ := cells5 (new2 hb2)))
  all_goals (try go_wp2_with (go_at_call 50; refine (hF _).mono ?_; rintro e w2 ⟨rfl, hb2⟩; have hbe := bel2 hb1 hb2; have hlt2 := lt_of_get (new2 hb2); obtain ⟨r0, r1, r2, r3, r4⟩ := cells5 (kept2 HI.out hb2); obtain ⟨q0, q1, q2, q3, q4⟩ := cells5 (new2 hb2)))
  all_goals (try go_wp2_with (first | (go_at_call 50; refine (hF _).mono ?_; rintro e w2 ⟨rfl, hb2⟩; have hbe := bel2 hb1 hb2; have hlt2 := lt_of_get (new2 hb2); obtain ⟨r0, r1, r2, r3, r4⟩ := cells5 (kept2 HI.out hb2); obtain ⟨q0, q1, q2, q3, q4⟩ := cells5 (new2 hb2)) | (go_at_call 51; (try (have hi := hG.out (by first | assumption | (simpa using ‹(!B) = false›)))); refine (word_ _ _ _ _ _ _ ho (by omega) ha (by omega) (by omega) (by omega) _).mono ?_; rintro e w3 ⟨rfl, rfl⟩)))
  all_goals (try go_wp2_with (first | (go_at_call 50; refine (hF _).mono ?_; rintro e w2 ⟨rfl, hb2⟩; have hbe := bel2 hb1 hb2; have hlt2 := lt_of_get (new2 hb2); obtain ⟨r0, r1, r2, r3, r4⟩ := cells5 (kept2 HI.out hb2); obtain ⟨q0, q1, q2, q3, q4⟩ := cells5 (new2 hb2)) | (go_at_call 51; (try (have hi := hG.out (by first | assumption | (simpa using ‹(!B) = false›)))); refine (word_ _ _ _ _ _ _ ho (by omega) ha (by omega) (by omega) (by omega) _).mono ?_; rintro e w3 ⟨rfl, rfl⟩)))
  all_goals (try (have hi := hG.out (by first | assumption | (simpa using ‹(!B) = false›)); have u0 : IntKind.u32.wrap (o + 128 * rd + 4096 * x0 + 1048576 * x1 + 2097152 * x2 + 2147483648 * x3) = o + 128 * rd + 4096 * x0 + 1048576 * x1 + 2097152 * x2 + 2147483648 * x3 := IntWalk.u32_in _ (by omega); have v0 := (IntWalk.i64_in (128 * rd) (by omega)); have v1 := (IntWalk.i64_in (o + 128 * rd) (by omega)); have v2 := (IntWalk.i64_in (4096 * x0) (by omega)); have v3 := (IntWalk.i64_in (o + 128 * rd + 4096 * x0) (by omega)); have v4 := (IntWalk.i64_in (1048576 * x1) (by omega)); have v5 := (IntWalk.i64_in (o + 128 * rd + 4096 * x0 + 1048576 * x1) (by omega)); have v6 := (IntWalk.i64_in (2097152 * x2) (by omega)); have v7 := (IntWalk.i64_in (o + 128 * rd + 4096 * x0 + 1048576 * x1 + 2097152 * x2) (by omega)); have v8 := (IntWalk.i64_in (2147483648 * x3) (by omega)); have v9 := (IntWalk.i64_in (o + 128 * rd + 4096 * x0 + 1048576 * x1 + 2097152 * x2 + 2147483648 * x3) (by omega)); go_quiet ((first | (go_at_call 52; with_reducible exact Calls.quiet_of_same (f12_8 _)) | (go_at_call 52; with_reducible exact Calls.quiet_of_same (f11_1 _)) | (go_at_call 52; with_reducible exact Calls.quiet_of_same (f1_10 _)) | (go_at_call 52; with_reducible exact Calls.quiet_of_same (f20_1 _)))); clear u0 v0 v1 v2 v3 v4 v5 v6 v7 v8 v9; go_wp2))
  all_goals go_ret2
  all_goals refine ⟨?_, ?_⟩
  all_goals first
    | exact hbe
    | exact bdN hbe _
    | exact hb1.alloc hb1.size _
    | exact res2 (by simp_all [CM.bad2, CM.uRd, CM.uRs1, CM.uRs2, CM.uImm])
    | exact res1 (by simp_all [CM.bad2, CM.uRd, CM.uRs1, CM.uRs2, CM.uImm]) (by simp_all [CM.bad1, CM.isReg, CM.uRd, CM.uRs1, CM.uRs2, CM.uImm]; try omega)
    | exact res0 (by simp_all [CM.bad2, CM.uRd, CM.uRs1, CM.uRs2, CM.uImm]) (by simp_all [CM.bad1, CM.isReg, CM.uRd, CM.uRs1, CM.uRs2, CM.uImm]) (by rw [CM.word_J]; simp only [HX0.out, HX1.out, HX2.out, HX3.out]; try omega)
end CB
end Go.Proofs.YtlmblfkcmhgdaaaGreat
namespace Go.Proofs.YtlmblfkcmhgdaaaGreat
open Go.RowKit
set_option linter.unusedVariables false
set_option linter.unusedSimpArgs false
namespace CJ
open CC CW CR CA CE CB CO
set_option maxRecDepth 100000 in
theorem enc_none (op rd rs1 rs2 imm : Int)
    (hOf : ∀ w, Calls Tryz.prog 49 #[.int .i64 op] w fun e w' => e = .returned (.agg #[.int .u8 0, .int .i64 0, .int .i64 0, .int .i64 0, .int .i64 0]) ∧ Below w.heap.size w w') (w : World) :
    Calls Tryz.prog 28 #[.agg #[.int .i64 op, .int .i64 rd, .int .i64 rs1, .int .i64 rs2, .int .i64 imm]] w fun e w' => e = .returned (.tuple #[.int .u32 0, .int .i64 2]) ∧ Below w.heap.size w w' := by
  go_enter Tryz.func28, Tryz.ntmps28
  go_upto_region 1 with fail
  go_upto_region 2 with (go_at_call 49; refine (hOf _).mono ?_; rintro e w1 ⟨rfl, hb0⟩)
  have hb1 : Below w.heap.size w w1 := (CE.box0 w _).trans (hb0.mono (by simp only [World.size_alloc]; omega))
  clear hb0 hOf
  go_wp2
  go_ret2
  exact ⟨rfl, hb1.alloc hb1.size _⟩
theorem res_yes {op rd rs1 rs2 imm k o a c : Int} (ho : CM.isOp op = true) (hk : CM.kd op = k) (h1 : CM.o7 op = o) (h2 : CM.f3 op = a) (h3 : CM.f7 op = c) :
    CB.res k o a c rd rs1 rs2 imm = .tuple #[.int .u32 (encW op rd rs1 rs2 imm), .int .i64 (encE op rd rs1 rs2 imm)] := by
  subst hk h1 h2 h3
  unfold CB.res encW encE
  rw [ho]
  simp
theorem encode_ (op rd rs1 rs2 imm : Int) (h1 : (Lit.int .i64 rd).wf = true) (h2 : (Lit.int .i64 rs1).wf = true) (h3 : (Lit.int .i64 rs2).wf = true) (h4 : (Lit.int .i64 imm).wf = true) (w : World) :
    Calls Tryz.prog 28 #[.agg #[.int .i64 op, .int .i64 rd, .int .i64 rs1, .int .i64 rs2, .int .i64 imm]] w fun e w' => e = .returned (.tuple #[.int .u32 (encW op rd rs1 rs2 imm), .int .i64 (encE op rd rs1 rs2 imm)]) ∧ Below w.heap.size w w' := by
  have hOf := fun w => of_ op w
  unfold rowV at hOf
  cases ho : CM.isOp op with
  | false =>
    rw [ho] at hOf
    have e1 : encW op rd rs1 rs2 imm = 0 := by unfold encW; rw [ho]; rfl
    have e2 : encE op rd rs1 rs2 imm = 2 := by unfold encE; rw [ho]; rfl
    rw [e1, e2]
    exact enc_none op rd rs1 rs2 imm hOf w
  | true =>
    rw [ho] at hOf
    have hft := CM.ft_row ho
    have hb := CM.ft_bd hft
    have hk := CM.kinds hft
    have hr := fun k e => res_yes (rd := rd) (rs1 := rs1) (rs2 := rs2) (imm := imm) (k := k) ho e rfl rfl rfl
    have bo : 0 ≤ CM.o7 op ∧ CM.o7 op ≤ 127 := ⟨hb.1, hb.2.1⟩
    have ba : 0 ≤ CM.f3 op ∧ CM.f3 op ≤ 7 := ⟨hb.2.2.1, hb.2.2.2.1⟩
    have bc : 0 ≤ CM.f7 op ∧ CM.f7 op ≤ 127 := ⟨hb.2.2.2.2.1, hb.2.2.2.2.2.1⟩
    rcases hk with h | h | h | h | h | h | h | h | h | h | h
    · rw [← hr 0 h]; rw [h] at hOf; exact enc_R op rd rs1 rs2 imm _ _ _ h1 h2 h3 h4 bo ba bc hOf w
    · rw [← hr 1 h]; rw [h] at hOf; exact enc_I op rd rs1 rs2 imm _ _ _ h1 h2 h3 h4 bo ba bc hOf w
    · rw [← hr 2 h]; rw [h] at hOf; exact enc_H op rd rs1 rs2 imm _ _ _ h1 h2 h3 h4 bo ba bc hOf w
    · rw [← hr 3 h]; rw [h] at hOf; exact enc_S op rd rs1 rs2 imm _ _ _ h1 h2 h3 h4 bo ba bc hOf w
    · rw [← hr 4 h]; rw [h] at hOf; exact enc_B op rd rs1 rs2 imm _ _ _ h1 h2 h3 h4 bo ba bc hOf w
    · rw [← hr 5 h]; rw [h] at hOf; exact enc_U op rd rs1 rs2 imm _ _ _ h1 h2 h3 h4 bo ba bc hOf w
    · rw [← hr 6 h]; rw [h] at hOf; exact enc_J op rd rs1 rs2 imm _ _ _ h1 h2 h3 h4 bo ba bc hOf w
    · rw [← hr 7 h]; rw [h] at hOf; exact enc_E op rd rs1 rs2 imm _ _ _ h1 h2 h3 h4 bo ba bc hOf w
    · rw [← hr 8 h]; rw [h] at hOf; exact enc_P op rd rs1 rs2 imm _ _ _ h1 h2 h3 h4 bo ba bc hOf w
    · rw [← hr 9 h]; rw [h] at hOf; exact enc_T op rd rs1 rs2 imm _ _ _ h1 h2 h3 h4 bo ba bc hOf w
    · rw [← hr 10 h]; rw [h] at hOf; exact enc_Z op rd rs1 rs2 imm _ _ _ h1 h2 h3 h4 bo ba bc hOf w
end CJ
end Go.Proofs.YtlmblfkcmhgdaaaGreat
