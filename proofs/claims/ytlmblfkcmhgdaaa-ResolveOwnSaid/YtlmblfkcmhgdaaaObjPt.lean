/-
  Package rels' At, and Check's isPatched: contracts. Conditions: the word is of 32 bits.
-/
import Derived.Test.YtlmblfkcmhgdaaaObjU
import Derived.Test.YtlmblfkcmhgdaaaCodeD
namespace Go.Proofs.Ytlmblfkcmhgdaaa
open Go.RowKit
set_option linter.unusedVariables false
set_option linter.unusedSimpArgs false
namespace OPt
open OO OJ OU
def patB (k x : Int) : Bool := decide (CD.dE x = 0) && (decide (CD.dImm x = 0) && kindB k (CD.dOp x))
def inI (b : Bool) (o p q r s : Int) : Array Value := bif b then #[.int .i64 o, .int .i64 p, .int .i64 q, .int .i64 r, .int .i64 s] else #[.int .i64 0, .int .i64 0, .int .i64 0, .int .i64 0, .int .i64 0]
/-- the instruction that At answers -/
def atI (k x : Int) : Array Value := inI (patB k x) (CD.dOp x) (CD.dRd x) (CD.dRs1 x) (CD.dRs2 x) (CD.dImm x)
theorem dec_ (x : Int) (h0 : 0 ≤ x) (h1 : x < 4294967296) (w : World) : Calls Try.prog 30 #[.int .u32 x] w fun e w' =>
    e = .returned (.tuple #[.agg #[.int .i64 (CD.dOp x), .int .i64 (CD.dRd x), .int .i64 (CD.dRs1 x), .int .i64 (CD.dRs2 x), .int .i64 (CD.dImm x)], .int .i64 (CD.dE x)]) ∧ Below w.heap.size w w' := CD.decode_ x h0 h1 w
abbrev ZI : Obj := .cells #[.int .i64 0, .int .i64 0, .int .i64 0, .int .i64 0, .int .i64 0] 73
theorem up5 {W W1 : World} {b : Nat} (h : W.heap[b]? = some ZI) (hb : Below W.heap.size W W1) (o : Obj) :
    ((W1.alloc o).cell? ⟨b, 0, none⟩ = some (.int .i64 0) ∧ (W1.alloc o).cell? ⟨b, 1, none⟩ = some (.int .i64 0) ∧ (W1.alloc o).cell? ⟨b, 2, none⟩ = some (.int .i64 0) ∧ (W1.alloc o).cell? ⟨b, 3, none⟩ = some (.int .i64 0) ∧ (W1.alloc o).cell? ⟨b, 4, none⟩ = some (.int .i64 0)) ∧
    ((W1.alloc o).frozen? ⟨b, 0, none⟩ = false ∧ (W1.alloc o).frozen? ⟨b, 1, none⟩ = false ∧ (W1.alloc o).frozen? ⟨b, 2, none⟩ = false ∧ (W1.alloc o).frozen? ⟨b, 3, none⟩ = false ∧ (W1.alloc o).frozen? ⟨b, 4, none⟩ = false) := by
  have hl := (Array.getElem?_eq_some_iff.1 h).1
  have h1 : W1.heap[b]? = some ZI := (hb.block _ hl).trans h
  have h2 : (W1.alloc o).heap[b]? = some ZI := (Lib.alloc_old _ _ _ (Array.getElem?_eq_some_iff.1 h1).1).trans h1
  refine ⟨⟨Lib.cell_of_heap h2 0, Lib.cell_of_heap h2 1, Lib.cell_of_heap h2 2, Lib.cell_of_heap h2 3, Lib.cell_of_heap h2 4⟩, ?_⟩
  refine ⟨?_, ?_, ?_, ?_, ?_⟩ <;> simp [World.frozen?, h2]
set_option maxRecDepth 100000 in
set_option maxHeartbeats 4000000 in
theorem at_ (k x : Int) (h0 : 0 ≤ x) (h1 : x < 4294967296) (w : World) :
    Calls Try.prog 29 #[.int .i64 k, .int .u32 x] w fun e w' => e = .returned (.tuple #[.agg (atI k x), .bool (patB k x)]) ∧ Below w.heap.size w w' := by
  have c1 := fun w => dec_ x h0 h1 w
  have HA := Lib.hid (show atI k x = inI (patB k x) (CD.dOp x) (CD.dRd x) (CD.dRs1 x) (CD.dRs2 x) (CD.dImm x) from rfl)
  have HP := Lib.hid (show patB k x = (decide (CD.dE x = 0) && (decide (CD.dImm x = 0) && kindB k (CD.dOp x))) from rfl)
  generalize atI k x = ai at *
  generalize patB k x = b at *
  generalize CD.dOp x = op at *
  generalize CD.dImm x = im at *
  generalize CD.dE x = er at *
  generalize CD.dRd x = r0 at *
  generalize CD.dRs1 x = r1 at *
  generalize CD.dRs2 x = r2 at *
  have c2 := fun w => kind_ k op w
  generalize hkb : kindB k op = kb at *
  have HK := Lib.hid hkb
  clear h0 h1 hkb
  have hu := fun (W W1 : World) (h : W.heap[w.heap.size]? = some ZI) (hb : Below W.heap.size W W1) => up5 h hb (.cells #[.int .i64 op, .int .i64 r0, .int .i64 r1, .int .i64 r2, .int .i64 im] 73)
  by_cases e1 : er = 0
  all_goals by_cases e2 : im = 0
  all_goals cases kb
  all_goals
    have HE := Lib.hid (⟨e1, e2⟩ : _ ∧ _)
    try subst e1
    try subst e2
    go_enter Try.func29, Try.ntmps29
    go_upto_region 1 with fail
    have HX0 := Lib.hid (heap_alloc_new w ZI)
    have HB0 := Lib.hid (((Below.refl w.heap.size w).alloc (Nat.le_refl _) ZI : Below w.heap.size w (w.alloc ZI)))
    generalize w.alloc ZI = W0 at *
    go_wp2_with (first
      | (go_at_call 30; (with_reducible refine (c1 _).mono ?_); rintro e w1 ⟨rfl, hb⟩; obtain ⟨⟨k0, k1, k2, k3, k4⟩, z0, z1, z2, z3, z4⟩ := hu _ _ HX0.out hb; have HB := Lib.hid (HB0.out.trans (hb.mono HB0.out.size)); clear hb)
      | (go_at_call 31; (with_reducible refine (c2 _).mono ?_); rintro e w2 ⟨rfl, rfl⟩))
    refine bodyPost_ret (v := .tuple #[.agg ai, .bool b]) ?_ rfl ⟨rfl, ?_⟩
    · have ha := HA.out
      have hp := HP.out
      have he := HE.out
      simp only [he.1, he.2, decide_true, decide_false, Bool.true_and, Bool.false_and, Bool.and_false, Bool.and_true] at hp
      subst hp
      subst ha
      simp [results, Try.results29, go_sem, k0, k1, k2, k3, k4, inI, he.2]
    · exact (((((HB.out.alloc HB.out.size _).setCell (p := ⟨_, 0, none⟩) (Nat.le_refl _) _).setCell (p := ⟨_, 1, none⟩) (Nat.le_refl _) _).setCell (p := ⟨_, 2, none⟩) (Nat.le_refl _) _).setCell (p := ⟨_, 3, none⟩) (Nat.le_refl _) _).setCell (p := ⟨_, 4, none⟩) (Nat.le_refl _) _
set_option maxRecDepth 100000 in
set_option maxHeartbeats 4000000 in
theorem patched_ (k x : Int) (h0 : 0 ≤ x) (h1 : x < 4294967296) (w : World) :
    Calls Try.prog 26 #[.int .i64 k, .int .u32 x] w fun e w' => e = .returned (.bool (patB k x)) ∧ Below w.heap.size w w' := by
  have c1 := at_ k x h0 h1 w
  unfold atI at c1
  generalize patB k x = b at *
  generalize CD.dOp x = op at *
  generalize CD.dImm x = im at *
  generalize CD.dRd x = r0 at *
  generalize CD.dRs1 x = r1 at *
  generalize CD.dRs2 x = r2 at *
  clear h0 h1
  cases b
  all_goals
    simp only [inI, cond_true, cond_false] at c1
    go_enter Try.func26, Try.ntmps26
    go_wp2_with (go_at_call 29; (with_reducible refine c1.mono ?_); rintro e w1 ⟨rfl, hb⟩; have HB := Lib.hid hb; clear hb)
    go_ret
    exact ⟨rfl, HB.out.alloc HB.out.size _⟩
end OPt
end Go.Proofs.Ytlmblfkcmhgdaaa
