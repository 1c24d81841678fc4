/-
  Check's isPatched: a contract. Conditions: the word is of 32 bits.
-/
import Derived.Test.YtaocclgnpphjfaaObjU
import Derived.Test.YtaocclgnpphjfaaCodeD
namespace Go.Proofs.Ytaocclgnpphjfaa
open Go.RowKit
set_option linter.unusedVariables false
set_option linter.unusedSimpArgs false
namespace OPt
open OO OJ OU
def patB (k x : Int) : Bool := decide (CD.dE x = 0) && (decide (CD.dImm x = 0) && kindB k (CD.dOp x))
theorem dec_ (x : Int) (h0 : 0 ≤ x) (h1 : x < 4294967296) (w : World) : Calls Try.prog 95 #[.int .u32 x] w fun e w' =>
    e = .returned (.tuple #[.agg #[.int .i64 (CD.dOp x), .int .i64 (CD.dRd x), .int .i64 (CD.dRs1 x), .int .i64 (CD.dRs2 x), .int .i64 (CD.dImm x)], .int .i64 (CD.dE x)]) ∧ Below w.heap.size w w' := CD.decode_ x h0 h1 w
set_option maxRecDepth 100000 in
set_option maxHeartbeats 4000000 in
theorem patched_ (k x : Int) (h0 : 0 ≤ x) (h1 : x < 4294967296) (w : World) :
    Calls Try.prog 89 #[.int .i64 k, .int .u32 x] w fun e w' => e = .returned (.bool (patB k x)) ∧ Below w.heap.size w w' := by
  have c1 := dec_ x h0 h1 w
  have HP := Lib.hid (show patB k x = (decide (CD.dE x = 0) && (decide (CD.dImm x = 0) && kindB k (CD.dOp x))) from rfl)
  generalize patB k x = b at *
  generalize CD.dOp x = op at *
  generalize CD.dImm x = im at *
  generalize CD.dE x = er at *
  generalize CD.dRd x = r0 at *
  generalize CD.dRs1 x = r1 at *
  generalize CD.dRs2 x = r2 at *
  have c2 := fun w => kind_ k op w
  generalize hkb : kindB k op = kb at *
  have HK := Lib.hid hkb
  clear h0 h1 hkb
  by_cases e1 : er = 0
  all_goals by_cases e2 : im = 0
  all_goals
    have HE := Lib.hid (⟨e1, e2⟩ : _ ∧ _)
    go_enter Try.func89, Try.ntmps89
    go_wp2_with (first
      | (go_at_call 95; (with_reducible refine c1.mono ?_); rintro e w1 ⟨rfl, hb⟩; have HB := Lib.hid hb; clear hb)
      | (go_at_call 96; (with_reducible refine (c2 _).mono ?_); rintro e w2 ⟨rfl, rfl⟩))
    go_ret
    exact ⟨ret_bool (by rw [HP.out]; simp [HE.out.1, HE.out.2]), HB.out.alloc HB.out.size _⟩
end OPt
end Go.Proofs.Ytaocclgnpphjfaa
