/-
  The statements' fixed fact on relocations: a contract. No condition.
-/
import Derived.Test.YtieehjkmfmkfjabPatC
import Derived.Laws.StructEq
import Derived.BigGuardPart
namespace Go.Proofs.Ytieehjkmfmkfjab
open Go.RowKit
set_option linter.unusedVariables false
set_option linter.unusedSimpArgs false
namespace PA
open PM PC OPt
set_option maxRecDepth 100000 in
set_option maxHeartbeats 4000000 in
theorem awake_ (w : World) : Calls Try.prog 9 #[] w fun e w' => e = .returned (.bool true) ∧ Below w.heap.size w w' := by
  have c1 := fun w => CE.encode_ 40 1 0 0 0 (by decide) w
  have c2 := fun w => patch_ 4 239 108 100 (by decide) (by decide) (by decide) w
  have c3 := fun w => dec_ 8388847 (by decide) (by decide) w
  have c4 := fun w => hi_ 4095 (by decide) w
  have c5 := fun w => lo_ 4095 (by decide) w
  rw [show CE.encW 40 1 0 0 0 = 239 by decide +kernel, show CE.encE 40 1 0 0 0 = 0 by decide +kernel] at c1
  unfold CW.iv at c1
  rw [show pW 4 239 108 100 = 8388847 by decide +kernel, show pE 4 239 108 100 = 0 by decide +kernel] at c2
  rw [show CD.dOp 8388847 = 40 by decide +kernel, show CD.dRd 8388847 = 1 by decide +kernel, show CD.dRs1 8388847 = 0 by decide +kernel, show CD.dRs2 8388847 = 0 by decide +kernel, show CD.dImm 8388847 = 8 by decide +kernel, show CD.dE 8388847 = 0 by decide +kernel] at c3
  rw [show hiI 4095 = 1 by decide +kernel] at c4
  rw [show loI 4095 = -1 by decide +kernel] at c5
  go_enter Try.func9, Try.ntmps9
  go_wp2_with (first
    | (go_at_call 12; (with_reducible refine (c1 _).mono ?_); rintro e w1 ⟨rfl, hb1⟩; have H1 := Lib.hid hb1; clear hb1)
    | (go_at_call 13; (with_reducible refine (c2 _).mono ?_); rintro e w2 ⟨rfl, hb2⟩; have H2 := Lib.hid (H1.out.trans (hb2.mono H1.out.size)); clear hb2)
    | (go_at_call 23; (with_reducible refine (c3 _).mono ?_); rintro e w3 ⟨rfl, hb3⟩; have H3 := Lib.hid (H2.out.trans (hb3.mono H2.out.size)); clear hb3)
    | (go_at_call 7; (with_reducible refine (c4 _).mono ?_); rintro e w4 ⟨rfl, rfl⟩)
    | (go_at_call 8; (with_reducible refine (c5 _).mono ?_); rintro e w5 ⟨rfl, rfl⟩))
  go_ret
  exact ⟨rfl, H3.out.alloc H3.out.size _⟩
end PA
end Go.Proofs.Ytieehjkmfmkfjab
