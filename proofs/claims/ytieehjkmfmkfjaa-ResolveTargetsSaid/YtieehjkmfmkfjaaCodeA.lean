/-
  What Imm fits by the document's row (package solderref03's Fits), a contract. Condition: the row's first cell is a letter.
-/
import Derived.Test.YtieehjkmfmkfjaaCodeR
import Derived.Deep.DeepCutAuto
namespace Go.Proofs.Ytieehjkmfmkfjaa
open Go.RowKit
set_option linter.unusedVariables false
set_option linter.unusedSimpArgs false
namespace CA
open CC CW CR
/-- what fits, by the kind's letter -/
def fl (c n : Int) : Bool :=
  if c = 73 ∨ c = 83 then decide (-2048 ≤ n) && decide (n ≤ 2047)
  else if c = 72 then decide (0 ≤ n) && decide (n ≤ 31)
  else if c = 66 then decide (-4096 ≤ n) && decide (n ≤ 4094) && decide (n % 2 = 0)
  else if c = 85 then decide (0 ≤ n) && decide (n < 1048576)
  else if c = 74 then decide (-1048576 ≤ n) && decide (n ≤ 1048574) && decide (n % 2 = 0)
  else false
theorem tm2 (n : Int) : (n.tmod 2 = 0) ↔ n % 2 = 0 := by
  constructor
  · intro h; exact Int.emod_eq_zero_of_dvd (Int.dvd_of_tmod_eq_zero h)
  · intro h; exact Int.tmod_eq_zero_of_dvd (Int.dvd_of_emod_eq_zero h)
set_option maxHeartbeats 8000000 in
theorem fits_ (V : Array Value) (c n : Int) (hV : V[0]? = some (.int .u8 c)) (w : World) : Calls Try.prog 73 #[.agg V, .int .i64 n] w fun e w' => e = .returned (.bool (fl c n)) ∧ Below w.heap.size w w' := by
  have hb := CE.box0 w (.cells V 123)
  have t2 := tm2 n
  go_enter Try.func73, Try.ntmps73
  go_wp2
  all_goals
    go_ret
    refine ⟨?_, hb⟩
    try simp_all [fl]
  all_goals first
    | omega
    | (rw [Bool.eq_iff_iff]; simp [t2])
end CA
end Go.Proofs.Ytieehjkmfmkfjaa
