/-
  A text with no point has no real. Condition: none.
-/
import Derived.Test.YtnlbhnmiekanfaaGreatDoorLexAc
import Derived.Test.YtnlbhnmiekanfaaGreatDoorLexAd
namespace Go.Proofs.YtnlbhnmiekanfaaGreatDoor
open Go.RowKit
namespace LxC
open Lx
theorem parses_dot {n : Nat} {w : World} {s : ByteArray} (h : ∀ b ∈ s.data.toList, isB 46 b = false) : Parses n w s := by
  intro a ha
  rw [isReal_dot (fun b hb => h b (by rw [extract_list] at hb; exact List.mem_of_mem_drop (List.mem_of_mem_take hb)))] at ha
  cases ha
end LxC
end Go.Proofs.YtnlbhnmiekanfaaGreatDoor
