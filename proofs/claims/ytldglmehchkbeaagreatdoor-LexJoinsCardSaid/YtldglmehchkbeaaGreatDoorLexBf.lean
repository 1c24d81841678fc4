/-
  What ParseFloat's heart does at a real's text. Conditions: Go's own tables lie; the slow way answers.
-/
import Derived.Test.YtldglmehchkbeaaGreatDoorLexBe
namespace Go.Proofs.YtldglmehchkbeaaGreatDoor
open Go.RowKit
set_option linter.unusedVariables false
set_option linter.unusedSimpArgs false
namespace LxC
open Lx
/-- the slow way answers: what a decimal is set to at s is one that has bits -/
def Slow (n : Nat) (w : World) (s : ByteArray) : Prop := ∃ P : World → Nat → Prop,
  (∀ W G, n ≤ G → Below n w W → W.heap[G]? = some (.cells Tryz.zeroCells182 182 (0, 0)) → Calls Tryz.prog 149 #[.pointer (some ⟨G, 0, none⟩), .string s] W fun e w' => e = .returned (.bool true) ∧ P w' G ∧ Below n w w') ∧
  (∀ W G, n ≤ G → Below n w W → P W G → Calls Tryz.prog 150 #[.pointer (some ⟨G, 0, none⟩), .pointer (some ⟨6, 0, none⟩)] W fun e w' => (∃ (x : Int) (o : Bool), e = .returned (.tuple #[.int .u64 x, .bool o])) ∧ Below n w w')
theorem Tab.draws {w : World} (h : Tab w) (k : Nat) : Tab (w.drewN k) := h
end LxC
end Go.Proofs.YtldglmehchkbeaaGreatDoor
