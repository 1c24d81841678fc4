/-
  A range over a function whose loop variables lie in memory: the frame of a round is left to be found, but for two blocks. It speaks of no program.
-/
import Derived.RangeFuncNested
namespace Go.Proofs.Ytlmblfkcmhgdaaa
open Go.RowKit
set_option linter.unusedVariables false
set_option linter.unusedSimpArgs false
namespace RsR
theorem range2_ {α : Type} {F : Fence} {n : Nat} {P : Program} {g : Operand} {ps : Array Tmp} {assign body : Code} {Q : Exit → Act → World → Prop} {a : Act} {w : World}
    (hro : F.round = none) (h1 : 1 ≤ n) {gf : Nat} {lb : Array Value} (hg : a.eval g = .func (.func gf) #[] lb) (hFg : F.fn gf) (eg : ∀ args w, (callFunc gf args).run P w = .ok (.enter gf args) w)
    {encs : α → Array Value} {Kp : World → World → Prop} {S Sp : List α → Prop} {N : Nat} {w0 : World} (hseq : SeqStopsK F (n - 1) P gf lb encs Kp S Sp N w0)
    (hKt : ∀ {A B C : World}, Kp A B → Kp B C → Kp A C) (hKb : ∀ (W : World) (l : Nat) (o o' : Obj), w.heap.size ≤ l → W.heap[l]? = some o → o.isCells = false → o.isWalk = false → Kp W (W.putObj l o')) (hb0 : Below w0.heap.size w0 w) (hps : ∀ x, (encs x).size = ps.size)
    (I : List α → World → Prop) (Ix : Code → List α → World → Prop) (hI : OwnFrom w.heap.size I) (hIx : ∀ c, OwnFrom w.heap.size (Ix c)) (h0 : I [] w)
    (Bx : α → Nat → Nat → World → Prop) (hBx : ∀ x b c, OwnFrom w.heap.size (fun (_ : Unit) W => Bx x b c W))
    (hab : ∃ a₁ : α → Nat → Nat → Act,
      (∀ (l : Nat) (pre : List α) (x : α) (W : World) (K : Act → World → Prop), I pre W → (∀ b c W', KeepsFrom w.heap.size W W' → Kp W W' → I pre W' → Bx x b c W' → K (a₁ x b c) W') →
        assign.wpIn (F.inRound l) (n - 1 - 1) P (Exit.then K (fun _ _ _ => False)) { tmps := (ps.zip (encs x)).foldl (fun t (p, v) => t.setIfInBounds p v) a.tmps, defers := [] } W) ∧
      (∀ (l : Nat) (pre : List α) (x : α) (b c : Nat) (W : World), I pre W → Bx x b c W → pre.length < N → body.wpIn (F.inRound l) (n - 1 - 1) P (ownPostG w.heap.size Kp I Ix (pre ++ [x]) W) (a₁ x b c) W))
    (hdone : ∀ (D : Nat) (xs : List α) (W : World), w.heap.size ≤ D → S xs → I xs W → W.heap[D]? = some (.deferred (some [])) → Q .normal { a with defers := { target := .collected D, args := #[] } :: a.defers } W)
    (hstop : ∀ (D : Nat) (c : Code) (pre : List α) (W : World), w.heap.size ≤ D → Sp pre → Ix c pre W → W.heap[D]? = some (.deferred (some [])) → c.wpIn F n P Q { a with defers := { target := .collected D, args := #[] } :: a.defers } W) :
    (Code.rangeFunc g ps assign body).wpIn F n P Q a w := by
  obtain ⟨a₁, h2, h3⟩ := hab
  refine wpIn_rangeFunc_ownH hro h1 hg hFg eg hseq (fun h k => hKt h k) hKb hb0 hps I Ix hI hIx h0 (fun x a' W => ∃ b c, a' = a₁ x b c ∧ Bx x b c W)
    (fun x a' s W W' row ⟨b, c, e, hB⟩ hg hr => ⟨b, c, e, hBx x b c s W W' row hB hg hr⟩)
    (fun l pre x W K hi hK => h2 l pre x W K hi fun b c W' k1 k2 k3 k4 => hK _ _ k1 k2 k3 ⟨b, c, rfl, k4⟩)
    (fun l pre x a' W _ _ hi ⟨b, c, e, hB⟩ hlt => by subst e; exact h3 l pre x b c W hi hB hlt) hdone hstop
end RsR
end Go.Proofs.Ytlmblfkcmhgdaaa
