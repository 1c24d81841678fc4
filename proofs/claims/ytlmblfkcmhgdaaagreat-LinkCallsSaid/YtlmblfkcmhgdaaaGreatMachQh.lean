/-
  What a run's operations of reals answer: each a contract.
-/
import Derived.Test.YtlmblfkcmhgdaaaGreatMachQf
namespace Go.Proofs.YtlmblfkcmhgdaaaGreat
open Go.RowKit
set_option linter.unusedVariables false
set_option linter.unusedSimpArgs false
namespace MH
attribute [local go_sem ↓] Go.wp_at_zero Go.wp_at_succ
open MM MC MD MG
theorem still_ {P : Program} {id : Nat} {Q : Exit → Act → World → Prop} {a : Act} {w : World} {l : List Oper} (hm : P.follows .mixedOrders = true) (hB : Region.lexB .any l.toArray = true)
    (h : wpStill P l.toArray w.drew (fun a' => Q .normal a' w.drew) l a) : (Code.region id l.toArray true).wp P Q a w := wp_region_still_lit hm hB h
theorem tail_ {P : Program} {id : Nat} {Q : Exit → Act → World → Prop} {a : Act} {w : World} {l : List Oper} (n : Nat) (hm : P.follows .mixedOrders = true) (hB : Region.lexTailB .any l.toArray n = true)
    (h : wpStill P l.toArray w.drew (fun a' => wpList P l.toArray Q (l.drop n) a' w.drew) (l.take n) a) : (Code.region id l.toArray true).wp P Q a w := wp_region_still_tail n hm hB h
section
variable {B br bk b bm N : Nat} {sd : List (Nat × Obj)} {w w' : World} {s s' : St} {vi ve : Value} {inp : List Int} {out : List Ev} {n c : Nat}
theorem Lives.drewN (L : Lives B br bk b bm N sd w s vi ve inp out n c) (k : Nat) : Lives B br bk b bm N sd (w.drewN k) s vi ve inp out n c := Lives.kept L (Nat.le_refl _) (fun _ _ => rfl)
theorem own_drewN {u : World} (h : Own B b bm u w) (k : Nat) : Own B b bm u (w.drewN k) := ⟨h.os, h.tape, h.output, h.size, h.block⟩
end
end MH
end Go.Proofs.YtlmblfkcmhgdaaaGreat
