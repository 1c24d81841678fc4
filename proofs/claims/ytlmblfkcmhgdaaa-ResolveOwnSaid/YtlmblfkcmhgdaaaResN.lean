/-
  A region that draws its order, within a fence, by an invariant: what holds of what has been done so far holds at the end, whatever the order. It speaks of no program. Condition: an operation waits for those ahead of it alone.
-/
import Derived.Test.YtlmblfkcmhgdaaaObjI
import Derived.OrdersIn
import Derived.RangeFuncNested
import Derived.OwnWalkIn
namespace Go.Proofs.Ytlmblfkcmhgdaaa
open Go.RowKit
set_option linter.unusedVariables false
set_option linter.unusedSimpArgs false
namespace RsN
open OI
variable {F : Fence} {n : Nat} {P : Program} {ops : Array Oper} {Q : Exit → Act → World → Prop} {md : Region.Mode}
theorem invIn_any {Inv : Array Bool → Act → World → Prop} (hA : Ahead ops)
    (step : ∀ (i : Nat) (o : Oper), ops[i]? = some o → ∀ listed a w, listed.size = ops.size → listed.getD i true = false → (∀ e ∈ o.after, Region.binds md e = true → listed.getD e.on false = true) → Inv listed a w → wpOpIn F n P ops Q i (fun a' w' => Inv (listed.setIfInBounds i true) a' w') a w)
    (done : ∀ listed a w, (∀ j, j < ops.size → listed.getD j false = true) → Inv listed a w → Q .normal a w) :
    ∀ fuel listed a w, listed.size = ops.size → left listed ≤ fuel → Inv listed a w → wpAnyIn F n P md ops Q fuel listed a w := by
  intro fuel
  induction fuel with
  | zero =>
    intro listed a w hs hl hi
    have hr := none_left (md := md) hs (Nat.le_zero.1 hl)
    exact ⟨hr, done listed a w (all_done hA hs hr) hi⟩
  | succ fuel ih =>
    intro listed a w hs hl hi
    refine ⟨fun hr => done listed a w (all_done hA hs hr) hi, fun i hm => ?_⟩
    obtain ⟨h0, o, ho, haft⟩ := mem_ready.1 hm
    refine wpOpIn_mono (fun a' w' hi' => ih _ a' w' (by rw [Array.size_setIfInBounds]; exact hs) ?_ hi') (step i o ho listed a w hs h0 haft hi)
    have := left_set h0
    omega
theorem regionIn_ {Inv : Array Bool → Act → World → Prop} {id : Nat} {a : Act} {w : World} (hm : P.follows .mixedOrders = true) (hA : Ahead ops) (h0 : Inv (Array.replicate ops.size false) a w.drew)
    (step : ∀ (i : Nat) (o : Oper), ops[i]? = some o → ∀ listed a w, listed.size = ops.size → listed.getD i true = false → (∀ e ∈ o.after, Region.binds .any e = true → listed.getD e.on false = true) → Inv listed a w → wpOpIn F n P ops Q i (fun a' w' => Inv (listed.setIfInBounds i true) a' w') a w)
    (done : ∀ listed a w, (∀ j, j < ops.size → listed.getD j false = true) → Inv listed a w → Q .normal a w) : (Code.region id ops true).wpIn F n P Q a w :=
  wpIn_region_any hm (invIn_any hA step done _ _ _ _ (by simp) (by unfold left; simp) h0)
/-- an operation that nothing guards -/
theorem opIn_ {i : Nat} {o : Oper} {K : Act → World → Prop} {a : Act} {w : World} (ho : ops[i]? = some o) (hg : o.guard = none) (h : o.wpIn F n P a w K Q) : wpOpIn F n P ops Q i K a w := by
  unfold wpOpIn
  rw [ho]
  have hw : Region.wanted o (yielded ops a.tmps) = true := by unfold Region.wanted; rw [hg]
  simp only [hw, if_true]
  exact h
/-- one that runs to a value in the world as it may then be -/
theorem opIn_val {i : Nat} {o : Oper} {K : Act → World → Prop} {a : Act} {w w' : World} {v : Value} (ho : ops[i]? = some o) (hg : o.guard = none) (hab : o.about P w a.eval = none) (hd : ∀ c, o.op ≠ .defer c) (hr : (execOp a.eval o).run P w = .ok (.value v) w') (h : K (a.put o.dst v) w') : wpOpIn F n P ops Q i K a w := by
  refine opIn_ ho hg ?_
  unfold Oper.wpIn
  refine ⟨(fun f hf => by rw [hab] at hf; cases hf), ?_⟩
  rw [Oper.semAt_plain F _ _ hd, hr]
  exact h
end RsN
end Go.Proofs.Ytlmblfkcmhgdaaa
