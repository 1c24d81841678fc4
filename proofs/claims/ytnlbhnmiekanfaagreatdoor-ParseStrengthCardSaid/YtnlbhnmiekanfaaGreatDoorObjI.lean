/-
  A region that draws its order, by an invariant: what holds of what has been done so far holds at the end, whatever the order. It speaks of no program. Condition: an operation waits for those ahead of it alone.
-/
import Derived.Orders
import Derived.WalkKit
import Derived.Below
namespace Go.Proofs.YtnlbhnmiekanfaaGreatDoor
open Go.RowKit
set_option linter.unusedVariables false
set_option linter.unusedSimpArgs false
namespace OI
variable {P : Program} {ops : Array Oper} {Q : Exit → Act → World → Prop} {md : Region.Mode}
/-- an operation waits for those ahead of it alone -/
def Ahead (ops : Array Oper) : Prop := ∀ (i : Nat) (o : Oper), ops[i]? = some o → ∀ e ∈ o.after, e.on < i
theorem all_done {listed : Array Bool} (hA : Ahead ops) (hs : listed.size = ops.size) (h : Region.ready md ops listed = []) : ∀ j, j < ops.size → listed.getD j false = true := by
  intro j
  induction j using Nat.strongRecOn with
  | ind j ih =>
    intro hj
    cases hd : listed.getD j true with
    | true =>
      have hlt : j < listed.size := by omega
      rw [Array.getD_eq_getD_getElem?, Array.getElem?_eq_getElem hlt] at hd ⊢
      exact hd
    | false =>
      exfalso
      have ho : ops[j]? = some ops[j] := Array.getElem?_eq_getElem hj
      have hm : j ∈ Region.ready md ops listed := mem_ready.2 ⟨hd, ops[j], ho, fun e he _ => ih e.on (hA j _ ho e he) (Nat.lt_trans (hA j _ ho e he) hj)⟩
      rw [h] at hm
      cases hm
theorem ahead_of (h : ((List.range ops.size).all fun i => ((ops[i]?).map fun o => o.after.all fun e => decide (e.on < i)).getD true) = true) : Ahead ops := by
  intro i o ho e he
  have hi : i < ops.size := (Array.getElem?_eq_some_iff.1 ho).1
  have := List.all_eq_true.1 h i (List.mem_range.2 hi)
  rw [ho] at this
  simp only [Option.map_some, Option.getD_some] at this
  have h2 := Array.all_eq_true_iff_forall_mem.1 this e he
  simpa using h2
def left (listed : Array Bool) : Nat := listed.toList.count false
theorem left_set {listed : Array Bool} {i : Nat} (h : listed.getD i true = false) : left (listed.setIfInBounds i true) + 1 = left listed := by
  have hlt : i < listed.size := by
    rcases Nat.lt_or_ge i listed.size with h' | h'
    · exact h'
    · rw [Array.getD_eq_getD_getElem?, Array.getElem?_eq_none h'] at h
      cases h
  have hv : listed.toList[i]'(by simpa using hlt) = false := by
    rw [Array.getD_eq_getD_getElem?, Array.getElem?_eq_getElem hlt] at h
    simpa using h
  unfold left
  rw [Array.toList_setIfInBounds]
  have hl : i < listed.toList.length := by rw [Array.length_toList]; exact hlt
  have hset := List.count_set (l := listed.toList) (i := i) (a := true) (b := false) hl
  have hpos : 0 < listed.toList.count false := List.count_pos_iff.2 (by rw [← hv]; exact List.getElem_mem _)
  rw [hset, if_pos (by rw [hv]; rfl), if_neg (by decide)]
  omega
theorem none_left {listed : Array Bool} (hs : listed.size = ops.size) (h : left listed = 0) : Region.ready md ops listed = [] := by
  refine List.eq_nil_iff_forall_not_mem.2 fun i hi => ?_
  obtain ⟨h0, -⟩ := mem_ready.1 hi
  have := left_set h0
  omega
/-- THE RULE -/
theorem inv_any {Inv : Array Bool → Act → World → Prop} (hA : Ahead ops)
    (step : ∀ (i : Nat) (o : Oper), ops[i]? = some o → ∀ listed a w, listed.size = ops.size → listed.getD i true = false → (∀ e ∈ o.after, Region.binds md e = true → listed.getD e.on false = true) → Inv listed a w → wpOp P ops Q i (fun a' w' => Inv (listed.setIfInBounds i true) a' w') a w)
    (done : ∀ listed a w, (∀ j, j < ops.size → listed.getD j false = true) → Inv listed a w → Q .normal a w) :
    ∀ fuel listed a w, listed.size = ops.size → left listed ≤ fuel → Inv listed a w → wpAny P md ops Q fuel listed a w := by
  intro fuel
  induction fuel with
  | zero =>
    intro listed a w hs hl hi
    have hr := none_left (md := md) hs (Nat.le_zero.1 hl)
    exact ⟨hr, done listed a w (all_done hA hs hr) hi⟩
  | succ fuel ih =>
    intro listed a w hs hl hi
    refine ⟨fun hr => done listed a w (all_done hA hs hr) hi, fun i hm => ?_⟩
    obtain ⟨h0, o, ho, haft⟩ := mem_ready.1 hm
    refine wpOp_mono (fun a' w' hi' => ih _ a' w' (by rw [Array.size_setIfInBounds]; exact hs) ?_ hi') (step i o ho listed a w hs h0 haft hi)
    have := left_set h0
    omega
theorem region_ {Inv : Array Bool → Act → World → Prop} {id : Nat} {a : Act} {w : World} (hm : P.follows .mixedOrders = true) (hA : Ahead ops) (h0 : Inv (Array.replicate ops.size false) a w.drew)
    (step : ∀ (i : Nat) (o : Oper), ops[i]? = some o → ∀ listed a w, listed.size = ops.size → listed.getD i true = false → (∀ e ∈ o.after, Region.binds .any e = true → listed.getD e.on false = true) → Inv listed a w → wpOp P ops Q i (fun a' w' => Inv (listed.setIfInBounds i true) a' w') a w)
    (done : ∀ listed a w, (∀ j, j < ops.size → listed.getD j false = true) → Inv listed a w → Q .normal a w) : (Code.region id ops true).wp P Q a w :=
  wp_region_any hm (inv_any hA step done _ _ _ _ (by simp) (by unfold left; simp) h0)
/-- an operation that nothing guards -/
theorem op_ {i : Nat} {o : Oper} {K : Act → World → Prop} {a : Act} {w : World} (ho : ops[i]? = some o) (hg : o.guard = none) (h : o.wp P a w K Q) : wpOp P ops Q i K a w := by
  unfold wpOp
  rw [ho]
  have hw : Region.wanted o (yielded ops a.tmps) = true := by unfold Region.wanted; rw [hg]
  simp only [hw, if_true]
  exact .inl h
theorem put_get {a : Act} {d : Nat} {v : Value} (h : d < a.tmps.size) (k : Nat) : (a.put (some d) v).tmps.getD k undef = if k = d then v else a.tmps.getD k undef := by
  show (a.tmps.setIfInBounds d v).getD k undef = _
  rw [Array.getD_eq_getD_getElem?, Array.getD_eq_getD_getElem?, Array.getElem?_setIfInBounds]
  by_cases hk : d = k
  · subst hk; simp [h]
  · rw [if_neg hk, if_neg (fun e => hk e.symm)]
theorem set_at {listed : Array Bool} {i j : Nat} (hi : i < listed.size) : (listed.setIfInBounds i true).getD j false = if j = i then true else listed.getD j false := by
  rw [Array.getD_eq_getD_getElem?, Array.getD_eq_getD_getElem?, Array.getElem?_setIfInBounds]
  by_cases hk : i = j
  · subst hk; simp [hi]
  · rw [if_neg hk, if_neg (fun e => hk e.symm)]
/-- an operation whose guard holds -/
theorem op_g {i : Nat} {o : Oper} {K : Act → World → Prop} {a : Act} {w : World} (ho : ops[i]? = some o) (hw : Region.wanted o (yielded ops a.tmps) = true) (h : o.wp P a w K Q) : wpOp P ops Q i K a w := by
  unfold wpOp
  rw [ho]
  simp only [hw, if_true]
  exact .inl h
theorem got {a : Act} {k : Nat} {b : Bool} (h : a.tmps[k]?.getD undef = .bool b) : a.tmps[k]? = some (.bool b) := by
  cases e : a.tmps[k]? with
  | none => rw [e] at h; cases h
  | some v => rw [e] at h; exact congrArg some h
/-- one whose guard doesn't hold -/
theorem op_n {i : Nat} {o : Oper} {K : Act → World → Prop} {a : Act} {w : World} (ho : ops[i]? = some o) (hw : Region.wanted o (yielded ops a.tmps) = false) (h : K (a.put o.dst undef) w) : wpOp P ops Q i K a w := by
  unfold wpOp
  rw [ho]
  simp only [hw, Bool.false_eq_true, if_false]
  exact h
/-- what an operation does: a slot more is known, memory grows -/
structure Did (ds : Nat) (F : Value → World → Prop) (a : Act) (w : World) (a' : Act) (w' : World) : Prop where
  d : a'.defers = a.defers
  sz : a'.tmps.size = a.tmps.size
  oth : ∀ k, k ≠ ds → a'.tmps.getD k undef = a.tmps.getD k undef
  bel : Below w.heap.size w w'
  f : F (a'.tmps.getD ds undef) w'
theorem did_put {d : Nat} {F : Value → World → Prop} {a : Act} {w w' : World} (v : Value) (hd : d < a.tmps.size) (hb : Below w.heap.size w w') (hF : F v w') : Did d F a w (a.put (some d) v) w' :=
  ⟨rfl, by show (a.tmps.setIfInBounds _ _).size = _; rw [Array.size_setIfInBounds], fun k hk => by rw [put_get hd, if_neg hk], hb, by rw [put_get hd, if_pos rfl]; exact hF⟩
theorem did_none {d : Nat} {F : Value → World → Prop} {a : Act} {w w' : World} (v : Value) (hb : Below w.heap.size w w') (hF : ∀ v, F v w') : Did d F a w (a.put none v) w' :=
  ⟨rfl, rfl, fun k hk => rfl, hb, hF _⟩
theorem did_not {d : Nat} {F : Value → World → Prop} {a : Act} {w : World} (hF : ∀ v, F v w) : Did d F a w a w := ⟨rfl, rfl, fun k hk => rfl, Below.refl _ _, hF _⟩
/-- a slot's value is known, or nothing is; or it is never written -/
def Fv (fv : Nat → Option (Option Value)) (i : Nat) (v : Value) (w : World) : Prop := match fv i with
  | none => True
  | some none => False
  | some (some u) => v = u
/-- what is known of a region's frame while it runs: what stood there, but for the operations' own slots -/
structure Mid (n : Nat) (dst : Nat → Nat) (a0 : Act) (w0 : World) (a : Act) (w : World) : Prop where
  d : a.defers = a0.defers
  sz : a.tmps.size = a0.tmps.size
  oth : ∀ k, (∀ i, i < n → dst i ≠ k) → a.tmps.getD k undef = a0.tmps.getD k undef
  bel : Below w0.heap.size w0 w
/-- the rule, for operations of which each makes a slot known, and memory -/
theorem facts_ {n : Nat} {dst : Nat → Nat} {F : Nat → Value → World → Prop} {id : Nat} {a0 : Act} {w0 : World} (hm : P.follows .mixedOrders = true) (hA : Ahead ops) (hn : ops.size = n)
    (hinj : ∀ i j, i < n → j < n → dst i = dst j → i = j) (hmono : ∀ i v w w', F i v w → Below w.heap.size w w' → F i v w')
    (step : ∀ (i : Nat) (o : Oper), ops[i]? = some o → ∀ a w, Mid n dst a0 w0 a w → (∀ e ∈ o.after, Region.binds .any e = true → F e.on (a.tmps.getD (dst e.on) undef) w) → wpOp P ops Q i (fun a' w' => Did (dst i) (F i) a w a' w') a w)
    (done : ∀ a w, Mid n dst a0 w0 a w → (∀ i, i < n → F i (a.tmps.getD (dst i) undef) w) → Q .normal a w) : (Code.region id ops true).wp P Q a0 w0 := by
  refine region_ (Inv := fun listed a w => listed.size = n ∧ Mid n dst a0 w0 a w ∧ ∀ i, i < n → listed.getD i false = true → F i (a.tmps.getD (dst i) undef) w) hm hA ?_ ?_ ?_
  · refine ⟨by simp [hn], ⟨rfl, rfl, fun _ _ => rfl, ⟨rfl, rfl, rfl, Nat.le_refl _, fun _ _ => rfl⟩⟩, fun i hi h => ?_⟩
    rw [Array.getD_eq_getD_getElem?, Array.getElem?_replicate] at h
    split at h <;> simp at h
  · intro i o ho listed a w hs h0 haft ⟨hsn, hM, hF⟩
    have hi : i < n := hn ▸ (Array.getElem?_eq_some_iff.1 ho).1
    refine wpOp_mono ?_ (step i o ho a w hM fun e he hb => hF _ (Nat.lt_trans (hA i o ho e he) hi) (haft e he hb))
    intro a' w' hD
    refine ⟨by simpa using hsn, ⟨hD.d.trans hM.d, hD.sz.trans hM.sz, fun k hk => (hD.oth k fun e => hk i hi e.symm).trans (hM.oth k hk), hM.bel.trans (hD.bel.mono hM.bel.size)⟩, fun j hj hl => ?_⟩
    rw [set_at (by omega)] at hl
    by_cases he : j = i
    · subst he; exact hD.f
    · rw [if_neg he] at hl
      rw [hD.oth _ fun e => he (hinj _ _ hj hi e)]
      exact hmono _ _ _ _ (hF j hj hl) hD.bel
  · intro listed a w hall ⟨hsn, hM, hF⟩
    exact done a w hM fun i hi => hF i hi (hall i (hn ▸ hi))
/-- what a region leaves: the frame as it was, and the operations' slots -/
def putAll (dst : Nat → Nat) (u : Nat → Value) : Nat → Act → Act
  | 0, a => a
  | n + 1, a => (putAll dst u n a).put (some (dst n)) (u n)
theorem putAll_defers (dst : Nat → Nat) (u : Nat → Value) (n : Nat) (a : Act) : (putAll dst u n a).defers = a.defers := by
  induction n with
  | zero => rfl
  | succ n ih => exact ih
theorem putAll_size (dst : Nat → Nat) (u : Nat → Value) (n : Nat) (a : Act) : (putAll dst u n a).tmps.size = a.tmps.size := by
  induction n with
  | zero => rfl
  | succ n ih => show ((putAll dst u n a).tmps.setIfInBounds _ _).size = _; rw [Array.size_setIfInBounds, ih]
theorem putAll_get (dst : Nat → Nat) (b : Act) (n : Nat) (a : Act) (k : Nat) (hk : k < a.tmps.size) (hs : b.tmps.size = a.tmps.size) :
    (putAll dst (fun i => b.tmps.getD (dst i) undef) n a).tmps.getD k undef = b.tmps.getD k undef ∨ ((putAll dst (fun i => b.tmps.getD (dst i) undef) n a).tmps.getD k undef = a.tmps.getD k undef ∧ ∀ i, i < n → dst i ≠ k) := by
  induction n with
  | zero => exact .inr ⟨rfl, fun i hi => absurd hi (by omega)⟩
  | succ n ih =>
    have hsz := putAll_size dst (fun i => b.tmps.getD (dst i) undef) n a
    by_cases e : k = dst n
    · left
      subst e
      exact (put_get (by rw [hsz]; exact hk) _).trans (if_pos rfl)
    · have hp : (putAll dst (fun i => b.tmps.getD (dst i) undef) (n + 1) a).tmps.getD k undef = (putAll dst (fun i => b.tmps.getD (dst i) undef) n a).tmps.getD k undef := by
        show ((putAll dst (fun i => b.tmps.getD (dst i) undef) n a).tmps.setIfInBounds _ _).getD k undef = _
        rw [Array.getD_eq_getD_getElem?, Array.getD_eq_getD_getElem?, Array.getElem?_setIfInBounds, if_neg (fun h => e h.symm)]
      rw [hp]
      rcases ih with h | ⟨h, hn⟩
      · exact .inl h
      · refine .inr ⟨h, fun i hi => ?_⟩
        by_cases hi' : i = n
        · subst hi'; exact fun h => e h.symm
        · exact hn i (by omega)
theorem Mid.eq {n : Nat} {dst : Nat → Nat} {a0 : Act} {w0 : World} {a : Act} {w : World} (h : Mid n dst a0 w0 a w) : a = putAll dst (fun i => a.tmps.getD (dst i) undef) n a0 := by
  have h1 := putAll_defers dst (fun i => a.tmps.getD (dst i) undef) n a0
  have h2 := putAll_size dst (fun i => a.tmps.getD (dst i) undef) n a0
  have h3 := putAll_get dst a n a0
  revert h1 h2 h3
  generalize putAll dst (fun i => a.tmps.getD (dst i) undef) n a0 = b
  intro h1 h2 h3
  obtain ⟨t, ds⟩ := b
  obtain ⟨t', ds'⟩ := a
  obtain rfl : ds = ds' := h1.trans h.d.symm
  have hs : t.size = t'.size := h2.trans h.sz.symm
  obtain rfl : t' = t := by
    refine Array.ext hs.symm fun k hk hk' => ?_
    have g : t'.getD k undef = t.getD k undef := by
      rcases h3 k (by rw [← h2]; exact hk') h.sz with e | ⟨e, hn⟩
      · exact e.symm
      · exact (h.oth k hn).trans e.symm
    rwa [Array.getD_eq_getD_getElem?, Array.getD_eq_getD_getElem?, Array.getElem?_eq_getElem hk, Array.getElem?_eq_getElem hk'] at g
  rfl
/-- the rule, where the function goes on behind the region -/
theorem facts2_ {n : Nat} {dst : Nat → Nat} {F : Nat → Value → World → Prop} {id : Nat} {a0 : Act} {w0 : World} (hm : P.follows .mixedOrders = true) (hA : Ahead ops) (hn : ops.size = n)
    (hinj : ∀ i j, i < n → j < n → dst i = dst j → i = j) (hmono : ∀ i v w w', F i v w → Below w.heap.size w w' → F i v w')
    (step : ∀ (i : Nat) (o : Oper), ops[i]? = some o → ∀ a w, Mid n dst a0 w0 a w → (∀ e ∈ o.after, Region.binds .any e = true → F e.on (a.tmps.getD (dst e.on) undef) w) → wpOp P ops Q i (fun a' w' => Did (dst i) (F i) a w a' w') a w)
    (done : ∀ (u : Nat → Value) w, Below w0.heap.size w0 w → (∀ i, i < n → F i (u i) w) → Q .normal (putAll dst u n a0) w) : (Code.region id ops true).wp P Q a0 w0 :=
  facts_ hm hA hn hinj hmono step fun a w hM hF => by
    have := done (fun i => a.tmps.getD (dst i) undef) w hM.bel hF
    rwa [← hM.eq] at this
end OI
end Go.Proofs.YtnlbhnmiekanfaaGreatDoor
