/-
  A region that draws its order, by facts each of which rests on blocks of its own: an operation may take over the blocks of those that it waits for, and write there; all other facts stay. It speaks of no program. Conditions: those of the rule.
-/
import Derived.Test.YtlmblfkcmhgdaaaObjI
namespace Go.Proofs.Ytlmblfkcmhgdaaa
open Go.RowKit
set_option linter.unusedVariables false
set_option linter.unusedSimpArgs false
namespace SU
open OI
variable {P : Program} {ops : Array Oper} {Q : Exit → Act → World → Prop}
/-- an operation waits, where it must, for those ahead of it alone -/
def AheadB (ops : Array Oper) : Prop := ∀ (i : Nat) (o : Oper), ops[i]? = some o → ∀ e ∈ o.after, Region.binds .any e = true → e.on < i
theorem aheadB_of (h : ((List.range ops.size).all fun i => ((ops[i]?).map fun o => o.after.all fun e => !(Region.binds .any e) || decide (e.on < i)).getD true) = true) : AheadB ops := by
  intro i o ho e he hb
  have hi : i < ops.size := (Array.getElem?_eq_some_iff.1 ho).1
  have := List.all_eq_true.1 h i (List.mem_range.2 hi)
  rw [ho] at this
  simp only [Option.map_some, Option.getD_some] at this
  have h2 := Array.all_eq_true_iff_forall_mem.1 this e he
  rw [hb] at h2
  simpa using h2
theorem all_doneB {listed : Array Bool} (hA : AheadB ops) (hs : listed.size = ops.size) (h : Region.ready .any ops listed = []) : ∀ j, j < ops.size → listed.getD j false = true := by
  intro j
  induction j using Nat.strongRecOn with
  | ind j ih =>
    intro hj
    cases hd : listed.getD j true with
    | true =>
      have hlt : j < listed.size := by omega
      rw [Array.getD_eq_getD_getElem?, Array.getElem?_eq_getElem hlt] at hd ⊢
      exact hd
    | false =>
      exfalso
      have ho : ops[j]? = some ops[j] := Array.getElem?_eq_getElem hj
      have hm : j ∈ Region.ready .any ops listed := mem_ready.2 ⟨hd, ops[j], ho, fun e he hb => ih e.on (hA j _ ho e he hb) (Nat.lt_trans (hA j _ ho e he hb) hj)⟩
      rw [h] at hm
      cases hm
theorem inv_anyB {Inv : Array Bool → Act → World → Prop} (hA : AheadB ops)
    (step : ∀ (i : Nat) (o : Oper), ops[i]? = some o → ∀ listed a w, listed.size = ops.size → listed.getD i true = false → (∀ e ∈ o.after, Region.binds .any e = true → listed.getD e.on false = true) → Inv listed a w → wpOp P ops Q i (fun a' w' => Inv (listed.setIfInBounds i true) a' w') a w)
    (done : ∀ listed a w, (∀ j, j < ops.size → listed.getD j false = true) → Inv listed a w → Q .normal a w) :
    ∀ fuel listed a w, listed.size = ops.size → left listed ≤ fuel → Inv listed a w → wpAny P .any ops Q fuel listed a w := by
  intro fuel
  induction fuel with
  | zero =>
    intro listed a w hs hl hi
    have hr := none_left (md := .any) hs (Nat.le_zero.1 hl)
    exact ⟨hr, done listed a w (all_doneB hA hs hr) hi⟩
  | succ fuel ih =>
    intro listed a w hs hl hi
    refine ⟨fun hr => done listed a w (all_doneB hA hs hr) hi, fun i hm => ?_⟩
    obtain ⟨h0, o, ho, haft⟩ := mem_ready.1 hm
    refine wpOp_mono (fun a' w' hi' => ih _ a' w' (by rw [Array.size_setIfInBounds]; exact hs) ?_ hi') (step i o ho listed a w hs h0 haft hi)
    have := left_set h0
    omega
theorem region_B {Inv : Array Bool → Act → World → Prop} {id : Nat} {a : Act} {w : World} (hm : P.follows .mixedOrders = true) (hA : AheadB ops) (h0 : Inv (Array.replicate ops.size false) a w.drew)
    (step : ∀ (i : Nat) (o : Oper), ops[i]? = some o → ∀ listed a w, listed.size = ops.size → listed.getD i true = false → (∀ e ∈ o.after, Region.binds .any e = true → listed.getD e.on false = true) → Inv listed a w → wpOp P ops Q i (fun a' w' => Inv (listed.setIfInBounds i true) a' w') a w)
    (done : ∀ listed a w, (∀ j, j < ops.size → listed.getD j false = true) → Inv listed a w → Q .normal a w) : (Code.region id ops true).wp P Q a w :=
  wp_region_any hm (inv_anyB hA step done _ _ _ _ (by simp) (by unfold left; simp) h0)
/-- what an operation's slot holds -/
def got (dst : Nat → Option Nat) (a : Act) (i : Nat) : Value := match dst i with
  | some d => a.tmps.getD d undef
  | none => undef
structure Plan (n : Nat) (dst : Nat → Option Nat) (dep : Nat → List Nat) (cons : Nat → Nat → Prop) (H : Nat) (G : Nat → (Nat → Value) → Prop) (F : Nat → (Nat → Value) → World → (Nat → Prop) → Prop) : Prop where
  inj : ∀ i j d, i < n → j < n → dst i = some d → dst j = some d → i = j
  lt : ∀ i j, i < n → j ∈ dep i → j < i
  one : ∀ i i' m, i < n → i' < n → cons i m → cons i' m → i = i'
  cdep : ∀ i m, cons i m → m ∈ dep i
  g : ∀ i u u', i < n → (∀ j, j = i ∨ j ∈ dep i → u j = u' j) → G i u → G i u'
  f : ∀ i u u' w w' S, i < n → (∀ j, j = i ∨ j ∈ dep i → u j = u' j) → w.heap.size ≤ w'.heap.size → (∀ k, k < w.heap.size → (k < H ∨ S k) → w'.heap[k]? = w.heap[k]?) → F i u w S → F i u' w' S
structure Mid (n : Nat) (dst : Nat → Option Nat) (a0 : Act) (w0 : World) (a : Act) (w : World) : Prop where
  d : a.defers = a0.defers
  sz : a.tmps.size = a0.tmps.size
  oth : ∀ k, (∀ i, i < n → dst i ≠ some k) → a.tmps.getD k undef = a0.tmps.getD k undef
  bel : Below w0.heap.size w0 w
/-- what an operation leaves -/
def Did (dst : Nat → Option Nat) (cons : Nat → Nat → Prop) (i : Nat) (S : Nat → Nat → Prop) (G : (Nat → Value) → Prop) (F : (Nat → Value) → World → (Nat → Prop) → Prop) (a : Act) (w : World) (a' : Act) (w' : World) : Prop :=
  ∃ (v : Value) (S' : Nat → Prop), a' = a.put (dst i) v ∧ w'.os = w.os ∧ w'.tape = w.tape ∧ w'.output = w.output ∧ w.heap.size ≤ w'.heap.size ∧ (∀ k, k < w.heap.size → (∀ m, cons i m → ¬ S m k) → w'.heap[k]? = w.heap[k]?) ∧
    (∀ k, S' k → (∃ m, cons i m ∧ S m k) ∨ (w.heap.size ≤ k ∧ k < w'.heap.size)) ∧ G (got dst a') ∧ F (got dst a') w' S'
def On (L : Array Bool) (i : Nat) : Prop := L.getD i false = true
def Live (n : Nat) (cons : Nat → Nat → Prop) (L : Array Bool) (i : Nat) : Prop := ∀ j, j < n → On L j → ¬ cons j i
structure Sup (n : Nat) (dst : Nat → Option Nat) (cons : Nat → Nat → Prop) (H : Nat) (F : Nat → (Nat → Value) → World → (Nat → Prop) → Prop) (L : Array Bool) (a : Act) (w : World) (S : Nat → Nat → Prop) : Prop where
  bd : ∀ i k, i < n → On L i → Live n cons L i → S i k → H ≤ k ∧ k < w.heap.size
  dj : ∀ i j k, i < n → j < n → i ≠ j → On L i → On L j → Live n cons L i → Live n cons L j → S i k → ¬ S j k
  f : ∀ i, i < n → On L i → Live n cons L i → F i (got dst a) w (S i)
theorem got_put {n : Nat} {dst : Nat → Option Nat} {a : Act} {v : Value} {i j : Nat} (hd : ∀ i j d, i < n → j < n → dst i = some d → dst j = some d → i = j) (hi : i < n) (hj : j < n) (hne : j ≠ i) : got dst (a.put (dst i) v) j = got dst a j := by
  unfold got
  cases ej : dst j with
  | none => rfl
  | some d =>
    simp only
    cases ei : dst i with
    | none => rfl
    | some d' =>
      show (a.tmps.setIfInBounds d' v).getD d undef = _
      rw [Array.getD_eq_getD_getElem?, Array.getD_eq_getD_getElem?, Array.getElem?_setIfInBounds]
      rw [if_neg (fun e => hne (hd j i d hj hi ej (by rw [ei, e])))]
theorem on_set {L : Array Bool} {i j : Nat} (h : i < L.size) : On (L.setIfInBounds i true) j ↔ j = i ∨ On L j := by
  unfold On
  rw [OI.set_at h]
  by_cases e : j = i
  · subst e; simp
  · rw [if_neg e]; simp [e]
/-- THE RULE -/
theorem plan_ {n : Nat} {dst : Nat → Option Nat} {dep : Nat → List Nat} {cons : Nat → Nat → Prop} {G : Nat → (Nat → Value) → Prop} {F : Nat → (Nat → Value) → World → (Nat → Prop) → Prop} {id : Nat} {a0 : Act} {w0 : World} (hm : P.follows .mixedOrders = true) (hA : AheadB ops) (hn : ops.size = n)
    (pl : Plan n dst dep cons w0.heap.size G F) (hdep : ∀ i o, ops[i]? = some o → ∀ j ∈ dep i, ∃ e ∈ o.after, e.on = j ∧ Region.binds .any e = true)
    (step : ∀ (i : Nat) (o : Oper), ops[i]? = some o → ∀ (a : Act) (w : World) (S : Nat → Nat → Prop), Mid n dst a0 w0 a w → (∀ j ∈ dep i, G j (got dst a)) → (∀ m, cons i m → F m (got dst a) w (S m)) → (∀ m k, cons i m → S m k → w0.heap.size ≤ k ∧ k < w.heap.size) → (∀ m m' k, cons i m → cons i m' → m ≠ m' → S m k → ¬ S m' k) → wpOp P ops Q i (fun a' w' => Did dst cons i S (G i) (F i) a w a' w') a w)
    (done : ∀ (a : Act) (w : World) (S : Nat → Nat → Prop), Mid n dst a0 w0 a w → (∀ i, i < n → G i (got dst a)) → (∀ i, i < n → (∀ j, j < n → ¬ cons j i) → F i (got dst a) w (S i) ∧ ∀ k, S i k → w0.heap.size ≤ k ∧ k < w.heap.size) → (∀ i j k, i < n → j < n → i ≠ j → (∀ m, m < n → ¬ cons m i) → (∀ m, m < n → ¬ cons m j) → S i k → ¬ S j k) → Q .normal a w) :
    (Code.region id ops true).wp P Q a0 w0 := by
  refine region_B (Inv := fun L a w => L.size = n ∧ Mid n dst a0 w0 a w ∧ (∀ i, i < n → On L i → ∀ j ∈ dep i, On L j) ∧ (∀ i, i < n → On L i → G i (got dst a)) ∧ ∃ S, Sup n dst cons w0.heap.size F L a w S) hm hA ?_ ?_ ?_
  · have off : ∀ i, ¬ On (Array.replicate ops.size false) i := fun i h => by
      unfold On at h
      rw [Array.getD_eq_getD_getElem?, Array.getElem?_replicate] at h
      split at h <;> simp at h
    exact ⟨by simp [hn], ⟨rfl, rfl, fun _ _ => rfl, ⟨rfl, rfl, rfl, Nat.le_refl _, fun _ _ => rfl⟩⟩, fun i _ h => absurd h (off i), fun i _ h => absurd h (off i), fun _ _ => False, ⟨fun i k _ h => absurd h (off i), fun i j k _ _ _ h => absurd h (off i), fun i _ h => absurd h (off i)⟩⟩
  · intro i o ho L a w hs h0 haft ⟨hsn, hM, hD, hG, S, hS⟩
    have hi : i < n := hn ▸ (Array.getElem?_eq_some_iff.1 ho).1
    have hdl : ∀ j ∈ dep i, On L j := fun j hj => by
      obtain ⟨e, he, rfl, hb⟩ := hdep i o ho j hj
      exact haft e he hb
    have hoff : ¬ On L i := fun h => by
      unfold On at h
      have hlt : i < L.size := by omega
      rw [Array.getD_eq_getD_getElem?, Array.getElem?_eq_getElem hlt] at h0 h
      simp only [Option.getD_some] at h0 h
      rw [h0] at h; cases h
    have hlt : ∀ j ∈ dep i, j < n := fun j hj => Nat.lt_trans (pl.lt i j hi hj) hi
    have live : ∀ m, cons i m → Live n cons L m := fun m hc j hj hon hcj => hoff (by rw [pl.one i j m hi hj hc hcj]; exact hon)
    refine wpOp_mono ?_ (step i o ho a w S hM (fun j hj => hG j (hlt j hj) (hdl j hj)) (fun m hc => hS.f m (hlt m (pl.cdep i m hc)) (hdl m (pl.cdep i m hc)) (live m hc)) (fun m k hc hk => hS.bd m k (hlt m (pl.cdep i m hc)) (hdl m (pl.cdep i m hc)) (live m hc) hk) (fun m m' k hc hc' hne => hS.dj m m' k (hlt m (pl.cdep i m hc)) (hlt m' (pl.cdep i m' hc')) hne (hdl m (pl.cdep i m hc)) (hdl m' (pl.cdep i m' hc')) (live m hc) (live m' hc')))
    rintro a' w' ⟨v, S', rfl, e1, e2, e3, e4, e5, e6, e7, e8⟩
    have on := fun j => on_set (L := L) (i := i) (j := j) (by omega)
    have same : ∀ j, j < n → On L j → ∀ k, k = j ∨ k ∈ dep j → got dst a k = got dst (a.put (dst i) v) k := fun j hj hon k hk => by
      have hk' : k < n ∧ On L k := by
        rcases hk with rfl | hk
        · exact ⟨hj, hon⟩
        · exact ⟨Nat.lt_trans (pl.lt j k hj hk) hj, hD j hj hon k hk⟩
      exact (got_put pl.inj hi hk'.1 (fun e => hoff (e ▸ hk'.2))).symm
    have liveOld : ∀ j, Live n cons (L.setIfInBounds i true) j → Live n cons L j ∧ ¬ cons i j := fun j h => ⟨fun m hm hon => h m hm ((on m).2 (.inr hon)), h i hi ((on i).2 (.inl rfl))⟩
    refine ⟨by simpa using hsn, ⟨(show (a.put (dst i) v).defers = a.defers by cases dst i <;> rfl).trans hM.d, (show (a.put (dst i) v).tmps.size = a.tmps.size by cases dst i with | none => rfl | some d => exact Array.size_setIfInBounds).trans hM.sz, fun k hk => ?_, hM.bel.trans ⟨e1, e2, e3, e4, fun k hk => ?_⟩⟩, fun j hj hon m hm => ?_, fun j hj hon => ?_, fun j => if j = i then S' else S j, ⟨fun j k hj hon hl hk => ?_, fun j j' k hj hj' hne hon hon' hl hl' hk hk' => ?_, fun j hj hon hl => ?_⟩⟩
    · rw [← hM.oth k hk]
      have := hk i hi
      cases ei : dst i with
      | none => rfl
      | some d =>
        show (a.tmps.setIfInBounds d v).getD k undef = _
        rw [Array.getD_eq_getD_getElem?, Array.getD_eq_getD_getElem?, Array.getElem?_setIfInBounds, if_neg (fun e => this (by rw [ei, e]))]
    · exact e5 k (Nat.lt_of_lt_of_le hk hM.bel.size) fun m hc hm => by
        have := hS.bd m k (hlt m (pl.cdep i m hc)) (hdl m (pl.cdep i m hc)) (live m hc) hm
        omega
    · rcases (on j).1 hon with rfl | h
      · exact (on m).2 (.inr (hdl m hm))
      · exact (on m).2 (.inr (hD j hj h m hm))
    · rcases (on j).1 hon with rfl | h
      · exact e7
      · exact pl.g j _ _ hj (same j hj h) (hG j hj h)
    · obtain ⟨hl1, hl2⟩ := liveOld j hl
      by_cases e : j = i
      · simp only [e, if_true] at hk
        rcases e6 k hk with ⟨m, hc, hm⟩ | ⟨h1, h2⟩
        · have := hS.bd m k (hlt m (pl.cdep i m hc)) (hdl m (pl.cdep i m hc)) (live m hc) hm
          omega
        · exact ⟨Nat.le_trans hM.bel.size h1, h2⟩
      · simp only [e, if_false] at hk
        rcases (on j).1 hon with rfl | h
        · exact absurd rfl e
        · have := hS.bd j k hj h hl1 hk
          omega
    · obtain ⟨hl1, hl2⟩ := liveOld j hl
      obtain ⟨hl1', hl2'⟩ := liveOld j' hl'
      have key : ∀ x, x < n → x ≠ i → On (L.setIfInBounds i true) x → Live n cons L x → ¬ cons i x → S x k → ¬ S' k := fun x hx hxi hox hlx hcx hsx hs' => by
        have hox' : On L x := by
          rcases (on x).1 hox with h | h
          · exact absurd h hxi
          · exact h
        rcases e6 k hs' with ⟨m, hc, hm⟩ | ⟨h1, h2⟩
        · exact hS.dj m x k (hlt m (pl.cdep i m hc)) hx (fun e => hcx (e ▸ hc)) (hdl m (pl.cdep i m hc)) hox' (live m hc) hlx hm hsx
        · have := hS.bd x k hx hox' hlx hsx
          omega
      by_cases e : j = i
      · by_cases e' : j' = i
        · exact hne (e.trans e'.symm)
        · simp only [e, if_true] at hk
          simp only [e', if_false] at hk'
          exact key j' hj' e' hon' hl1' hl2' hk' hk
      · by_cases e' : j' = i
        · simp only [e, if_false] at hk
          simp only [e', if_true] at hk'
          exact key j hj e hon hl1 hl2 hk hk'
        · simp only [e, if_false] at hk
          simp only [e', if_false] at hk'
          rcases (on j).1 hon with h | h
          · exact e h
          · rcases (on j').1 hon' with h' | h'
            · exact e' h'
            · exact hS.dj j j' k hj hj' hne h h' hl1 hl1' hk hk'
    · obtain ⟨hl1, hl2⟩ := liveOld j hl
      by_cases e : j = i
      · subst e
        simp only [if_true]
        exact e8
      · simp only [e, if_false]
        have h : On L j := by
          rcases (on j).1 hon with h | h
          · exact absurd h e
          · exact h
        refine pl.f j _ _ w w' _ hj (same j hj h) e4 (fun k hk hks => e5 k hk fun m hc hm => ?_) (hS.f j hj h hl1)
        have hb := hS.bd m k (hlt m (pl.cdep i m hc)) (hdl m (pl.cdep i m hc)) (live m hc) hm
        rcases hks with hks | hks
        · omega
        · exact hS.dj m j k (hlt m (pl.cdep i m hc)) hj (fun q => hl2 (q ▸ hc)) (hdl m (pl.cdep i m hc)) h (live m hc) hl1 hm hks
  · intro L a w hall ⟨hsn, hM, hD, hG, S, hS⟩
    have hon : ∀ i, i < n → On L i := fun i hi => hall i (by omega)
    have hlv : ∀ i, (∀ j, j < n → ¬ cons j i) → Live n cons L i := fun i h j hj _ => h j hj
    exact done a w S hM (fun i hi => hG i hi (hon i hi)) (fun i hi h => ⟨hS.f i hi (hon i hi) (hlv i h), fun k hk => hS.bd i k hi (hon i hi) (hlv i h) hk⟩) fun i j k hi hj hne h1 h2 => hS.dj i j k hi hj hne (hon i hi) (hon j hj) (hlv i h1) (hlv j h2)
theorem dep_of {dep : Nat → List Nat} (h : ((List.range ops.size).all fun i => ((ops[i]?).map fun o => (dep i).all fun j => o.after.any fun e => decide (e.on = j) && Region.binds .any e).getD true) = true) : ∀ i o, ops[i]? = some o → ∀ j ∈ dep i, ∃ e ∈ o.after, e.on = j ∧ Region.binds .any e = true := by
  intro i o ho j hj
  have hi : i < ops.size := (Array.getElem?_eq_some_iff.1 ho).1
  have := List.all_eq_true.1 h i (List.mem_range.2 hi)
  rw [ho] at this
  simp only [Option.map_some, Option.getD_some] at this
  have h2 := List.all_eq_true.1 this j hj
  obtain ⟨k, hk, h3⟩ := Array.any_eq_true.1 h2
  simp only [Bool.and_eq_true, decide_eq_true_eq] at h3
  exact ⟨_, Array.getElem_mem hk, h3.1, h3.2⟩
/-- slots as numbers: an operation without one has one that lies beyond all -/
def num (dst : Nat → Option Nat) (i : Nat) : Nat := (dst i).getD 100000
theorem Mid.eq {n : Nat} {dst : Nat → Option Nat} {a0 : Act} {w0 : World} {a : Act} {w : World} (h : Mid n dst a0 w0 a w) : a = putAll (num dst) (fun i => a.tmps.getD (num dst i) undef) n a0 :=
  OI.Mid.eq (w0 := w0) (w := w) ⟨h.d, h.sz, fun k hk => h.oth k fun i hi e => hk i hi (by unfold num; rw [e]; rfl), h.bel⟩
theorem put_out {a : Act} {d : Nat} (v : Value) (h : a.tmps.size ≤ d) : a.put (some d) v = a := by
  obtain ⟨t, ds⟩ := a
  show (⟨t.setIfInBounds d v, ds⟩ : Act) = _
  congr 1
  exact Array.setIfInBounds_eq_of_size_le h
/-- an operation that writes into blocks that it takes over, or makes new ones -/
theorem did_ {n : Nat} {dst : Nat → Option Nat} {cons : Nat → Nat → Prop} {i d : Nat} {S : Nat → Nat → Prop} {G : (Nat → Value) → Prop} {F : (Nat → Value) → World → (Nat → Prop) → Prop} {a : Act} {w w' : World} (v : Value) (S' : Nat → Prop) (hinj : ∀ i j d, i < n → j < n → dst i = some d → dst j = some d → i = j) (hi : i < n) (hd : dst i = some d) (hsz : d < a.tmps.size) (h1 : w'.os = w.os) (h2 : w'.tape = w.tape) (h3 : w'.output = w.output) (h4 : w.heap.size ≤ w'.heap.size)
    (h5 : ∀ k, k < w.heap.size → (∀ m, cons i m → ¬ S m k) → w'.heap[k]? = w.heap[k]?) (h6 : ∀ k, S' k → (∃ m, cons i m ∧ S m k) ∨ (w.heap.size ≤ k ∧ k < w'.heap.size)) (h7 : ∀ u : Nat → Value, u i = v → (∀ j, j < n → j ≠ i → u j = got dst a j) → G u ∧ F u w' S') : Did dst cons i S G F a w (a.put (some d) v) w' := by
  have e : got dst (a.put (some d) v) i = v := by
    unfold got
    rw [hd]
    show (a.tmps.setIfInBounds d v).getD d undef = v
    rw [Array.getD_eq_getD_getElem?, Array.getElem?_setIfInBounds, if_pos rfl, if_pos hsz]; rfl
  obtain ⟨g, f⟩ := h7 (got dst (a.put (some d) v)) e fun j hj hne => by
    have := got_put (v := v) hinj hi hj hne (a := a)
    rwa [hd] at this
  exact ⟨v, S', by rw [hd], h1, h2, h3, h4, h5, h6, g, f⟩
theorem did_b {n : Nat} {dst : Nat → Option Nat} {cons : Nat → Nat → Prop} {i d : Nat} {S : Nat → Nat → Prop} {G : (Nat → Value) → Prop} {F : (Nat → Value) → World → (Nat → Prop) → Prop} {a : Act} {w w' : World} (v : Value) (S' : Nat → Prop) (hinj : ∀ i j d, i < n → j < n → dst i = some d → dst j = some d → i = j) (hi : i < n) (hd : dst i = some d) (hsz : d < a.tmps.size) (hb : Below w.heap.size w w')
    (h6 : ∀ k, S' k → w.heap.size ≤ k ∧ k < w'.heap.size) (h7 : ∀ u : Nat → Value, u i = v → (∀ j, j < n → j ≠ i → u j = got dst a j) → G u ∧ F u w' S') : Did dst cons i S G F a w (a.put (some d) v) w' :=
  did_ v S' hinj hi hd hsz hb.os hb.tape hb.output hb.size (fun k hk _ => hb.block k hk) (fun k hk => .inr (h6 k hk)) h7
end SU
end Go.Proofs.Ytlmblfkcmhgdaaa
