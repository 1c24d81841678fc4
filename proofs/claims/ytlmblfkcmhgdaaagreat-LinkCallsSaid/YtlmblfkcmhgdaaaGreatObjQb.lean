/-
  Check's small parts: isFromTo, isOfKind, rise, isSymbol: contracts. Conditions: strings and slices are such as memory holds.
  The program's fault: what it does is done; a flaw that is thrown is caught and answered as an error. No condition but those that are written at each.
  A region that draws its order, by an invariant: what holds of what has been done so far holds at the end, whatever the order. It speaks of no program. Condition: an operation waits for those ahead of it alone.
-/
import Derived.Test.YtlmblfkcmhgdaaaGreatObjQa
import Derived.OwnWalk
import Derived.Laws.OwnMore
import Derived.Laws.Cells
import Derived.Defers
import Derived.Recover
import Derived.Laws.Pointers
import Derived.Orders
import Derived.WalkKit
import Derived.Below
namespace Go.Proofs.YtlmblfkcmhgdaaaGreat
open Go.RowKit
set_option linter.unusedVariables false
set_option linter.unusedSimpArgs false
namespace OU
open OO OJ OM ON
theorem ret_bool {a b : Bool} (h : a = b) : Ending.returned (.bool a) = .returned (.bool b) := by rw [h]
def fromB (n l m : Int) : Bool := decide (l ≤ n ∧ n ≤ m)
def kindB (k p : Int) : Bool := decide ((p = 38 ∧ k = 1) ∨ ((18 ≤ p ∧ p ≤ 23 ∨ 27 ≤ p ∧ p ≤ 29 ∨ p = 41 ∨ p = 43) ∧ k = 2) ∨ ((p = 30 ∨ p = 31 ∨ p = 44) ∧ k = 3) ∨ (p = 40 ∧ k = 4) ∨ (32 ≤ p ∧ p ≤ 37 ∧ k = 5))
def riseB (s t : RelV) : Bool := decide (s.sect < t.sect ∨ s.sect = t.sect ∧ s.place < t.place)
def placeB (nt nd : Nat) (s : SymV) : Bool := decide ((s.sect = 0 ∧ s.val = 0 ∧ s.frame = 0 ∧ s.glob = true) ∨ (s.sect = 1 ∧ 0 ≤ s.val ∧ s.val ≤ nt ∧ 0 ≤ s.frame ∧ s.frame ≤ 1048576 ∧ s.frame % 16 = 0) ∨ (s.sect = 2 ∧ 0 ≤ s.val ∧ s.val ≤ nd ∧ s.frame = 0))
def symOk (nt nd : Nat) (s : SymV) : Bool := nameB s.name && placeB nt nd s
set_option maxRecDepth 100000 in
set_option maxHeartbeats 1000000 in
theorem fromto_ (n l m : Int) (w : World) :
    Calls Tryz.prog 172 #[.int .i64 n, .int .i64 l, .int .i64 m] w fun e w' => e = .returned (.bool (fromB n l m)) ∧ w = w' := by
  go_enter Tryz.func172, Tryz.ntmps172
  go_wp2
  all_goals
    go_ret
    exact ⟨ret_bool (by rw [Bool.eq_iff_iff]; unfold fromB; simp; try omega), rfl⟩
theorem fromto_yes {n l m : Int} (h : l ≤ n ∧ n ≤ m) (w : World) : Calls Tryz.prog 172 #[.int .i64 n, .int .i64 l, .int .i64 m] w fun e w' => e = .returned (.bool true) ∧ w = w' := by
  have := fromto_ n l m w
  rwa [show fromB n l m = true from decide_eq_true h] at this
theorem fromto_no {n l m : Int} (h : ¬ (l ≤ n ∧ n ≤ m)) (w : World) : Calls Tryz.prog 172 #[.int .i64 n, .int .i64 l, .int .i64 m] w fun e w' => e = .returned (.bool false) ∧ w = w' := by
  have := fromto_ n l m w
  rwa [show fromB n l m = false from decide_eq_false h] at this
set_option maxRecDepth 100000 in
set_option maxHeartbeats 4000000 in
theorem kind_ (k p : Int) (w : World) :
    Calls Tryz.prog 147 #[.int .i64 k, .int .i64 p] w fun e w' => e = .returned (.bool (kindB k p)) ∧ w = w' := by
  go_enter Tryz.func147, Tryz.ntmps147
  go_wp2
  all_goals
    go_ret
    exact ⟨ret_bool (by rw [Bool.eq_iff_iff]; unfold kindB; simp only [beq_iff_eq, beq_eq_false_iff_ne, decide_eq_true_eq, Bool.false_eq_true, false_iff] at *; omega), rfl⟩
set_option maxRecDepth 100000 in
set_option maxHeartbeats 4000000 in
theorem rise_ (s t : RelV) (w : World) :
    Calls Tryz.prog 167 #[.agg #[.int .i64 s.sect, .int .i64 s.place, .int .i64 s.kind, .int .i64 s.sym, .int .i64 s.add], .agg #[.int .i64 t.sect, .int .i64 t.place, .int .i64 t.kind, .int .i64 t.sym, .int .i64 t.add]] w fun e w' => e = .returned (.bool (riseB s t)) ∧ Below w.heap.size w w' := by
  obtain ⟨s0, s1, s2, s3, s4⟩ := s
  obtain ⟨t0, t1, t2, t3, t4⟩ := t
  by_cases h1 : s0 < t0
  all_goals by_cases h2 : s0 = t0
  all_goals by_cases h3 : s1 < t1
  all_goals first
    | (exfalso; omega)
    | (have b1 : decide (s0 < t0) = decide (s0 < t0) := rfl
       go_enter Tryz.func167, Tryz.ntmps167
       go_wp2
       go_ret
       exact ⟨ret_bool (by unfold riseB; simp; try omega), ((Below.refl _ _).alloc (Nat.le_refl _) _).alloc (by simp) _⟩)
set_option maxRecDepth 100000 in
set_option maxHeartbeats 8000000 in
theorem symbol_ {nt nd n2 n3 q0 q1 q2 q3 : Nat} {p0 p1 p2 p3 : Option Addr} (s : SymV) (w : World) (hn : s.name.size ≤ maxLen) (h0 : nt ≤ maxLen) (h1 : nd ≤ maxLen) :
    Calls Tryz.prog 166 #[.agg #[.slice p0 nt q0, .slice p1 nd q1, .slice p2 n2 q2, .slice p3 n3 q3], .agg #[.string s.name, .int .i64 s.sect, .int .i64 s.val, .int .i64 s.frame, .bool s.glob]] w fun e w' => e = .returned (.bool (symOk nt nd s)) ∧ Below w.heap.size w w' := by
  have c1 := fun w => ON.name_ s.name w hn
  have hB := fun (x y : Obj) => (((Below.refl w.heap.size w).alloc (Nat.le_refl _) x).alloc (by simp) y : Below w.heap.size w ((w.alloc x).alloc y))
  have HB := Lib.hid hB
  obtain ⟨nm, sc, vl, fr, gl⟩ := s
  simp only at c1 hn ⊢
  unfold maxLen at h0 h1
  clear hB hn
  have HX : ∃ x, x = nameB nm := ⟨_, rfl⟩
  obtain ⟨x, hx⟩ := HX
  rw [← hx] at c1
  have HX := Lib.hid hx
  clear hx
  cases x with
  | false =>
    go_enter Tryz.func166, Tryz.ntmps166
    go_wp2_with (go_at_call 171; (with_reducible refine (c1 _).mono ?_); rintro e w1 ⟨rfl, rfl⟩)
    go_ret
    exact ⟨ret_bool (by unfold symOk; rw [← HX.out]; rfl), HB.out _ _⟩
  | true =>
    by_cases e0 : sc = 0
    · by_cases e1 : vl = 0
      all_goals by_cases e2 : fr = 0
      all_goals cases gl
      all_goals
        have HE := Lib.hid (⟨e0, e1, e2⟩ : _ ∧ _ ∧ _)
        go_enter Tryz.func166, Tryz.ntmps166
        go_wp2_with (go_at_call 171; (with_reducible refine (c1 _).mono ?_); rintro e w1 ⟨rfl, rfl⟩)
        go_ret
        exact ⟨ret_bool (by unfold symOk placeB; rw [← HX.out]; have := HE.out; simp; first | omega | (rw [Bool.eq_iff_iff]; simp; omega)), HB.out _ _⟩
    · by_cases e1 : sc = 1
      · subst e1
        by_cases hv : 0 ≤ vl ∧ vl ≤ (nt : Int)
        · have c2 := fromto_yes hv
          by_cases hf : 0 ≤ fr ∧ fr ≤ 1048576
          · have c3 := fromto_yes hf
            have ht := Int.tmod_eq_emod_of_nonneg (b := 16) hf.1
            by_cases hm : fr.tmod 16 = 0
            all_goals
              have HE := Lib.hid (⟨hv, hf, ht, hm⟩ : _ ∧ _ ∧ _ ∧ _)
              clear hv hf ht
              go_enter Tryz.func166, Tryz.ntmps166
              go_wp2_with (first
                | (go_at_call 171; (with_reducible refine (c1 _).mono ?_); rintro e w1 ⟨rfl, rfl⟩)
                | (go_at_call 172; (with_reducible refine (c2 _).mono ?_); rintro e w1 ⟨rfl, rfl⟩)
                | (go_at_call 172; (with_reducible refine (c3 _).mono ?_); rintro e w1 ⟨rfl, rfl⟩))
              go_ret
              exact ⟨ret_bool (by unfold symOk placeB; rw [← HX.out]; have := HE.out; simp; first | omega | (rw [Bool.eq_iff_iff]; simp; omega)), HB.out _ _⟩
          · have c3 := fromto_no hf
            have HE := Lib.hid (⟨hv, hf⟩ : _ ∧ _)
            clear hv hf
            go_enter Tryz.func166, Tryz.ntmps166
            go_wp2_with (first
              | (go_at_call 171; (with_reducible refine (c1 _).mono ?_); rintro e w1 ⟨rfl, rfl⟩)
              | (go_at_call 172; (with_reducible refine (c2 _).mono ?_); rintro e w1 ⟨rfl, rfl⟩)
              | (go_at_call 172; (with_reducible refine (c3 _).mono ?_); rintro e w1 ⟨rfl, rfl⟩))
            go_ret
            exact ⟨ret_bool (by unfold symOk placeB; rw [← HX.out]; have := HE.out; simp; first | omega | (rw [Bool.eq_iff_iff]; simp; omega)), HB.out _ _⟩
        · have c2 := fromto_no hv
          have c3 := c2
          have HE := Lib.hid hv
          clear hv
          go_enter Tryz.func166, Tryz.ntmps166
          go_wp2_with (first
            | (go_at_call 171; (with_reducible refine (c1 _).mono ?_); rintro e w1 ⟨rfl, rfl⟩)
            | (go_at_call 172; (with_reducible refine (c2 _).mono ?_); rintro e w1 ⟨rfl, rfl⟩)
            | (go_at_call 172; (with_reducible refine (c3 _).mono ?_); rintro e w1 ⟨rfl, rfl⟩))
          go_ret
          exact ⟨ret_bool (by unfold symOk placeB; rw [← HX.out]; have := HE.out; simp; first | omega | (rw [Bool.eq_iff_iff]; simp; omega)), HB.out _ _⟩
      · by_cases e2 : sc = 2
        · subst e2
          by_cases hv : 0 ≤ vl ∧ vl ≤ (nd : Int)
          · have c2 := fromto_yes hv
            have c3 := c2
            by_cases hf : fr = 0
            all_goals
              have HE := Lib.hid (⟨hv, hf⟩ : _ ∧ _)
              clear hv
              go_enter Tryz.func166, Tryz.ntmps166
              go_wp2_with (first
                | (go_at_call 171; (with_reducible refine (c1 _).mono ?_); rintro e w1 ⟨rfl, rfl⟩)
                | (go_at_call 172; (with_reducible refine (c2 _).mono ?_); rintro e w1 ⟨rfl, rfl⟩)
                | (go_at_call 172; (with_reducible refine (c3 _).mono ?_); rintro e w1 ⟨rfl, rfl⟩))
              go_ret
              exact ⟨ret_bool (by unfold symOk placeB; rw [← HX.out]; have := HE.out; simp; first | omega | (rw [Bool.eq_iff_iff]; simp; omega)), HB.out _ _⟩
          · have c2 := fromto_no hv
            have c3 := c2
            have HE := Lib.hid hv
            clear hv
            go_enter Tryz.func166, Tryz.ntmps166
            go_wp2_with (first
              | (go_at_call 171; (with_reducible refine (c1 _).mono ?_); rintro e w1 ⟨rfl, rfl⟩)
              | (go_at_call 172; (with_reducible refine (c2 _).mono ?_); rintro e w1 ⟨rfl, rfl⟩)
              | (go_at_call 172; (with_reducible refine (c3 _).mono ?_); rintro e w1 ⟨rfl, rfl⟩))
            go_ret
            exact ⟨ret_bool (by unfold symOk placeB; rw [← HX.out]; have := HE.out; simp; first | omega | (rw [Bool.eq_iff_iff]; simp; omega)), HB.out _ _⟩
        · have c2 := c1
          have c3 := c1
          have HE := Lib.hid (⟨e0, e1, e2⟩ : _ ∧ _ ∧ _)
          go_enter Tryz.func166, Tryz.ntmps166
          go_wp2_with (first
            | (go_at_call 171; (with_reducible refine (c1 _).mono ?_); rintro e w1 ⟨rfl, rfl⟩)
            | (go_at_call 172; (with_reducible refine (c2 _).mono ?_); rintro e w1 ⟨rfl, rfl⟩)
            | (go_at_call 172; (with_reducible refine (c3 _).mono ?_); rintro e w1 ⟨rfl, rfl⟩))
          go_ret
          exact ⟨ret_bool (by unfold symOk placeB; rw [← HX.out]; have := HE.out; simp; first | omega | (rw [Bool.eq_iff_iff]; simp; omega)), HB.out _ _⟩
end OU
end Go.Proofs.YtlmblfkcmhgdaaaGreat
namespace Go.Proofs.YtlmblfkcmhgdaaaGreat
open Go.RowKit
set_option linter.unusedVariables false
set_option linter.unusedSimpArgs false
namespace OF
open OO
abbrev TF : TypeId := 245
abbrev flaw : Value := .iface TF (.agg #[])
abbrev thrown : Ending := .panicked [{ v := flaw, recovered := false }]
set_option maxRecDepth 100000 in
set_option maxHeartbeats 1000000 in
theorem demand_yes (w : World) : Calls Tryz.prog 165 #[.bool true] w fun e w' => e = .returned (.tuple #[]) ∧ w = w' := by
  go_enter Tryz.func165, Tryz.ntmps165
  go_wp2
  go_end0
  exact ⟨rfl, rfl⟩
set_option maxRecDepth 100000 in
set_option maxHeartbeats 1000000 in
theorem demand_no (w : World) : Calls Tryz.prog 165 #[.bool false] w fun e w' => e = thrown ∧ w = w' := by
  go_enter Tryz.func165, Tryz.ntmps165
  go_wp2
  exact ⟨rfl, rfl, rfl⟩
def Fin (W : World) (e : Exit) (a : Act) (w' : World) : Prop := e = .normal ∧ a.defers = [] ∧ w' = W
set_option maxRecDepth 100000 in
set_option maxHeartbeats 1000000 in
theorem catch_panicking (bx : Nat) (older : List PanicEntry) (w : World) (v : Value) (h2 : w.cell? ⟨bx, 0, none⟩ = some v) (h3 : w.frozen? ⟨bx, 0, none⟩ = false) (hlt : bx < w.heap.size) :
    CallsD Tryz.prog 164 #[.pointer (some ⟨bx, 0, none⟩)] (.panicking ({ v := flaw, recovered := false } :: older)) w fun e u' w' =>
      e = .returned (.tuple #[]) ∧ u' = .panicking ({ v := flaw, recovered := true } :: older) ∧ w' = (w.setCell ⟨bx, 0, none⟩ (.int .i64 2)).alloc (.cells #[] TF) := by
  refine callsD_of_wpS Tryz.func164 rfl fun c₀ cs hu => ?_
  apply wpS_seq
  apply wpS_region
  simp [wpOpsS, go_sem, recoverD, hu, Tryz.ntmps164, Exit.thenS]
  refine wpS_of_wp (wp_mono (Q := Fin ((w.setCell ⟨bx, 0, none⟩ (.int .i64 2)).alloc (.cells #[] TF))) ?_ ?_)
  · clear hu
    have hta : ∀ w, (Instr.typeAssert flaw 20 TF true).run Tryz.prog w = .ok (.tuple #[.agg #[], .bool true]) w := fun _ => by kernel_rfl
    go_wp2
    exact ⟨rfl, rfl, rfl⟩
  · rintro e a w' ⟨rfl, hd, rfl⟩
    simp [bodyPostS, results, Tryz.results164, hd]
set_option maxRecDepth 100000 in
set_option maxHeartbeats 1000000 in
theorem catch_idle (bx : Nat) (w : World) :
    CallsD Tryz.prog 164 #[.pointer (some ⟨bx, 0, none⟩)] .returning w fun e u' w' => e = .returned (.tuple #[]) ∧ u' = .returning ∧ w' = w := by
  refine callsD_of_wpS Tryz.func164 rfl fun c₀ cs hu => ?_
  apply wpS_seq
  apply wpS_region
  simp [wpOpsS, go_sem, recoverD, hu, Tryz.ntmps164, Exit.thenS]
  refine wpS_of_wp (wp_mono (Q := Fin w) ?_ ?_)
  · clear hu
    go_wp2
    exact ⟨rfl, rfl, rfl⟩
  · rintro e a w' ⟨rfl, hd, rfl⟩
    cases c₀
    simp_all [bodyPostS, results, Tryz.results164]
set_option maxRecDepth 100000 in
set_option maxHeartbeats 2000000 in
theorem fault_ok_check (bx : Nat) (w : World) (R : World → Prop)
    (hc : Calls Tryz.prog 141 #[.pointer (some ⟨bx, 0, none⟩)] (w.alloc (.cells #[.int .i64 0] 34)) fun e w' => e = .returned (.tuple #[]) ∧ w'.heap[w.heap.size]? = some (.cells #[.int .i64 0] 34 (0, 0)) ∧ R w') :
    Calls Tryz.prog 140 #[.func (.func 141) #[] #[.pointer (some ⟨bx, 0, none⟩)]] w fun e w' => e = .returned (.int .i64 0) ∧ ∃ w1, R w1 ∧ w' = w1.setCell ⟨w.heap.size, 0, none⟩ (.int .i64 0) := by
  have hmf : ∀ (fn : Fn) (first cap : Array Value) (w : World), (Instr.makeFunc fn first cap).run Tryz.prog w = .ok (.func fn first cap) w := fun _ _ _ _ => rfl
  go_enter_defers Tryz.func140, Tryz.ntmps140
  go_wp2_with (go_at_call 141; (with_reducible refine hc.mono ?_); rintro e w1 ⟨rfl, hb, hR⟩; have y1 : w1.cell? ⟨w.heap.size, 0, none⟩ = some (.int .i64 0) := (by rw [Lib.cell_of_heap hb]; rfl); have y2 : w1.frozen? ⟨w.heap.size, 0, none⟩ = false := Lib.frozen_of_heap hb 0; have HB := Lib.hid hb; have HR := Lib.hid hR; clear hb hR)
  refine leaves_cons (f := 164) (args := #[.pointer (some ⟨w.heap.size, 0, none⟩)]) (by simp) (by simp [go_sem]) ?_
  refine (catch_idle w.heap.size _).mono ?_
  rintro e u' w'' ⟨rfl, rfl, rfl⟩
  have hcell : (w1.setCell ⟨w.heap.size, 0, none⟩ (.int .i64 0)).cell? ⟨w.heap.size, 0, none⟩ = some (.int .i64 0) := World.cell?_setCell_same' _ _ _ (by rw [y1]; rfl)
  simp [Leaves, settle, results, Tryz.results140, go_sem, hcell]
  exact ⟨w1, HR.out, rfl⟩
set_option maxRecDepth 100000 in
set_option maxHeartbeats 2000000 in
theorem fault_bad_check (bx : Nat) (w : World) (R : World → Prop)
    (hc : Calls Tryz.prog 141 #[.pointer (some ⟨bx, 0, none⟩)] (w.alloc (.cells #[.int .i64 0] 34)) fun e w' => e = thrown ∧ w'.heap[w.heap.size]? = some (.cells #[.int .i64 0] 34 (0, 0)) ∧ R w') :
    Calls Tryz.prog 140 #[.func (.func 141) #[] #[.pointer (some ⟨bx, 0, none⟩)]] w fun e w' => e = .returned (.int .i64 2) ∧ ∃ w1, R w1 ∧ w' = (w1.setCell ⟨w.heap.size, 0, none⟩ (.int .i64 2)).alloc (.cells #[] TF) := by
  have hmf : ∀ (fn : Fn) (first cap : Array Value) (w : World), (Instr.makeFunc fn first cap).run Tryz.prog w = .ok (.func fn first cap) w := fun _ _ _ _ => rfl
  go_enter_defers Tryz.func140, Tryz.ntmps140
  go_wp2_with (go_at_call 141; (with_reducible refine hc.mono ?_); rintro e w1 ⟨rfl, hb, hR⟩; have y1 : w1.cell? ⟨w.heap.size, 0, none⟩ = some (.int .i64 0) := (by rw [Lib.cell_of_heap hb]; rfl); have y2 : w1.frozen? ⟨w.heap.size, 0, none⟩ = false := Lib.frozen_of_heap hb 0; have y3 := lt_heap hb; have HB := Lib.hid hb; have HR := Lib.hid hR; clear hb hR)
  refine leaves_cons (f := 164) (args := #[.pointer (some ⟨w.heap.size, 0, none⟩)]) (by simp) (by simp [go_sem]) ?_
  refine (catch_panicking w.heap.size [] w1 _ y1 y2 y3).mono ?_
  rintro e u' w'' ⟨rfl, rfl, rfl⟩
  have hcell : ((w1.setCell ⟨w.heap.size, 0, none⟩ (.int .i64 2)).alloc (.cells #[] TF)).cell? ⟨w.heap.size, 0, none⟩ = some (.int .i64 2) := (World.cell?_alloc_lt _ _ _ (by rw [World.size_setCell]; exact y3)).trans (World.cell?_setCell_same' _ _ _ (by rw [y1]; rfl))
  simp [Leaves, settle, results, Tryz.results140, go_sem, hcell]
  exact ⟨w1, HR.out, rfl⟩
end OF
end Go.Proofs.YtlmblfkcmhgdaaaGreat
namespace Go.Proofs.YtlmblfkcmhgdaaaGreat
open Go.RowKit
set_option linter.unusedVariables false
set_option linter.unusedSimpArgs false
namespace OI
variable {P : Program} {ops : Array Oper} {Q : Exit → Act → World → Prop} {md : Region.Mode}
/-- an operation waits for those ahead of it alone -/
def Ahead (ops : Array Oper) : Prop := ∀ (i : Nat) (o : Oper), ops[i]? = some o → ∀ e ∈ o.after, e.on < i
theorem all_done {listed : Array Bool} (hA : Ahead ops) (hs : listed.size = ops.size) (h : Region.ready md ops listed = []) : ∀ j, j < ops.size → listed.getD j false = true := by
  intro j
  induction j using Nat.strongRecOn with
  | ind j ih =>
    intro hj
    cases hd : listed.getD j true with
    | true =>
      have hlt : j < listed.size := by omega
      rw [Array.getD_eq_getD_getElem?, Array.getElem?_eq_getElem hlt] at hd ⊢
      exact hd
    | false =>
      exfalso
      have ho : ops[j]? = some ops[j] := Array.getElem?_eq_getElem hj
      have hm : j ∈ Region.ready md ops listed := mem_ready.2 ⟨hd, ops[j], ho, fun e he _ => ih e.on (hA j _ ho e he) (Nat.lt_trans (hA j _ ho e he) hj)⟩
      rw [h] at hm
      cases hm
theorem ahead_of (h : ((List.range ops.size).all fun i => ((ops[i]?).map fun o => o.after.all fun e => decide (e.on < i)).getD true) = true) : Ahead ops := by
  intro i o ho e he
  have hi : i < ops.size := (Array.getElem?_eq_some_iff.1 ho).1
  have := List.all_eq_true.1 h i (List.mem_range.2 hi)
  rw [ho] at this
  simp only [Option.map_some, Option.getD_some] at this
  have h2 := Array.all_eq_true_iff_forall_mem.1 this e he
  simpa using h2
def left (listed : Array Bool) : Nat := listed.toList.count false
theorem left_set {listed : Array Bool} {i : Nat} (h : listed.getD i true = false) : left (listed.setIfInBounds i true) + 1 = left listed := by
  have hlt : i < listed.size := by
    rcases Nat.lt_or_ge i listed.size with h' | h'
    · exact h'
    · rw [Array.getD_eq_getD_getElem?, Array.getElem?_eq_none h'] at h
      cases h
  have hv : listed.toList[i]'(by simpa using hlt) = false := by
    rw [Array.getD_eq_getD_getElem?, Array.getElem?_eq_getElem hlt] at h
    simpa using h
  unfold left
  rw [Array.toList_setIfInBounds]
  have hl : i < listed.toList.length := by rw [Array.length_toList]; exact hlt
  have hset := List.count_set (l := listed.toList) (i := i) (a := true) (b := false) hl
  have hpos : 0 < listed.toList.count false := List.count_pos_iff.2 (by rw [← hv]; exact List.getElem_mem _)
  rw [hset, if_pos (by rw [hv]; rfl), if_neg (by decide)]
  omega
theorem none_left {listed : Array Bool} (hs : listed.size = ops.size) (h : left listed = 0) : Region.ready md ops listed = [] := by
  refine List.eq_nil_iff_forall_not_mem.2 fun i hi => ?_
  obtain ⟨h0, -⟩ := mem_ready.1 hi
  have := left_set h0
  omega
/-- THE RULE -/
theorem inv_any {Inv : Array Bool → Act → World → Prop} (hA : Ahead ops)
    (step : ∀ (i : Nat) (o : Oper), ops[i]? = some o → ∀ listed a w, listed.size = ops.size → listed.getD i true = false → (∀ e ∈ o.after, Region.binds md e = true → listed.getD e.on false = true) → Inv listed a w → wpOp P ops Q i (fun a' w' => Inv (listed.setIfInBounds i true) a' w') a w)
    (done : ∀ listed a w, (∀ j, j < ops.size → listed.getD j false = true) → Inv listed a w → Q .normal a w) :
    ∀ fuel listed a w, listed.size = ops.size → left listed ≤ fuel → Inv listed a w → wpAny P md ops Q fuel listed a w := by
  intro fuel
  induction fuel with
  | zero =>
    intro listed a w hs hl hi
    have hr := none_left (md := md) hs (Nat.le_zero.1 hl)
    exact ⟨hr, done listed a w (all_done hA hs hr) hi⟩
  | succ fuel ih =>
    intro listed a w hs hl hi
    refine ⟨fun hr => done listed a w (all_done hA hs hr) hi, fun i hm => ?_⟩
    obtain ⟨h0, o, ho, haft⟩ := mem_ready.1 hm
    refine wpOp_mono (fun a' w' hi' => ih _ a' w' (by rw [Array.size_setIfInBounds]; exact hs) ?_ hi') (step i o ho listed a w hs h0 haft hi)
    have := left_set h0
    omega
theorem region_ {Inv : Array Bool → Act → World → Prop} {id : Nat} {a : Act} {w : World} (hm : P.follows .mixedOrders = true) (hA : Ahead ops) (h0 : Inv (Array.replicate ops.size false) a w.drew)
    (step : ∀ (i : Nat) (o : Oper), ops[i]? = some o → ∀ listed a w, listed.size = ops.size → listed.getD i true = false → (∀ e ∈ o.after, Region.binds .any e = true → listed.getD e.on false = true) → Inv listed a w → wpOp P ops Q i (fun a' w' => Inv (listed.setIfInBounds i true) a' w') a w)
    (done : ∀ listed a w, (∀ j, j < ops.size → listed.getD j false = true) → Inv listed a w → Q .normal a w) : (Code.region id ops true).wp P Q a w :=
  wp_region_any hm (inv_any hA step done _ _ _ _ (by simp) (by unfold left; simp) h0)
/-- an operation that nothing guards -/
theorem op_ {i : Nat} {o : Oper} {K : Act → World → Prop} {a : Act} {w : World} (ho : ops[i]? = some o) (hg : o.guard = none) (h : o.wp P a w K Q) : wpOp P ops Q i K a w := by
  unfold wpOp
  rw [ho]
  have hw : Region.wanted o (yielded ops a.tmps) = true := by unfold Region.wanted; rw [hg]
  simp only [hw, if_true]
  exact .inl h
theorem put_get {a : Act} {d : Nat} {v : Value} (h : d < a.tmps.size) (k : Nat) : (a.put (some d) v).tmps.getD k undef = if k = d then v else a.tmps.getD k undef := by
  show (a.tmps.setIfInBounds d v).getD k undef = _
  rw [Array.getD_eq_getD_getElem?, Array.getD_eq_getD_getElem?, Array.getElem?_setIfInBounds]
  by_cases hk : d = k
  · subst hk; simp [h]
  · rw [if_neg hk, if_neg (fun e => hk e.symm)]
theorem set_at {listed : Array Bool} {i j : Nat} (hi : i < listed.size) : (listed.setIfInBounds i true).getD j false = if j = i then true else listed.getD j false := by
  rw [Array.getD_eq_getD_getElem?, Array.getD_eq_getD_getElem?, Array.getElem?_setIfInBounds]
  by_cases hk : i = j
  · subst hk; simp [hi]
  · rw [if_neg hk, if_neg (fun e => hk e.symm)]
/-- an operation whose guard holds -/
theorem op_g {i : Nat} {o : Oper} {K : Act → World → Prop} {a : Act} {w : World} (ho : ops[i]? = some o) (hw : Region.wanted o (yielded ops a.tmps) = true) (h : o.wp P a w K Q) : wpOp P ops Q i K a w := by
  unfold wpOp
  rw [ho]
  simp only [hw, if_true]
  exact .inl h
theorem got {a : Act} {k : Nat} {b : Bool} (h : a.tmps[k]?.getD undef = .bool b) : a.tmps[k]? = some (.bool b) := by
  cases e : a.tmps[k]? with
  | none => rw [e] at h; cases h
  | some v => rw [e] at h; exact congrArg some h
/-- one whose guard doesn't hold -/
theorem op_n {i : Nat} {o : Oper} {K : Act → World → Prop} {a : Act} {w : World} (ho : ops[i]? = some o) (hw : Region.wanted o (yielded ops a.tmps) = false) (h : K (a.put o.dst undef) w) : wpOp P ops Q i K a w := by
  unfold wpOp
  rw [ho]
  simp only [hw, Bool.false_eq_true, if_false]
  exact h
/-- what an operation does: a slot more is known, memory grows -/
structure Did (ds : Nat) (F : Value → World → Prop) (a : Act) (w : World) (a' : Act) (w' : World) : Prop where
  d : a'.defers = a.defers
  sz : a'.tmps.size = a.tmps.size
  oth : ∀ k, k ≠ ds → a'.tmps.getD k undef = a.tmps.getD k undef
  bel : Below w.heap.size w w'
  f : F (a'.tmps.getD ds undef) w'
theorem did_put {d : Nat} {F : Value → World → Prop} {a : Act} {w w' : World} (v : Value) (hd : d < a.tmps.size) (hb : Below w.heap.size w w') (hF : F v w') : Did d F a w (a.put (some d) v) w' :=
  ⟨rfl, by show (a.tmps.setIfInBounds _ _).size = _; rw [Array.size_setIfInBounds], fun k hk => by rw [put_get hd, if_neg hk], hb, by rw [put_get hd, if_pos rfl]; exact hF⟩
/-- a slot's value is known, or nothing is; or it is never written -/
def Fv (fv : Nat → Option (Option Value)) (i : Nat) (v : Value) (w : World) : Prop := match fv i with
  | none => True
  | some none => False
  | some (some u) => v = u
/-- what is known of a region's frame while it runs: what stood there, but for the operations' own slots -/
structure Mid (n : Nat) (dst : Nat → Nat) (a0 : Act) (w0 : World) (a : Act) (w : World) : Prop where
  d : a.defers = a0.defers
  sz : a.tmps.size = a0.tmps.size
  oth : ∀ k, (∀ i, i < n → dst i ≠ k) → a.tmps.getD k undef = a0.tmps.getD k undef
  bel : Below w0.heap.size w0 w
/-- the rule, for operations of which each makes a slot known, and memory -/
theorem facts_ {n : Nat} {dst : Nat → Nat} {F : Nat → Value → World → Prop} {id : Nat} {a0 : Act} {w0 : World} (hm : P.follows .mixedOrders = true) (hA : Ahead ops) (hn : ops.size = n)
    (hinj : ∀ i j, i < n → j < n → dst i = dst j → i = j) (hmono : ∀ i v w w', F i v w → Below w.heap.size w w' → F i v w')
    (step : ∀ (i : Nat) (o : Oper), ops[i]? = some o → ∀ a w, Mid n dst a0 w0 a w → (∀ e ∈ o.after, Region.binds .any e = true → F e.on (a.tmps.getD (dst e.on) undef) w) → wpOp P ops Q i (fun a' w' => Did (dst i) (F i) a w a' w') a w)
    (done : ∀ a w, Mid n dst a0 w0 a w → (∀ i, i < n → F i (a.tmps.getD (dst i) undef) w) → Q .normal a w) : (Code.region id ops true).wp P Q a0 w0 := by
  refine region_ (Inv := fun listed a w => listed.size = n ∧ Mid n dst a0 w0 a w ∧ ∀ i, i < n → listed.getD i false = true → F i (a.tmps.getD (dst i) undef) w) hm hA ?_ ?_ ?_
  · refine ⟨by simp [hn], ⟨rfl, rfl, fun _ _ => rfl, ⟨rfl, rfl, rfl, Nat.le_refl _, fun _ _ => rfl⟩⟩, fun i hi h => ?_⟩
    rw [Array.getD_eq_getD_getElem?, Array.getElem?_replicate] at h
    split at h <;> simp at h
  · intro i o ho listed a w hs h0 haft ⟨hsn, hM, hF⟩
    have hi : i < n := hn ▸ (Array.getElem?_eq_some_iff.1 ho).1
    refine wpOp_mono ?_ (step i o ho a w hM fun e he hb => hF _ (Nat.lt_trans (hA i o ho e he) hi) (haft e he hb))
    intro a' w' hD
    refine ⟨by simpa using hsn, ⟨hD.d.trans hM.d, hD.sz.trans hM.sz, fun k hk => (hD.oth k fun e => hk i hi e.symm).trans (hM.oth k hk), hM.bel.trans (hD.bel.mono hM.bel.size)⟩, fun j hj hl => ?_⟩
    rw [set_at (by omega)] at hl
    by_cases he : j = i
    · subst he; exact hD.f
    · rw [if_neg he] at hl
      rw [hD.oth _ fun e => he (hinj _ _ hj hi e)]
      exact hmono _ _ _ _ (hF j hj hl) hD.bel
  · intro listed a w hall ⟨hsn, hM, hF⟩
    exact done a w hM fun i hi => hF i hi (hall i (hn ▸ hi))
/-- what a region leaves: the frame as it was, and the operations' slots -/
def putAll (dst : Nat → Nat) (u : Nat → Value) : Nat → Act → Act
  | 0, a => a
  | n + 1, a => (putAll dst u n a).put (some (dst n)) (u n)
theorem putAll_defers (dst : Nat → Nat) (u : Nat → Value) (n : Nat) (a : Act) : (putAll dst u n a).defers = a.defers := by
  induction n with
  | zero => rfl
  | succ n ih => exact ih
theorem putAll_size (dst : Nat → Nat) (u : Nat → Value) (n : Nat) (a : Act) : (putAll dst u n a).tmps.size = a.tmps.size := by
  induction n with
  | zero => rfl
  | succ n ih => show ((putAll dst u n a).tmps.setIfInBounds _ _).size = _; rw [Array.size_setIfInBounds, ih]
theorem putAll_get (dst : Nat → Nat) (b : Act) (n : Nat) (a : Act) (k : Nat) (hk : k < a.tmps.size) (hs : b.tmps.size = a.tmps.size) :
    (putAll dst (fun i => b.tmps.getD (dst i) undef) n a).tmps.getD k undef = b.tmps.getD k undef ∨ ((putAll dst (fun i => b.tmps.getD (dst i) undef) n a).tmps.getD k undef = a.tmps.getD k undef ∧ ∀ i, i < n → dst i ≠ k) := by
  induction n with
  | zero => exact .inr ⟨rfl, fun i hi => absurd hi (by omega)⟩
  | succ n ih =>
    have hsz := putAll_size dst (fun i => b.tmps.getD (dst i) undef) n a
    by_cases e : k = dst n
    · left
      subst e
      exact (put_get (by rw [hsz]; exact hk) _).trans (if_pos rfl)
    · have hp : (putAll dst (fun i => b.tmps.getD (dst i) undef) (n + 1) a).tmps.getD k undef = (putAll dst (fun i => b.tmps.getD (dst i) undef) n a).tmps.getD k undef := by
        show ((putAll dst (fun i => b.tmps.getD (dst i) undef) n a).tmps.setIfInBounds _ _).getD k undef = _
        rw [Array.getD_eq_getD_getElem?, Array.getD_eq_getD_getElem?, Array.getElem?_setIfInBounds, if_neg (fun h => e h.symm)]
      rw [hp]
      rcases ih with h | ⟨h, hn⟩
      · exact .inl h
      · refine .inr ⟨h, fun i hi => ?_⟩
        by_cases hi' : i = n
        · subst hi'; exact fun h => e h.symm
        · exact hn i (by omega)
theorem Mid.eq {n : Nat} {dst : Nat → Nat} {a0 : Act} {w0 : World} {a : Act} {w : World} (h : Mid n dst a0 w0 a w) : a = putAll dst (fun i => a.tmps.getD (dst i) undef) n a0 := by
  have h1 := putAll_defers dst (fun i => a.tmps.getD (dst i) undef) n a0
  have h2 := putAll_size dst (fun i => a.tmps.getD (dst i) undef) n a0
  have h3 := putAll_get dst a n a0
  revert h1 h2 h3
  generalize putAll dst (fun i => a.tmps.getD (dst i) undef) n a0 = b
  intro h1 h2 h3
  obtain ⟨t, ds⟩ := b
  obtain ⟨t', ds'⟩ := a
  obtain rfl : ds = ds' := h1.trans h.d.symm
  have hs : t.size = t'.size := h2.trans h.sz.symm
  obtain rfl : t' = t := by
    refine Array.ext hs.symm fun k hk hk' => ?_
    have g : t'.getD k undef = t.getD k undef := by
      rcases h3 k (by rw [← h2]; exact hk') h.sz with e | ⟨e, hn⟩
      · exact e.symm
      · exact (h.oth k hn).trans e.symm
    rwa [Array.getD_eq_getD_getElem?, Array.getD_eq_getD_getElem?, Array.getElem?_eq_getElem hk, Array.getElem?_eq_getElem hk'] at g
  rfl
/-- the rule, where the function goes on behind the region -/
theorem facts2_ {n : Nat} {dst : Nat → Nat} {F : Nat → Value → World → Prop} {id : Nat} {a0 : Act} {w0 : World} (hm : P.follows .mixedOrders = true) (hA : Ahead ops) (hn : ops.size = n)
    (hinj : ∀ i j, i < n → j < n → dst i = dst j → i = j) (hmono : ∀ i v w w', F i v w → Below w.heap.size w w' → F i v w')
    (step : ∀ (i : Nat) (o : Oper), ops[i]? = some o → ∀ a w, Mid n dst a0 w0 a w → (∀ e ∈ o.after, Region.binds .any e = true → F e.on (a.tmps.getD (dst e.on) undef) w) → wpOp P ops Q i (fun a' w' => Did (dst i) (F i) a w a' w') a w)
    (done : ∀ (u : Nat → Value) w, Below w0.heap.size w0 w → (∀ i, i < n → F i (u i) w) → Q .normal (putAll dst u n a0) w) : (Code.region id ops true).wp P Q a0 w0 :=
  facts_ hm hA hn hinj hmono step fun a w hM hF => by
    have := done (fun i => a.tmps.getD (dst i) undef) w hM.bel hF
    rwa [← hM.eq] at this
end OI
end Go.Proofs.YtlmblfkcmhgdaaaGreat
