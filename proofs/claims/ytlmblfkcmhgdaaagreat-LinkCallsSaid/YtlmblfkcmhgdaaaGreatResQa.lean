/-
  Lists of objects, plainly: all their symbols in order, with their places; where the objects lie in memory. No condition.
  The iterator over all symbols of the objects: what it hands over, at every loop body that keeps what lay there. Condition: the objects lie below what the caller made.
  What names mean, plainly: the names that are defined, as a map; those that define one again; targets. No condition.
  A range over a function whose loop variables lie in memory: the frame of a round is left to be found, but for two blocks. It speaks of no program.
  The names that are defined, and what defines one again: a contract. Condition: the objects lie in memory, and have not too many symbols.
  A region that draws its order, within a fence, by an invariant: what holds of what has been done so far holds at the end, whatever the order. It speaks of no program. Condition: an operation waits for those ahead of it alone.
  The small parts of Resolve: isNone, IndexFunc, target: contracts. Condition: the objects lie in memory.
  Resolve's targets while they are gathered: rows of pairs, apart from each other: how an append and a store keep them. Condition: none.
  The statements' Few over objects: a contract. Condition: the objects lie in memory.
  Objects as a parameter: opened. No condition but that the type can be read.
-/
import Derived.Test.YtlmblfkcmhgdaaaGreatObjQa
import Derived.RangeFuncNested
import Derived.RangeFuncBound
import Derived.RangeFuncCalls
import Derived.RangeFuncLeaves
import Derived.Shelf.RegionOpen
import Derived.OwnWalkIn
import Derived.TacticsInMore
import Derived.LoopNIn
import Derived.LoopIn
import Derived.Deep.QuietTactic
import Derived.BigQuiet
import Derived.Test.YtlmblfkcmhgdaaaGreatObjQc
import Derived.Test.YtlmblfkcmhgdaaaGreatObjQb
import Derived.Maps.OwnIn
import Derived.Maps.OwnSet
import Derived.OrdersIn
import Derived.Maps.AppendAt
import Derived.Test.YtlmblfkcmhgdaaaGreatObjQe
namespace Go.Proofs.YtlmblfkcmhgdaaaGreat
open Go.RowKit
set_option linter.unusedVariables false
set_option linter.unusedSimpArgs false
namespace RsM
open OO OJ
structure Ent where
  i : Nat
  k : Nat
  s : SymV
def noSym : SymV := ⟨⟨#[]⟩, 0, 0, 0, false⟩
def noObj : ObjV := ⟨[], [], [], []⟩
def ssAt (objs : List ObjV) (i : Nat) : List SymV := (objs.getD i noObj).ss
def row (objs : List ObjV) (i : Nat) : List Ent := (List.range (ssAt objs i).length).map fun k => ⟨i, k, (ssAt objs i).getD k noSym⟩
def flatTo (objs : List ObjV) (i : Nat) : List Ent := (List.range i).flatMap (row objs)
/-- all symbols of the objects, in order -/
def flat (objs : List ObjV) : List Ent := flatTo objs objs.length
def pos (objs : List ObjV) (i k : Nat) : Nat := (flatTo objs i).length + k
theorem row_length (objs : List ObjV) (i : Nat) : (row objs i).length = (ssAt objs i).length := by simp [row]
theorem flatTo_succ (objs : List ObjV) (i : Nat) : flatTo objs (i + 1) = flatTo objs i ++ row objs i := by
  unfold flatTo
  rw [List.range_succ, List.flatMap_append]
  simp
theorem flat_split (objs : List ObjV) (i : Nat) : ∀ n, i < n → ∃ R, flatTo objs n = flatTo objs i ++ (row objs i ++ R) := by
  intro n
  induction n with
  | zero => intro h; omega
  | succ n ih =>
    intro h
    rw [flatTo_succ]
    by_cases e : i = n
    · subst e
      exact ⟨[], by simp⟩
    · obtain ⟨R, hR⟩ := ih (by omega)
      exact ⟨R ++ row objs n, by rw [hR]; simp⟩
theorem pos_zero (objs : List ObjV) : pos objs 0 0 = 0 := by simp [pos, flatTo]
theorem pos_succ (objs : List ObjV) (i : Nat) : pos objs (i + 1) 0 = pos objs i (ssAt objs i).length := by
  unfold pos
  rw [flatTo_succ, List.length_append, row_length]
  omega
theorem pos_end (objs : List ObjV) : pos objs objs.length 0 = (flat objs).length := by simp [pos, flat]
theorem pos_lt {objs : List ObjV} {i k : Nat} (hi : i < objs.length) (hk : k < (ssAt objs i).length) : pos objs i k < (flat objs).length := by
  obtain ⟨R, hR⟩ := flat_split objs i objs.length hi
  unfold flat pos
  rw [hR, List.length_append, List.length_append, row_length]
  omega
theorem flat_at {objs : List ObjV} {i k : Nat} (hi : i < objs.length) (hk : k < (ssAt objs i).length) : (flat objs)[pos objs i k]'(pos_lt hi hk) = ⟨i, k, (ssAt objs i)[k]⟩ := by
  have h : (flat objs)[pos objs i k]? = some ⟨i, k, (ssAt objs i)[k]⟩ := by
    obtain ⟨R, hR⟩ := flat_split objs i objs.length hi
    unfold flat pos
    rw [hR, List.getElem?_append_right (by omega), Nat.add_sub_cancel_left, List.getElem?_append_left (by rw [row_length]; exact hk)]
    unfold row
    rw [List.getElem?_map, List.getElem?_range hk]
    simp [List.getD_eq_getElem?_getD, List.getElem?_eq_getElem hk]
  exact (List.getElem?_eq_some_iff.1 h).2
theorem mem_flat {objs : List ObjV} {x : Ent} (h : x ∈ flat objs) : ∃ o, objs[x.i]? = some o ∧ o.ss[x.k]? = some x.s := by
  unfold flat flatTo at h
  obtain ⟨i, hi, hx⟩ := List.mem_flatMap.1 h
  have hi := List.mem_range.1 hi
  unfold row at hx
  obtain ⟨k, hk, rfl⟩ := List.mem_map.1 hx
  have hk := List.mem_range.1 hk
  refine ⟨objs[i], List.getElem?_eq_getElem hi, ?_⟩
  have e : ssAt objs i = objs[i].ss := by unfold ssAt; rw [List.getD_eq_getElem?_getD, List.getElem?_eq_getElem hi]; rfl
  rw [← e]
  show (ssAt objs i)[k]? = some ((ssAt objs i).getD k noSym)
  rw [List.getD_eq_getElem?_getD, List.getElem?_eq_getElem hk]; rfl
theorem ssAt_eq {objs : List ObjV} {i : Nat} (hi : i < objs.length) : ssAt objs i = objs[i].ss := by
  unfold ssAt; rw [List.getD_eq_getElem?_getD, List.getElem?_eq_getElem hi]; rfl
theorem flat_get {objs : List ObjV} {i k : Nat} (hi : i < objs.length) (hk : k < objs[i].ss.length) : ∃ h : pos objs i k < (flat objs).length, (flat objs)[pos objs i k] = ⟨i, k, objs[i].ss[k]⟩ := by
  have hk' : k < (ssAt objs i).length := by rw [ssAt_eq hi]; exact hk
  refine ⟨pos_lt hi hk', (flat_at hi hk').trans ?_⟩
  congr 1
  exact List.getElem_of_eq (ssAt_eq hi) hk'
/-! ### the first c of N -/
def upto (m k : Nat) (h : k ≤ m) : List (Fin m) := (List.finRange m).take k
theorem upto_succ (m k : Nat) (h : k < m) : upto m (k + 1) h = upto m k (Nat.le_of_lt h) ++ [⟨k, h⟩] := by
  unfold upto
  rw [List.take_succ_eq_append_getElem (by simpa using h)]
  simp
theorem upto_length (m k : Nat) (h : k ≤ m) : (upto m k h).length = k := by simp [upto, h]
theorem upto_all (m : Nat) : upto m m (Nat.le_refl _) = List.finRange m := by
  unfold upto
  rw [List.take_of_length_le (by simp)]
theorem upto_eq (m : Nat) {k j : Nat} (h : k ≤ m) (e : k = j) : upto m k h = upto m j (e ▸ h) := by subst e; rfl
theorem map_upto (objs : List ObjV) (k : Nat) (h : k ≤ (flat objs).length) : (upto (flat objs).length k h).map (fun x => (flat objs)[x.1]) = (flat objs).take k := by
  unfold upto
  rw [List.map_take]
  congr 1
  apply List.ext_getElem
  · simp
  · intro i h1 h2
    simp
/-! ### where they lie -/
theorem cell_same {w w' : World} {b : Nat} (h : w'.heap[b]? = w.heap[b]?) (o : Nat) : w'.cell? ⟨b, o, none⟩ = w.cell? ⟨b, o, none⟩ := by
  unfold World.cell?
  rw [show w'.heap[(⟨b, o, none⟩ : Addr).block]? = w.heap[(⟨b, o, none⟩ : Addr).block]? from h]
def Same (n₀ : Nat) (w w' : World) : Prop := ∀ k, k < n₀ → w'.heap[k]? = w.heap[k]?
theorem Same.refl (n₀ : Nat) (w : World) : Same n₀ w w := fun _ _ => rfl
theorem Same.trans {n₀ : Nat} {u v w : World} (h : Same n₀ u v) (k : Same n₀ v w) : Same n₀ u w := fun i hi => (k i hi).trans (h i hi)
theorem Same.of {n₀ n : Nat} {w w' : World} (h : Below n w w') (hn : n₀ ≤ n) : Same n₀ w w' := fun k hk => h.block k (by omega)
section
variable {n₀ : Nat} {w w' : World}
theorem sl_same {v : Value} {n : Nat} {F G : Nat → Nat → Prop} (h : Sl n₀ v n F) (hF : ∀ b o, b < n₀ → F b o → G b o) : Sl n₀ v n G := h.mono (Nat.le_refl _) hF
theorem row_same {k : IntKind} {b o : Nat} {xs : List Int} (h : Row k w b o xs) (hs : Same n₀ w w') (hlt : b < n₀) : Row k w' b o xs := fun j x hj => (cell_same (hs b hlt) _).trans (h j x hj)
theorem sym_same {b o : Nat} {s : SymV} (h : SymAt w b o s) (hs : Same n₀ w w') (hlt : b < n₀) : SymAt w' b o s :=
  ⟨(cell_same (hs b hlt) _).trans h.c0, (cell_same (hs b hlt) _).trans h.c1, (cell_same (hs b hlt) _).trans h.c2, (cell_same (hs b hlt) _).trans h.c3, (cell_same (hs b hlt) _).trans h.c4⟩
theorem rel_same {b o : Nat} {s : RelV} (h : RelAt w b o s) (hs : Same n₀ w w') (hlt : b < n₀) : RelAt w' b o s :=
  ⟨(cell_same (hs b hlt) _).trans h.c0, (cell_same (hs b hlt) _).trans h.c1, (cell_same (hs b hlt) _).trans h.c2, (cell_same (hs b hlt) _).trans h.c3, (cell_same (hs b hlt) _).trans h.c4⟩
theorem obj_same {v0 v1 v2 v3 : Value} {o : ObjV} (h : ObjAt n₀ w v0 v1 v2 v3 o) (hs : Same n₀ w w') : ObjAt n₀ w' v0 v1 v2 v3 o :=
  ⟨sl_same h.ws fun b o hlt hr => row_same hr hs hlt, sl_same h.ds fun b o hlt hr => row_same hr hs hlt,
   sl_same h.ss fun b o hlt hr j s hj => sym_same (hr j s hj) hs hlt, sl_same h.rs fun b o hlt hr j s hj => rel_same (hr j s hj) hs hlt⟩
/-- the object at a place -/
def ObjIn (n₀ : Nat) (w : World) (b o : Nat) (x : ObjV) : Prop :=
  ∃ v0 v1 v2 v3, w.cell? ⟨b, o, none⟩ = some v0 ∧ w.cell? ⟨b, o + 1, none⟩ = some v1 ∧ w.cell? ⟨b, o + 2, none⟩ = some v2 ∧ w.cell? ⟨b, o + 3, none⟩ = some v3 ∧ ObjAt n₀ w v0 v1 v2 v3 x
def ObjsAt (n₀ : Nat) (w : World) (v : Value) (objs : List ObjV) : Prop := Sl n₀ v objs.length fun b o => ∀ i x, objs[i]? = some x → ObjIn n₀ w b (o + i * 4) x
theorem ObjIn.same {b o : Nat} {x : ObjV} (h : ObjIn n₀ w b o x) (hs : Same n₀ w w') (hlt : b < n₀) : ObjIn n₀ w' b o x := by
  obtain ⟨v0, v1, v2, v3, c0, c1, c2, c3, ho⟩ := h
  exact ⟨v0, v1, v2, v3, (cell_same (hs b hlt) _).trans c0, (cell_same (hs b hlt) _).trans c1, (cell_same (hs b hlt) _).trans c2, (cell_same (hs b hlt) _).trans c3, obj_same ho hs⟩
theorem ObjsAt.same {v : Value} {objs : List ObjV} (h : ObjsAt n₀ w v objs) (hs : Same n₀ w w') : ObjsAt n₀ w' v objs :=
  sl_same h fun b o hlt hr i x hi => (hr i x hi).same hs hlt
theorem ObjIn.up {n₁ b o : Nat} {x : ObjV} (h : ObjIn n₀ w b o x) (hn : n₀ ≤ n₁) : ObjIn n₁ w b o x := by
  obtain ⟨v0, v1, v2, v3, c0, c1, c2, c3, ho⟩ := h
  exact ⟨v0, v1, v2, v3, c0, c1, c2, c3, ho.up hn⟩
theorem ObjsAt.up {n₁ : Nat} {v : Value} {objs : List ObjV} (h : ObjsAt n₀ w v objs) (hn : n₀ ≤ n₁) : ObjsAt n₁ w v objs :=
  Sl.mono h hn fun b o hlt hr i x hi => (hr i x hi).up hn
end
end RsM
end Go.Proofs.YtlmblfkcmhgdaaaGreat
namespace Go.Proofs.YtlmblfkcmhgdaaaGreat
open Go.RowKit
set_option linter.unusedVariables false
set_option linter.unusedSimpArgs false
namespace RsI
open OO OJ RsM
attribute [local go_sem] Oper.semAt_some
abbrev symA (s : SymV) : Value := .agg #[.string s.name, .int .i64 s.sect, .int .i64 s.val, .int .i64 s.frame, .bool s.glob]
abbrev entA (x : Ent) : Value := .agg #[.int .i64 (x.i : Int), .int .i64 (x.k : Int)]
/-- what a round keeps: what the caller had, and the iterator's box -/
structure Kp (n₀ Bs : Nat) (W W' : World) : Prop where
  s : Same n₀ W W'
  b : W'.heap[Bs]? = W.heap[Bs]?
  z : W.heap.size ≤ W'.heap.size
theorem Kp.refl (n₀ Bs : Nat) (W : World) : Kp n₀ Bs W W := ⟨Same.refl _ _, rfl, Nat.le_refl _⟩
theorem Kp.trans {n₀ Bs : Nat} {U V W : World} (h : Kp n₀ Bs U V) (k : Kp n₀ Bs V W) : Kp n₀ Bs U W := ⟨h.s.trans k.s, k.b.trans h.b, Nat.le_trans h.z k.z⟩
theorem Kp.put {n₀ Bs : Nat} (W : World) (l : Nat) (o : Obj) (h1 : n₀ ≤ l) (h2 : l ≠ Bs) : Kp n₀ Bs W (W.putObj l o) :=
  ⟨fun k hk => Array.getElem?_setIfInBounds_ne (by omega), Array.getElem?_setIfInBounds_ne h2, by simp [World.putObj]⟩
theorem Kp.of {n₀ Bs n : Nat} {W W' : World} (h : Below n W W') (h1 : n₀ ≤ n) (h2 : Bs < n) : Kp n₀ Bs W W' := ⟨Same.of h h1, h.block _ h2, h.size⟩
theorem abide_alloc {β : Type} {B : Nat} {J : β → World → Prop} (h : AbidesFrom B J) (s : β) (W : World) (o : Obj) (hJ : J s W) : J s (W.alloc o) :=
  h s W (W.alloc o) none hJ (World.grownBy_alloc W o none) (fun _ e => by cases e)
set_option maxRecDepth 100000 in
set_option maxHeartbeats 8000000 in
theorem iter1 (n : Nat) (hn : 1 ≤ n) (l Bs n₀ : Nat) (v : Value) (objs : List ObjV) (hm : objs.length ≤ maxLen) (hms : ∀ o ∈ objs, o.ss.length ≤ maxLen) (J Jx : List (Fin (flat objs).length) → World → Prop)
    (hY : ∀ pre x W, J pre W → pre.length < (flat objs).length → YieldAt Fence.wide (n - 1) Tryz.prog l #[entA (flat objs)[x.1], symA (flat objs)[x.1].s] W fun e W' =>
      (e = .returned (.bool true) ∧ J (pre ++ [x]) W' ∧ Kp n₀ Bs W W') ∨ (e = .returned (.bool false) ∧ Jx (pre ++ [x]) W'))
    (W : World) (hBs : W.cell? ⟨Bs, 0, none⟩ = some v) (hBn : Bs < W.heap.size) (hn0 : n₀ ≤ W.heap.size) (ho : ObjsAt n₀ W v objs) (hJa : ∀ pre W o, J pre W → J pre (W.alloc o)) (h0 : J [] W) :
    CallsIn Fence.wide n Tryz.prog 118 #[.func (.yield l) #[] #[], .pointer (some ⟨Bs, 0, none⟩)] W fun e W' => (∃ v, e = .returned v) ∧
      ((∃ ys, ys = List.finRange (flat objs).length ∧ J ys W') ∨ (∃ pre, (∃ k, ∃ h : k ≤ (flat objs).length, pre = upto (flat objs).length k h) ∧ Jx pre W')) := by
  obtain ⟨p, c, rfl, hsl⟩ := ho
  have HO := Lib.hid hsl
  have HM := Lib.hid hms
  unfold maxLen at hm
  clear hsl hms
  refine callsIn_of_wp Tryz.func118 rfl trivial ?_ rfl
  simp only [Tryz.ntmps118, List.size_toArray, List.length_cons, List.length_nil, Nat.reduceAdd, Nat.reduceSub, Array.replicate_succ, Array.replicate_zero, List.push_toArray, List.append_toArray, List.nil_append, List.cons_append]
  gi_wp2
  gi_loopw [8] (fun i wr => ∃ i' : Nat, ∃ h : i' ≤ objs.length, i = .int .i64 (i' : Int) ∧ (∃ hp : pos objs i' 0 ≤ (flat objs).length, J (upto (flat objs).length (pos objs i' 0) hp) wr) ∧ Kp n₀ Bs W wr)
    (fun i _ => objs.length - (intOf i).toNat)
  case atStart => exact ⟨0, Nat.zero_le _, rfl, ⟨by rw [pos_zero]; exact Nat.zero_le _, by rw [upto_eq _ _ (pos_zero objs)]; exact h0⟩, Kp.refl _ _ _⟩
  case round =>
    obtain ⟨i, hi, rfl, ⟨hp, hJs⟩, hK⟩ := hrel
    have hws := hK.z
    have c1 : wr.cell? ⟨Bs, 0, none⟩ = some (.slice p objs.length c) := (cell_same hK.b 0).trans hBs
    have HJ := Lib.hid hJs
    have HK := Lib.hid hK
    clear hJs hK
    by_cases hlt : i < objs.length
    · obtain ⟨b, o, rfl, hb, -, -, hall⟩ := HO.out (by omega)
      obtain ⟨v0, v1, v2, v3, -, -, k2', -, hoa⟩ := hall i _ (List.getElem?_eq_getElem hlt)
      have k2 := (cell_same (HK.out.s b hb) _).trans k2'
      obtain ⟨ps, cs, rfl, hss⟩ := hoa.ss
      have hml := HM.out _ (List.getElem_mem hlt)
      unfold maxLen at hml
      have HSS := Lib.hid hss
      have HG := Lib.hid (fun k (hk : k < objs[i].ss.length) => flat_get hlt hk)
      have HE := Lib.hid (show pos objs (i + 1) 0 = pos objs i objs[i].ss.length by rw [pos_succ, ssAt_eq hlt])
      clear hall hoa hss k2'
      generalize objs[i].ss = ss at *
      obtain ⟨wo, rfl⟩ : ∃ wo : World, wo = wr := ⟨_, rfl⟩
      gi_wp2
      gi_loopw [17] (fun i' wr => ∃ k : Nat, ∃ h : k ≤ ss.length, i' = .int .i64 (k : Int) ∧ (∃ hp : pos objs i k ≤ (flat objs).length, J (upto (flat objs).length (pos objs i k) hp) wr) ∧ Kp n₀ Bs W wr)
        (fun i' _ => ss.length - (intOf i').toNat)
      case atStart => exact ⟨0, Nat.zero_le _, rfl, ⟨hp, HJ.out⟩, HK.out⟩
      case round =>
        clear k2 c1 HJ HK hws
        obtain ⟨k, hk, rfl, ⟨hp', hJs⟩, hK⟩ := hrel
        have hws := hK.z
        have HJ := Lib.hid hJs
        have HK := Lib.hid hK
        clear hJs hK
        by_cases hkl : k < ss.length
        · obtain ⟨xb, xo, rfl, hxb, -, -, hrow⟩ := HSS.out (by omega)
          obtain ⟨s0, s1, s2, s3, s4⟩ := sym_same (hrow k _ (List.getElem?_eq_getElem hkl)) HK.out.s hxb
          obtain ⟨hpl, hge⟩ := HG.out k hkl
          obtain ⟨fn, tmps, assign, body, hy, hR⟩ := hY _ ⟨pos objs i k, hpl⟩ (wr.alloc (.cells #[.string ss[k].name, .int .i64 ss[k].sect, .int .i64 ss[k].val, .int .i64 ss[k].frame, .bool ss[k].glob] 57)) (hJa _ _ _ HJ.out) (by rw [upto_length]; exact hpl)
          simp only [hge] at hy
          have HR := Lib.hid hR
          have HPL := Lib.hid hpl
          clear hrow hge hR
          generalize ss[k] = x at *
          gi_wp2
          refine HR.out.mono ?_
          rintro e W3 (⟨rfl, hJ3, hk3⟩ | ⟨rfl, hJx3⟩)
          · have HJ3 := Lib.hid hJ3
            have HK3 := Lib.hid hk3
            clear hJ3 hk3
            gi_wp2
            go_roundw
            case rel => exact ⟨k + 1, by omega, by go_num, ⟨hpl, by show J (upto (flat objs).length (pos objs i k + 1) hpl) W3; rw [upto_succ _ _ hpl]; exact HJ3.out⟩, HK.out.trans ((Kp.of ((Below.refl _ _).alloc (Nat.le_refl _) _) (by omega) (by omega)).trans HK3.out)⟩
            case measure => simp [intOf]; omega
          · have HJx := Lib.hid hJx3
            clear hJx3
            gi_wp2
            refine bodyPost_ret (results_none rfl _ _ _) rfl ?_
            exact ⟨⟨_, rfl⟩, .inr ⟨_, ⟨pos objs i k + 1, hpl, (upto_succ _ _ hpl).symm⟩, HJx.out⟩⟩
        · obtain rfl : k = ss.length := by omega
          gi_wp2
          go_roundw
          case rel => exact ⟨i + 1, by omega, by go_num, ⟨by rw [HE.out]; exact hp', by rw [upto_eq _ _ HE.out]; exact HJ.out⟩, HK.out⟩
          case measure => simp [intOf]; omega
    · obtain rfl : i = objs.length := by omega
      gi_wp2
      go_end0
      exact ⟨⟨_, rfl⟩, .inl ⟨_, (upto_eq _ _ (pos_end objs)).trans (upto_all _), HJ.out⟩⟩
/-- the iterator, to every loop body -/
theorem iter_ (n : Nat) (hn : 1 ≤ n) (Bs n₀ : Nat) (v : Value) (objs : List ObjV) (hm : objs.length ≤ maxLen) (hms : ∀ o ∈ objs, o.ss.length ≤ maxLen) (w : World) (hBs : Bs < w.heap.size) (hn0 : n₀ ≤ w.heap.size)
    (hc : w.cell? ⟨Bs, 0, none⟩ = some v) (ho : ObjsAt n₀ w v objs) :
    SeqStopsK Fence.wide n Tryz.prog 118 #[.pointer (some ⟨Bs, 0, none⟩)] (fun x : Fin (flat objs).length => #[entA (flat objs)[x.1], symA (flat objs)[x.1].s]) (Kp n₀ Bs) (fun ys => ys = List.finRange (flat objs).length) (fun pre => ∃ k, ∃ h : k ≤ (flat objs).length, pre = upto (flat objs).length k h) (flat objs).length w := fun l J Jx W hW hJ hJx hY h0 => by
  have e1 := (hW.cell (p := ⟨Bs, 0, none⟩) hBs).trans hc
  refine (iter1 n hn l Bs n₀ v objs hm hms J Jx hY W e1 (Nat.lt_of_lt_of_le hBs hW.size) (Nat.le_trans hn0 hW.size) (ho.same (Same.of hW hn0)) (fun pre W o h => abide_alloc hJ pre W o h) h0).mono ?_
  rintro e W' ⟨he, ⟨ys, rfl, hj⟩ | ⟨pre, ⟨k, hk, rfl⟩, hj⟩⟩
  · exact ⟨he, .inl ⟨_, rfl, hj⟩⟩
  · exact ⟨he, .inr ⟨_, ⟨k, hk, rfl⟩, hj⟩⟩
set_option maxRecDepth 100000 in
set_option maxHeartbeats 1000000 in
theorem symbols_ (p : Option Addr) (n c : Nat) (w : World) :
    Calls Tryz.prog 97 #[.slice p n c] w fun e w' => e = .returned (.func (.func 118) #[] #[.pointer (some ⟨w.heap.size, 0, none⟩)]) ∧ w' = w.alloc (.cells #[.slice p n c] 22) := by
  have hmf : ∀ (fn : Fn) (first cap : Array Value) (w : World), (Instr.makeFunc fn first cap).run Tryz.prog w = .ok (.func fn first cap) w := fun _ _ _ _ => rfl
  go_enter Tryz.func97, Tryz.ntmps97
  go_wp2
  go_ret
  exact ⟨rfl, rfl⟩
end RsI
end Go.Proofs.YtlmblfkcmhgdaaaGreat
namespace Go.Proofs.YtlmblfkcmhgdaaaGreat
open Go.RowKit Go.Maps
set_option linter.unusedVariables false
set_option linter.unusedSimpArgs false
namespace RsP
open OO OJ RsM OCk
theorem snoc_ind {α : Type} {P : List α → Prop} (nil : P []) (append_singleton : ∀ l x, P l → P (l ++ [x])) (l : List α) : P l := by
  have : ∀ l : List α, P l.reverse := by
    intro l
    induction l with
    | nil => exact nil
    | cons x l ih => rw [List.reverse_cons]; exact append_singleton _ _ ih
  have h := this l.reverse
  rwa [List.reverse_reverse] at h
/-- does it define its name? -/
def defs (s : SymV) : Bool := s.glob && !(s.sect == 0)
def tgtV (i k : Int) : Value := .agg #[.int .i64 i, .int .i64 k]
def tgtD (i k : Int) : DataW Unit := .agg [.lit (.int .i64 i), .lit (.int .i64 k)]
def tgtR (v : Value) : Option (DataW Unit × List MemPlace) :=
  match v with
  | .agg cs => match cs.toList with
    | [.int .i64 a, .int .i64 b] => some (tgtD a b, [])
    | _ => none
  | _ => none
theorem tgtR_mk (a b : Int) : tgtR (tgtV a b) = some (tgtD a b, []) := rfl
theorem tgtR_inv {v : Value} {z : DataW Unit × List MemPlace} (h : tgtR v = some z) : ∃ a b, v = tgtV a b ∧ z = (tgtD a b, []) := by
  unfold tgtR at h
  split at h
  · rename_i cs
    split at h
    · rename_i a b e
      refine ⟨a, b, ?_, ?_⟩
      · unfold tgtV
        have : cs = cs.toList.toArray := by simp
        rw [this, e]
      · exact (Option.some.inj h).symm
    · cases h
  · cases h
theorem tgtD_inj {a b c d : Int} (h : tgtD a b = tgtD c d) : a = c ∧ b = d := by
  unfold tgtD at h
  injection h with h
  injection h with h1 h2
  injection h1 with h1
  injection h2 with h2 _
  injection h2 with h2
  injection h1 with _ h1
  injection h2 with _ h2
  exact ⟨h1, h2⟩
/-- the first that defines a name -/
def look (l : List Ent) (n : ByteArray) : Option Ent := l.find? fun x => defs x.s && decide (x.s.name = n)
def step (D : DataW Unit) (x : Ent) : DataW Unit := if defs x.s && !Maps.has D (key x.s) then D.put (key x.s) (tgtD x.i x.k) else D
/-- the names that are defined -/
def namesD (l : List Ent) : DataW Unit := l.foldl step (.map [])
def nkey (n : ByteArray) : Lit := .string n.data.toList
theorem key_eq (s : SymV) : key s = nkey s.name := rfl
theorem nkey_ne {m n : ByteArray} (h : m ≠ n) : nkey m ≠ nkey n := by
  intro e
  unfold nkey at e
  injection e with e
  exact h (ByteArray.ext (Array.toList_inj.1 e))
theorem isMap_step {D : DataW Unit} (h : IsMap D) (x : Ent) : IsMap (step D x) := by
  unfold step
  split
  · exact h.put _ _
  · exact h
theorem isMap_names (l : List Ent) : IsMap (namesD l) := by
  unfold namesD
  have : ∀ (l : List Ent) (D : DataW Unit), IsMap D → IsMap (l.foldl step D) := by
    intro l
    induction l with
    | nil => intro D h; exact h
    | cons x l ih => intro D h; exact ih _ (isMap_step h x)
  exact this l _ isMap_empty
theorem namesD_snoc (l : List Ent) (x : Ent) : namesD (l ++ [x]) = step (namesD l) x := by
  unfold namesD; rw [List.foldl_append]; rfl
theorem look_snoc (l : List Ent) (x : Ent) (n : ByteArray) : look (l ++ [x]) n = (look l n).or (if defs x.s && decide (x.s.name = n) then some x else none) := by
  unfold look
  rw [List.find?_append]
  congr 1
  simp [List.find?_cons]
  split <;> simp_all
theorem names_look (l : List Ent) (n : ByteArray) : Maps.has (namesD l) (nkey n) = (look l n).isSome ∧ ∀ z, (namesD l).atKey (nkey n) z = match look l n with | some x => tgtD x.i x.k | none => z := by
  induction l using snoc_ind with
  | nil => exact ⟨rfl, fun z => rfl⟩
  | append_singleton l x ih =>
    rw [namesD_snoc, look_snoc]
    by_cases e : x.s.name = n
    · subst e
      rw [decide_eq_true rfl, Bool.and_true]
      cases hl : look l x.s.name with
      | some y =>
        have h1 : Maps.has (namesD l) (nkey x.s.name) = true := by rw [ih.1, hl]; rfl
        have hs : step (namesD l) x = namesD l := by unfold step; rw [key_eq, h1]; simp
        rw [hs, ih.1, hl]
        refine ⟨rfl, fun z => ?_⟩
        rw [ih.2, hl]; rfl
      | none =>
        have h1 : Maps.has (namesD l) (nkey x.s.name) = false := by rw [ih.1, hl]; rfl
        cases hd : defs x.s with
        | true =>
          have hs : step (namesD l) x = (namesD l).put (nkey x.s.name) (tgtD x.i x.k) := by unfold step; rw [key_eq, h1, hd]; rfl
          rw [hs, has_put_same (isMap_names l) (by unfold nkey; exact trivial)]
          refine ⟨rfl, fun z => ?_⟩
          rw [atKey_put_same (isMap_names l) (by unfold nkey; exact trivial)]
          rfl
        | false =>
          have hs : step (namesD l) x = namesD l := by unfold step; rw [hd]; rfl
          rw [hs, ih.1, hl]
          refine ⟨rfl, fun z => ?_⟩
          rw [ih.2, hl]; rfl
    · have hx : (if defs x.s && decide (x.s.name = n) then some x else none) = none := by rw [decide_eq_false e]; simp
      rw [hx, Option.or_none]
      unfold step
      split
      · rw [key_eq, has_put_other (nkey_ne (fun h => e h.symm)), ih.1]
        refine ⟨rfl, fun z => ?_⟩
        rw [atKey_put_other (nkey_ne (fun h => e h.symm)), ih.2]
      · exact ih
/-- those that define a name again -/
def againTo : DataW Unit → List Ent → List Ent
  | _, [] => []
  | D, x :: l => (if defs x.s && Maps.has D (key x.s) then [x] else []) ++ againTo (step D x) l
theorem againTo_snoc (l : List Ent) (x : Ent) : ∀ D, againTo D (l ++ [x]) = againTo D l ++ (if defs x.s && Maps.has (l.foldl step D) (key x.s) then [x] else []) := by
  induction l with
  | nil => intro D; simp [againTo]
  | cons y l ih => intro D; show (if _ then _ else _) ++ againTo (step D y) (l ++ [x]) = _; rw [ih]; simp [againTo]
def againL (l : List Ent) : List Ent := againTo (.map []) l
theorem againL_snoc (l : List Ent) (x : Ent) : againL (l ++ [x]) = againL l ++ (if defs x.s && Maps.has (namesD l) (key x.s) then [x] else []) := againTo_snoc l x _
theorem againL_le (l : List Ent) : (againL l).length ≤ l.length := by
  induction l using snoc_ind with
  | nil => exact Nat.le_refl _
  | append_singleton l x ih =>
    rw [againL_snoc, List.length_append, List.length_append]
    split <;> simp <;> omega
def entCells (l : List Ent) : List Value := l.flatMap fun x => [Value.int .i64 (x.i : Int), .int .i64 (x.k : Int)]
theorem entCells_snoc (l : List Ent) (x : Ent) : entCells (l ++ [x]) = entCells l ++ [.int .i64 (x.i : Int), .int .i64 (x.k : Int)] := by
  unfold entCells; rw [List.flatMap_append]; rfl
end RsP
end Go.Proofs.YtlmblfkcmhgdaaaGreat
namespace Go.Proofs.YtlmblfkcmhgdaaaGreat
open Go.RowKit
set_option linter.unusedVariables false
set_option linter.unusedSimpArgs false
namespace RsR
theorem range2_ {α : Type} {F : Fence} {n : Nat} {P : Program} {g : Operand} {ps : Array Tmp} {assign body : Code} {Q : Exit → Act → World → Prop} {a : Act} {w : World}
    (hro : F.round = none) (h1 : 1 ≤ n) {gf : Nat} {lb : Array Value} (hg : a.eval g = .func (.func gf) #[] lb) (hFg : F.fn gf) (eg : ∀ args w, (callFunc gf args).run P w = .ok (.enter gf args) w)
    {encs : α → Array Value} {Kp : World → World → Prop} {S Sp : List α → Prop} {N : Nat} {w0 : World} (hseq : SeqStopsK F (n - 1) P gf lb encs Kp S Sp N w0)
    (hKt : ∀ {A B C : World}, Kp A B → Kp B C → Kp A C) (hKb : ∀ (W : World) (l : Nat) (o o' : Obj), w.heap.size ≤ l → W.heap[l]? = some o → o.isCells = false → o.isWalk = false → Kp W (W.putObj l o')) (hb0 : Below w0.heap.size w0 w) (hps : ∀ x, (encs x).size = ps.size)
    (I : List α → World → Prop) (Ix : Code → List α → World → Prop) (hI : OwnFrom w.heap.size I) (hIx : ∀ c, OwnFrom w.heap.size (Ix c)) (h0 : I [] w)
    (Bx : α → Nat → Nat → World → Prop) (hBx : ∀ x b c, OwnFrom w.heap.size (fun (_ : Unit) W => Bx x b c W))
    (hab : ∃ a₁ : α → Nat → Nat → Act,
      (∀ (l : Nat) (pre : List α) (x : α) (W : World) (K : Act → World → Prop), I pre W → (∀ b c W', KeepsFrom w.heap.size W W' → Kp W W' → I pre W' → Bx x b c W' → K (a₁ x b c) W') →
        assign.wpIn (F.inRound l) (n - 1 - 1) P (Exit.then K (fun _ _ _ => False)) { tmps := (ps.zip (encs x)).foldl (fun t (p, v) => t.setIfInBounds p v) a.tmps, defers := [] } W) ∧
      (∀ (l : Nat) (pre : List α) (x : α) (b c : Nat) (W : World), I pre W → Bx x b c W → pre.length < N → body.wpIn (F.inRound l) (n - 1 - 1) P (ownPostG w.heap.size Kp I Ix (pre ++ [x]) W) (a₁ x b c) W))
    (hdone : ∀ (D : Nat) (xs : List α) (W : World), w.heap.size ≤ D → S xs → I xs W → W.heap[D]? = some (.deferred (some [])) → Q .normal { a with defers := { target := .collected D, args := #[] } :: a.defers } W)
    (hstop : ∀ (D : Nat) (c : Code) (pre : List α) (W : World), w.heap.size ≤ D → Sp pre → Ix c pre W → W.heap[D]? = some (.deferred (some [])) → c.wpIn F n P Q { a with defers := { target := .collected D, args := #[] } :: a.defers } W) :
    (Code.rangeFunc g ps assign body).wpIn F n P Q a w := by
  obtain ⟨a₁, h2, h3⟩ := hab
  refine wpIn_rangeFunc_ownH hro h1 hg hFg eg hseq (fun h k => hKt h k) hKb hb0 hps I Ix hI hIx h0 (fun x a' W => ∃ b c, a' = a₁ x b c ∧ Bx x b c W)
    (fun x a' s W W' row ⟨b, c, e, hB⟩ hg hr => ⟨b, c, e, hBx x b c s W W' row hB hg hr⟩)
    (fun l pre x W K hi hK => h2 l pre x W K hi fun b c W' k1 k2 k3 k4 => hK _ _ k1 k2 k3 ⟨b, c, rfl, k4⟩)
    (fun l pre x a' W _ _ hi ⟨b, c, e, hB⟩ hlt => by subst e; exact h3 l pre x b c W hi hB hlt) hdone hstop
end RsR
end Go.Proofs.YtlmblfkcmhgdaaaGreat
namespace Go.Proofs.YtlmblfkcmhgdaaaGreat
open Go.RowKit Go.Maps Go.WideMaps
set_option linter.unusedVariables false
set_option linter.unusedSimpArgs false
namespace RsD
open OO OJ RsM RsI RsP RsR OCk
attribute [local go_sem] Oper.semAt_some
abbrev TM : TypeId := 172
abbrev TT : TypeId := 76
abbrev TS : TypeId := 150
theorem lawS : Keyed Tryz.prog 9 := string_keyed Tryz.underlying9
theorem zeroT (w : World) : (zeroValue TT).run Tryz.prog w = .ok (tgtV 0 0) w := by kernel_rfl
theorem infoT : (Tryz.prog.info? TT).map (fun i => (i.zero, i.size, i.bytes)) = some (some (tgtV 0 0), 2, 16) := by kernel_rfl
abbrev ent {objs : List ObjV} (x : Fin (flat objs).length) : Ent := (flat objs)[x.1]
/-- what the loop has done -/
structure DI (w : World) (l : List Ent) (W : World) : Prop where
  names : W.heap[w.heap.size]? = some (.cells #[.map (some (w.heap.size + 2))] TM (0, 0))
  ag : ∃ v, W.heap[w.heap.size + 1]? = some (.cells #[v] TS (0, 0)) ∧ W.ownsRow (w.heap.size + 4) TT 2 v (againL l).length (entCells (againL l))
  map : W.ownsMap Tryz.prog 9 tgtR (w.heap.size + 2) l.length (namesD l)
  bel : Below w.heap.size w W
  z : w.heap.size + 4 ≤ W.heap.size
theorem row_block {w : World} {base : Nat} {e : TypeId} {size : Nat} {v : Value} {n : Nat} {xs : List Value} (h : w.ownsRow base e size v n xs) (k : Nat) (hk : v.ownBlock = some k) : ∃ c, w.heap[k]? = some (.cells c e (0, 0)) ∧ base ≤ k := by
  rcases h.2 with ⟨rfl, _⟩ | ⟨g, cap, cur, rfl, hb, hg, _⟩
  · simp [Value.ownBlock] at hk
  · simp [Value.ownBlock] at hk
    subst hk
    exact ⟨_, hg, hb⟩
theorem row_kept {w w' : World} {row : Option Nat} {base : Nat} {e : TypeId} {size : Nat} {v : Value} {n : Nat} {xs : List Value} (h : w.ownsRow base e size v n xs) (hg : w.grownBy w' row) (hr : ∀ r, row = some r → ∃ o : Obj, w.heap[r]? = some o ∧ o.isCells = false) : w'.ownsRow base e size v n xs := by
  refine h.kept hg ?_
  cases hv : v.ownBlock with
  | none => exact .inl rfl
  | some g =>
    refine .inr fun e => ?_
    obtain ⟨c, hc, -⟩ := row_block h g hv
    obtain ⟨o, ho, hn⟩ := hr g e.symm
    rw [hc] at ho
    cases ho
    cases hn
theorem DI.own {w : World} : OwnFrom (w.heap.size + 4) (DI w) := by
  intro l W W' row h hg hr
  have low : ∀ k, k < w.heap.size + 4 → k < W.heap.size → W'.heap[k]? = W.heap[k]? := fun k h1 h2 => hg.block k h2 (fun e => by have := (hr k e.symm).1; omega)
  have hz := h.z
  obtain ⟨v, h1, h2⟩ := h.ag
  refine ⟨(low _ (by omega) (by omega)).trans h.names, ⟨v, (low _ (by omega) (by omega)).trans h1, row_kept h2 hg fun r e => (hr r e).2⟩, h.map.kept hg (fun e => by have := (hr _ e.symm).1; omega), ⟨hg.os.trans h.bel.os, hg.tape.trans h.bel.tape, hg.output.trans h.bel.output, Nat.le_trans h.bel.size hg.size, fun k hk => (low k (by omega) (by have := h.bel.size; omega)).trans (h.bel.block k hk)⟩, Nat.le_trans h.z hg.size⟩
/-- the loop's two variables -/
structure Vars (n : Nat) (x : Ent) (b c : Nat) (W : World) : Prop where
  v0 : W.heap[b]? = some (.cells #[.int .i64 (x.i : Int), .int .i64 (x.k : Int)] TT (0, 0))
  v1 : W.heap[c]? = some (.cells #[.string x.s.name, .int .i64 x.s.sect, .int .i64 x.s.val, .int .i64 x.s.frame, .bool x.s.glob] 57 (0, 0))
  lb : n ≤ b
  lc : n ≤ c
theorem Vars.own {n m : Nat} (x : Ent) (b c : Nat) : OwnFrom m (fun (_ : Unit) W => Vars n x b c W) := by
  intro _ W W' row h hg hr
  have keep : ∀ (k : Nat) (cs : Array Value) (t : TypeId) (f : Nat × Nat), W.heap[k]? = some (Obj.cells cs t f) → W'.heap[k]? = some (Obj.cells cs t f) := fun k cs t f hk => (hg.block k (lt_heap hk) (fun e => by
    obtain ⟨o, ho, hn⟩ := (hr k e.symm).2
    rw [hk] at ho
    cases ho
    cases hn)).trans hk
  exact ⟨keep _ _ _ _ h.v0, keep _ _ _ _ h.v1, h.lb, h.lc⟩
theorem setCell_one {W : World} {b : Nat} {v : Value} {T : TypeId} {f : Nat × Nat} (h : W.heap[b]? = some (.cells #[v] T f)) : W.setCell ⟨b, 0, none⟩ v = W := by
  have e : (W.setCell ⟨b, 0, none⟩ v).heap = W.heap := by
    apply Array.ext_getElem?
    intro i
    unfold World.setCell
    rw [Array.getElem?_modify]
    split
    · rename_i hi
      have hi : b = i := hi
      subst hi
      rw [h]; rfl
    · rfl
  unfold World.setCell at e ⊢
  simp only at e
  rw [e]
theorem row_slice {w : World} {base : Nat} {e : TypeId} {size : Nat} {v : Value} {n : Nat} {xs : List Value} (h : w.ownsRow base e size v n xs) : ∃ q m c, v = .slice q m c := by
  rcases h.2 with ⟨rfl, _⟩ | ⟨g, cap, cur, rfl, _⟩
  · exact ⟨_, _, _, rfl⟩
  · exact ⟨_, _, _, rfl⟩
theorem two_new (w : World) (a b : Value) (T : TypeId) : ∀ j u, [a, b][j]? = some u → (w.alloc (.cells #[a, b] T)).cell? ((⟨w.heap.size, 0, none⟩ : Addr).add j) = some u := by
  intro j u hj
  rw [OO.add_plain, Nat.zero_add]
  rw [Lib.cell_of_heap (heap_alloc_new w _)]
  simpa using hj
theorem two_one (a b : Int) : ∀ u ∈ [Value.int .i64 a, .int .i64 b], u.oneCell' = true := by
  intro u hu
  simp at hu
  rcases hu with rfl | rfl <;> rfl
theorem keeps_row {w w' : World} {base : Nat} {e : TypeId} {size : Nat} {v : Value} {n : Nat} {xs : List Value} (h : w.ownsRow base e size v n xs) (hg : w.grownBy w' v.ownBlock) : KeepsOthers w w' := by
  refine ⟨hg.size, fun k o hk ho => (hg.block k (lt_heap hk) (fun e => ?_)).trans hk⟩
  obtain ⟨c, hc, -⟩ := row_block h k e.symm
  rw [hc] at hk
  cases hk
  cases ho
section
variable {w : World} {l : List Ent} {x : Ent} {W W' : World}
theorem DI.below (h : DI w l W) (hb : Below W.heap.size W W') : DI w l W' := by
  have hz := h.z
  obtain ⟨v, h1, h2⟩ := h.ag
  have hg : W.grownBy W' none := ⟨hb.os, hb.tape, hb.output, hb.size, fun i hi _ => hb.block i hi⟩
  exact ⟨(hb.block _ (by omega)).trans h.names, ⟨v, (hb.block _ (by omega)).trans h1, h2.kept hg (by cases hv : v.ownBlock <;> simp)⟩, h.map.kept hg (by simp), h.bel.trans (hb.mono h.bel.size), Nat.le_trans h.z hb.size⟩
theorem di_skip (h : DI w l W) (hd : defs x.s = false) (hb : Below W.heap.size W W') : DI w (l ++ [x]) W' := by
  have h' := h.below hb
  refine ⟨h'.names, ?_, ?_, h'.bel, h'.z⟩
  · rw [againL_snoc, hd]; simpa using h'.ag
  · rw [namesD_snoc, show RsP.step (namesD l) x = namesD l by unfold RsP.step; rw [hd]; rfl]
    exact h'.map.mono (by simp)
theorem di_known {v v' : Value} (h : DI w l W) (h1 : W.heap[w.heap.size + 1]? = some (.cells #[v] TS (0, 0))) (h2 : W.ownsRow (w.heap.size + 4) TT 2 v (againL l).length (entCells (againL l))) (hd : defs x.s = true) (hh : Maps.has (namesD l) (key x.s) = true)
    (hr : W'.ownsRow (w.heap.size + 4) TT 2 v' ((againL l).length + 1) (entCells (againL l) ++ [.int .i64 (x.i : Int), .int .i64 (x.k : Int)])) (hg : W.grownBy W' v.ownBlock) : DI w (l ++ [x]) (W'.setCell ⟨w.heap.size + 1, 0, none⟩ v') := by
  have hz := h.z
  have hlow : ∀ k, v.ownBlock = some k → w.heap.size + 4 ≤ k := fun k hk => (h2.lt k hk).1
  have hne : ∀ k, k < w.heap.size + 4 → some k ≠ v.ownBlock := fun k hk e => by have := hlow k e.symm; omega
  have b1 : Boxed W' (w.heap.size + 1) TS v := (hg.block _ (by omega) (hne _ (by omega))).trans h1
  have g2 := grownBy_setCell' W' (w.heap.size + 1) v'
  have hne2 : ∀ k, v'.ownBlock = some k → w.heap.size + 4 ≤ k := fun k hk => (hr.lt k hk).1
  refine ⟨?_, ⟨v', Boxed.set v' b1, ?_⟩, ?_, ?_, ?_⟩
  · exact (g2.block _ (by have := hg.size; omega) (by simp)).trans ((hg.block _ (by omega) (hne _ (by omega))).trans h.names)
  · rw [againL_snoc, hd, hh]
    simp only [Bool.and_self, if_true, List.length_append, List.length_cons, List.length_nil, entCells_snoc]
    refine hr.kept g2 ?_
    cases hv : v'.ownBlock with
    | none => exact .inl rfl
    | some k => exact .inr (fun e => by have := hne2 k hv; simp at e; omega)
  · rw [namesD_snoc, show RsP.step (namesD l) x = namesD l by unfold RsP.step; rw [hh]; simp]
    exact ((h.map.kept hg (hne _ (by omega))).kept g2 (by simp)).mono (by simp)
  · exact (h.bel.grown hg h.bel.size (fun k hk => by have := hlow k hk; omega)).setCell (by simp) _
  · rw [World.size_setCell]; exact Nat.le_trans hz hg.size
theorem di_new (h : DI w l W) (hd : defs x.s = true) (hh : Maps.has (namesD l) (key x.s) = false)
    (hm : W'.ownsMap Tryz.prog 9 tgtR (w.heap.size + 2) (l.length + 1) ((namesD l).put (key x.s) (tgtD x.i x.k))) (hg : W.grownBy W' (some (w.heap.size + 2))) : DI w (l ++ [x]) W' := by
  have hz := h.z
  obtain ⟨v, h1, h2⟩ := h.ag
  refine ⟨(hg.block _ (by omega) (by simp)).trans h.names, ⟨v, (hg.block _ (by omega) (by simp)).trans h1, ?_⟩, ?_, ?_, Nat.le_trans hz hg.size⟩
  · rw [againL_snoc, hh, Bool.and_false]
    simp only [Bool.false_eq_true, if_false, List.append_nil]
    refine h2.kept hg ?_
    cases hv : v.ownBlock with
    | none => exact .inl rfl
    | some k => exact .inr (fun e => by have := (h2.lt k hv).1; simp at e; omega)
  · rw [namesD_snoc, show RsP.step (namesD l) x = (namesD l).put (key x.s) (tgtD x.i x.k) by unfold RsP.step; rw [hd, hh]; rfl]
    simpa using hm
  · exact h.bel.grown hg h.bel.size (fun k hk => by cases hk; omega)
end
theorem look_tgt {F : Fence} {nF : Nat} {w : World} {ops : Array Oper} {rest : List Oper} {o : Oper} {a : Act} {Q : Exit → Act → World → Prop} (hg : o.guard = none) (m x : Operand) (hop : o.op = Op.lookup TM m x true) (b n : Nat) (D : DataW Unit)
    (hm : a.eval m = .map (some b)) (hown : w.ownsMap Tryz.prog 9 tgtR b n D) (k : ByteArray) (hk : k.size ≤ maxLen) (hx : a.eval x = .string k)
    (hK : ∀ i j : Int, D.atKey (nkey k) (tgtD 0 0) = tgtD i j → wpListIn F nF Tryz.prog ops Q rest (a.put o.dst (.tuple #[.agg #[.int .i64 i, .int .i64 j], .bool (Maps.has D (nkey k))])) w) :
    wpListIn F nF Tryz.prog ops Q (o :: rest) a w :=
  wpListIn_lookup_own_ok w hg m x TM hop 9 TT lawS Tryz.underlying172 tgtR (zeroT w) (tgtD 0 0) [] (tgtR_mk 0 0) b n D hm hown (.string k) (nkey k) hx (keyOf_string_mk Tryz.underlying9 hk) (fun v ps hv => by
    obtain ⟨i, j, rfl, e⟩ := tgtR_inv hv
    exact hK i j (congrArg Prod.fst e))
set_option maxRecDepth 100000 in
set_option maxHeartbeats 16000000 in
theorem definitions_ {w : World} {n₀ : Nat} {v : Value} {objs : List ObjV} (hn : n₀ ≤ w.heap.size) (ho : ObjsAt n₀ w v objs) (hw : ∀ o ∈ objs, o.Wf) (hm : objs.length ≤ maxLen) (hms : ∀ o ∈ objs, o.ss.length ≤ maxLen) (hN : (flat objs).length ≤ 100000) :
    Calls Tryz.prog 94 #[v] w fun e w' => ∃ a, e = .returned (.tuple #[.map (some (w.heap.size + 2)), a]) ∧ w'.ownsMap Tryz.prog 9 tgtR (w.heap.size + 2) (flat objs).length (namesD (flat objs)) ∧
      w'.ownsRow (w.heap.size + 4) TT 2 a (againL (flat objs)).length (entCells (againL (flat objs))) ∧ Below w.heap.size w w' ∧ w.heap.size + 4 ≤ w'.heap.size := by
  have hmm := @run_makeMap Tryz.prog
  obtain ⟨p, c, rfl, hsl⟩ := ho
  have HO := Lib.hid (⟨p, c, rfl, hsl⟩ : ObjsAt n₀ w (.slice p objs.length c) objs)
  have HW := Lib.hid hw
  have HMS := Lib.hid hms
  have HM := Lib.hid hm
  clear hsl hw hms hm
  refine (callsIn_wide (n := 8)).1 (callsIn_of_wp_marks Tryz.func94 rfl trivial ?_ rfl)
  simp only [Tryz.ntmps94, List.size_toArray, List.length_cons, List.length_nil, Nat.reduceAdd, Nat.reduceSub, Array.replicate_succ, Array.replicate_zero, List.push_toArray, List.append_toArray, List.nil_append, List.cons_append]
  refine wpIn_wide.2 ?_
  go_wp2_with (go_at_call 97; (with_reducible refine (symbols_ _ _ _ _).mono ?_); rintro e w1 ⟨rfl, hw1⟩; have HW1 := Lib.hid hw1; clear hw1)
  have hs1 : w1.heap.size = w.heap.size + 4 := by rw [HW1.out]; simp
  have hb1 : Below w.heap.size w w1 := by
    rw [HW1.out]
    exact ((((Below.refl _ _).alloc (Nat.le_refl _) _).alloc (by simp only [World.size_alloc]; omega) _).alloc (by simp only [World.size_alloc]; omega) _).alloc (by simp only [World.size_alloc]; omega) _
  have x0 : w1.heap[w.heap.size]? = some (.cells #[.map (some (w.heap.size + 2))] TM (0, 0)) := by
    rw [HW1.out, Lib.alloc_old _ _ _ (by simp only [World.size_alloc]; omega), Lib.alloc_old _ _ _ (by simp only [World.size_alloc]; omega), Lib.alloc_old _ _ _ (by simp only [World.size_alloc]; omega)]
    exact heap_alloc_new w _
  have x1 : w1.heap[w.heap.size + 1]? = some (.cells #[.slice none 0 0] TS (0, 0)) := by
    rw [HW1.out, Lib.alloc_old _ _ _ (by simp only [World.size_alloc]; omega), Lib.alloc_old _ _ _ (by simp only [World.size_alloc]; omega)]
    have := heap_alloc_new (w.alloc (.cells #[.map (some (w.heap.size + 1 + 1))] TM)) (.cells #[.slice none 0 0] TS)
    rwa [World.size_alloc] at this
  have x3 : w1.heap[w.heap.size + 3]? = some (.cells #[.slice p objs.length c] 22 (0, 0)) := by
    rw [HW1.out]
    have := heap_alloc_new (((w.alloc (.cells #[.map (some (w.heap.size + 1 + 1))] TM)).alloc (.cells #[.slice none 0 0] TS)).alloc (.map #[] 0)) (.cells #[.slice p objs.length c] 22)
    simpa [World.size_alloc] using this
  have xm : w1.ownsMap Tryz.prog 9 tgtR (w.heap.size + 2) 0 (namesD []) := by
    rw [HW1.out]
    have := World.ownsMap_made (H := Unit) ((w.alloc (.cells #[.map (some (w.heap.size + 1 + 1))] TM)).alloc (.cells #[.slice none 0 0] TS)) Tryz.prog 9 tgtR
    simp only [World.size_alloc] at this
    exact this.alloc _
  have hd0 : DI w [] w1 := ⟨x0, ⟨_, x1, World.ownsRow_nil _ _ _ _⟩, xm, hb1, by omega⟩
  have hbox : w1.cell? ⟨w.heap.size + 1 + 1 + 1, 0, none⟩ = some (.slice p objs.length c) := Lib.cell_of_heap x3 0
  have hobj : ObjsAt n₀ w1 (.slice p objs.length c) objs := ObjsAt.same HO.out (Same.of hb1 hn)
  have HD0 := Lib.hid hd0
  clear HW1 hb1 x0 x1 x3 xm hd0
  refine (wpIn_wide (n := 8)).1 ?_
  refine range2_ (α := Fin (flat objs).length) (w0 := w1) rfl (by omega) (gf := 118) (lb := #[.pointer (some ⟨w.heap.size + 1 + 1 + 1, 0, none⟩)]) rfl trivial (enters_of Tryz.func118 (by kernel_rfl) rfl)
    (iter_ (8 - 1) (by omega) (w.heap.size + 1 + 1 + 1) n₀ _ objs HM.out HMS.out w1 (by omega) (by omega) hbox hobj) (fun h k => h.trans k) (fun W l o o' hl _ _ _ => Kp.put W l o' (by omega) (by omega)) (Below.refl _ _) (fun _ => rfl)
    (fun pre W => DI w (pre.map ent) W) (fun _ _ _ => False) (by rw [hs1]; exact fun s W W' row h hg hr => DI.own (s.map ent) W W' row h hg hr) (fun _ _ _ _ _ h _ _ => h) HD0.out
    (fun x b c W => Vars (w.heap.size + 4) (ent x) b c W) (fun x b c => Vars.own _ _ _) ?ab ?done (fun _ _ _ _ _ _ h _ => h.elim)
  case ab =>
    clear hbox hobj HD0
    apply Exists.intro
    constructor
    · intro l pre x W K hI hK
      gi_wp2
      have kb : Below W.heap.size W ((W.alloc (.cells #[.int .i64 ((ent x).i : Int), .int .i64 ((ent x).k : Int)] TT)).alloc (.cells #[.string (ent x).s.name, .int .i64 (ent x).s.sect, .int .i64 (ent x).s.val, .int .i64 (ent x).s.frame, .bool (ent x).s.glob] 57)) := ((Below.refl _ _).alloc (Nat.le_refl _) _).alloc (by simp) _
      have kf := (((KeepsOthers.alloc W (.cells #[.int .i64 ((ent x).i : Int), .int .i64 ((ent x).k : Int)] TT)).trans (KeepsOthers.alloc _ (.cells #[.string (ent x).s.name, .int .i64 (ent x).s.sect, .int .i64 (ent x).s.val, .int .i64 (ent x).s.frame, .bool (ent x).s.glob] 57))).from w1.heap.size)
      have hz := hI.z
      have kp : Kp n₀ (w.heap.size + 1 + 1 + 1) W _ := Kp.of kb (by omega) (by omega)
      have ki := (DI.own.alloc (.cells #[.string (ent x).s.name, .int .i64 (ent x).s.sect, .int .i64 (ent x).s.val, .int .i64 (ent x).s.frame, .bool (ent x).s.glob] 57) (DI.own.alloc (.cells #[.int .i64 ((ent x).i : Int), .int .i64 ((ent x).k : Int)] TT) hI))
      have kv : Vars (w.heap.size + 4) (ent x) W.heap.size (W.heap.size + 1) ((W.alloc (.cells #[.int .i64 ((ent x).i : Int), .int .i64 ((ent x).k : Int)] TT)).alloc (.cells #[.string (ent x).s.name, .int .i64 (ent x).s.sect, .int .i64 (ent x).s.val, .int .i64 (ent x).s.frame, .bool (ent x).s.glob] 57)) :=
        ⟨(Lib.alloc_old _ _ _ (by simp)).trans (heap_alloc_new _ _), by have := heap_alloc_new (W.alloc (.cells #[.int .i64 ((ent x).i : Int), .int .i64 ((ent x).k : Int)] TT)) (.cells #[.string (ent x).s.name, .int .i64 (ent x).s.sect, .int .i64 (ent x).s.val, .int .i64 (ent x).s.frame, .bool (ent x).s.glob] 57); rwa [World.size_alloc] at this, hz, by omega⟩
      clear kb hz
      generalize hb : W.heap.size = b at kv ⊢
      generalize hd : b + 1 = d at kv ⊢
      exact hK b d _ kf kp ki kv
    · intro l pre x b d W hI hV hlt
      obtain ⟨i0, hi, hz0, hz1, hz2⟩ := info_parts infoT
      have hz := hI.z
      obtain ⟨av, hag, hrow⟩ := hI.ag
      have hmap := hI.map
      have k0 : W.cell? ⟨w.heap.size, 0, none⟩ = some (.map (some (w.heap.size + 2))) := Lib.cell_of_heap hI.names 0
      have k1 : W.cell? ⟨w.heap.size + 1, 0, none⟩ = some av := Lib.cell_of_heap hag 0
      have k2 : W.frozen? ⟨w.heap.size + 1, 0, none⟩ = false := Lib.frozen_of_heap hag 0
      have b0 : W.cell? ⟨b, 0, none⟩ = some (.int .i64 ((ent x).i : Int)) := Lib.cell_of_heap hV.v0 0
      have b1 : W.cell? ⟨b, 1, none⟩ = some (.int .i64 ((ent x).k : Int)) := Lib.cell_of_heap hV.v0 1
      have d0 : W.cell? ⟨d, 0, none⟩ = some (.string (ent x).s.name) := Lib.cell_of_heap hV.v1 0
      have d1 : W.cell? ⟨d, 1, none⟩ = some (.int .i64 (ent x).s.sect) := Lib.cell_of_heap hV.v1 1
      have d4 : W.cell? ⟨d, 4, none⟩ = some (.bool (ent x).s.glob) := Lib.cell_of_heap hV.v1 4
      have bl := lt_heap hV.v0
      have l0 : w.heap.size < W.heap.size := by omega
      have l1 : w.heap.size + 1 < W.heap.size := by omega
      have dl := lt_heap hV.v1
      obtain ⟨oo, hoo, hss⟩ := mem_flat (List.getElem_mem x.2)
      have hnm : (ent x).s.name.size ≤ maxLen := ((HW.out oo (List.mem_of_getElem? hoo)).ss _ (List.mem_of_getElem? hss)).name
      have HI := Lib.hid hI
      have HAG := Lib.hid hag
      have HROW := Lib.hid hrow
      have HPRE := Lib.hid (show (pre ++ [x]).map ent = pre.map ent ++ [ent x] by simp)
      have hL : (pre.map ent).length ≤ 100000 := by rw [List.length_map]; omega
      have hlen : (againL (pre.map ent)).length ≤ 100000 := Nat.le_trans (againL_le _) (by rw [List.length_map]; omega)
      clear hI hV hag hoo hss hlt
      generalize ent x = y at *
      generalize pre.map ent = L at *
      have hnew := fun ti tj => two_new (W.alloc (.cells #[.int .i64 ti, .int .i64 tj] TT)) (.int .i64 (y.i : Int)) (.int .i64 (y.k : Int)) TT
      simp only [World.size_alloc] at hnew
      have HNEW := Lib.hid hnew
      clear hnew
      have HDF := Lib.hid (show defs y.s = (y.s.glob && !(y.s.sect == 0)) from rfl)
      cases hh : Maps.has (namesD L) (nkey y.s.name) <;> cases hg : y.s.glob <;> by_cases hs : y.s.sect = 0
      all_goals
        have HG := Lib.hid hg
        have HH := Lib.hid hh
        have HS := Lib.hid hs
        rw [hg] at d4
        have hx1 := Lib.alloc_old W
        first
          | (have hs0 : (y.s.sect == 0) = true := by simpa using hs)
          | (have hs0 : (y.s.sect == 0) = false := by simpa using hs)
        clear hs hg hx1
        gi_wp2_with (first
          | (gi_at_lookup; refine look_tgt rfl _ _ rfl (w.heap.size + 2) _ _ rfl hmap y.s.name hnm rfl ?_; intro ti tj hti; clear hti)
          | (gi_at_builtin; refine wpListIn_append_own _ rfl _ _ TS rfl (w.heap.size + 4) TT i0 (tgtV 0 0) 2 16 Tryz.underlying150 hi hz0 hz1 hz2 rfl (by decide) _ _ _ rfl ((HROW.out.alloc _).alloc _) ⟨W.heap.size + 1, 0, none⟩ 1 1 [.int .i64 (y.i : Int), .int .i64 (y.k : Int)] rfl rfl (HNEW.out ti tj) (two_one _ _) (by unfold maxLen; omega) (by omega) (by simp only [World.size_alloc]; omega) ?_; intro v' w' hown' hgrow' _; obtain ⟨q', n', c', rfl⟩ := row_slice hown'; have hx3 := (hgrow'.block (w.heap.size + 1) (by simp only [World.size_alloc]; omega) (fun e => by have := ((HROW.out.alloc (.cells #[.int .i64 ti, .int .i64 tj] TT)).lt _ e.symm).1; omega)).trans ((Lib.alloc_old _ _ _ (by simp only [World.size_alloc]; omega)).trans ((Lib.alloc_old _ _ _ l1).trans HAG.out)); have y1 : w'.cell? ⟨w.heap.size + 1, 0, none⟩ = some av := Lib.cell_of_heap hx3 0; have y2 : w'.frozen? ⟨w.heap.size + 1, 0, none⟩ = false := Lib.frozen_of_heap hx3 0; have HX3 := Lib.hid hx3; clear hx3)
          | (gi_at_mapUpdate; refine wpListIn_mapUpdate_own _ rfl _ _ _ TM rfl 9 TT lawS Tryz.underlying172 tgtR (w.heap.size + 2) _ _ rfl (hmap.alloc _) (by unfold maxLen; omega) _ _ _ rfl rfl (keyOf_string_mk Tryz.underlying9 hnm) (tgtD y.i y.k) [] rfl ?_; intro w' hown' hgrow'))
        first
          | (have hd := Lib.hid (show defs y.s = false by rw [HDF.out, HG.out]; rfl)
             refine ⟨(KeepsOthers.alloc _ _).from _, Kp.of ((Below.refl _ _).alloc (Nat.le_refl _) _) (by omega) (by omega), ?_⟩
             show DI w ((pre ++ [x]).map ent) _
             rw [HPRE.out]
             exact di_skip HI.out hd.out ((Below.refl _ _).alloc (Nat.le_refl _) _))
          | (have hd := Lib.hid (show defs y.s = false by rw [HDF.out, HG.out, hs0]; rfl)
             refine ⟨(KeepsOthers.alloc _ _).from _, Kp.of ((Below.refl _ _).alloc (Nat.le_refl _) _) (by omega) (by omega), ?_⟩
             show DI w ((pre ++ [x]).map ent) _
             rw [HPRE.out]
             exact di_skip HI.out hd.out ((Below.refl _ _).alloc (Nat.le_refl _) _))
          | (have hd := Lib.hid (show defs y.s = true by rw [HDF.out, HG.out, hs0]; rfl)
             refine ⟨((KeepsOthers.alloc _ _).from _).trans (KeepsFrom.of_grownBy hgrow' (fun j hj => by cases hj; omega)), (Kp.of ((Below.refl _ _).alloc (Nat.le_refl _) _) (by omega) (by omega)).trans ⟨fun k hk => hgrow'.block k (by simp only [World.size_alloc]; omega) (fun e => by cases e; omega), hgrow'.block _ (by simp only [World.size_alloc]; omega) (by simp), hgrow'.size⟩, ?_⟩
             show DI w ((pre ++ [x]).map ent) _
             rw [HPRE.out]
             exact di_new (HI.out.below ((Below.refl _ _).alloc (Nat.le_refl _) _)) hd.out HH.out hown' hgrow')
          | (have hd := Lib.hid (show defs y.s = true by rw [HDF.out, HG.out, hs0]; rfl)
             have hr0 := (HROW.out.alloc (.cells #[.int .i64 ti, .int .i64 tj] TT)).alloc (.cells #[.int .i64 (y.i : Int), .int .i64 (y.k : Int)] TT)
             have hb0 : Below W.heap.size W ((W.alloc (.cells #[.int .i64 ti, .int .i64 tj] TT)).alloc (.cells #[.int .i64 (y.i : Int), .int .i64 (y.k : Int)] TT)) := ((Below.refl _ _).alloc (Nat.le_refl _) _).alloc (by simp) _
             have hlo : ∀ k, av.ownBlock = some k → w.heap.size + 4 ≤ k := fun k hk => (hr0.lt k hk).1
             have hsz := hgrow'.size
             simp only [World.size_alloc] at hsz
             refine ⟨((((KeepsOthers.alloc _ _).trans (KeepsOthers.alloc _ _)).trans (keeps_row hr0 hgrow')).trans (KeepsOthers.setCell _ _ _)).from _,
               ((Kp.of hb0 (by omega) (by omega)).trans ⟨fun k hk => hgrow'.block k (by simp only [World.size_alloc]; omega) (fun e => by have := hlo _ e.symm; omega), hgrow'.block _ (by simp only [World.size_alloc]; omega) (fun e => by have := hlo _ e.symm; omega), hgrow'.size⟩).trans
                 ⟨fun k hk => Below.heap_setCell _ _ _ _ (by show k ≠ w.heap.size + 1; omega), Below.heap_setCell _ _ _ _ (by show w.heap.size + 1 + 1 + 1 ≠ w.heap.size + 1; omega), by rw [World.size_setCell]; exact Nat.le_refl _⟩, ?_⟩
             show DI w ((pre ++ [x]).map ent) _
             rw [HPRE.out]
             exact di_known (HI.out.below hb0) ((hb0.block _ l1).trans HAG.out) hr0 hd.out HH.out hown' hgrow')
  case done =>
    intro D xs W hD hxs hI hK
    subst hxs
    have hz := hI.z
    rw [show (List.finRange (flat objs).length).map ent = flat objs by
      rw [← upto_all, map_upto]; exact List.take_of_length_le (Nat.le_refl _)] at hI
    obtain ⟨av, hag, hrow⟩ := hI.ag
    obtain ⟨q', n', c', rfl⟩ := row_slice hrow
    have k0 : W.cell? ⟨w.heap.size, 0, none⟩ = some (.map (some (w.heap.size + 2))) := Lib.cell_of_heap hI.names 0
    have k1 : W.cell? ⟨w.heap.size + 1, 0, none⟩ = some (.slice q' n' c') := Lib.cell_of_heap hag 0
    have f0 : W.frozen? ⟨w.heap.size, 0, none⟩ = false := Lib.frozen_of_heap hI.names 0
    have f1 : W.frozen? ⟨w.heap.size + 1, 0, none⟩ = false := Lib.frozen_of_heap hag 0
    have HI := Lib.hid hI
    have HAG := Lib.hid hag
    have HROW := Lib.hid hrow
    have HK := Lib.hid hK
    have mixed : Tryz.prog.follows Departure.mixedOrders = true := by kernel_rfl
    clear hI hag hrow hK
    go_wp2_with fail
    go_region
    rw [setCell_one HI.out.names, setCell_one HAG.out]
    have HK2 : W.drew.heap[D]? = some (.deferred (some [])) := HK.out
    go_wp2_with fail
    refine ⟨by simp, .inl ⟨_, _, rfl, run_takeDeferred HK2, ?_⟩⟩
    have g4 := grownBy_putObj' W.drew D (.deferred none)
    have hne : ∀ k, k < w.heap.size + 4 → some k ≠ some D := fun k hk e => by cases e; omega
    have o1 : (W.drew.putObj D (.deferred none)).cell? ⟨w.heap.size, 0, none⟩ = some (.map (some (w.heap.size + 2))) := by
      rw [Lib.cell_of_heap ((g4.block _ (by show w.heap.size < W.heap.size; omega) (hne _ (by omega))).trans (show W.drew.heap[w.heap.size]? = _ from HI.out.names))]; rfl
    have o2 : (W.drew.putObj D (.deferred none)).cell? ⟨w.heap.size + 1, 0, none⟩ = some (.slice q' n' c') := by
      rw [Lib.cell_of_heap ((g4.block _ (by show w.heap.size + 1 < W.heap.size; omega) (hne _ (by omega))).trans (show W.drew.heap[w.heap.size + 1]? = _ from HAG.out))]; rfl
    refine ⟨.tuple #[.map (some (w.heap.size + 2)), .slice q' n' c'], by simp [results, Tryz.results94, go_sem, o1, o2], .slice q' n' c', rfl, ?_, ?_, ?_, ?_⟩
    · exact (HI.out.map.drew.mono (by exact Nat.le_refl _)).kept g4 (hne _ (by omega))
    · exact row_kept (w := W.drew) HROW.out g4 (fun r e => by cases e; exact ⟨_, HK2, rfl⟩)
    · exact (Below.drew HI.out.bel).grown g4 (by have := HI.out.bel.size; exact this) (fun k hk => by cases hk; omega)
    · have := g4.size
      exact Nat.le_trans hz this
end RsD
end Go.Proofs.YtlmblfkcmhgdaaaGreat
namespace Go.Proofs.YtlmblfkcmhgdaaaGreat
open Go.RowKit
set_option linter.unusedVariables false
set_option linter.unusedSimpArgs false
namespace RsN
open OI
variable {F : Fence} {n : Nat} {P : Program} {ops : Array Oper} {Q : Exit → Act → World → Prop} {md : Region.Mode}
theorem invIn_any {Inv : Array Bool → Act → World → Prop} (hA : Ahead ops)
    (step : ∀ (i : Nat) (o : Oper), ops[i]? = some o → ∀ listed a w, listed.size = ops.size → listed.getD i true = false → (∀ e ∈ o.after, Region.binds md e = true → listed.getD e.on false = true) → Inv listed a w → wpOpIn F n P ops Q i (fun a' w' => Inv (listed.setIfInBounds i true) a' w') a w)
    (done : ∀ listed a w, (∀ j, j < ops.size → listed.getD j false = true) → Inv listed a w → Q .normal a w) :
    ∀ fuel listed a w, listed.size = ops.size → left listed ≤ fuel → Inv listed a w → wpAnyIn F n P md ops Q fuel listed a w := by
  intro fuel
  induction fuel with
  | zero =>
    intro listed a w hs hl hi
    have hr := none_left (md := md) hs (Nat.le_zero.1 hl)
    exact ⟨hr, done listed a w (all_done hA hs hr) hi⟩
  | succ fuel ih =>
    intro listed a w hs hl hi
    refine ⟨fun hr => done listed a w (all_done hA hs hr) hi, fun i hm => ?_⟩
    obtain ⟨h0, o, ho, haft⟩ := mem_ready.1 hm
    refine wpOpIn_mono (fun a' w' hi' => ih _ a' w' (by rw [Array.size_setIfInBounds]; exact hs) ?_ hi') (step i o ho listed a w hs h0 haft hi)
    have := left_set h0
    omega
theorem regionIn_ {Inv : Array Bool → Act → World → Prop} {id : Nat} {a : Act} {w : World} (hm : P.follows .mixedOrders = true) (hA : Ahead ops) (h0 : Inv (Array.replicate ops.size false) a w.drew)
    (step : ∀ (i : Nat) (o : Oper), ops[i]? = some o → ∀ listed a w, listed.size = ops.size → listed.getD i true = false → (∀ e ∈ o.after, Region.binds .any e = true → listed.getD e.on false = true) → Inv listed a w → wpOpIn F n P ops Q i (fun a' w' => Inv (listed.setIfInBounds i true) a' w') a w)
    (done : ∀ listed a w, (∀ j, j < ops.size → listed.getD j false = true) → Inv listed a w → Q .normal a w) : (Code.region id ops true).wpIn F n P Q a w :=
  wpIn_region_any hm (invIn_any hA step done _ _ _ _ (by simp) (by unfold left; simp) h0)
/-- an operation that nothing guards -/
theorem opIn_ {i : Nat} {o : Oper} {K : Act → World → Prop} {a : Act} {w : World} (ho : ops[i]? = some o) (hg : o.guard = none) (h : o.wpIn F n P a w K Q) : wpOpIn F n P ops Q i K a w := by
  unfold wpOpIn
  rw [ho]
  have hw : Region.wanted o (yielded ops a.tmps) = true := by unfold Region.wanted; rw [hg]
  simp only [hw, if_true]
  exact h
/-- one that runs to a value in the world as it may then be -/
theorem opIn_val {i : Nat} {o : Oper} {K : Act → World → Prop} {a : Act} {w w' : World} {v : Value} (ho : ops[i]? = some o) (hg : o.guard = none) (hab : o.about P w a.eval = none) (hd : ∀ c, o.op ≠ .defer c) (hr : (execOp a.eval o).run P w = .ok (.value v) w') (h : K (a.put o.dst v) w') : wpOpIn F n P ops Q i K a w := by
  refine opIn_ ho hg ?_
  unfold Oper.wpIn
  refine ⟨(fun f hf => by rw [hab] at hf; cases hf), ?_⟩
  rw [Oper.semAt_plain F _ _ hd, hr]
  exact h
end RsN
end Go.Proofs.YtlmblfkcmhgdaaaGreat
namespace Go.Proofs.YtlmblfkcmhgdaaaGreat
open Go.RowKit Go.Maps Go.WideMaps
set_option linter.unusedVariables false
set_option linter.unusedSimpArgs false
namespace RsS
open OO OJ RsM RsI RsP RsD OCk
theorem ret_int {k : IntKind} {a b : Int} (h : a = b) : Ending.returned (.int k a) = .returned (.int k b) := by rw [h]
theorem ret_bool {a b : Bool} (h : a = b) : Ending.returned (.bool a) = .returned (.bool b) := by rw [h]
set_option maxRecDepth 100000 in
set_option maxHeartbeats 4000000 in
theorem isNone_ {w : World} {n₀ : Nat} {v0 v1 v2 v3 : Value} {o : ObjV} (hn : n₀ ≤ w.heap.size) (ho : ObjAt n₀ w v0 v1 v2 v3 o) (hw : o.Wf) (hm : o.ws.length ≤ maxLen ∧ o.ds.length ≤ maxLen ∧ o.ss.length ≤ maxLen ∧ o.rs.length ≤ maxLen) :
    Calls Tryz.prog 96 #[.agg #[v0, v1, v2, v3]] w fun e w' => e = .returned (.bool (!chk o)) ∧ Below w.heap.size w w' := by
  have hB : Below w.heap.size w (w.alloc (.cells #[v0, v1, v2, v3] OCh.TO)) := (Below.refl _ _).alloc (Nat.le_refl _) _
  have c := OCh.Check_ (w := w.alloc (.cells #[v0, v1, v2, v3] OCh.TO)) (n₀ := n₀) (by simp; omega) (ho.below (hB.mono hn)) hw hm
  obtain ⟨p0, q0, rfl, -⟩ := ho.ws
  obtain ⟨p1, q1, rfl, -⟩ := ho.ds
  obtain ⟨p2, q2, rfl, -⟩ := ho.ss
  obtain ⟨p3, q3, rfl, -⟩ := ho.rs
  have HB := Lib.hid hB
  clear ho hw hm hB
  generalize chk o = b at *
  cases b
  all_goals
    simp only [OCh.ckI, if_true, Bool.false_eq_true, if_false] at c
    go_enter Tryz.func96, Tryz.ntmps96
    go_wp2_with (go_at_call 117; (with_reducible refine c.mono ?_); rintro e w1 ⟨rfl, hb⟩; have H1 := Lib.hid hb; clear hb)
    go_ret
    exact ⟨rfl, HB.out.trans (H1.out.mono (by simp))⟩
/-- the first that is no object, from k on -/
def noneFrom (objs : List ObjV) (k : Nat) : Int := match (objs.drop k).findIdx? (fun o => !chk o) with
  | none => -1
  | some i => ((k + i : Nat) : Int)
theorem noneFrom_end (objs : List ObjV) : noneFrom objs objs.length = -1 := by unfold noneFrom; simp
theorem noneFrom_yes {objs : List ObjV} {k : Nat} (h : k < objs.length) (hc : chk objs[k] = false) : noneFrom objs k = (k : Int) := by
  unfold noneFrom
  rw [List.drop_eq_getElem_cons h, List.findIdx?_cons, hc]
  simp
theorem noneFrom_no {objs : List ObjV} {k : Nat} (h : k < objs.length) (hc : chk objs[k] = true) : noneFrom objs k = noneFrom objs (k + 1) := by
  unfold noneFrom
  rw [List.drop_eq_getElem_cons h, List.findIdx?_cons, hc]
  simp only [Bool.not_true, Bool.false_eq_true, if_false]
  cases hf : (objs.drop (k + 1)).findIdx? (fun o => !chk o) with
  | none => rfl
  | some i => simp; omega
set_option maxRecDepth 100000 in
set_option maxHeartbeats 4000000 in
theorem index_ {w : World} {n₀ : Nat} {v : Value} {objs : List ObjV} (hn : n₀ ≤ w.heap.size) (ho : ObjsAt n₀ w v objs) (hw : ∀ o ∈ objs, o.Wf) (hm : objs.length ≤ maxLen) :
    Calls Tryz.prog 95 #[v, .func (.func 96) #[] #[]] w fun e w' => e = .returned (.int .i64 (noneFrom objs 0)) ∧ Below w.heap.size w w' := by
  obtain ⟨p, c, rfl, hsl⟩ := ho
  have HO := Lib.hid hsl
  have HW := Lib.hid hw
  unfold maxLen at hm
  clear hsl hw
  go_enter Tryz.func95, Tryz.ntmps95
  go_wp2
  go_loopw [8] (fun i wr => ∃ k : Nat, k ≤ objs.length ∧ i = .int .i64 k ∧ Hid (noneFrom objs 0 = noneFrom objs k) ∧ Below w.heap.size w wr) (fun i _ => objs.length - (intOf i).toNat)
  case atStart => exact ⟨0, Nat.zero_le _, rfl, Lib.hid rfl, Below.refl _ _⟩
  case round =>
    obtain ⟨k, hk, rfl, hq, hbl⟩ := hrel
    have HB := Lib.hid hbl
    by_cases hlt : k < objs.length
    · obtain ⟨b, o, rfl, hb, -, -, hall⟩ := HO.out (by omega)
      obtain ⟨v0, v1, v2, v3, k0, k1, k2, k3, hoa⟩ := (hall k _ (List.getElem?_eq_getElem hlt)).same (Same.of hbl hn) hb
      have cn := isNone_ (w := wr) (Nat.le_trans hn hbl.size) hoa (HW.out _ (List.getElem_mem hlt)) (OB.lens hoa)
      have hy := Lib.hid (fun h => noneFrom_yes hlt h)
      have hx := Lib.hid (fun h => noneFrom_no hlt h)
      obtain ⟨p0, q0, rfl, -⟩ := hoa.ws
      obtain ⟨p1, q1, rfl, -⟩ := hoa.ds
      obtain ⟨p2, q2, rfl, -⟩ := hoa.ss
      obtain ⟨p3, q3, rfl, -⟩ := hoa.rs
      clear hall hbl
      generalize chk objs[k] = cb at *
      clear hoa
      cases cb
      · go_wp2_with (go_at_call 96; (with_reducible refine cn.mono ?_); rintro e w1 ⟨rfl, hb1⟩; have H1 := Lib.hid hb1; clear hb1)
        go_ret
        exact ⟨ret_int (by rw [hq.out]; first | exact (hy.out rfl).symm | exact (hy.out trivial).symm), HB.out.trans (H1.out.mono HB.out.size)⟩
      · go_wp2_with (go_at_call 96; (with_reducible refine cn.mono ?_); rintro e w1 ⟨rfl, hb1⟩; have H1 := Lib.hid hb1; clear hb1)
        go_roundw
        case rel => exact ⟨k + 1, by omega, by go_num, Lib.hid (hq.out.trans (by first | exact hx.out rfl | exact hx.out trivial)), HB.out.trans (H1.out.mono HB.out.size)⟩
        case measure => simp [intOf]; omega
    · obtain rfl : k = objs.length := by omega
      go_wp2
      go_ret
      exact ⟨ret_int (by rw [hq.out, noneFrom_end]), HB.out⟩
theorem look_t {w : World} {ops : Array Oper} {rest : List Oper} {o : Oper} {a : Act} {Q : Exit → Act → World → Prop} (hg : o.guard = none) (m x : Operand) (hop : o.op = Op.lookup TM m x true) (b n : Nat) (D : DataW Unit)
    (hm : a.eval m = .map (some b)) (hown : w.ownsMap Tryz.prog 9 tgtR b n D) (k : ByteArray) (hk : k.size ≤ maxLen) (hx : a.eval x = .string k)
    (hK : ∀ i j : Int, D.atKey (nkey k) (tgtD 0 0) = tgtD i j → wpList Tryz.prog ops Q rest (a.put o.dst (.tuple #[.agg #[.int .i64 i, .int .i64 j], .bool (Maps.has D (nkey k))])) w) :
    wpList Tryz.prog ops Q (o :: rest) a w :=
  wpList_lookup_own_ok w hg m x TM hop 9 TT lawS Tryz.underlying172 tgtR (zeroT w) (tgtD 0 0) [] (tgtR_mk 0 0) b n D hm hown (.string k) (nkey k) hx (keyOf_string_mk Tryz.underlying9 hk) (fun v ps hv => by
    obtain ⟨i, j, rfl, e⟩ := tgtR_inv hv
    exact hK i j (congrArg Prod.fst e))
/-- what a symbol means -/
def tgI (L : List Ent) (x : Ent) : Int × Int × Bool := if x.s.sect = 0 then (match RsP.look L x.s.name with | some y => ((y.i : Int), (y.k : Int), true) | none => (0, 0, false)) else ((x.i : Int), (x.k : Int), true)
set_option maxRecDepth 100000 in
set_option maxHeartbeats 4000000 in
theorem target_ {w : World} {M n : Nat} {L : List Ent} (x : Ent) (hM : w.ownsMap Tryz.prog 9 tgtR M n (namesD L)) (hk : x.s.name.size ≤ maxLen) :
    Calls Tryz.prog 98 #[.map (some M), entA x, symA x.s] w fun e w' => e = .returned (.tuple #[.agg #[.int .i64 (tgI L x).1, .int .i64 (tgI L x).2.1], .bool (tgI L x).2.2]) ∧ Below w.heap.size w w' := by
  have HM := Lib.hid hM
  obtain ⟨r, hr0⟩ : ∃ r, r = tgI L x := ⟨_, rfl⟩
  rw [← hr0]
  unfold tgI at hr0
  have HT := Lib.hid hr0
  clear hr0
  by_cases hs : x.s.sect = 0
  · have hr := (HT.out).trans (if_pos hs)
    have hs0 : (x.s.sect != 0) = false := by simpa using hs
    have HR := Lib.hid (show ∀ ti tj : Int, (namesD L).atKey (nkey x.s.name) (tgtD 0 0) = tgtD ti tj → Ending.returned (.tuple #[.agg #[.int .i64 ti, .int .i64 tj], .bool (Maps.has (namesD L) (nkey x.s.name))]) = .returned (.tuple #[.agg #[.int .i64 r.1, .int .i64 r.2.1], .bool r.2.2]) from fun ti tj h => by
      obtain ⟨e1, e2⟩ := names_look L x.s.name
      rw [e2] at h
      rw [e1, hr]
      cases hl : RsP.look L x.s.name with
      | none =>
        rw [hl] at h
        obtain ⟨rfl, rfl⟩ := tgtD_inj h
        rfl
      | some y =>
        rw [hl] at h
        obtain ⟨rfl, rfl⟩ := tgtD_inj h
        rfl)
    clear hM HT hs hr
    go_enter Tryz.func98, Tryz.ntmps98
    go_wp2_with (at_lookup; refine look_t rfl _ _ rfl M _ _ rfl (((HM.out.alloc _).alloc _).alloc _) x.s.name hk rfl ?_; intro ti tj hti; have HTI := Lib.hid (HR.out ti tj hti); clear hti)
    refine bodyPost_ret (v := .tuple #[.agg #[.int .i64 ti, .int .i64 tj], .bool (Maps.has (namesD L) (nkey x.s.name))]) (by simp [results, Tryz.results98, go_sem]) rfl ⟨HTI.out, ?_⟩
    exact ((((Below.refl _ _).alloc (Nat.le_refl _) _).alloc (by simp only [World.size_alloc]; omega) _).alloc (by simp only [World.size_alloc]; omega) _).alloc (by simp only [World.size_alloc]; omega) _
  · have hr := (HT.out).trans (if_neg hs)
    have hs0 : (x.s.sect != 0) = true := by simpa using hs
    have HR := Lib.hid (show Ending.returned (.tuple #[.agg #[.int .i64 (x.i : Int), .int .i64 (x.k : Int)], .bool true]) = .returned (.tuple #[.agg #[.int .i64 r.1, .int .i64 r.2.1], .bool r.2.2]) by rw [hr])
    clear hM HT hs hr
    go_enter Tryz.func98, Tryz.ntmps98
    go_wp2
    refine bodyPost_ret (v := .tuple #[.agg #[.int .i64 (x.i : Int), .int .i64 (x.k : Int)], .bool true]) (by simp [results, Tryz.results98, go_sem]) rfl ⟨HR.out, ?_⟩
    exact (((Below.refl _ _).alloc (Nat.le_refl _) _).alloc (by simp only [World.size_alloc]; omega) _).alloc (by simp only [World.size_alloc]; omega) _
end RsS
end Go.Proofs.YtlmblfkcmhgdaaaGreat
namespace Go.Proofs.YtlmblfkcmhgdaaaGreat
open Go.RowKit Go.Maps Go.WideMaps
set_option linter.unusedVariables false
set_option linter.unusedSimpArgs false
namespace RsT
open OO OJ RsM RsI RsP RsD RsS OCk
abbrev TR : TypeId := 77
abbrev TE : TypeId := 34
def pairCells (l : List (Int × Int)) : List Value := l.flatMap fun t => [Value.int .i64 t.1, .int .i64 t.2]
theorem pairCells_snoc (l : List (Int × Int)) (t : Int × Int) : pairCells (l ++ [t]) = pairCells l ++ [.int .i64 t.1, .int .i64 t.2] := by
  unfold pairCells; rw [List.flatMap_append]; rfl
/-- the target, where there is one -/
def tgs (F : List Ent) (x : Ent) : Int × Int := ((tgI F x).1, (tgI F x).2.1)
def bad (F : List Ent) (x : Ent) : Bool := !(tgI F x).2.2
/-- an object's targets so far -/
def rowAt (F l : List Ent) (i : Nat) : List (Int × Int) := (l.filter fun x => decide (x.i = i)).map (tgs F)
theorem rowAt_snoc (F l : List Ent) (x : Ent) (i : Nat) : rowAt F (l ++ [x]) i = if i = x.i then rowAt F l i ++ [tgs F x] else rowAt F l i := by
  unfold rowAt
  rw [List.filter_append, List.map_append]
  by_cases h : i = x.i
  · subst h; simp
  · rw [if_neg h, List.filter_cons, if_neg (by simpa using fun e => h e.symm)]; simp
theorem rowAt_le (F l : List Ent) (i : Nat) : (rowAt F l i).length ≤ l.length := by
  unfold rowAt
  rw [List.length_map]
  exact List.length_filter_le _ _
/-- the rows -/
structure TRows (O base n : Nat) (f : Nat → List (Int × Int)) (vs : List Value) (W : World) : Prop where
  len : vs.length = n
  out : W.ownsRow O 150 1 (.slice (some ⟨O, 0, none⟩) n n) n vs
  row : ∀ (i : Nat) (v : Value), vs[i]? = some v → W.ownsRow (base) TT 2 v (f i).length (pairCells (f i))
  apart : ∀ (i j : Nat) (u v : Value), i ≠ j → vs[i]? = some u → vs[j]? = some v → u.ownBlock = none ∨ u.ownBlock ≠ v.ownBlock
theorem TRows.kept {O base n : Nat} {f : Nat → List (Int × Int)} {vs : List Value} {W W' : World} {row : Option Nat} (h : TRows O base n f vs W) (hg : W.grownBy W' row) (h1 : some O ≠ row) (h2 : ∀ (i : Nat) (v : Value), vs[i]? = some v → v.ownBlock = none ∨ v.ownBlock ≠ row) : TRows O base n f vs W' :=
  ⟨h.len, h.out.kept hg (.inr (by simpa [Value.ownBlock] using h1)), fun i v hv => (h.row i v hv).kept hg (h2 i v hv), h.apart⟩
theorem TRows.below {O base n : Nat} {f : Nat → List (Int × Int)} {vs : List Value} {W W' : World} (h : TRows O base n f vs W) (hb : Below W.heap.size W W') : TRows O base n f vs W' :=
  h.kept (row := none) ⟨hb.os, hb.tape, hb.output, hb.size, fun i hi _ => hb.block i hi⟩ (by simp) (fun i v hv => by cases e : v.ownBlock <;> simp)
theorem TRows.drew {O base n : Nat} {f : Nat → List (Int × Int)} {vs : List Value} {W : World} (h : TRows O base n f vs W) : TRows O base n f vs W.drew := ⟨h.len, h.out, h.row, h.apart⟩
/-- what an append to the row i, and a store of it, leave -/
structure App (base : Nat) (W1 : World) (v : Value) (m : Nat) (xs : List Value) (t : Int × Int) (v' : Value) (w' : World) : Prop where
  own : w'.ownsRow (base) TT 2 v' (m + 1) (xs ++ [.int .i64 t.1, .int .i64 t.2])
  grown : W1.grownBy w' v.ownBlock
  at_ : v'.ownBlock = v.ownBlock ∨ v'.ownBlock = some W1.heap.size
theorem TRows.app {O base n : Nat} {f : Nat → List (Int × Int)} {vs : List Value} {W1 w' : World} {i : Nat} {v v' : Value} {t : Int × Int} (h : TRows O base n f vs W1) (hv : vs[i]? = some v) (hz : base ≤ W1.heap.size) (hO : O < base)
    (hA : App base W1 v (f i).length (pairCells (f i)) t v' w') : TRows O base n (fun j => if j = i then f i ++ [t] else f j) (vs.set i v') (w'.setCell ⟨O, i, none⟩ v') := by
  have hi : i < vs.length := (List.getElem?_eq_some_iff.1 hv).1
  have hlow : ∀ k, v.ownBlock = some k → base ≤ k := fun k hk => ((h.row i v hv).lt k hk).1
  have o1 := h.out.kept hA.grown (.inr (fun e => by have h4 : base ≤ O := hlow _ e.symm; omega))
  obtain ⟨o2, g2⟩ := o1.stored i v'
  have keep : ∀ {u : Value} {m : Nat} {xs : List Value}, w'.ownsRow (base) TT 2 u m xs → (w'.setCell ⟨O, i, none⟩ v').ownsRow (base) TT 2 u m xs := fun {u m xs} hu => hu.kept g2 (by
    cases e : u.ownBlock with
    | none => exact .inl rfl
    | some k => exact .inr (fun e2 => by have := (hu.lt k e).1; simp at e2; omega))
  refine ⟨by rw [List.length_set]; exact h.len, o2, fun j u hu => ?_, fun j k u u' hjk hu hu' => ?_⟩
  · by_cases e : j = i
    · subst e
      rw [List.getElem?_set_self hi] at hu
      cases hu
      simp only [if_true]
      rw [pairCells_snoc, List.length_append]
      exact keep hA.own
    · rw [List.getElem?_set_ne (fun h => e h.symm)] at hu
      simp only [if_neg e]
      exact keep ((h.row j u hu).kept hA.grown (h.apart j i u v e hu hv))
  · have new : ∀ (j : Nat) (u : Value), j ≠ i → vs[j]? = some u → (u.ownBlock = none ∨ u.ownBlock ≠ v'.ownBlock) ∧ (v'.ownBlock = none ∨ v'.ownBlock ≠ u.ownBlock) := fun j u hji hu => by
      have a1 := h.apart j i u v hji hu hv
      have a2 := h.apart i j v u (fun e => hji e.symm) hv hu
      have lt := (h.row j u hu).lt
      rcases hA.at_ with e | e
      · rw [e]; exact ⟨a1, a2⟩
      · rw [e]
        cases hub : u.ownBlock with
        | none => exact ⟨.inl rfl, .inr (by simp)⟩
        | some g =>
          have := (lt g hub).2
          exact ⟨.inr (fun e2 => by simp at e2; omega), .inr (fun e2 => by simp at e2; omega)⟩
    by_cases ej : j = i
    · subst ej
      rw [List.getElem?_set_self hi] at hu
      cases hu
      rw [List.getElem?_set_ne hjk] at hu'
      exact (new k u' (fun e => hjk e.symm) hu').2
    · rw [List.getElem?_set_ne (fun h => ej h.symm)] at hu
      by_cases ek : k = i
      · subst ek
        rw [List.getElem?_set_self hi] at hu'
        cases hu'
        exact (new j u ej hu).1
      · rw [List.getElem?_set_ne (fun h => ek h.symm)] at hu'
        exact h.apart j k u u' hjk hu hu'
end RsT
end Go.Proofs.YtlmblfkcmhgdaaaGreat
namespace Go.Proofs.YtlmblfkcmhgdaaaGreat
open Go.RowKit Go.Maps Go.WideMaps
set_option linter.unusedVariables false
set_option linter.unusedSimpArgs false
namespace RsF
open OO OJ RsM RsI RsP RsD RsS OCk
def fewO (objs : List ObjV) : Bool := decide (objs.length ≤ 12) && objs.all OE.few
theorem all_step (l : List ObjV) (k : Nat) (h : k < l.length) : (l.drop k).all OE.few = (OE.few l[k] && (l.drop (k + 1)).all OE.few) := by
  rw [List.drop_eq_getElem_cons h]; rfl
theorem fewO_lim {objs : List ObjV} (h : fewO objs = true) : objs.length ≤ 12 ∧ ∀ o ∈ objs, OE.few o = true := by
  unfold fewO at h
  simp only [Bool.and_eq_true, decide_eq_true_eq, List.all_eq_true] at h
  exact h
set_option maxRecDepth 100000 in
set_option maxHeartbeats 4000000 in
theorem fewO_ {w : World} {n₀ : Nat} {v : Value} {objs : List ObjV} (hn : n₀ ≤ w.heap.size) (ho : ObjsAt n₀ w v objs) (hw : ∀ o ∈ objs, o.Wf) (hm : objs.length ≤ maxLen) :
    Calls Tryz.prog 11 #[v] w fun e w' => e = .returned (.bool (fewO objs)) ∧ Below w.heap.size w w' := by
  obtain ⟨p, c, rfl, hsl⟩ := ho
  have HO := Lib.hid hsl
  have HW := Lib.hid hw
  unfold maxLen at hm
  clear hsl hw
  by_cases hb : 12 < objs.length
  · rw [show fewO objs = false by unfold fewO; rw [decide_eq_false (by omega)]; rfl]
    clear HO HW
    go_enter Tryz.func11, Tryz.ntmps11
    go_wp2
    go_ret
    exact ⟨rfl, Below.refl _ _⟩
  · rw [show fewO objs = objs.all OE.few by unfold fewO; rw [decide_eq_true (by omega)]; rfl]
    go_enter Tryz.func11, Tryz.ntmps11
    go_wp2
    go_loopw [10] (fun i wr => ∃ k : Nat, k ≤ objs.length ∧ i = .int .i64 k ∧ Hid (objs.all OE.few = (objs.drop k).all OE.few) ∧ Below w.heap.size w wr) (fun i _ => objs.length - (intOf i).toNat)
    case atStart => exact ⟨0, Nat.zero_le _, rfl, Lib.hid (by rw [List.drop_zero]), Below.refl _ _⟩
    case round =>
      obtain ⟨k, hk, rfl, HQ, hbl⟩ := hrel
      have HB := Lib.hid hbl
      by_cases hlt : k < objs.length
      · obtain ⟨b, o, rfl, hb', -, -, hall⟩ := HO.out (by omega)
        obtain ⟨v0, v1, v2, v3, k0, k1, k2, k3, hoa⟩ := (hall k _ (List.getElem?_eq_getElem hlt)).same (Same.of hbl hn) hb'
        have HS := Lib.hid (all_step objs k hlt)
        have hwf := HW.out _ (List.getElem_mem hlt)
        have hA : Below wr.heap.size wr (wr.alloc (.cells #[v0, v1, v2, v3] 30)) := (Below.refl _ _).alloc (Nat.le_refl _) _
        have cn := OE.few_ (w := wr.alloc (.cells #[v0, v1, v2, v3] 30)) (n₀ := n₀) (by simp only [World.size_alloc]; have := hbl.size; omega) (hoa.below (hA.mono (Nat.le_trans hn hbl.size))) (fun s hs => (hwf.ss s hs).name) (OB.lens hoa)
        obtain ⟨p0, q0, rfl, -⟩ := hoa.ws
        obtain ⟨p1, q1, rfl, -⟩ := hoa.ds
        obtain ⟨p2, q2, rfl, -⟩ := hoa.ss
        obtain ⟨p3, q3, rfl, -⟩ := hoa.rs
        clear hall hbl hwf hA
        generalize OE.few objs[k] = cb at *
        clear hoa
        cases cb
        · go_wp2_with (go_at_call 23; (with_reducible refine cn.mono ?_); rintro e w1 ⟨rfl, hb1⟩; have H1 := Lib.hid hb1; clear hb1)
          go_ret
          exact ⟨ret_bool (by rw [HQ.out, HS.out]; rfl), (HB.out.alloc HB.out.size _).trans (H1.out.mono (by simp only [World.size_alloc]; have := HB.out.size; omega))⟩
        · go_wp2_with (go_at_call 23; (with_reducible refine cn.mono ?_); rintro e w1 ⟨rfl, hb1⟩; have H1 := Lib.hid hb1; clear hb1)
          exact ⟨⟨k + 1, by omega, by go_num, Lib.hid (by rw [HQ.out, HS.out]; rfl), (HB.out.alloc HB.out.size _).trans (H1.out.mono (by simp only [World.size_alloc]; have := HB.out.size; omega))⟩, by simp [intOf]; omega⟩
      · obtain rfl : k = objs.length := by omega
        go_wp2
        go_ret
        exact ⟨ret_bool (by rw [HQ.out, List.drop_length]; rfl), HB.out⟩
end RsF
end Go.Proofs.YtlmblfkcmhgdaaaGreat
namespace Go.Proofs.YtlmblfkcmhgdaaaGreat
open Go.RowKit Go.ChangeShapes Go.WideShapes Go.ChangeAt Go.Deep Go.Joins
set_option linter.unusedVariables false
set_option linter.unusedSimpArgs false
namespace RsO
open OO OJ OB RsM
theorem list4 {α : Type} (l : List α) (h : l.length = 4) : ∃ a b c d, l = [a, b, c, d] := by
  match l, h with
  | [a, b, c, d], _ => exact ⟨a, b, c, d, rfl⟩
section
variable {H : Type} {enc : TypeId × Value → H}
set_option maxRecDepth 100000 in
theorem el_open {W : World} {n : Nat} {cs : List Value} {x : DataW H × List MemPlace} (h : DataW.trod enc Tryz.prog W 0 (fun _ => true) true n 30 cs = some x) :
    ∃ (v0 v1 v2 v3 : Value) (o : ObjV), cs = [v0, v1, v2, v3] ∧ ObjAt W.heap.size W v0 v1 v2 v3 o ∧ o.Wf := by
  obtain ⟨ys, n', hn', hx, hl, hyl, hf⟩ := DataW.trod_struct Tryz.underlying30 h
  rw [show Tryz.prog.cellsOf 30 = 4 by kernel_rfl] at hl
  obtain ⟨c0, c1, c2, c3, rfl⟩ := list4 cs hl
  obtain ⟨y0, y1, y2, y3, rfl⟩ := list4 ys hyl
  have g0 : DataW.trod enc Tryz.prog W 0 (fun _ => true) true n' 25 [c0] = some y0 := by simpa [show Tryz.prog.cellsOf 25 = 1 by kernel_rfl] using hf 0 _ rfl
  have g1 : DataW.trod enc Tryz.prog W 0 (fun _ => true) true n' 26 [c1] = some y1 := by simpa [show Tryz.prog.cellsOf 26 = 1 by kernel_rfl] using hf 1 _ rfl
  have g2 : DataW.trod enc Tryz.prog W 0 (fun _ => true) true n' 27 [c2] = some y2 := by simpa [show Tryz.prog.cellsOf 27 = 1 by kernel_rfl] using hf 2 _ rfl
  have g3 : DataW.trod enc Tryz.prog W 0 (fun _ => true) true n' 28 [c3] = some y3 := by simpa [show Tryz.prog.cellsOf 28 = 1 by kernel_rfl] using hf 3 _ rfl
  obtain ⟨ws, a0, b0⟩ := words_open g0
  obtain ⟨ds, a1, b1⟩ := bytes_open g1
  obtain ⟨ss, a2, b2⟩ := syms_open g2
  obtain ⟨rs, a3, b3⟩ := rels_open g3
  exact ⟨c0, c1, c2, c3, ⟨ws, ds, ss, rs⟩, rfl, ⟨a0, a1, a2, a3⟩, ⟨fun x hx => bounds_u32 (b0 x hx), fun x hx => bounds_u8 (b1 x hx), b2, b3⟩⟩
def noObj : ObjV := ⟨[], [], [], []⟩
theorem objs_open {W : World} {c : Value} {x : DataW H × List MemPlace} {fuel : Nat} (hf : DataW.trod enc Tryz.prog W 0 (fun _ => true) true fuel 22 [c] = some x) :
    ∃ objs : List ObjV, ObjsAt W.heap.size W c objs ∧ ∀ o ∈ objs, o.Wf := by
  rcases open_slice Tryz.underlying22 hf with ⟨hc, -⟩ | ⟨a, len, cap, m, n, D, Pl, hc, -, hl, hm, hmm, -, hi⟩
  · simp only [List.cons.injEq, and_true] at hc
    subst hc
    exact ⟨[], ⟨none, 0, rfl, fun h => absurd h (by simp)⟩, by simp⟩
  · simp only [List.cons.injEq, and_true] at hc
    subst hc
    simp only [if_true] at hmm
    subst hmm
    have key : ∀ i, ∃ s : ObjV × Value × Value × Value × Value, i < m → (∀ j v, [s.2.1, s.2.2.1, s.2.2.2.1, s.2.2.2.2][j]? = some v → W.cell? ((a.add (i * 4)).add j) = some v) ∧ ObjAt W.heap.size W s.2.1 s.2.2.1 s.2.2.2.1 s.2.2.2.2 s.1 ∧ s.1.Wf := fun i => by
      by_cases h : i < m
      · obtain ⟨cs', h1, h2⟩ := hi i h
        rw [show Tryz.prog.cellsOf 30 = 4 by kernel_rfl] at h1
        obtain ⟨v0, v1, v2, v3, o, rfl, hat, hw⟩ := el_open h2
        obtain ⟨-, -, h3⟩ := World.cells?_some h1
        refine ⟨⟨o, v0, v1, v2, v3⟩, fun _ => ⟨fun j v hj => ?_, hat, hw⟩⟩
        have hj5 : j < 4 := (List.getElem?_eq_some_iff.1 hj).1
        exact (h3 j hj5).trans hj
      · exact ⟨⟨noObj, undef, undef, undef, undef⟩, fun h' => absurd h' h⟩
    obtain ⟨f, hF⟩ := Classical.axiomOfChoice key
    refine ⟨(List.range len).map fun i => (f i).1, ⟨some a, m, by simp, fun h0 => ?_⟩, fun s hs => ?_⟩
    · rw [List.length_map, List.length_range] at h0
      have hc0 := (hF 0 (by omega)).1 0 _ rfl
      obtain ⟨b, o, spot⟩ := a
      have hspot : spot = none := by simpa [Addr.add] using World.cell?_spot hc0
      subst hspot
      have hlt : b < W.heap.size := cell_lt (p := (⟨b, o, none⟩ : Addr).add (0 * 4) |>.add 0) hc0
      refine ⟨b, o, rfl, hlt, by simpa using hl, hm, fun j s hj => ?_⟩
      rw [List.getElem?_map] at hj
      have hj' : j < len := by
        by_cases h : j < len
        · exact h
        · rw [List.getElem?_eq_none (by simpa using h)] at hj; cases hj
      rw [List.getElem?_range hj'] at hj
      simp only [Option.map_some, Option.some.injEq] at hj
      subst hj
      obtain ⟨hall, hat, -⟩ := hF j (by omega)
      exact ⟨_, _, _, _, (congrArg _ (add_at b o (j * 4) 0)).symm.trans (hall 0 _ rfl), (congrArg _ (add_at b o (j * 4) 1)).symm.trans (hall 1 _ rfl), (congrArg _ (add_at b o (j * 4) 2)).symm.trans (hall 2 _ rfl), (congrArg _ (add_at b o (j * 4) 3)).symm.trans (hall 3 _ rfl), hat⟩
    · obtain ⟨i, hi', rfl⟩ := List.mem_map.1 hs
      exact (hF i (by have := List.mem_range.1 hi'; omega)).2.2
set_option maxRecDepth 100000 in
theorem open_objs {W : World} {base : Nat} {v : Value} {d : DataW H} {p : List MemPlace} (hval : Value.okWide Tryz.prog W .any base 22 v) (h : DataW.Trod enc Tryz.prog W 0 (fun _ => true) true 22 v d p) :
    ∃ objs : List ObjV, ObjsAt W.heap.size W v objs ∧ ∀ o ∈ objs, o.Wf := by
  obtain ⟨a1, len, cap, rfl⟩ := okWide_slice Tryz.underlying22 hval
  obtain ⟨n, hn⟩ := h
  exact objs_open (show DataW.trod enc Tryz.prog W 0 (fun _ => true) true n 22 [.slice a1 len cap] = some (d, p) from hn)
end
end RsO
end Go.Proofs.YtlmblfkcmhgdaaaGreat
