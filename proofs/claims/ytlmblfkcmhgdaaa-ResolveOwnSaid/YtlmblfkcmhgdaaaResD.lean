/-
  The names that are defined, and what defines one again: a contract. Condition: the objects lie in memory, and have not too many symbols.
-/
import Derived.Test.YtlmblfkcmhgdaaaResI
import Derived.Test.YtlmblfkcmhgdaaaResP
import Derived.Test.YtlmblfkcmhgdaaaResR
import Derived.Test.YtlmblfkcmhgdaaaObjF
import Derived.Maps.OwnIn
import Derived.Maps.OwnSet
namespace Go.Proofs.Ytlmblfkcmhgdaaa
open Go.RowKit Go.Maps Go.WideMaps
set_option linter.unusedVariables false
set_option linter.unusedSimpArgs false
namespace RsD
open OO OJ RsM RsI RsP RsR OCk
attribute [local go_sem] Oper.semAt_some
abbrev TM : TypeId := 46
abbrev TT : TypeId := 37
abbrev TS : TypeId := 41
theorem lawS : Keyed Try.prog 9 := string_keyed Try.underlying9
theorem zeroT (w : World) : (zeroValue TT).run Try.prog w = .ok (tgtV 0 0) w := by kernel_rfl
theorem infoT : (Try.prog.info? TT).map (fun i => (i.zero, i.size, i.bytes)) = some (some (tgtV 0 0), 2, 16) := by kernel_rfl
abbrev ent {objs : List ObjV} (x : Fin (flat objs).length) : Ent := (flat objs)[x.1]
/-- what the loop has done -/
structure DI (w : World) (l : List Ent) (W : World) : Prop where
  names : W.heap[w.heap.size]? = some (.cells #[.map (some (w.heap.size + 2))] TM (0, 0))
  ag : ∃ v, W.heap[w.heap.size + 1]? = some (.cells #[v] TS (0, 0)) ∧ W.ownsRow (w.heap.size + 4) TT 2 v (againL l).length (entCells (againL l))
  map : W.ownsMap Try.prog 9 tgtR (w.heap.size + 2) l.length (namesD l)
  bel : Below w.heap.size w W
  z : w.heap.size + 4 ≤ W.heap.size
theorem row_block {w : World} {base : Nat} {e : TypeId} {size : Nat} {v : Value} {n : Nat} {xs : List Value} (h : w.ownsRow base e size v n xs) (k : Nat) (hk : v.ownBlock = some k) : ∃ c, w.heap[k]? = some (.cells c e (0, 0)) ∧ base ≤ k := by
  rcases h.2 with ⟨rfl, _⟩ | ⟨g, cap, cur, rfl, hb, hg, _⟩
  · simp [Value.ownBlock] at hk
  · simp [Value.ownBlock] at hk
    subst hk
    exact ⟨_, hg, hb⟩
theorem row_kept {w w' : World} {row : Option Nat} {base : Nat} {e : TypeId} {size : Nat} {v : Value} {n : Nat} {xs : List Value} (h : w.ownsRow base e size v n xs) (hg : w.grownBy w' row) (hr : ∀ r, row = some r → ∃ o : Obj, w.heap[r]? = some o ∧ o.isCells = false) : w'.ownsRow base e size v n xs := by
  refine h.kept hg ?_
  cases hv : v.ownBlock with
  | none => exact .inl rfl
  | some g =>
    refine .inr fun e => ?_
    obtain ⟨c, hc, -⟩ := row_block h g hv
    obtain ⟨o, ho, hn⟩ := hr g e.symm
    rw [hc] at ho
    cases ho
    cases hn
theorem DI.own {w : World} : OwnFrom (w.heap.size + 4) (DI w) := by
  intro l W W' row h hg hr
  have low : ∀ k, k < w.heap.size + 4 → k < W.heap.size → W'.heap[k]? = W.heap[k]? := fun k h1 h2 => hg.block k h2 (fun e => by have := (hr k e.symm).1; omega)
  have hz := h.z
  obtain ⟨v, h1, h2⟩ := h.ag
  refine ⟨(low _ (by omega) (by omega)).trans h.names, ⟨v, (low _ (by omega) (by omega)).trans h1, row_kept h2 hg fun r e => (hr r e).2⟩, h.map.kept hg (fun e => by have := (hr _ e.symm).1; omega), ⟨hg.os.trans h.bel.os, hg.tape.trans h.bel.tape, hg.output.trans h.bel.output, Nat.le_trans h.bel.size hg.size, fun k hk => (low k (by omega) (by have := h.bel.size; omega)).trans (h.bel.block k hk)⟩, Nat.le_trans h.z hg.size⟩
/-- the loop's two variables -/
structure Vars (n : Nat) (x : Ent) (b c : Nat) (W : World) : Prop where
  v0 : W.heap[b]? = some (.cells #[.int .i64 (x.i : Int), .int .i64 (x.k : Int)] TT (0, 0))
  v1 : W.heap[c]? = some (.cells #[.string x.s.name, .int .i64 x.s.sect, .int .i64 x.s.val, .int .i64 x.s.frame, .bool x.s.glob] 34 (0, 0))
  lb : n ≤ b
  lc : n ≤ c
theorem Vars.own {n m : Nat} (x : Ent) (b c : Nat) : OwnFrom m (fun (_ : Unit) W => Vars n x b c W) := by
  intro _ W W' row h hg hr
  have keep : ∀ (k : Nat) (cs : Array Value) (t : TypeId) (f : Nat × Nat), W.heap[k]? = some (Obj.cells cs t f) → W'.heap[k]? = some (Obj.cells cs t f) := fun k cs t f hk => (hg.block k (lt_heap hk) (fun e => by
    obtain ⟨o, ho, hn⟩ := (hr k e.symm).2
    rw [hk] at ho
    cases ho
    cases hn)).trans hk
  exact ⟨keep _ _ _ _ h.v0, keep _ _ _ _ h.v1, h.lb, h.lc⟩
theorem setCell_one {W : World} {b : Nat} {v : Value} {T : TypeId} {f : Nat × Nat} (h : W.heap[b]? = some (.cells #[v] T f)) : W.setCell ⟨b, 0, none⟩ v = W := by
  have e : (W.setCell ⟨b, 0, none⟩ v).heap = W.heap := by
    apply Array.ext_getElem?
    intro i
    unfold World.setCell
    rw [Array.getElem?_modify]
    split
    · rename_i hi
      have hi : b = i := hi
      subst hi
      rw [h]; rfl
    · rfl
  unfold World.setCell at e ⊢
  simp only at e
  rw [e]
theorem row_slice {w : World} {base : Nat} {e : TypeId} {size : Nat} {v : Value} {n : Nat} {xs : List Value} (h : w.ownsRow base e size v n xs) : ∃ q m c, v = .slice q m c := by
  rcases h.2 with ⟨rfl, _⟩ | ⟨g, cap, cur, rfl, _⟩
  · exact ⟨_, _, _, rfl⟩
  · exact ⟨_, _, _, rfl⟩
theorem two_new (w : World) (a b : Value) (T : TypeId) : ∀ j u, [a, b][j]? = some u → (w.alloc (.cells #[a, b] T)).cell? ((⟨w.heap.size, 0, none⟩ : Addr).add j) = some u := by
  intro j u hj
  rw [OO.add_plain, Nat.zero_add]
  rw [Lib.cell_of_heap (heap_alloc_new w _)]
  simpa using hj
theorem two_one (a b : Int) : ∀ u ∈ [Value.int .i64 a, .int .i64 b], u.oneCell' = true := by
  intro u hu
  simp at hu
  rcases hu with rfl | rfl <;> rfl
theorem keeps_row {w w' : World} {base : Nat} {e : TypeId} {size : Nat} {v : Value} {n : Nat} {xs : List Value} (h : w.ownsRow base e size v n xs) (hg : w.grownBy w' v.ownBlock) : KeepsOthers w w' := by
  refine ⟨hg.size, fun k o hk ho => (hg.block k (lt_heap hk) (fun e => ?_)).trans hk⟩
  obtain ⟨c, hc, -⟩ := row_block h k e.symm
  rw [hc] at hk
  cases hk
  cases ho
section
variable {w : World} {l : List Ent} {x : Ent} {W W' : World}
theorem DI.below (h : DI w l W) (hb : Below W.heap.size W W') : DI w l W' := by
  have hz := h.z
  obtain ⟨v, h1, h2⟩ := h.ag
  have hg : W.grownBy W' none := ⟨hb.os, hb.tape, hb.output, hb.size, fun i hi _ => hb.block i hi⟩
  exact ⟨(hb.block _ (by omega)).trans h.names, ⟨v, (hb.block _ (by omega)).trans h1, h2.kept hg (by cases hv : v.ownBlock <;> simp)⟩, h.map.kept hg (by simp), h.bel.trans (hb.mono h.bel.size), Nat.le_trans h.z hb.size⟩
theorem di_skip (h : DI w l W) (hd : defs x.s = false) (hb : Below W.heap.size W W') : DI w (l ++ [x]) W' := by
  have h' := h.below hb
  refine ⟨h'.names, ?_, ?_, h'.bel, h'.z⟩
  · rw [againL_snoc, hd]; simpa using h'.ag
  · rw [namesD_snoc, show RsP.step (namesD l) x = namesD l by unfold RsP.step; rw [hd]; rfl]
    exact h'.map.mono (by simp)
theorem di_known {v v' : Value} (h : DI w l W) (h1 : W.heap[w.heap.size + 1]? = some (.cells #[v] TS (0, 0))) (h2 : W.ownsRow (w.heap.size + 4) TT 2 v (againL l).length (entCells (againL l))) (hd : defs x.s = true) (hh : Maps.has (namesD l) (key x.s) = true)
    (hr : W'.ownsRow (w.heap.size + 4) TT 2 v' ((againL l).length + 1) (entCells (againL l) ++ [.int .i64 (x.i : Int), .int .i64 (x.k : Int)])) (hg : W.grownBy W' v.ownBlock) : DI w (l ++ [x]) (W'.setCell ⟨w.heap.size + 1, 0, none⟩ v') := by
  have hz := h.z
  have hlow : ∀ k, v.ownBlock = some k → w.heap.size + 4 ≤ k := fun k hk => (h2.lt k hk).1
  have hne : ∀ k, k < w.heap.size + 4 → some k ≠ v.ownBlock := fun k hk e => by have := hlow k e.symm; omega
  have b1 : Boxed W' (w.heap.size + 1) TS v := (hg.block _ (by omega) (hne _ (by omega))).trans h1
  have g2 := grownBy_setCell' W' (w.heap.size + 1) v'
  have hne2 : ∀ k, v'.ownBlock = some k → w.heap.size + 4 ≤ k := fun k hk => (hr.lt k hk).1
  refine ⟨?_, ⟨v', Boxed.set v' b1, ?_⟩, ?_, ?_, ?_⟩
  · exact (g2.block _ (by have := hg.size; omega) (by simp)).trans ((hg.block _ (by omega) (hne _ (by omega))).trans h.names)
  · rw [againL_snoc, hd, hh]
    simp only [Bool.and_self, if_true, List.length_append, List.length_cons, List.length_nil, entCells_snoc]
    refine hr.kept g2 ?_
    cases hv : v'.ownBlock with
    | none => exact .inl rfl
    | some k => exact .inr (fun e => by have := hne2 k hv; simp at e; omega)
  · rw [namesD_snoc, show RsP.step (namesD l) x = namesD l by unfold RsP.step; rw [hh]; simp]
    exact ((h.map.kept hg (hne _ (by omega))).kept g2 (by simp)).mono (by simp)
  · exact (h.bel.grown hg h.bel.size (fun k hk => by have := hlow k hk; omega)).setCell (by simp) _
  · rw [World.size_setCell]; exact Nat.le_trans hz hg.size
theorem di_new (h : DI w l W) (hd : defs x.s = true) (hh : Maps.has (namesD l) (key x.s) = false)
    (hm : W'.ownsMap Try.prog 9 tgtR (w.heap.size + 2) (l.length + 1) ((namesD l).put (key x.s) (tgtD x.i x.k))) (hg : W.grownBy W' (some (w.heap.size + 2))) : DI w (l ++ [x]) W' := by
  have hz := h.z
  obtain ⟨v, h1, h2⟩ := h.ag
  refine ⟨(hg.block _ (by omega) (by simp)).trans h.names, ⟨v, (hg.block _ (by omega) (by simp)).trans h1, ?_⟩, ?_, ?_, Nat.le_trans hz hg.size⟩
  · rw [againL_snoc, hh, Bool.and_false]
    simp only [Bool.false_eq_true, if_false, List.append_nil]
    refine h2.kept hg ?_
    cases hv : v.ownBlock with
    | none => exact .inl rfl
    | some k => exact .inr (fun e => by have := (h2.lt k hv).1; simp at e; omega)
  · rw [namesD_snoc, show RsP.step (namesD l) x = (namesD l).put (key x.s) (tgtD x.i x.k) by unfold RsP.step; rw [hd, hh]; rfl]
    simpa using hm
  · exact h.bel.grown hg h.bel.size (fun k hk => by cases hk; omega)
end
theorem look_tgt {F : Fence} {nF : Nat} {w : World} {ops : Array Oper} {rest : List Oper} {o : Oper} {a : Act} {Q : Exit → Act → World → Prop} (hg : o.guard = none) (m x : Operand) (hop : o.op = Op.lookup TM m x true) (b n : Nat) (D : DataW Unit)
    (hm : a.eval m = .map (some b)) (hown : w.ownsMap Try.prog 9 tgtR b n D) (k : ByteArray) (hk : k.size ≤ maxLen) (hx : a.eval x = .string k)
    (hK : ∀ i j : Int, D.atKey (nkey k) (tgtD 0 0) = tgtD i j → wpListIn F nF Try.prog ops Q rest (a.put o.dst (.tuple #[.agg #[.int .i64 i, .int .i64 j], .bool (Maps.has D (nkey k))])) w) :
    wpListIn F nF Try.prog ops Q (o :: rest) a w :=
  wpListIn_lookup_own_ok w hg m x TM hop 9 TT lawS Try.underlying46 tgtR (zeroT w) (tgtD 0 0) [] (tgtR_mk 0 0) b n D hm hown (.string k) (nkey k) hx (keyOf_string_mk Try.underlying9 hk) (fun v ps hv => by
    obtain ⟨i, j, rfl, e⟩ := tgtR_inv hv
    exact hK i j (congrArg Prod.fst e))
set_option maxRecDepth 100000 in
set_option maxHeartbeats 16000000 in
theorem definitions_ {w : World} {n₀ : Nat} {v : Value} {objs : List ObjV} (hn : n₀ ≤ w.heap.size) (ho : ObjsAt n₀ w v objs) (hw : ∀ o ∈ objs, o.Wf) (hm : objs.length ≤ maxLen) (hms : ∀ o ∈ objs, o.ss.length ≤ maxLen) (hN : (flat objs).length ≤ 100000) :
    Calls Try.prog 11 #[v] w fun e w' => ∃ a, e = .returned (.tuple #[.map (some (w.heap.size + 2)), a]) ∧ w'.ownsMap Try.prog 9 tgtR (w.heap.size + 2) (flat objs).length (namesD (flat objs)) ∧
      w'.ownsRow (w.heap.size + 4) TT 2 a (againL (flat objs)).length (entCells (againL (flat objs))) ∧ Below w.heap.size w w' ∧ w.heap.size + 4 ≤ w'.heap.size := by
  have hmm := @run_makeMap Try.prog
  obtain ⟨p, c, rfl, hsl⟩ := ho
  have HO := Lib.hid (⟨p, c, rfl, hsl⟩ : ObjsAt n₀ w (.slice p objs.length c) objs)
  have HW := Lib.hid hw
  have HMS := Lib.hid hms
  have HM := Lib.hid hm
  clear hsl hw hms hm
  refine (callsIn_wide (n := 8)).1 (callsIn_of_wp_marks Try.func11 rfl trivial ?_ rfl)
  simp only [Try.ntmps11, List.size_toArray, List.length_cons, List.length_nil, Nat.reduceAdd, Nat.reduceSub, Array.replicate_succ, Array.replicate_zero, List.push_toArray, List.append_toArray, List.nil_append, List.cons_append]
  refine wpIn_wide.2 ?_
  go_wp2_with (go_at_call 12; (with_reducible refine (symbols_ _ _ _ _).mono ?_); rintro e w1 ⟨rfl, hw1⟩; have HW1 := Lib.hid hw1; clear hw1)
  have hs1 : w1.heap.size = w.heap.size + 4 := by rw [HW1.out]; simp
  have hb1 : Below w.heap.size w w1 := by
    rw [HW1.out]
    exact ((((Below.refl _ _).alloc (Nat.le_refl _) _).alloc (by simp only [World.size_alloc]; omega) _).alloc (by simp only [World.size_alloc]; omega) _).alloc (by simp only [World.size_alloc]; omega) _
  have x0 : w1.heap[w.heap.size]? = some (.cells #[.map (some (w.heap.size + 2))] TM (0, 0)) := by
    rw [HW1.out, Lib.alloc_old _ _ _ (by simp only [World.size_alloc]; omega), Lib.alloc_old _ _ _ (by simp only [World.size_alloc]; omega), Lib.alloc_old _ _ _ (by simp only [World.size_alloc]; omega)]
    exact heap_alloc_new w _
  have x1 : w1.heap[w.heap.size + 1]? = some (.cells #[.slice none 0 0] TS (0, 0)) := by
    rw [HW1.out, Lib.alloc_old _ _ _ (by simp only [World.size_alloc]; omega), Lib.alloc_old _ _ _ (by simp only [World.size_alloc]; omega)]
    have := heap_alloc_new (w.alloc (.cells #[.map (some (w.heap.size + 1 + 1))] TM)) (.cells #[.slice none 0 0] TS)
    rwa [World.size_alloc] at this
  have x3 : w1.heap[w.heap.size + 3]? = some (.cells #[.slice p objs.length c] 22 (0, 0)) := by
    rw [HW1.out]
    have := heap_alloc_new (((w.alloc (.cells #[.map (some (w.heap.size + 1 + 1))] TM)).alloc (.cells #[.slice none 0 0] TS)).alloc (.map #[] 0)) (.cells #[.slice p objs.length c] 22)
    simpa [World.size_alloc] using this
  have xm : w1.ownsMap Try.prog 9 tgtR (w.heap.size + 2) 0 (namesD []) := by
    rw [HW1.out]
    have := World.ownsMap_made (H := Unit) ((w.alloc (.cells #[.map (some (w.heap.size + 1 + 1))] TM)).alloc (.cells #[.slice none 0 0] TS)) Try.prog 9 tgtR
    simp only [World.size_alloc] at this
    exact this.alloc _
  have hd0 : DI w [] w1 := ⟨x0, ⟨_, x1, World.ownsRow_nil _ _ _ _⟩, xm, hb1, by omega⟩
  have hbox : w1.cell? ⟨w.heap.size + 1 + 1 + 1, 0, none⟩ = some (.slice p objs.length c) := Lib.cell_of_heap x3 0
  have hobj : ObjsAt n₀ w1 (.slice p objs.length c) objs := ObjsAt.same HO.out (Same.of hb1 hn)
  have HD0 := Lib.hid hd0
  clear HW1 hb1 x0 x1 x3 xm hd0
  refine (wpIn_wide (n := 8)).1 ?_
  refine range2_ (α := Fin (flat objs).length) (w0 := w1) rfl (by omega) (gf := 15) (lb := #[.pointer (some ⟨w.heap.size + 1 + 1 + 1, 0, none⟩)]) rfl trivial (enters_of Try.func15 (by kernel_rfl) rfl)
    (iter_ (8 - 1) (by omega) (w.heap.size + 1 + 1 + 1) n₀ _ objs HM.out HMS.out w1 (by omega) (by omega) hbox hobj) (fun h k => h.trans k) (fun W l o o' hl _ _ _ => Kp.put W l o' (by omega) (by omega)) (Below.refl _ _) (fun _ => rfl)
    (fun pre W => DI w (pre.map ent) W) (fun _ _ _ => False) (by rw [hs1]; exact fun s W W' row h hg hr => DI.own (s.map ent) W W' row h hg hr) (fun _ _ _ _ _ h _ _ => h) HD0.out
    (fun x b c W => Vars (w.heap.size + 4) (ent x) b c W) (fun x b c => Vars.own _ _ _) ?ab ?done (fun _ _ _ _ _ _ h _ => h.elim)
  case ab =>
    clear hbox hobj HD0
    apply Exists.intro
    constructor
    · intro l pre x W K hI hK
      gi_wp2
      have kb : Below W.heap.size W ((W.alloc (.cells #[.int .i64 ((ent x).i : Int), .int .i64 ((ent x).k : Int)] TT)).alloc (.cells #[.string (ent x).s.name, .int .i64 (ent x).s.sect, .int .i64 (ent x).s.val, .int .i64 (ent x).s.frame, .bool (ent x).s.glob] 34)) := ((Below.refl _ _).alloc (Nat.le_refl _) _).alloc (by simp) _
      have kf := (((KeepsOthers.alloc W (.cells #[.int .i64 ((ent x).i : Int), .int .i64 ((ent x).k : Int)] TT)).trans (KeepsOthers.alloc _ (.cells #[.string (ent x).s.name, .int .i64 (ent x).s.sect, .int .i64 (ent x).s.val, .int .i64 (ent x).s.frame, .bool (ent x).s.glob] 34))).from w1.heap.size)
      have hz := hI.z
      have kp : Kp n₀ (w.heap.size + 1 + 1 + 1) W _ := Kp.of kb (by omega) (by omega)
      have ki := (DI.own.alloc (.cells #[.string (ent x).s.name, .int .i64 (ent x).s.sect, .int .i64 (ent x).s.val, .int .i64 (ent x).s.frame, .bool (ent x).s.glob] 34) (DI.own.alloc (.cells #[.int .i64 ((ent x).i : Int), .int .i64 ((ent x).k : Int)] TT) hI))
      have kv : Vars (w.heap.size + 4) (ent x) W.heap.size (W.heap.size + 1) ((W.alloc (.cells #[.int .i64 ((ent x).i : Int), .int .i64 ((ent x).k : Int)] TT)).alloc (.cells #[.string (ent x).s.name, .int .i64 (ent x).s.sect, .int .i64 (ent x).s.val, .int .i64 (ent x).s.frame, .bool (ent x).s.glob] 34)) :=
        ⟨(Lib.alloc_old _ _ _ (by simp)).trans (heap_alloc_new _ _), by have := heap_alloc_new (W.alloc (.cells #[.int .i64 ((ent x).i : Int), .int .i64 ((ent x).k : Int)] TT)) (.cells #[.string (ent x).s.name, .int .i64 (ent x).s.sect, .int .i64 (ent x).s.val, .int .i64 (ent x).s.frame, .bool (ent x).s.glob] 34); rwa [World.size_alloc] at this, hz, by omega⟩
      clear kb hz
      generalize hb : W.heap.size = b at kv ⊢
      generalize hd : b + 1 = d at kv ⊢
      exact hK b d _ kf kp ki kv
    · intro l pre x b d W hI hV hlt
      obtain ⟨i0, hi, hz0, hz1, hz2⟩ := info_parts infoT
      have hz := hI.z
      obtain ⟨av, hag, hrow⟩ := hI.ag
      have hmap := hI.map
      have k0 : W.cell? ⟨w.heap.size, 0, none⟩ = some (.map (some (w.heap.size + 2))) := Lib.cell_of_heap hI.names 0
      have k1 : W.cell? ⟨w.heap.size + 1, 0, none⟩ = some av := Lib.cell_of_heap hag 0
      have k2 : W.frozen? ⟨w.heap.size + 1, 0, none⟩ = false := Lib.frozen_of_heap hag 0
      have b0 : W.cell? ⟨b, 0, none⟩ = some (.int .i64 ((ent x).i : Int)) := Lib.cell_of_heap hV.v0 0
      have b1 : W.cell? ⟨b, 1, none⟩ = some (.int .i64 ((ent x).k : Int)) := Lib.cell_of_heap hV.v0 1
      have d0 : W.cell? ⟨d, 0, none⟩ = some (.string (ent x).s.name) := Lib.cell_of_heap hV.v1 0
      have d1 : W.cell? ⟨d, 1, none⟩ = some (.int .i64 (ent x).s.sect) := Lib.cell_of_heap hV.v1 1
      have d4 : W.cell? ⟨d, 4, none⟩ = some (.bool (ent x).s.glob) := Lib.cell_of_heap hV.v1 4
      have bl := lt_heap hV.v0
      have l0 : w.heap.size < W.heap.size := by omega
      have l1 : w.heap.size + 1 < W.heap.size := by omega
      have dl := lt_heap hV.v1
      obtain ⟨oo, hoo, hss⟩ := mem_flat (List.getElem_mem x.2)
      have hnm : (ent x).s.name.size ≤ maxLen := ((HW.out oo (List.mem_of_getElem? hoo)).ss _ (List.mem_of_getElem? hss)).name
      have HI := Lib.hid hI
      have HAG := Lib.hid hag
      have HROW := Lib.hid hrow
      have HPRE := Lib.hid (show (pre ++ [x]).map ent = pre.map ent ++ [ent x] by simp)
      have hL : (pre.map ent).length ≤ 100000 := by rw [List.length_map]; omega
      have hlen : (againL (pre.map ent)).length ≤ 100000 := Nat.le_trans (againL_le _) (by rw [List.length_map]; omega)
      clear hI hV hag hoo hss hlt
      generalize ent x = y at *
      generalize pre.map ent = L at *
      have hnew := fun ti tj => two_new (W.alloc (.cells #[.int .i64 ti, .int .i64 tj] TT)) (.int .i64 (y.i : Int)) (.int .i64 (y.k : Int)) TT
      simp only [World.size_alloc] at hnew
      have HNEW := Lib.hid hnew
      clear hnew
      have HDF := Lib.hid (show defs y.s = (y.s.glob && !(y.s.sect == 0)) from rfl)
      cases hh : Maps.has (namesD L) (nkey y.s.name) <;> cases hg : y.s.glob <;> by_cases hs : y.s.sect = 0
      all_goals
        have HG := Lib.hid hg
        have HH := Lib.hid hh
        have HS := Lib.hid hs
        rw [hg] at d4
        have hx1 := Lib.alloc_old W
        first
          | (have hs0 : (y.s.sect == 0) = true := by simpa using hs)
          | (have hs0 : (y.s.sect == 0) = false := by simpa using hs)
        clear hs hg hx1
        gi_wp2_with (first
          | (gi_at_lookup; refine look_tgt rfl _ _ rfl (w.heap.size + 2) _ _ rfl hmap y.s.name hnm rfl ?_; intro ti tj hti; clear hti)
          | (gi_at_builtin; refine wpListIn_append_own _ rfl _ _ TS rfl (w.heap.size + 4) TT i0 (tgtV 0 0) 2 16 Try.underlying41 hi hz0 hz1 hz2 rfl (by decide) _ _ _ rfl ((HROW.out.alloc _).alloc _) ⟨W.heap.size + 1, 0, none⟩ 1 1 [.int .i64 (y.i : Int), .int .i64 (y.k : Int)] rfl rfl (HNEW.out ti tj) (two_one _ _) (by unfold maxLen; omega) (by omega) (by simp only [World.size_alloc]; omega) ?_; intro v' w' hown' hgrow' _; obtain ⟨q', n', c', rfl⟩ := row_slice hown'; have hx3 := (hgrow'.block (w.heap.size + 1) (by simp only [World.size_alloc]; omega) (fun e => by have := ((HROW.out.alloc (.cells #[.int .i64 ti, .int .i64 tj] TT)).lt _ e.symm).1; omega)).trans ((Lib.alloc_old _ _ _ (by simp only [World.size_alloc]; omega)).trans ((Lib.alloc_old _ _ _ l1).trans HAG.out)); have y1 : w'.cell? ⟨w.heap.size + 1, 0, none⟩ = some av := Lib.cell_of_heap hx3 0; have y2 : w'.frozen? ⟨w.heap.size + 1, 0, none⟩ = false := Lib.frozen_of_heap hx3 0; have HX3 := Lib.hid hx3; clear hx3)
          | (gi_at_mapUpdate; refine wpListIn_mapUpdate_own _ rfl _ _ _ TM rfl 9 TT lawS Try.underlying46 tgtR (w.heap.size + 2) _ _ rfl (hmap.alloc _) (by unfold maxLen; omega) _ _ _ rfl rfl (keyOf_string_mk Try.underlying9 hnm) (tgtD y.i y.k) [] rfl ?_; intro w' hown' hgrow'))
        first
          | (have hd := Lib.hid (show defs y.s = false by rw [HDF.out, HG.out]; rfl)
             refine ⟨(KeepsOthers.alloc _ _).from _, Kp.of ((Below.refl _ _).alloc (Nat.le_refl _) _) (by omega) (by omega), ?_⟩
             show DI w ((pre ++ [x]).map ent) _
             rw [HPRE.out]
             exact di_skip HI.out hd.out ((Below.refl _ _).alloc (Nat.le_refl _) _))
          | (have hd := Lib.hid (show defs y.s = false by rw [HDF.out, HG.out, hs0]; rfl)
             refine ⟨(KeepsOthers.alloc _ _).from _, Kp.of ((Below.refl _ _).alloc (Nat.le_refl _) _) (by omega) (by omega), ?_⟩
             show DI w ((pre ++ [x]).map ent) _
             rw [HPRE.out]
             exact di_skip HI.out hd.out ((Below.refl _ _).alloc (Nat.le_refl _) _))
          | (have hd := Lib.hid (show defs y.s = true by rw [HDF.out, HG.out, hs0]; rfl)
             refine ⟨((KeepsOthers.alloc _ _).from _).trans (KeepsFrom.of_grownBy hgrow' (fun j hj => by cases hj; omega)), (Kp.of ((Below.refl _ _).alloc (Nat.le_refl _) _) (by omega) (by omega)).trans ⟨fun k hk => hgrow'.block k (by simp only [World.size_alloc]; omega) (fun e => by cases e; omega), hgrow'.block _ (by simp only [World.size_alloc]; omega) (by simp), hgrow'.size⟩, ?_⟩
             show DI w ((pre ++ [x]).map ent) _
             rw [HPRE.out]
             exact di_new (HI.out.below ((Below.refl _ _).alloc (Nat.le_refl _) _)) hd.out HH.out hown' hgrow')
          | (have hd := Lib.hid (show defs y.s = true by rw [HDF.out, HG.out, hs0]; rfl)
             have hr0 := (HROW.out.alloc (.cells #[.int .i64 ti, .int .i64 tj] TT)).alloc (.cells #[.int .i64 (y.i : Int), .int .i64 (y.k : Int)] TT)
             have hb0 : Below W.heap.size W ((W.alloc (.cells #[.int .i64 ti, .int .i64 tj] TT)).alloc (.cells #[.int .i64 (y.i : Int), .int .i64 (y.k : Int)] TT)) := ((Below.refl _ _).alloc (Nat.le_refl _) _).alloc (by simp) _
             have hlo : ∀ k, av.ownBlock = some k → w.heap.size + 4 ≤ k := fun k hk => (hr0.lt k hk).1
             have hsz := hgrow'.size
             simp only [World.size_alloc] at hsz
             refine ⟨((((KeepsOthers.alloc _ _).trans (KeepsOthers.alloc _ _)).trans (keeps_row hr0 hgrow')).trans (KeepsOthers.setCell _ _ _)).from _,
               ((Kp.of hb0 (by omega) (by omega)).trans ⟨fun k hk => hgrow'.block k (by simp only [World.size_alloc]; omega) (fun e => by have := hlo _ e.symm; omega), hgrow'.block _ (by simp only [World.size_alloc]; omega) (fun e => by have := hlo _ e.symm; omega), hgrow'.size⟩).trans
                 ⟨fun k hk => Below.heap_setCell _ _ _ _ (by show k ≠ w.heap.size + 1; omega), Below.heap_setCell _ _ _ _ (by show w.heap.size + 1 + 1 + 1 ≠ w.heap.size + 1; omega), by rw [World.size_setCell]; exact Nat.le_refl _⟩, ?_⟩
             show DI w ((pre ++ [x]).map ent) _
             rw [HPRE.out]
             exact di_known (HI.out.below hb0) ((hb0.block _ l1).trans HAG.out) hr0 hd.out HH.out hown' hgrow')
  case done =>
    intro D xs W hD hxs hI hK
    subst hxs
    have hz := hI.z
    rw [show (List.finRange (flat objs).length).map ent = flat objs by
      rw [← upto_all, map_upto]; exact List.take_of_length_le (Nat.le_refl _)] at hI
    obtain ⟨av, hag, hrow⟩ := hI.ag
    obtain ⟨q', n', c', rfl⟩ := row_slice hrow
    have k0 : W.cell? ⟨w.heap.size, 0, none⟩ = some (.map (some (w.heap.size + 2))) := Lib.cell_of_heap hI.names 0
    have k1 : W.cell? ⟨w.heap.size + 1, 0, none⟩ = some (.slice q' n' c') := Lib.cell_of_heap hag 0
    have f0 : W.frozen? ⟨w.heap.size, 0, none⟩ = false := Lib.frozen_of_heap hI.names 0
    have f1 : W.frozen? ⟨w.heap.size + 1, 0, none⟩ = false := Lib.frozen_of_heap hag 0
    have HI := Lib.hid hI
    have HAG := Lib.hid hag
    have HROW := Lib.hid hrow
    have HK := Lib.hid hK
    have mixed : Try.prog.follows Departure.mixedOrders = true := by kernel_rfl
    clear hI hag hrow hK
    go_wp2_with fail
    go_region
    rw [setCell_one HI.out.names, setCell_one HAG.out]
    have HK2 : W.drew.heap[D]? = some (.deferred (some [])) := HK.out
    go_wp2_with fail
    refine ⟨by simp, .inl ⟨_, _, rfl, run_takeDeferred HK2, ?_⟩⟩
    have g4 := grownBy_putObj' W.drew D (.deferred none)
    have hne : ∀ k, k < w.heap.size + 4 → some k ≠ some D := fun k hk e => by cases e; omega
    have o1 : (W.drew.putObj D (.deferred none)).cell? ⟨w.heap.size, 0, none⟩ = some (.map (some (w.heap.size + 2))) := by
      rw [Lib.cell_of_heap ((g4.block _ (by show w.heap.size < W.heap.size; omega) (hne _ (by omega))).trans (show W.drew.heap[w.heap.size]? = _ from HI.out.names))]; rfl
    have o2 : (W.drew.putObj D (.deferred none)).cell? ⟨w.heap.size + 1, 0, none⟩ = some (.slice q' n' c') := by
      rw [Lib.cell_of_heap ((g4.block _ (by show w.heap.size + 1 < W.heap.size; omega) (hne _ (by omega))).trans (show W.drew.heap[w.heap.size + 1]? = _ from HAG.out))]; rfl
    refine ⟨.tuple #[.map (some (w.heap.size + 2)), .slice q' n' c'], by simp [results, Try.results11, go_sem, o1, o2], .slice q' n' c', rfl, ?_, ?_, ?_, ?_⟩
    · exact (HI.out.map.drew.mono (by exact Nat.le_refl _)).kept g4 (hne _ (by omega))
    · exact row_kept (w := W.drew) HROW.out g4 (fun r e => by cases e; exact ⟨_, HK2, rfl⟩)
    · exact (Below.drew HI.out.bel).grown g4 (by have := HI.out.bel.size; exact this) (fun k hk => by cases hk; omega)
    · have := g4.size
      exact Nat.le_trans hz this
end RsD
end Go.Proofs.Ytlmblfkcmhgdaaa
