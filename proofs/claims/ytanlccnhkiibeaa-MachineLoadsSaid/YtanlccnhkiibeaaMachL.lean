/-
  MachLa MachLb MachLc MachLd, joined.
  Conditions: those that are written at each.
-/
import Derived.Test.YtanlccnhkiibeaaMachN
import Derived.Laws.Tables
import Derived.Laws.ResultCell
import Derived.Deep.WholeRow
import Derived.Laws.CopyRow
import Derived.Deep.DeepCutAuto
import Derived.BigQuiet
import Derived.BigGuardPart
import Derived.Test.YtanlccnhkiibeaaMachO
import Derived.Test.YtanlccnhkiibeaaCodeP
import Derived.ChangeSame
import Derived.BigFrame
/-
  The document's own machine: its cells, and its Load, a contract. No condition but those that are written at each.
-/
namespace Go.Proofs.Ytanlccnhkiibeaa
open Go.RowKit
set_option linter.unusedVariables false
set_option linter.unusedSimpArgs false
namespace ML
attribute [local go_sem ↓] Go.wp_at_zero Go.wp_at_succ
open MM MC MW
def rcellAt (bm N : Nat) (s : St) (c : Int) (j : Nat) : Value := if j = 67 then .int .u32 c else cellAt bm N s j
/-- the reference's machine: its cells -/
def rcells (bm N : Nat) (s : St) (c : Int) : Array Value := row 68 (rcellAt bm N s c)
theorem r_size (bm N : Nat) (s : St) (c : Int) : (rcells bm N s c).size = 68 := row_size _ _
theorem r_get (bm N : Nat) (s : St) (c : Int) {j : Nat} (hj : j < 67) {v : Value} (h : (cells bm N s)[j]? = some v) : (rcells bm N s c)[j]? = some v := by
  unfold cells at h
  rw [row_get _ hj] at h
  unfold rcells
  rw [row_get _ (by omega)]
  unfold rcellAt
  rw [if_neg (by omega)]
  exact h
theorem r_0 (bm N : Nat) (s : St) (c : Int) : (rcells bm N s c)[0]? = some (.slice (some ⟨bm, 0, none⟩) N N) := r_get _ _ _ _ (by omega) (cell_0 _ _ _)
theorem r_x (bm N : Nat) (s : St) (c : Int) {i : Nat} (h : i < 32) : (rcells bm N s c)[1 + i]? = some (.int .u32 (s.x i)) := r_get _ _ _ _ (by omega) (cell_x _ _ _ h)
theorem r_f (bm N : Nat) (s : St) (c : Int) {i : Nat} (h : i < 32) : (rcells bm N s c)[33 + i]? = some (.int .u64 (s.f i : Nat)) := r_get _ _ _ _ (by omega) (cell_f _ _ _ h)
theorem r_pc (bm N : Nat) (s : St) (c : Int) : (rcells bm N s c)[65]? = some (.int .u32 s.pc) := r_get _ _ _ _ (by omega) (cell_pc _ _ _)
theorem r_state (bm N : Nat) (s : St) (c : Int) : (rcells bm N s c)[66]? = some (.int .i64 s.state) := r_get _ _ _ _ (by omega) (cell_state _ _ _)
theorem r_code (bm N : Nat) (s : St) (c : Int) : (rcells bm N s c)[67]? = some (.int .u32 c) := row_get _ (by omega)
theorem r_set (bm N : Nat) (s s' : St) (c : Int) {j : Nat} (hj : j < 67) {v : Value} (h : (cells bm N s).setIfInBounds j v = cells bm N s') : (rcells bm N s c).setIfInBounds j v = rcells bm N s' c := by
  unfold rcells
  rw [row_set _ _ (by omega)]
  refine row_ext fun i hi => ?_
  unfold cells at h
  rw [row_set _ _ hj] at h
  by_cases e : i = 67
  · subst e
    unfold upd rcellAt
    rw [if_neg (by omega), if_pos rfl, if_pos rfl]
  · have h2 := congrArg (fun a => a[i]?) h
    rw [row_get _ (by omega), row_get _ (by omega)] at h2
    have h3 := Option.some.inj h2
    unfold rcellAt
    rw [if_neg e, ← h3]
    unfold upd
    by_cases e2 : i = j
    · rw [if_pos e2, if_pos e2]
    · rw [if_neg e2, if_neg e2]
      exact if_neg e
theorem r_setcode (bm N : Nat) (s : St) (c c' : Int) : (rcells bm N s c).setIfInBounds 67 (.int .u32 c') = rcells bm N s c' := by
  unfold rcells
  rw [row_set _ _ (by omega)]
  refine row_ext fun i hi => ?_
  unfold upd rcellAt
  by_cases e : i = 67
  · rw [if_pos e, if_pos e]
  · rw [if_neg e, if_neg e, if_neg e]
/-- its memory -/
def Mem (w : World) (bm N : Nat) (s : St) : Prop := w.heap[bm]? = some (.cells (MC.bytes N s) 5 (0, 0))
theorem up_ (n : Int) (h0 : 0 ≤ n) (h1 : n ≤ 4194304) (w : World) : Calls Try.prog 26 #[.int .i64 n] w fun e w' => e = .returned (.int .i64 (up n)) ∧ w = w' := by
  have hb : 0 ≤ (n + 15) / 16 * 16 ∧ (n + 15) / 16 * 16 ≤ n + 15 := by omega
  have e1 := Lib.hid (show up n = (n + 15) / 16 * 16 from rfl)
  go_enter Try.func26, Try.ntmps26
  go_wp2
  go_ret
  exact ⟨ret_int (by rw [e1.out]), rfl⟩
set_option maxRecDepth 100000 in
theorem rbuild_ (bm N : Nat) (e : Int) (w : World) : (Instr.build 47 #[(0, .slice (some ⟨bm, 0, none⟩) N N), (3, .int .u32 e)]).run Try.prog w = .ok (.agg (rcells bm N (zero e) 0)) w := by kernel_rfl
/-- numbers in memory, where they may lie -/
def At8 (w : World) (p : Option Addr) (n : Nat) (f : Nat → Int) : Prop := ∀ k, k < n → ∃ g o, p = some ⟨g, o, none⟩ ∧ g < w.heap.size ∧ w.cell? ⟨g, o + k, none⟩ = some (.int .u8 (f k))
theorem At8.below {w w' : World} {p : Option Addr} {n : Nat} {f : Nat → Int} (h : At8 w p n f) (hb : Below w.heap.size w w') : At8 w' p n f := fun k hk => by
  obtain ⟨g, o, rfl, h1, h2⟩ := h k hk
  exact ⟨g, o, rfl, Nat.lt_of_lt_of_le h1 hb.size, (hb.cell (p := ⟨g, o + k, none⟩) h1).trans h2⟩
theorem rzero_cells (bm N : Nat) (e : Int) : (Try.zeroCells47.setIfInBounds 0 (.slice (some ⟨bm, 0, none⟩) N N)).setIfInBounds 65 (.int .u32 e) = rcells bm N (zero e) 0 := by kernel_rfl
theorem r_one (bm N : Nat) (s : St) (c : Int) : (rcells bm N s c).all (·.oneCell') = true := by
  rw [Array.all_eq_true]
  intro i hi
  have hi' : i < 68 := by rw [r_size] at hi; exact hi
  have e := row_get (n := 68) (rcellAt bm N s c) hi'
  have e2 : (rcells bm N s c)[i] = rcellAt bm N s c i := by
    have := Array.getElem?_eq_getElem hi
    unfold rcells at this ⊢
    rw [e] at this
    exact (Option.some.inj this).symm
  refine (congrArg (·.oneCell') e2).trans ?_
  unfold rcellAt cellAt
  by_cases h : i = 67
  · rw [if_pos h]; rfl
  · rw [if_neg h]
    repeat' split
    all_goals first | rfl | (exfalso; omega)
theorem r_info : (Try.prog.info? 47).map (·.size) = some 68 := by kernel_rfl
theorem store_new (W : World) (c c' : Array Value) (l : List Value) (hl : l = c'.toList) (k : Nat) (hk : k = W.heap.size) (hs : c'.size = 68) (ho : c.size = 68) (h1 : c'.all (·.oneCell') = true) :
    (storeCells ⟨k, 0, none⟩ l).run Try.prog ((W.alloc (.cells c 47)).drew) = .ok () ((W.alloc (.cells c' 47)).drew) := by
  subst hl hk
  exact run_storeCells_new (P := Try.prog) W.drew 47 c c' (by rw [hs]; exact r_info) (by omega) h1
theorem store_mid (W : World) (o2 : Obj) (c c' : Array Value) (l : List Value) (hl : l = c'.toList) (k : Nat) (hk : k = W.heap.size) (hs : c'.size = 68) (ho : c.size = 68) (h1 : c'.all (·.oneCell') = true) :
    (storeCells ⟨k, 0, none⟩ l).run Try.prog (((W.alloc (.cells c 47)).alloc o2).drew) = .ok () ((((W.alloc (.cells c 47)).alloc o2).drew).setRow k c') := by
  subst hl hk
  have hg : (((W.alloc (.cells c 47)).alloc o2).drew).heap[W.heap.size]? = some (.cells c 47 (0, 0)) := (Below.heap_alloc (W.alloc (.cells c 47)) o2 W.heap.size (by simp)).trans (heap_alloc_new W _)
  have hl : c'.toList.length = 68 := by rw [Array.length_toList]; exact hs
  have h := run_storeCells_at (P := Try.prog) W.heap.size 0 47 c'.toList 0 c _ hg (by omega) (fun v hv => by
    rw [Array.all_eq_true'] at h1
    exact h1 v (Array.mem_toList_iff.1 hv))
  rw [h]
  congr 2
  have h0 : c.toList.length = 68 := by rw [Array.length_toList]; exact ho
  rw [List.take_zero, List.nil_append, List.drop_of_length_le (by omega), List.append_nil]
theorem setRow_cell (w : World) (g k j : Nat) (cs : Array Value) (h : k ≠ g) : (w.setRow g cs).cell? ⟨k, j, none⟩ = w.cell? ⟨k, j, none⟩ := World.cell?_of_block (a := ⟨k, j, none⟩) (setRow_other w g k cs h)
theorem setCell_cell (w : World) (g j k o : Nat) (v : Value) (h : k ≠ g) : ((w.setCell ⟨g, j, none⟩ v).drew).cell? ⟨k, o, none⟩ = w.cell? ⟨k, o, none⟩ := World.cell?_of_block (w := w) (a := ⟨k, o, none⟩) (heap_setCell_other w ⟨g, j, none⟩ k v h)
theorem rzero_size : Try.zeroCells47.size = 68 := by kernel_rfl
theorem rzero_list (bm N : Nat) (e : Int) : (Try.zeroCells47.toList.set 0 (.slice (some ⟨bm, 0, none⟩) N N)).set 65 (.int .u32 e) = (rcells bm N (zero e) 0).toList := by
  rw [← rzero_cells, Array.toList_setIfInBounds, Array.toList_setIfInBounds]
/-- bytes laid one by one -/
theorem lay_next (N k : Nat) (e : Int) (f : Nat → Int) (hk : k < N) : (MC.bytes N { zero e with mem := bytesOf f k }).setIfInBounds k (.int .u8 (f k)) = MC.bytes N { zero e with mem := bytesOf f (k + 1) } := by
  unfold MC.bytes
  rw [row_set _ _ hk]
  refine row_ext fun i hi => ?_
  unfold upd bytesOf
  by_cases e1 : i = k
  · subst e1; rw [if_pos rfl]; simp
  · rw [if_neg e1]
    by_cases e2 : i < k
    · simp [e2, show i < k + 1 by omega]
    · simp [e2, show ¬ i < k + 1 by omega]
theorem none_laid (N : Nat) (e : Int) (f : Nat → Int) : (row N fun _ => Value.int .u8 0) = MC.bytes N { zero e with mem := bytesOf f 0 } := by
  unfold MC.bytes
  congr 1
/-- the loop over the image's bytes -/
structure Lays (w : World) (e : Int) (p : Option Addr) (n cc N rb bm : Nat) (f : Nat → Int) (k : Nat) (wr : World) : Prop where
  m : wr.heap[rb]? = some (.cells (rcells bm N (zero e) 0) 47 (0, 0))
  b : wr.heap[bm]? = some (.cells (MC.bytes N { zero e with mem := bytesOf f k }) 5 (0, 0))
  i : wr.heap[w.heap.size]? = some (.cells #[.int .i64 e, .slice p n cc] 31 (0, 0))
  r : wr.heap[w.heap.size + 1]? = some (.cells Try.zeroCells47 47 (0, 0))
  below : Below w.heap.size w wr
/-- a whole machine is loaded, stored -/
theorem load_m {ops : Array Oper} {rest : List Oper} {o : Oper} {a : Act} {w : World} {Q : Exit → Act → World → Prop} (hgd : o.guard = none) (x : Operand) (ho : o.op = .load 47 x) (g : Nat) (hx : a.eval x = .pointer (some ⟨g, 0, none⟩))
    (bm N : Nat) (s : St) (c : Int) (hg : w.heap[g]? = some (.cells (rcells bm N s c) 47 (0, 0))) (hK : wpList Try.prog ops Q rest (a.put o.dst (.agg (rcells bm N s c))) w) : wpList Try.prog ops Q (o :: rest) a w :=
  wpList_load_row hgd 47 x ho g hx 47 (rcells bm N s c) (0, 0) _ hg Try.underlying47 rfl (by rw [r_size]; exact r_info) hK
theorem store_m {ops : Array Oper} {rest : List Oper} {o : Oper} {a : Act} {w : World} {Q : Exit → Act → World → Prop} (hgd : o.guard = none) (x y : Operand) (ho : o.op = .store 47 x y) (g : Nat) (hx : a.eval x = .pointer (some ⟨g, 0, none⟩))
    (bm N : Nat) (s : St) (c : Int) (hy : a.eval y = .agg (rcells bm N s c)) (old : Array Value) (hg : w.heap[g]? = some (.cells old 47 (0, 0))) (h68 : old.size = 68) (hK : wpList Try.prog ops Q rest (a.put o.dst undef) (w.setRow g (rcells bm N s c))) : wpList Try.prog ops Q (o :: rest) a w :=
  wpList_store_row hgd 47 x y ho g (rcells bm N s c) hx hy 47 old hg (by rw [r_size]; exact r_info) (by rw [h68, r_size]) (r_one _ _ _ _) hK
/-- behind 'm := Machine{..}' -/
def Made (w : World) (e : Int) (p : Option Addr) (n cc N : Nat) (s6 : Value) (wx : World) : Prop :=
  ∃ rb bm : Nat, s6 = .pointer (some ⟨rb, 0, none⟩) ∧ wx.heap[rb]? = some (.cells (rcells bm N (zero e) 0) 47 (0, 0)) ∧ wx.heap[bm]? = some (.cells (row N fun _ => .int .u8 0) 5 (0, 0)) ∧ w.heap.size + 2 ≤ rb ∧ w.heap.size + 2 ≤ bm ∧ rb ≠ bm ∧ wx.heap[w.heap.size]? = some (.cells #[.int .i64 e, .slice p n cc] 31 (0, 0)) ∧ wx.heap[w.heap.size + 1]? = some (.cells Try.zeroCells47 47 (0, 0)) ∧ Below w.heap.size w wx
theorem made_1 (w : World) (e : Int) (p : Option Addr) (n cc N : Nat) : Made w e p n cc N (.pointer (some ⟨w.heap.size + 1 + 1 + 1, 0, none⟩)) ((((w.alloc (.cells #[.int .i64 e, .slice p n cc] 31)).alloc (.cells Try.zeroCells47 47)).alloc (.cells (row N fun _ => .int .u8 0) 5)).alloc (.cells (rcells (w.heap.size + 1 + 1) N (zero e) 0) 47)).drew := by
  refine ⟨w.heap.size + 1 + 1 + 1, w.heap.size + 1 + 1, rfl, new_at _ _ _ (by simp), (Below.heap_alloc _ _ _ (by simp)).trans (new_at _ _ _ (by simp)), by omega, by omega, by omega, ?_, ?_, ?_⟩
  · exact (Below.heap_alloc _ _ _ (by simp; omega)).trans ((Below.heap_alloc _ _ _ (by simp; omega)).trans ((Below.heap_alloc _ _ _ (by simp)).trans (new_at _ _ _ rfl)))
  · exact (Below.heap_alloc _ _ _ (by simp)).trans ((Below.heap_alloc _ _ _ (by simp)).trans (new_at _ _ _ (by simp)))
  · exact (((((Below.refl _ _).alloc (Nat.le_refl _) _).alloc (by simp) _).alloc (by simp; omega) _).alloc (by simp; omega) _).drew
theorem made_2 (w : World) (e : Int) (p : Option Addr) (n cc N : Nat) : Made w e p n cc N (.pointer (some ⟨w.heap.size + 1 + 1, 0, none⟩)) (((((w.alloc (.cells #[.int .i64 e, .slice p n cc] 31)).alloc (.cells Try.zeroCells47 47)).alloc (.cells Try.zeroCells47 47)).alloc (.cells (row N fun _ => .int .u8 0) 5)).drew.setRow (w.heap.size + 1 + 1) (rcells (w.heap.size + 1 + 1 + 1) N (zero e) 0)) := by
  refine ⟨w.heap.size + 1 + 1, w.heap.size + 1 + 1 + 1, rfl, setRow_heap _ _ _ _ _ _ ((Below.heap_alloc _ _ _ (by simp)).trans (new_at _ _ _ (by simp))), (setRow_other _ _ _ _ (by omega)).trans (new_at _ _ _ (by simp)), by omega, by omega, by omega, ?_, ?_, ?_⟩
  · exact (setRow_other _ _ _ _ (by omega)).trans ((Below.heap_alloc _ _ _ (by simp; omega)).trans ((Below.heap_alloc _ _ _ (by simp; omega)).trans ((Below.heap_alloc _ _ _ (by simp)).trans (new_at _ _ _ rfl))))
  · exact (setRow_other _ _ _ _ (by omega)).trans ((Below.heap_alloc _ _ _ (by simp)).trans ((Below.heap_alloc _ _ _ (by simp)).trans (new_at _ _ _ (by simp))))
  · exact below_setRow (((((Below.refl _ _).alloc (Nat.le_refl _) _).alloc (by simp) _).alloc (by simp; omega) _).alloc (by simp; omega) _).drew (by omega) _
/-- a round of it -/
theorem Lays.next {w wr : World} {e : Int} {p : Option Addr} {n cc N rb bm k : Nat} {f : Nat → Int} (L : Lays w e p n cc N rb bm f k wr) (q1 : w.heap.size + 2 ≤ rb) (q2 : w.heap.size + 2 ≤ bm) (q3 : rb ≠ bm) (hk : k < N) : Lays w e p n cc N rb bm f (k + 1) ((wr.setCell ⟨bm, k, none⟩ (.int .u8 (f k))).drew) := by
  have ho : ∀ j, j ≠ bm → ((wr.setCell ⟨bm, k, none⟩ (.int .u8 (f k))).drew).heap[j]? = wr.heap[j]? := fun j hj => heap_setCell_other wr ⟨bm, k, none⟩ j _ hj
  refine ⟨(ho _ q3).trans L.m, ?_, (ho _ (by omega)).trans L.i, (ho _ (by omega)).trans L.r, (L.below.setCell (by show w.heap.size ≤ bm; omega) _).drew⟩
  rw [← lay_next N k e f hk]
  exact heap_setCell_same wr bm k _ _ _ L.b
/-- the two words of a machine that is loaded -/
theorem Lays.words {w wr : World} {e : Int} {p : Option Addr} {n cc N rb bm k : Nat} {f : Nat → Int} (L : Lays w e p n cc N rb bm f k wr) (u : Int) : ((wr.setCell ⟨rb, 3, none⟩ (.int .u32 N)).setCell ⟨rb, 28, none⟩ (.int .u32 u)).heap[rb]? = some (.cells (rcells bm N (loaded f k u N e) 0) 47 (0, 0)) := by
  have h1 := heap_setCell_same wr rb 3 _ _ (.int .u32 N) L.m
  rw [r_set bm N (zero e) { zero e with x := upd (zero e).x 2 (N : Int) } 0 (by omega) (set_x bm N (zero e) (i := 2) (by omega) _)] at h1
  have h2 := heap_setCell_same _ rb 28 _ _ (.int .u32 u) h1
  rw [r_set bm N _ (loaded f k u N e) 0 (by omega) (set_x bm N _ (i := 27) (by omega) _)] at h2
  exact h2
theorem Lays.rest {w wr : World} {e : Int} {p : Option Addr} {n cc N rb bm k : Nat} {f : Nat → Int} (L : Lays w e p n cc N rb bm f k wr) (v v' : Value) (j : Nat) (hj : j ≠ rb) : ((wr.setCell ⟨rb, 3, none⟩ v).setCell ⟨rb, 28, none⟩ v').heap[j]? = wr.heap[j]? :=
  (heap_setCell_other _ ⟨rb, 28, none⟩ j v' hj).trans (heap_setCell_other wr ⟨rb, 3, none⟩ j v hj)
theorem rfin {Q : Ending → World → Prop} {tmps : Array Value} {k : Nat} {w : World} {cs : Array Value} {b : Bool} (hp : tmps.getD 4 undef = .pointer (some ⟨k, 0, none⟩)) (hb : tmps.getD 5 undef = .bool b)
    (hg : w.heap[k]? = some (.cells cs 47 (0, 0))) (h68 : cs.size = 68) (hQ : Q (.returned (.tuple #[.agg cs, .bool b])) w) :
    bodyPost Try.prog Try.f15 Q .ret { tmps := tmps, defers := [] } w := by
  refine bodyPost_ret (v := .tuple #[.agg cs, .bool b]) ?_ rfl hQ
  rw [results_cell_tmp (p := 4) (u := 5) (ty := 47) Try.results15 tmps, hp, hb]
  have h := run_loadVar_row (P := Try.prog) w k 47 47 cs (0, 0) _ hg Try.underlying47 rfl (by rw [h68]; exact r_info)
  simp only [asAddr, Sem.run_pure, Result.andThen_ok, h]
set_option maxRecDepth 100000 in
set_option maxHeartbeats 2000000 in
theorem rload_ok (e : Int) (he : 0 ≤ e ∧ e ≤ 4294967295) (p : Option Addr) (n cc : Nat) (stack : Int) (hn : n ≤ 4000) (hs : 0 ≤ stack) (hs2 : stack + up n ≤ 2097152) (N : Nat) (hN : up (up n + stack) = N) (f : Nat → Int) (w : World) (hc : At8 w p n f) :
    Calls Try.prog 15 #[.agg #[.int .i64 e, .slice p n cc], .int .i64 stack] w fun e1 w' => ∃ bm, e1 = .returned (.tuple #[.agg (rcells bm N (loaded f n (up n) N e) 0), .bool true]) ∧ Mem w' bm N (loaded f n (up n) N e) ∧ w.heap.size ≤ bm ∧ Below w.heap.size w w' := by
  have cl1 := fun w => up_ n (by omega) (by omega) w
  have hu : (n : Int) ≤ up n ∧ up n ≤ n + 15 := by unfold up; omega
  have hN2 : up n + stack ≤ N ∧ (N : Int) ≤ 2097152 := by rw [← hN]; unfold up at hs2 ⊢; omega
  generalize up n = u at *
  have cl2 := fun w => up_ (u + stack) (by omega) (by omega) w
  rw [hN] at cl2
  have HC := Lib.hid hc
  clear hc
  have f1 : ¬ 2097152 < stack := by omega
  have f2 : ¬ stack < 0 := by omega
  have f3 : ¬ e < 0 := by omega
  have f4 : ¬ 4294967295 < e := by omega
  have f5 : ¬ 2097152 < (N : Int) := by omega
  have i1 : IntKind.i64.wrap (u + stack) = u + stack := by rw [IntKind.wrap_i64]; omega
  have i2 : (0 : Int) ≤ u := by omega
  have i3 : IntKind.u32.wrap e = e := by rw [IntKind.wrap_u32']; omega
  have hmk := fun w => make_ N (by omega) w
  clear hN
  go_enter Try.func15, Try.ntmps15
  go_upto_region 3 with (first
    | (go_at_call 26; (with_reducible refine (cl1 _).mono ?_); rintro e1 w1 ⟨rfl, rfl⟩)
    | (go_at_call 26; (with_reducible refine (cl2 _).mono ?_); rintro e1 w1 ⟨rfl, rfl⟩))
  go_cut [6] from 8 (fun s6 wx => Made w e p n cc N s6 wx)
  case first =>
    go_region_held3 (fun w' => w'.cell? ⟨w.heap.size, 0, none⟩ = some (.int .i64 e) ∧ w'.cell? ⟨w.heap.size, 1, none⟩ = some (.slice p n cc)) (first | go_keep | (refine ⟨?_, ?_⟩ <;> (rw [setRow_cell _ _ _ _ _ (by omega)]; go_simp)))
      ((first
        | (go_at_call 26; (with_reducible refine (cl1 _).mono ?_); rintro e1 w1 ⟨rfl, rfl⟩)
        | (go_at_call 26; (with_reducible refine (cl2 _).mono ?_); rintro e1 w1 ⟨rfl, rfl⟩)
        | (rw [store_new _ _ _ _ (rzero_list _ _ _) _ (by simp) (r_size _ _ _ _) rzero_size (r_one _ _ _ _)]; go_simp)
        | (rw [store_mid _ _ _ _ _ (rzero_list _ _ _) _ (by simp) (r_size _ _ _ _) rzero_size (r_one _ _ _ _)]; go_simp)))
    all_goals (go_wp2; go_meet; first | exact made_1 w e p n cc N | exact made_2 w e p n cc N)
  case rest =>
    obtain ⟨rb, bm, rfl, hrb, hbm, q1, q2, q3, himg, hres, hbel⟩ := hcut
    clear i1 i3 hmk cl2
    have HU := Lib.hid hu
    have h0 : Lays w e p n cc N rb bm f 0 wc := ⟨hrb, by rw [← none_laid]; exact hbm, himg, hres, hbel⟩
    have H0 := Lib.hid h0
    have n1 := cell_of_row _ w.heap.size 1 _ _ _ himg
    clear hrb hbm himg hres h0
    go_wp2
    clear n1
    go_loopw [50] (fun s50 wr => ∃ k : Nat, k ≤ n ∧ s50 = .int .i64 k ∧ Lays w e p n cc N rb bm f k wr) (fun i _ => n - (intOf i).toNat)
    case atStart => exact ⟨0, Nat.zero_le _, rfl, H0.out⟩
    case round =>
      obtain ⟨k, hk, rfl, L⟩ := hrel
      have n1 := cell_of_row _ w.heap.size 1 _ _ _ L.i
      have n2 := (cell_of_row _ rb 0 _ _ _ L.m).trans (r_0 _ _ _ _)
      have HL := Lib.hid L
      clear L
      by_cases hlt : k < n
      · obtain ⟨g, o, rfl, hg, hcell⟩ := HC.out k hlt
        have n3 := (HL.out.below.cell (p := ⟨g, o + k, none⟩) hg).trans hcell
        have n4 := frozen_of_row _ bm k _ _ HL.out.b
        have n5 := (cell_of_row _ bm k _ _ _ HL.out.b).trans (byte_at _ (show k < N by omega))
        clear hcell
        have b1 : (0 : Int) ≤ (k : Int) := by omega
        have b2 : (k : Int) < (N : Int) := by omega
        have b3 : (k : Int) < (n : Int) := by omega
        go_wp2
        go_region_held3 (fun w' => w'.cell? ⟨w.heap.size, 1, none⟩ = some (.slice (some ⟨g, o, none⟩) n cc) ∧ w'.cell? ⟨rb, 0, none⟩ = some (.slice (some ⟨bm, 0, none⟩) N N) ∧ w'.cell? ⟨g, o + k, none⟩ = some (.int .u8 (f k))) (first | exact ⟨(setCell_cell _ _ _ _ _ _ (by omega)).trans n1, (setCell_cell _ _ _ _ _ _ q3).trans n2, (setCell_cell _ _ _ _ _ _ (by omega)).trans n3⟩ | exact ⟨n1, n2, n3⟩ | go_keep) (fail)
        all_goals go_wp2
        all_goals exact ⟨⟨k + 1, by omega, by go_num, HL.out.next q1 q2 q3 (by omega)⟩, by simp [intOf]; omega⟩
      · have hkn : k = n := by omega
        subst hkn
        have n4 := frozen_of_row _ rb 3 _ _ HL.out.m
        have n5 := (cell_of_row _ rb 3 _ _ _ HL.out.m).trans (r_x _ _ _ _ (i := 2) (by omega))
        have n6 := frozen_of_row _ rb 28 _ _ HL.out.m
        have n7 := (cell_of_row _ rb 28 _ _ _ HL.out.m).trans (r_x _ _ _ _ (i := 27) (by omega))
        have i5 : IntKind.u32.wrap (N : Int) = N := by rw [IntKind.wrap_u32']; omega
        have HV := Lib.hid (HL.out.words u)
        have HR := Lib.hid ((HL.out.rest (.int .u32 N) (.int .u32 u) (w.heap.size + 1) (by omega)).trans HL.out.r)
        have HM := Lib.hid ((HL.out.rest (.int .u32 N) (.int .u32 u) bm (by omega)).trans HL.out.b)
        have HB := Lib.hid ((HL.out.below.setCell (p := ⟨rb, 3, none⟩) (by show w.heap.size ≤ rb; omega) (.int .u32 N)).setCell (p := ⟨rb, 28, none⟩) (by show w.heap.size ≤ rb; omega) (.int .u32 u))
        go_wp2_with (first
          | (go_at_call 26; (with_reducible refine (cl1 _).mono ?_); rintro e1 w1 ⟨rfl, rfl⟩)
          | (refine load_m rfl _ rfl rb rfl bm N (loaded f k u N e) 0 HV.out ?_)
          | (refine store_m rfl _ _ rfl (w.heap.size + 1) rfl bm N (loaded f k u N e) 0 rfl _ HR.out rzero_size ?_))
        refine rfin (k := w.heap.size + 1) rfl rfl (setRow_heap _ _ _ _ _ _ HR.out) (r_size _ _ _ _) ⟨bm, rfl, (setRow_other _ _ _ _ (by omega)).trans HM.out, by omega, below_setRow HB.out (by omega) _⟩
theorem rzero_one : Try.zeroCells47.all (·.oneCell') = true := by kernel_rfl
theorem store_z {ops : Array Oper} {rest : List Oper} {o : Oper} {a : Act} {w : World} {Q : Exit → Act → World → Prop} (hgd : o.guard = none) (x y : Operand) (ho : o.op = .store 47 x y) (g : Nat) (hx : a.eval x = .pointer (some ⟨g, 0, none⟩))
    (hy : a.eval y = .agg Try.zeroCells47) (old : Array Value) (hg : w.heap[g]? = some (.cells old 47 (0, 0))) (h68 : old.size = 68) (hK : wpList Try.prog ops Q rest (a.put o.dst undef) (w.setRow g Try.zeroCells47)) : wpList Try.prog ops Q (o :: rest) a w :=
  wpList_store_row hgd 47 x y ho g Try.zeroCells47 hx hy 47 old hg (by rw [rzero_size]; exact r_info) (by rw [h68, rzero_size]) rzero_one hK
/-- an image that the document's Load refuses -/
def Refuses (w : World) (r : Ending) (w' : World) : Prop := r = .returned (.tuple #[.agg Try.zeroCells47, .bool false]) ∧ Below w.heap.size w w'
theorem refuses_ (w : World) (o : Obj) {tmps : Array Value} (hp : tmps.getD 4 undef = .pointer (some ⟨w.heap.size + 1, 0, none⟩)) (hb : tmps.getD 5 undef = .bool false) :
    bodyPost Try.prog Try.f15 (Refuses w) .ret { tmps := tmps, defers := [] } (((w.alloc o).alloc (.cells Try.zeroCells47 47)).setRow (w.heap.size + 1) Try.zeroCells47) :=
  rfin (k := w.heap.size + 1) hp hb (setRow_heap _ _ _ _ _ _ (new_at _ _ _ (by simp))) rzero_size ⟨rfl, below_setRow (((Below.refl _ _).alloc (Nat.le_refl _) _).alloc (by simp) _) (by omega) _⟩
set_option maxRecDepth 100000 in
set_option maxHeartbeats 2000000 in
theorem rload_no (e : Int) (p : Option Addr) (n cc : Nat) (stack : Int) (hn : n ≤ 4000) (h : stack < 0 ∨ 2097152 < stack ∨ e < 0 ∨ 4294967295 < e ∨ 2097152 < up (up n + stack)) (w : World) :
    Calls Try.prog 15 #[.agg #[.int .i64 e, .slice p n cc], .int .i64 stack] w (Refuses w) := by
  have HZ := Lib.hid (show ((w.alloc (.cells #[.int .i64 e, .slice p n cc] 31)).alloc (.cells Try.zeroCells47 47)).heap[w.heap.size + 1]? = some (.cells Try.zeroCells47 47 (0, 0)) from new_at _ _ _ (by simp))
  have cl1 := fun w => up_ n (by omega) (by omega) w
  have hu : (n : Int) ≤ up n ∧ up n ≤ n + 15 := by unfold up; omega
  by_cases h1 : stack < 0
  · clear h cl1
    go_enter Try.func15, Try.ntmps15
    go_wp2_with ((with_reducible refine store_z rfl (.tmp 4) (.tmp 34) rfl (w.heap.size + 1) ?xb0 ?xc0 Try.zeroCells47 HZ.out rzero_size ?_); (case xb0 => simp [go_sem]); (case xc0 => simp [go_sem]))
    exact refuses_ w _ rfl rfl
  · by_cases h2 : 2097152 < stack
    · clear h cl1
      go_enter Try.func15, Try.ntmps15
      go_wp2_with ((with_reducible refine store_z rfl (.tmp 4) (.tmp 34) rfl (w.heap.size + 1) ?xb1 ?xc1 Try.zeroCells47 HZ.out rzero_size ?_); (case xb1 => simp [go_sem]); (case xc1 => simp [go_sem]))
      exact refuses_ w _ rfl rfl
    · by_cases h3 : e < 0
      · clear h cl1
        go_enter Try.func15, Try.ntmps15
        go_wp2_with ((with_reducible refine store_z rfl (.tmp 4) (.tmp 34) rfl (w.heap.size + 1) ?xb2 ?xc2 Try.zeroCells47 HZ.out rzero_size ?_); (case xb2 => simp [go_sem]); (case xc2 => simp [go_sem]))
        exact refuses_ w _ rfl rfl
      · by_cases h4 : 4294967295 < e
        · clear h cl1
          go_enter Try.func15, Try.ntmps15
          go_wp2_with ((with_reducible refine store_z rfl (.tmp 4) (.tmp 34) rfl (w.heap.size + 1) ?xb3 ?xc3 Try.zeroCells47 HZ.out rzero_size ?_); (case xb3 => simp [go_sem]); (case xc3 => simp [go_sem]))
          exact refuses_ w _ rfl rfl
        · have h5 : 2097152 < up (up n + stack) := by omega
          clear h
          generalize up n = u at *
          have cl2 := fun w => up_ (u + stack) (by omega) (by omega) w
          have i2 : (0 : Int) ≤ u := by omega
          generalize up (u + stack) = v at *
          go_enter Try.func15, Try.ntmps15
          go_wp2_with (first
            | (go_at_call 26; (with_reducible refine (cl1 _).mono ?_); rintro e1 w1 ⟨rfl, rfl⟩)
            | (go_at_call 26; (with_reducible refine (cl2 _).mono ?_); rintro e1 w1 ⟨rfl, rfl⟩)
            | ((with_reducible refine store_z rfl (.tmp 4) (.tmp 34) rfl (w.heap.size + 1) ?xb4 ?xc4 Try.zeroCells47 HZ.out rzero_size ?_); (case xb4 => simp [go_sem]); (case xc4 => simp [go_sem])))
          exact refuses_ w _ rfl rfl
end ML
end Go.Proofs.Ytanlccnhkiibeaa
/-
  Bytes of a machine, all of them or none; the statements' own comparison of a machine with the document's: contracts. No condition but those that are written at each.
-/
namespace Go.Proofs.Ytanlccnhkiibeaa
open Go.RowKit
set_option linter.unusedVariables false
set_option linter.unusedSimpArgs false
namespace MLb
open MM MC MW ML
set_option maxRecDepth 100000 in
set_option maxHeartbeats 2000000 in
theorem clone_0 (w : World) (bm a c : Nat) :
    Calls Try.prog 25 #[.slice (some ⟨bm, a, none⟩) 0 c] w fun e w' => ∃ gb cap, e = .returned (.slice (some ⟨gb, 0, none⟩) 0 cap) ∧ w'.ownsRow w.heap.size 5 1 (.slice (some ⟨gb, 0, none⟩) 0 cap) 0 [] ∧ Below w.heap.size w w' := by
  obtain ⟨i0, hi, hz0, hz1, hz2⟩ := info_parts MB.u8_info
  have hw0 := World.ownsRow_lit (base := w.heap.size) (e := 5) (size := 1) w #[] 0 (Nat.le_refl _) (Nat.zero_le _) rfl
  have HO := Lib.hid hw0
  clear hw0
  have hq : ∀ w, (binOp .eql 22 (.slice (some ⟨bm, a, none⟩) 0 c) (.slice none 0 0)).run Try.prog w = .ok (.bool false) w := fun w => by first | rfl | kernel_rfl
  go_enter Try.func25, Try.ntmps25
  go_wp2_with (at_builtin; refine wpList_append_own_at _ rfl _ _ 22 rfl w.heap.size 5 i0 (.int .u8 0) 1 1 Try.underlying22 hi hz0 hz1 hz2 rfl (by decide) _ _ _ rfl HO.out ⟨bm, a, none⟩ 0 c [] rfl rfl (fun j u h => by rw [List.getElem?_nil] at h; cases h) (fun u hu => by cases hu) (by unfold maxLen; omega) (by omega) (by simp only [World.size_alloc]; omega) ?_; intro v3 w3 hown3 hgrow3 hnil3 hat3; have HO3 := Lib.hid hown3; have HG := Lib.hid hgrow3; have HN := Lib.hid hnil3; clear hown3 hgrow3 hat3 hnil3)
  go_ret
  have ho : w3.ownsRow w.heap.size 5 1 v3 0 [] := HO3.out
  have hb : Below w.heap.size w w3 := ((Below.refl _ _).alloc (Nat.le_refl _) _).grown HG.out (by simp only [World.size_alloc]; omega) (fun g hg => (HO.out.lt g hg).1)
  rcases ho.2 with ⟨h0, _⟩ | ⟨g, cap, cur, hv, _⟩
  · obtain ⟨h1, _⟩ := HN.out.1 h0
    cases h1
  · subst hv
    exact ⟨g, cap, rfl, ho, hb⟩
/-- Bytes, inside, be they none -/
theorem bytes_all {w : World} {b bm N : Nat} {s : St} (A : At w b bm N s) (hN : N ≤ 2097152) (a n : Nat) (h : a + n ≤ N) :
    Calls Try.prog 11 #[.pointer (some ⟨b, 0, none⟩), .int .i64 a, .int .i64 n] w fun e w' => ∃ gb cap, e = .returned (.tuple #[.slice (some ⟨gb, 0, none⟩) n cap, .int .i64 0]) ∧ w'.ownsRow w.heap.size 5 1 (.slice (some ⟨gb, 0, none⟩) n cap) n (MB.u8s (MCl.part s.mem a n)) ∧ Below w.heap.size w w' := by
  by_cases hn : 0 < n
  · exact MCl.bytes_in A hN a n hn h
  · obtain rfl : n = 0 := by omega
    have x0 := A.c0
    have cc := fun a c => clone_0 w bm a c
    have HE := Lib.hid (show MB.u8s (MCl.part s.mem a 0) = [] from rfl)
    clear A
    by_cases hc : a = N
    · subst hc
      go_enter Try.func11, Try.ntmps11
      go_wp2_with (go_at_call 25; (with_reducible refine (cc _ _).mono ?_); rintro e w1 ⟨gb, cap, rfl, ho, hb⟩; have HO := Lib.hid ho; have HB := Lib.hid hb; clear ho hb)
      go_ret2
      exact ⟨gb, cap, rfl, HO.out, HB.out⟩
    · have hc2 : a < N := by omega
      clear hc
      go_enter Try.func11, Try.ntmps11
      go_wp2_with (go_at_call 25; (with_reducible refine (cc _ _).mono ?_); rintro e w1 ⟨gb, cap, rfl, ho, hb⟩; have HO := Lib.hid ho; have HB := Lib.hid hb; clear ho hb)
      go_ret2
      exact ⟨gb, cap, rfl, HO.out, HB.out⟩
theorem mem_row {w : World} {bm N : Nat} {s : St} (h : Mem w bm N s) (hN : N ≤ 2097152) : w.ownsRow 0 5 1 (.slice (some ⟨bm, 0, none⟩) N N) N (MB.u8s (MCl.part s.mem 0 N)) := by
  refine ⟨by simp [MB.u8s, MCl.part], .inr ⟨bm, N, MC.bytes N s, rfl, Nat.zero_le _, h, Nat.le_refl _, by unfold maxLen; omega, by simp [MC.bytes, row_size], ?_⟩⟩
  have e : (MC.bytes N s).toList = MB.u8s (MCl.part s.mem 0 N) := by
    unfold MC.bytes row MB.u8s MCl.part
    simp
  rw [e, List.take_of_length_le (by simp [MB.u8s, MCl.part])]
theorem dn {B : Nat} {a w : World} {q : Nat} (h : Below B a w) : Below B a (w.drewN q) := ⟨h.os, h.tape, h.output, h.size, h.block⟩
set_option maxRecDepth 100000 in
set_option maxHeartbeats 4000000 in
/-- all that is told of a machine is the document's -/
theorem tells_ {w : World} {b bm N : Nat} {s : St} (A : At w b bm N s) (bm2 : Nat) (c : Int) (h2 : Mem w bm2 N s) (hN : N ≤ 2097152) (hx : ∀ k, 0 ≤ s.x k ∧ s.x k ≤ 4294967295) :
    Calls Try.prog 16 #[.pointer (some ⟨b, 0, none⟩), .agg (rcells bm2 N s c)] w fun e w' => e = .returned (.bool true) ∧ Below w.heap.size w w' := by
  have HG := Lib.hid (heap_alloc_new w (.cells (rcells bm2 N s c) 47))
  have HA := Lib.hid A
  have HM := Lib.hid h2
  have HX := Lib.hid hx
  have hlb := lt_of_get A.head
  have hlbm := lt_of_get A.mem
  have hlm := lt_of_get h2
  clear A h2 hx
  go_enter Try.func16, Try.ntmps16
  go_wp2
  go_loopw [5] (fun s5 wr => ∃ k : Nat, k ≤ 32 ∧ s5 = .int .i64 k ∧ Below (w.heap.size + 1) (w.alloc (.cells (rcells bm2 N s c) 47)) wr) (fun i _ => 32 - (intOf i).toNat)
  case atStart => exact ⟨0, by omega, rfl, Below.refl _ _⟩
  case round =>
    obtain ⟨k, hk, rfl, hbel⟩ := hrel
    have hsz := hbel.size
    simp only [World.size_alloc] at hsz
    have hbw : Below w.heap.size w wr := ((Below.refl _ _).alloc (Nat.le_refl _) _).trans (hbel.mono (by omega))
    have A1 := HA.out.kept (hbw.block b hlb) (hbw.block bm hlbm)
    have hbox := (hbel.block w.heap.size (by omega)).trans HG.out
    have HB := Lib.hid hbel
    have HBW := Lib.hid hbw
    clear hbel
    by_cases hlt : k < 32
    · have c1 := (cell_of_row _ w.heap.size (1 + k) _ _ _ hbox).trans (r_x _ _ _ _ hlt)
      have c2 := (cell_of_row _ w.heap.size (33 + k) _ _ _ hbox).trans (r_f _ _ _ _ hlt)
      have cW := fun q => MR.word_ (A1.kept (w' := wr.drewN q) rfl rfl) k hlt
      have cR := fun q => MR.real_ (A1.kept (w' := wr.drewN q) rfl rfl) k hlt
      have b1 : (0 : Int) ≤ (k : Int) := by omega
      have b2 : (k : Int) < 32 := by omega
      generalize s.x k = xk at *
      generalize s.f k = fk at *
      clear A1 hbw hbox
      go_wp2
      go_quiet ((first | (go_at_call 13; exact Calls.quiet_of_same ((cW _).mono fun _ _ h => ⟨h.1, h.2.symm⟩)) | (go_at_call 21; exact Calls.quiet_of_same ((cR _).mono fun _ _ h => ⟨h.1, h.2.symm⟩))))
      go_wp2
      exact ⟨⟨k + 1, by omega, by go_num, dn HB.out⟩, by simp [intOf]; omega⟩
    · have hk2 : k = 32 := by omega
      subst hk2
      have hb1 := lt_of_get A1.head
      have hb2 := lt_of_get A1.mem
      have M1 : Mem wr bm2 N s := (hbw.block bm2 hlm).trans HM.out
      have c0 := (cell_of_row _ w.heap.size 0 _ _ _ hbox).trans (r_0 _ _ _ _)
      have cb1 : Calls Try.prog 11 #[.pointer (some ⟨b, 0, none⟩), .int .i64 0, .int .i64 (N : Int)] wr _ := bytes_all A1 hN 0 N (by omega)
      have e1 : IntKind.i64.wrap ((N : Int) + 1) = (N : Int) + 1 := by rw [IntKind.wrap_i64]; omega
      have HBX := Lib.hid hbox
      have HA1 := Lib.hid A1
      have HM1 := Lib.hid M1
      clear A1 hbw hbox M1
      go_upto_region 9 with (first
        | (go_at_call 11; (with_reducible refine cb3.mono ?_); rintro e w4 ⟨rfl, rfl⟩)
        | (go_at_call 11; (with_reducible refine cb2.mono ?_); rintro e w3 ⟨rfl, rfl⟩)
        | (go_at_call 11; (with_reducible refine cb1.mono ?_); rintro e w2 ⟨gb, cap, rfl, ho, hb⟩; have A2 := HA1.out.kept (hb.block b hb1) (hb.block bm hb2); have cb2 := MZ.bytes_out A2 hN 0 ((N : Int) + 1) (by omega); have cb3 := MZ.bytes_out A2 hN (-1) 2 (by omega); have c0' := (hb.cell (p := ⟨w.heap.size, 0, none⟩) (by show w.heap.size < _; omega)).trans c0; have HO := Lib.hid ho; have HB2 := Lib.hid hb; have HA2 := Lib.hid A2; clear ho hb A2 c0))
      have A2 := HA2.out
      have hbox2 := (HB2.out.block w.heap.size (by omega)).trans HBX.out
      have c65 := (cell_of_row _ w.heap.size 65 _ _ _ hbox2).trans (r_pc _ _ _ _)
      have hv1 := fun q => MCr.conv_row (W := w2.drewN q) HO.out
      have hM2 : Mem w2 bm2 N s := (HB2.out.block bm2 (by omega)).trans HM1.out
      have hv2 := fun q => MCr.conv_row (W := w2.drewN q) (mem_row (w := w2.drewN q) hM2 hN)
      have cP := fun q => MR.place_ (A2.kept (w' := w2.drewN q) rfl rfl)
      have cW1 := fun q => MZ.word_out (A2.kept (w' := w2.drewN q) rfl rfl) (-1) (by omega)
      have cW2 := fun q => MZ.word_out (A2.kept (w' := w2.drewN q) rfl rfl) 32 (by omega)
      have cR := fun q => MZ.real_out (A2.kept (w' := w2.drewN q) rfl rfl) 32 (by omega)
      have hbf : Below w.heap.size w w2 := HBW.out.trans (HB2.out.mono (by omega))
      have HBF := Lib.hid hbf
      generalize MCr.strOf _ = st at *
      generalize s.pc = pc at *
      clear A2 hbox2 hM2 hbf
      go_quiet ((first
        | (go_at_call 12; with_reducible exact Calls.quiet_of_same ((cP _).mono fun _ _ h => ⟨h.1, h.2.symm⟩))
        | (go_at_call 13; with_reducible exact Calls.quiet_of_same ((cW1 _).mono fun _ _ h => ⟨h.1, h.2.symm⟩))
        | (go_at_call 13; with_reducible exact Calls.quiet_of_same ((cW2 _).mono fun _ _ h => ⟨h.1, h.2.symm⟩))
        | (go_at_call 21; with_reducible exact Calls.quiet_of_same ((cR _).mono fun _ _ h => ⟨h.1, h.2.symm⟩))))
      go_wp2
      go_ret
      exact ⟨rfl, dn HBF.out⟩
end MLb
end Go.Proofs.Ytanlccnhkiibeaa
/-
  An image as a parameter: opened, and shut again behind every call that made blocks of its own alone. No condition.
-/
namespace Go.Proofs.Ytanlccnhkiibeaa
open Go.RowKit Go.ChangeShapes Go.WideShapes Go.ChangeAt
set_option linter.unusedVariables false
set_option linter.unusedSimpArgs false
namespace MLc
open MM MC MO
section
variable {H : Type} {enc : TypeId × Value → H}
set_option maxRecDepth 100000 in
theorem open_bytes {W : World} {c : Value} {d : DataW H} {p : List MemPlace} {fuel : Nat} (hf : DataW.trod enc Try.prog W 0 (fun _ => true) true fuel 22 [c] = some (d, p)) :
    ∃ xs : List Int, Arg .u8 W c xs ∧ (∀ x ∈ xs, (Lit.int .u8 x).wf = true) ∧ ∀ (W' : World) (sp : Nat → Bool), (∀ b, b < W.heap.size → sp b = true) → Below W.heap.size W W' → DataW.trod enc Try.prog W' 0 sp true 2 22 [c] = some (d, p) := by
  rcases open_ints Try.underlying22 Try.underlying5 (by kernel_rfl) hf with ⟨hcs, hx⟩ | ⟨a, len, cap, zs, hcs, _, hl, hm, hz, hx, hcell, hwz⟩
  · simp only [List.cons.injEq, and_true] at hcs
    subst hcs
    simp only [Prod.mk.injEq] at hx
    obtain ⟨rfl, rfl⟩ := hx
    exact ⟨[], ⟨none, 0, rfl, fun h => absurd rfl h⟩, fun _ h => (by cases h), fun W' sp hsp hb => by simp [DataW.trod, Value.cells, Try.underlying22]⟩
  · simp only [List.cons.injEq, and_true] at hcs
    subst hcs
    simp only [Prod.mk.injEq] at hx
    obtain ⟨rfl, rfl⟩ := hx
    simp only [if_true] at hz
    have hlen : (zs.take len).length = len := by simp; omega
    refine ⟨zs.take len, ⟨some a, cap, by rw [hlen], fun h0 => ?_⟩, fun x hx => hwz x (List.mem_of_mem_take hx), fun W' sp hsp hb => shut_ints 0 Try.underlying22 Try.underlying5 (by kernel_rfl) (Nat.zero_le _) hl hm ?_ (fun i hi => ?_) hwz⟩
    · have hp : 0 < zs.length := by
        rcases zs with _ | ⟨z, zs⟩
        · simp at h0
        · simp
      obtain ⟨b, off, rfl, hc2⟩ := ints_at hcell hp
      refine ⟨b, off, rfl, by omega, by omega, cell_lt (hc2 0 hp), fun j x hj => ?_⟩
      have hjl : j < len := by
        have := (List.getElem?_eq_some_iff.1 hj).1
        omega
      rw [List.getElem?_take, if_pos hjl] at hj
      rw [hc2 j (by omega), List.getD_eq_getElem?_getD, hj]; rfl
    · by_cases hp : 0 < zs.length
      · obtain ⟨b, off, rfl, hc2⟩ := ints_at hcell hp
        rw [if_pos (hsp b (cell_lt (hc2 0 hp)))]; exact hz
      · split <;> omega
    · have hp : 0 < zs.length := by omega
      obtain ⟨b, off, rfl, hc2⟩ := ints_at hcell hp
      exact (hb.cell (p := (⟨b, off, none⟩ : Addr).add i) (by rw [block_add]; exact cell_lt (hc2 0 hp))).trans (hcell i hi)
theorem two_i : Try.prog.cellsOf 31 = 2 := by kernel_rfl
theorem one_b : Try.prog.cellsOf 22 = 1 := by kernel_rfl
theorem list2 {α : Type} (l : List α) (h : l.length = 2) : ∃ a b, l = [a, b] := by
  match l, h with
  | [a, b], _ => exact ⟨a, b, rfl⟩
set_option maxRecDepth 100000 in
theorem open_image {W : World} {base : Nat} {v : Value} {d : DataW H} {p : List MemPlace} (hval : Value.okWide Try.prog W .any base 31 v) (h1 : DataW.Trod enc Try.prog W 0 (fun _ => true) true 31 v d p) :
    ∃ (e : Int) (vb : Value) (xs : List Int), v = .agg #[.int .i64 e, vb] ∧ (Lit.int .i64 e).wf = true ∧ Arg .u8 W vb xs ∧ (∀ x ∈ xs, (Lit.int .u8 x).wf = true) ∧ ∀ (W' : World) (sp : Nat → Bool), (∀ b, b < W.heap.size → sp b = true) → Below W.heap.size W W' → DataW.Trod enc Try.prog W' 0 sp true 31 v d p := by
  obtain ⟨cs, rfl, hsz, _⟩ : ∃ cs, v = .agg cs ∧ cs.size = Try.prog.cellsOf 31 ∧ Row.okWide Try.prog W .any base 31 cs := by
    simpa [Value.okWide, Try.underlying31] using hval
  rw [two_i] at hsz
  obtain ⟨l⟩ := cs
  obtain ⟨c0, c1, rfl⟩ := list2 l (by simpa using hsz)
  obtain ⟨fuel, hf⟩ := h1
  have hf' : DataW.trod enc Try.prog W 0 (fun _ => true) true fuel 31 [c0, c1] = some (d, p) := hf
  obtain ⟨y0, y1, m, hx, hl, h0, h1⟩ := trod_struct2 Try.underlying31 hf'
  have g0 : DataW.trod enc Try.prog W 0 (fun _ => true) true m 3 [c0] = some y0 := by simpa [CP.one3] using h0
  have g1 : DataW.trod enc Try.prog W 0 (fun _ => true) true m 22 [c1] = some y1 := by simpa [one_b] using h1
  obtain ⟨x0, e0, rfl, w0⟩ := DataW.trod_int Try.underlying3 g0
  simp only [List.cons.injEq, and_true] at e0
  subst e0
  obtain ⟨d1, p1⟩ := y1
  obtain ⟨xs, ha, hw, hs⟩ := open_bytes g1
  simp only [Prod.mk.injEq] at hx
  obtain ⟨rfl, rfl⟩ := hx
  refine ⟨x0, c1, xs, rfl, w0, ha, hw, fun W' sp hsp hb => ⟨3, ?_⟩⟩
  have i0 : DataW.trod enc Try.prog W' 0 sp true 2 3 [.int .i64 x0] = some (.lit (.int .i64 x0), []) := trod_int_mk 1 Try.underlying3 w0
  have i1 := hs W' sp hsp hb
  exact trod_struct2_mk (n := 2) (y0 := (.lit (.int .i64 x0), [])) (y1 := (d1, p)) Try.underlying31 hl (by simpa [CP.one3, Value.cells] using i0) (by simpa [one_b, Value.cells] using i1)
end
end MLc
end Go.Proofs.Ytanlccnhkiibeaa
/-
  Bytes of an argument appended to a row of one's own; a row as an argument; whole machines stored into a new block. No condition but those that are written at each.
-/
namespace Go.Proofs.Ytanlccnhkiibeaa
open Go.RowKit
set_option linter.unusedVariables false
set_option linter.unusedSimpArgs false
namespace MLd
open MM MC MW ML MB
section
variable (w : World)
theorem run_append_none0 (t ty : TypeId) (base : Nat) (e : TypeId) (i : TypeInfo) (size : Nat) (ht : Try.prog.underlying t = some (.slice e)) (hi : Try.prog.info? e = some i)
    (v : Value) (n : Nat) (xs : List Value) (hown : w.ownsRow base e size v n xs) (c : Nat) :
    (Builtin.append_ #[t, t] ty #[v, .slice none 0 c]).run Try.prog w = .ok v w := by
  rcases hown.2 with ⟨rfl, rfl⟩ | ⟨g, cap, cur, rfl, _, _, hnc, _⟩
  · simp [Builtin.append_, run_underlying ht, sizeOf, typeInfo, hi, Builtin.lenOf, Builtin.firstCells]
  · simp [Builtin.append_, run_underlying ht, sizeOf, typeInfo, hi, Builtin.lenOf, Builtin.firstCells, hnc, storeCells]
/-- bytes that came in are appended -/
theorem run_append_arg8 (ty : TypeId) (base : Nat) (v : Value) (n : Nat) (xs : List Value) (hown : w.ownsRow base 5 1 v n xs) (v2 : Value) (ys : List Int) (hA : MO.Arg .u8 w v2 ys)
    (h63 : n + ys.length ≤ 100000) (hbase : base ≤ w.heap.size) :
    ∃ v' w', (Builtin.append_ #[22, 22] ty #[v, v2]).run Try.prog w = .ok v' w' ∧ w'.ownsRow base 5 1 v' (n + ys.length) (xs ++ u8s ys) ∧ w.grownBy w' v.ownBlock ∧ (v'.ownBlock = v.ownBlock ∨ v'.ownBlock = some w.heap.size) := by
  obtain ⟨i0, hi, hz0, hz1, hz2⟩ := info_parts MB.u8_info
  obtain ⟨p, c, rfl, h⟩ := hA
  have one : ∀ u ∈ u8s ys, u.oneCell' = true := fun u hu => by
    obtain ⟨x, _, rfl⟩ := List.mem_map.1 hu
    rfl
  by_cases h0 : ys = []
  · subst h0
    cases p with
    | none =>
      refine ⟨v, w, run_append_none0 w _ ty base _ i0 1 Try.underlying22 hi v n xs hown c, ?_, ⟨rfl, rfl, rfl, Nat.le_refl _, fun _ _ _ => rfl⟩, .inl rfl⟩
      simpa [u8s] using hown
    | some ad =>
      obtain ⟨v', w', hr, h2, h3, _, h5⟩ := run_append_own_at (P := Try.prog) w base 22 ty 5 i0 (.int .u8 0) 1 1 Try.underlying22 hi hz0 hz1 hz2 rfl (by decide) v n xs hown ad 0 c [] rfl (fun j u h => by rw [List.getElem?_nil] at h; cases h) (fun u hu => by cases hu) (by unfold maxLen; omega) (by omega) hbase
      exact ⟨v', w', hr, by simpa [u8s] using h2, h3, h5⟩
  · obtain ⟨g, o, rfl, q1, q2, q3, q4⟩ := h h0
    obtain ⟨v', w', hr, h2, h3, _, h5⟩ := run_append_own_at (P := Try.prog) w base 22 ty 5 i0 (.int .u8 0) 1 1 Try.underlying22 hi hz0 hz1 hz2 rfl (by decide) v n xs hown ⟨g, o, none⟩ ys.length c (u8s ys) (by simp [u8s]) (fun j u hj => by
      unfold u8s at hj
      rw [List.getElem?_map] at hj
      obtain ⟨x, hx, rfl⟩ := Option.map_eq_some_iff.1 hj
      rw [Addr.add_mid]
      exact q4 j x hx) one (by unfold maxLen; omega) (by omega) hbase
    exact ⟨v', w', hr, h2, h3, h5⟩
theorem wpList_append_arg8 {ops : Array Oper} {rest : List Oper} {o : Oper} {a : Act} {Q : Exit → Act → World → Prop} (hgd : o.guard = none) (s x : Operand)
    (ho : o.op = .call { callee := .builtin .append, args := #[s, x], argTypes := #[22, 22] })
    (base : Nat) (v : Value) (n : Nat) (xs : List Value) (hs : a.eval s = v) (hown : w.ownsRow base 5 1 v n xs) (v2 : Value) (ys : List Int) (hx : a.eval x = v2) (hA : MO.Arg .u8 w v2 ys)
    (h63 : n + ys.length ≤ 100000) (hbase : base ≤ w.heap.size)
    (h : ∀ p l c w', w'.ownsRow base 5 1 (.slice p l c) (n + ys.length) (xs ++ u8s ys) → w.grownBy w' v.ownBlock → ((Value.slice p l c).ownBlock = v.ownBlock ∨ (Value.slice p l c).ownBlock = some w.heap.size) → wpList Try.prog ops Q rest (a.put o.dst (.slice p l c)) w') :
    wpList Try.prog ops Q (o :: rest) a w := by
  refine wpList_plain hgd fun K hK => ?_
  obtain ⟨v', w', hr, h2, h3, h4⟩ := run_append_arg8 w o.type base v n xs hown v2 ys hA h63 hbase
  obtain ⟨p, l, c, rfl⟩ := MV.own_form h2
  unfold Oper.wp execOp
  simp only [ho, resolve, invoke, builtin, Sem.run_bind, Sem.run_pure, Result.andThen_ok, List.map_toArray, List.map_cons, List.map_nil, hs, hx, hr]
  exact hK _ _ (h p l c w' h2 h3 h4)
end
theorem load_mg {ops : Array Oper} {rest : List Oper} {o : Oper} {a : Act} {w : World} {Q : Exit → Act → World → Prop} (hw : Region.wanted o (yielded ops a.tmps) = true) (x : Operand) (ho : o.op = .load 47 x) (g : Nat) (hx : a.eval x = .pointer (some ⟨g, 0, none⟩))
    (bm N : Nat) (s : St) (c : Int) (hg : w.heap[g]? = some (.cells (rcells bm N s c) 47 (0, 0))) (hK : wpList Try.prog ops Q rest (a.put o.dst (.agg (rcells bm N s c))) w) : wpList Try.prog ops Q (o :: rest) a w :=
  BigFrame.wpList_want hw fun _ hK' => wp_load_row 47 x ho g hx 47 (rcells bm N s c) (0, 0) _ hg Try.underlying47 rfl (by rw [r_size]; exact r_info) (hK' _ _ hK)
theorem arg_of_row {w : World} {B : Nat} {v : Value} {xs : List Int} (h : w.ownsRow B 5 1 v xs.length (u8s xs)) : MO.Arg .u8 w v xs := by
  rcases h.2 with ⟨rfl, h0⟩ | ⟨g, cap, cur, rfl, hb, hg, hn, hc, hs, ht⟩
  · have : xs = [] := List.eq_nil_of_length_eq_zero h0
    subst this
    exact ⟨none, 0, rfl, fun h => absurd rfl h⟩
  · refine ⟨_, cap, rfl, fun _ => ⟨g, 0, rfl, hn, hc, lt_of_get hg, fun j x hj => ?_⟩⟩
    rw [Nat.zero_add]
    have h2 := h.cellAt j (by have := (List.getElem?_eq_some_iff.1 hj).1; omega)
    rw [h2]
    simp [u8s, hj]
theorem at8_of_arg {w : World} {v : Value} {xs : List Int} (h : MO.Arg .u8 w v xs) : ∃ p c, v = .slice p xs.length c ∧ At8 w p xs.length (fun k => xs.getD k 0) := by
  obtain ⟨p, c, rfl, h⟩ := h
  refine ⟨p, c, rfl, fun k hk => ?_⟩
  obtain ⟨g, o, rfl, q1, q2, q3, q4⟩ := h (fun e => by subst e; simp at hk)
  refine ⟨g, o, rfl, q3, ?_⟩
  rw [q4 k _ (List.getElem?_eq_getElem hk)]
  show some (Value.int .u8 xs[k]) = some (Value.int .u8 (xs.getD k 0))
  rw [List.getD_eq_getElem?_getD, List.getElem?_eq_getElem hk]
  rfl
theorem arg_below {k : IntKind} {w w' : World} {v : Value} {xs : List Int} (h : MO.Arg k w v xs) (hb : Below w.heap.size w w') : MO.Arg k w' v xs := by
  obtain ⟨p, c, rfl, h⟩ := h
  refine ⟨p, c, rfl, fun h0 => ?_⟩
  obtain ⟨g, o, rfl, q1, q2, q3, q4⟩ := h h0
  exact ⟨g, o, rfl, q1, q2, Nat.lt_of_lt_of_le q3 hb.size, fun j x hj => (hb.cell (p := ⟨g, o + j, none⟩) q3).trans (q4 j x hj)⟩
end MLd
end Go.Proofs.Ytanlccnhkiibeaa
