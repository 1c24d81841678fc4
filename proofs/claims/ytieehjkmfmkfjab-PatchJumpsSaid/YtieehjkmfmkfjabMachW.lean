/-
  What the machine's exported functions answer but Run: each a contract.
-/
import Derived.Test.YtieehjkmfmkfjabMachC
import Derived.Deep.RegionHeld3
import Derived.Deep.RegionLaw
import Derived.Deep.DrawnRows
import Derived.Deep.OwnRows
import Derived.Laws.CopyOwn
import Derived.StillTailTactics
import Derived.Laws.OwnMore
namespace Go.Proofs.Ytieehjkmfmkfjab
open Go.RowKit
set_option linter.unusedVariables false
set_option linter.unusedSimpArgs false
namespace MW
attribute [local go_sem ↓] Go.wp_at_zero Go.wp_at_succ
open MM MC
def up (n : Int) : Int := (n + 15) / 16 * 16
theorem inLine_ (n : Int) (h0 : 0 ≤ n) (h1 : n ≤ 1000000000000) (w : World) : Calls Try.prog 32 #[.int .i64 n] w fun e w' => e = .returned (.int .i64 (up n)) ∧ w = w' := by
  have hb : 0 ≤ (n + 15) / 16 * 16 ∧ (n + 15) / 16 * 16 ≤ n + 15 := by omega
  have e1 := Lib.hid (show up n = (n + 15) / 16 * 16 from rfl)
  go_enter Try.func32, Try.ntmps32
  go_wp2
  go_ret
  exact ⟨ret_int (by rw [e1.out]; congr 2; omega), rfl⟩
theorem code_ {b bm N : Nat} {w : World} {s : St} (A : At w b bm N s) : Calls Try.prog 34 #[.pointer (some ⟨b, 0, none⟩)] w fun e w' => e = .returned (.int .u32 (if s.state = 1 then s.x 10 else 0)) ∧ w = w' := by
  have h1 := A.cst
  have h2 : w.cell? ⟨b, 11, none⟩ = some (.int .u32 (s.x 10)) := A.cx (i := 10) (by omega)
  clear A
  by_cases hs : s.state = 1
  · rw [hs] at h1
    rw [if_pos hs]
    clear hs
    go_enter Try.func34, Try.ntmps34
    go_wp2
    go_ret
    exact ⟨rfl, rfl⟩
  · rw [if_neg hs]
    have hn : (s.state != 1) = true := by simp [hs]
    clear hs
    go_enter Try.func34, Try.ntmps34
    go_wp2
    go_ret
    exact ⟨rfl, rfl⟩
/-- the machine at its beginning, but for its words and its bytes -/
def zero (e : Int) : St := ⟨fun _ => 0, fun _ => 0, fun _ => 0, e, 0⟩
set_option maxRecDepth 100000 in
theorem build_ (bm N : Nat) (e : Int) (w : World) : (Instr.build 81 #[(0, .slice (some ⟨bm, 0, none⟩) N N), (3, .int .u32 e)]).run Try.prog w = .ok (.agg (cells bm N (zero e))) w := by kernel_rfl
theorem u8_info : (Try.prog.info? 5).map (fun i => (i.zero, i.size, i.bytes)) = some (some (.int .u8 0), 1, 1) := by kernel_rfl
theorem new_at (w : World) (o : Obj) (k : Nat) (h : k = w.heap.size) : (w.alloc o).heap[k]? = some o := by subst h; exact heap_alloc_new w o
theorem rep_row (N : Nat) : Array.replicate N (Value.int .u8 0) = row N fun _ => .int .u8 0 := by
  apply Array.ext
  · simp [row]
  · intro i h1 h2; simp [row]
theorem make_ (N : Nat) (hN : N ≤ 2097152) (w : World) : (Instr.makeSlice 36 (.int .i64 N) (.int .i64 N)).run Try.prog w = .ok (.slice (some ⟨w.heap.size, 0, none⟩) N N) (w.alloc (.cells (row N fun _ => .int .u8 0) 5)) := by
  have h := run_make_row' (P := Try.prog) 36 5 (.int .u8 0) 1 Try.underlying36 u8_info rfl .i64 .i64 N (by omega) (by omega) w
  rw [h, show madeCells #[Value.int .u8 0] N = row N (fun _ => .int .u8 0) from by
    apply Array.ext'
    rw [toList_madeCells_one]
    unfold row
    apply List.ext_getElem <;> simp]
theorem still_ {P : Program} {id : Nat} {Q : Exit → Act → World → Prop} {a : Act} {w : World} {l : List Oper} (hm : P.follows .mixedOrders = true) (hB : Region.lexB .any l.toArray = true)
    (h : wpStill P l.toArray w.drew (fun a' => Q .normal a' w.drew) l a) : (Code.region id l.toArray true).wp P Q a w := wp_region_still_lit hm hB h
theorem tail_ {P : Program} {id : Nat} {Q : Exit → Act → World → Prop} {a : Act} {w : World} {l : List Oper} (n : Nat) (hm : P.follows .mixedOrders = true) (hB : Region.lexTailB .any l.toArray n = true)
    (h : wpStill P l.toArray w.drew (fun a' => wpList P l.toArray Q (l.drop n) a' w.drew) (l.take n) a) : (Code.region id l.toArray true).wp P Q a w := wp_region_still_tail n hm hB h
def bytesOf (f : Nat → Int) (n : Nat) : Nat → Int := fun k => if k < n then f k else 0
/-- a machine that is loaded -/
def loaded (f : Nat → Int) (n : Nat) (u : Int) (N : Nat) (e : Int) : St := ⟨bytesOf f n, upd (upd (fun _ => 0) 2 (N : Int)) 27 u, fun _ => 0, e, 0⟩
theorem row_copy (N n : Nat) (f : Nat → Int) (e : Int) (h : n ≤ N) :
    ((row N fun _ => Value.int .u8 0).toList.take 0 ++ ((List.range n).map (fun k => Value.int .u8 (f k)) ++ (row N fun _ => Value.int .u8 0).toList.drop (0 + ((List.range n).map (fun k => Value.int .u8 (f k))).length))).toArray = MC.bytes N { zero e with mem := bytesOf f n } := by
  apply Array.ext
  · simp [row, MC.bytes]; omega
  · intro i h1 h2
    simp [row, MC.bytes] at h2
    simp only [List.take_zero, List.nil_append, List.length_map, List.length_range, Nat.zero_add, MC.bytes, row, List.getElem_toArray]
    by_cases hi : i < n
    · rw [List.getElem_append_left (by simpa using hi)]
      simp [bytesOf, hi]
    · rw [List.getElem_append_right (by simp; omega)]
      simp [bytesOf, hi]
theorem zero_cells (bm N : Nat) (e : Int) : (Try.zeroCells81.setIfInBounds 0 (.slice (some ⟨bm, 0, none⟩) N N)).setIfInBounds 65 (.int .u32 e) = cells bm N (zero e) := by kernel_rfl
set_option maxRecDepth 100000 in
set_option maxHeartbeats 2000000 in
theorem load_ok (e : Int) (he : 0 ≤ e ∧ e ≤ 4294967295) (g o n cc : Nat) (stack : Int) (hn : n ≤ 1000000) (hs : 0 ≤ stack) (hs2 : stack + up n ≤ 2097152) (N : Nat) (hN : up (up n + stack) = N) (f : Nat → Int) (w : World) (hg : g < w.heap.size) (hc : ∀ k, k < n → w.cell? ⟨g, o + k, none⟩ = some (.int .u8 (f k))) :
    Calls Try.prog 14 #[.agg #[.int .i64 e, .slice (some ⟨g, o, none⟩) n cc], .int .i64 stack] w fun e1 w' => ∃ b bm, e1 = .returned (.tuple #[.pointer (some ⟨b, 0, none⟩), .int .i64 0]) ∧ At w' b bm N (loaded f n (up n) N e) ∧ w.heap.size ≤ b ∧ w.heap.size ≤ bm ∧ Below w.heap.size w w' := by
  have cl1 := fun w => inLine_ n (by omega) (by omega) w
  have hu : (n : Int) ≤ up n ∧ up n ≤ n + 15 := by unfold up; omega
  have hN2 : up n + stack ≤ N ∧ (N : Int) ≤ 2097152 := by rw [← hN]; unfold up at hs2 ⊢; omega
  generalize up n = u at *
  have cl2 := fun w => inLine_ (u + stack) (by omega) (by omega) w
  rw [hN] at cl2
  have HC := Lib.hid hc
  clear hc
  have f1 : ¬ 2097152 - u < stack := by omega
  have f2 : ¬ stack < 0 := by omega
  have f3 : ¬ e < 0 := by omega
  have f4 : ¬ 4294967295 < e := by omega
  have i1 : IntKind.i64.wrap (u + stack) = u + stack := by rw [IntKind.wrap_i64]; omega
  have i2 : (0 : Int) ≤ u := by omega
  have i3 : IntKind.u32.wrap e = e := by rw [IntKind.wrap_u32']; omega
  have hmk := fun w => make_ N (by omega) w
  have HZ := Lib.hid (zero_cells (w.heap.size + 1) N e)
  clear hN
  go_enter Try.func14, Try.ntmps14
  go_wp2_with (go_at_call 32; (with_reducible refine (cl1 _).mono ?_); rintro e1 w1 ⟨rfl, rfl⟩)
  go_region_held3 (fun w' => w'.cell? ⟨w.heap.size, 0, none⟩ = some (.int .i64 e)) (first | go_keep)
    ((go_at_call 32; (with_reducible refine (cl2 _).mono ?_); rintro e2 w2 ⟨rfl, rfl⟩))
  clear i1 i3 hmk cl1 cl2
  rw [HZ.out]
  generalize hW : ((((w.alloc (.cells #[.int .i64 e, .slice (some ⟨g, o, none⟩) n cc] 40)).alloc (.cells (row N fun _ => .int .u8 0) 5)).alloc (.cells (cells (w.heap.size + 1) N (zero e)) 81)).drew) = W
  have w1 : W.heap[w.heap.size + 1 + 1]? = some (.cells (cells (w.heap.size + 1) N (zero e)) 81 (0, 0)) := by
    subst hW; exact new_at _ _ _ (by simp)
  have w2 : W.heap[w.heap.size + 1]? = some (.cells (row N fun _ => .int .u8 0) 5 (0, 0)) := by
    subst hW
    exact (Below.heap_alloc _ _ _ (by simp)).trans (new_at _ _ _ (by simp))
  have w3 : W.cell? ⟨w.heap.size, 1, none⟩ = some (.slice (some ⟨g, o, none⟩) n cc) := by subst hW; go_simp
  have wb : Below w.heap.size w W := by
    subst hW
    exact ((((Below.refl _ _).alloc (Nat.le_refl _) _).alloc (by simp) _).alloc (by simp; omega) _).drew
  have wn : w.heap.size + 1 + 1 < W.heap.size := lt_of_get w1
  have w4 : W.cell? ⟨w.heap.size + 1 + 1, 0, none⟩ = some (.slice (some ⟨w.heap.size + 1, 0, none⟩) N N) := (cell_of_row W _ 0 _ _ _ w1).trans (cell_0 _ _ _)
  have W1 := Lib.hid w1
  have W2 := Lib.hid w2
  clear w1 w2 hW HZ
  go_wp2
  refine tail_ 6 (by kernel_rfl) (by kernel_rfl) ?_
  simp only [List.take_succ_cons, List.take_zero, List.drop_succ_cons, List.drop_zero]
  repeat still_step
  refine wpStill_nil ?_
  obtain ⟨cs, hcs⟩ : ∃ cs, cs = (List.range n).map (fun k => Value.int .u8 (f k)) := ⟨_, rfl⟩
  have hcl : cs.length = n := by rw [hcs]; simp
  have hcj : ∀ j v, cs[j]? = some v → j < n ∧ v = .int .u8 (f j) := fun j v h => by
    subst hcs
    rw [List.getElem?_map] at h
    by_cases hj : j < n
    · rw [List.getElem?_range hj] at h; exact ⟨hj, (Option.some.inj h).symm⟩
    · rw [List.getElem?_eq_none (by simpa using hj)] at h; cases h
  have W2d := Lib.hid (show W.drew.heap[w.heap.size + 1]? = some (.cells (row N fun _ => .int .u8 0) 5 (0, 0)) from W2.out)
  have HCS := Lib.hid hcs
  have HCL := Lib.hid hcl
  have HCJ := Lib.hid hcj
  clear hcs hcl hcj
  have Hb := Lib.hid (show ∀ (j : Nat) (v : Value), cs[j]? = some v → W.drew.cell? ((⟨g, o, none⟩ : Addr).add j) = some v from fun j v h => by
    obtain ⟨hj, rfl⟩ := HCJ.out j v h
    rw [Addr.add_mid]
    exact (wb.cell (p := ⟨g, o + j, none⟩) hg).trans (HC.out j hj))
  have Hd := Lib.hid (show ∀ v ∈ cs, v.oneCell' = true from fun v hv => by
    rw [HCS.out] at hv
    obtain ⟨k, _, rfl⟩ := List.mem_map.1 hv
    rfl)
  have Ha := Lib.hid (show cs.length = Nat.min n N by rw [HCL.out]; exact (Nat.min_eq_left (by omega)).symm)
  have Hc := Lib.hid (show 0 + cs.length ≤ (row N fun _ => Value.int .u8 0).size by rw [HCL.out, row_size]; omega)
  obtain ⟨D, hD⟩ : ∃ D, D = ((row N fun _ => Value.int .u8 0).toList.take 0 ++ (cs ++ (row N fun _ => Value.int .u8 0).toList.drop (0 + cs.length))).toArray := ⟨_, rfl⟩
  have HDD := Lib.hid hD
  clear hD
  go_wp2_with (refine wpList_copy_own (by rfl) _ _ 36 36 (by rfl) 5 Try.underlying36 (by kernel_rfl) (w.heap.size + 1) 0 N N ⟨g, o, none⟩ n cc (by rfl) (by rfl) (row N fun _ => .int .u8 0) 5 W2d.out cs Ha.out Hb.out Hc.out Hd.out ?_; rw [← HDD.out])
  generalize hV : W.drew.setRow (w.heap.size + 1) D = V
  have A2 : At V (w.heap.size + 1 + 1) (w.heap.size + 1) N { zero e with mem := bytesOf f n } := by
    subst hV
    refine ⟨(setRow_other W.drew _ _ _ (by omega)).trans W1.out, ?_, by omega⟩
    rw [setRow_heap W.drew _ _ _ _ _ W2d.out, HDD.out, HCS.out, row_copy N n f e (by omega)]
  have wb2 : Below w.heap.size w V := by subst hV; exact below_setRow wb.drew (by omega) _
  have v1 := A2.c0
  have v2 : V.cell? ⟨w.heap.size + 1 + 1, 3, none⟩ = _ := A2.cx (i := 2) (by omega)
  have v3 : V.cell? ⟨w.heap.size + 1 + 1, 28, none⟩ = _ := A2.cx (i := 27) (by omega)
  have v4 := A2.fb 3
  have v5 := A2.fb 28
  have i5 : IntKind.u32.wrap (N : Int) = N := by rw [IntKind.wrap_u32']; omega
  have HA := Lib.hid A2
  have HB := Lib.hid wb2
  clear hV A2 W2d Ha Hb Hc Hd HDD HCS HCL HCJ W1 W2 wb w3 w4 wb2
  refine tail_ 10 (by kernel_rfl) (by kernel_rfl) ?_
  simp only [List.take_succ_cons, List.take_zero, List.drop_succ_cons, List.drop_zero]
  repeat still_step
  refine wpStill_nil ?_
  go_wp2
  go_ret2
  have A3 := (HA.out.set (s' := { zero e with mem := bytesOf f n, x := upd (fun _ => 0) 2 (N : Int) }) 3 (.int .u32 N) (set_x _ N _ (i := 2) (by omega) _) rfl).set (s' := loaded f n u N e) 28 (.int .u32 u) (set_x _ N _ (i := 27) (by omega) _) rfl
  exact ⟨_, rfl, _, A3.kept rfl rfl, by omega, by omega, ((HB.out.setCell (by show w.heap.size ≤ w.heap.size + 1 + 1; omega) _).setCell (by show w.heap.size ≤ w.heap.size + 1 + 1; omega) _).drew⟩
end MW
end Go.Proofs.Ytieehjkmfmkfjab
