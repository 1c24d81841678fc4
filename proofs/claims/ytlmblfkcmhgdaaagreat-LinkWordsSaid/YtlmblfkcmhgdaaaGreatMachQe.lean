/-
  What is written into the machine's memory, and an ECALL: each a contract. No condition but those that are written at each.
-/
import Derived.Test.YtlmblfkcmhgdaaaGreatMachQa
import Derived.Deep.RegionHeld3
import Derived.Deep.AppendLies
import Derived.Deep.RegionLaw
import Derived.Deep.DrawnRows
namespace Go.Proofs.YtlmblfkcmhgdaaaGreat
open Go.RowKit
set_option linter.unusedVariables false
set_option linter.unusedSimpArgs false
namespace ME
attribute [local go_sem ↓] Go.wp_at_zero Go.wp_at_succ
open MM MC MD
theorem set_mem (N : Nat) (s : St) {i : Nat} (h : i < N) (v : Int) : (MC.bytes N s).setIfInBounds i (.int .u8 v) = MC.bytes N { s with mem := upd s.mem i v } := by
  unfold MC.bytes
  rw [row_set _ _ h]
  refine row_ext fun j hj => ?_
  unfold upd
  by_cases e : j = i
  · rw [if_pos e]; simp [e]
  · rw [if_neg e]; simp [e]
theorem cells_mem (bm N : Nat) (s : St) (g : Nat → Int) : cells bm N { s with mem := g } = cells bm N s := rfl
section
variable {B br bk b bm N : Nat} {sd : List (Nat × Obj)} {w w' : World} {s s' : St} {vi ve : Value} {inp : List Int} {out : List Ev} {n c : Nat}
theorem Lives.setMem (L : Lives B br bk b bm N sd w s vi ve inp out n c) (j : Nat) (hj : j < N) (v : Int) : Lives B br bk b bm N sd (w.setCell ⟨bm, j, none⟩ (.int .u8 v)) { s with mem := upd s.mem j v } vi ve inp out n c := by
  have hp := L.pl
  have hne := L.at_.ne
  have ho : ∀ k, k ≠ bm → (w.setCell ⟨bm, j, none⟩ (.int .u8 v)).heap[k]? = w.heap[k]? := fun k hk => heap_setCell_other w ⟨bm, j, none⟩ k _ hk
  refine ⟨⟨(ho b hne).trans (by rw [cells_mem]; exact L.at_.head), by rw [heap_setCell_same w bm j _ _ _ L.at_.mem, set_mem N s hj], hne⟩, (ho br (by omega)).trans L.run, L.inp.kept fun k _ _ hk => ho k hk, ownsRow_same L.ev fun k hk => ho k (by omega), L.known.same (ho bk (by omega)), by simp only [World.size_setCell]; exact L.big, hp, fun p h => ⟨(ho _ (L.side p h).2.2.1).trans (L.side p h).1, (L.side p h).2⟩⟩
theorem Own.setMem (j : Nat) (v : Value) : Own B b bm w (w.setCell ⟨bm, j, none⟩ v) :=
  ⟨rfl, rfl, rfl, by simp [World.setCell], fun k _ _ hk => heap_setCell_other w ⟨bm, j, none⟩ k v hk⟩
end
theorem lay_zero (g : Nat → Int) (a : Nat) (v : Int) : lay g a 0 v = g := by
  funext k; unfold lay; rw [if_neg (by omega)]
theorem lay_succ (g : Nat → Int) (a k : Nat) (v : Int) : upd (lay g a k v) (a + k) (v / 256 ^ k % 256) = lay g a (k + 1) v := by
  funext j
  unfold upd lay
  by_cases h : j = a + k
  · subst h; rw [if_pos rfl, if_pos (by omega), show a + k - a = k by omega]
  · rw [if_neg h]
    by_cases h2 : a ≤ j ∧ j < a + k
    · rw [if_pos h2, if_pos (by omega)]
    · rw [if_neg h2, if_neg (by omega)]
theorem shr_lay (v : Int) (k : Nat) : v / 2 ^ (8 * k) % 256 = v / 256 ^ k % 256 := by rw [Int.pow_mul]; rfl
set_option maxHeartbeats 400000 in
theorem lay_ {B br bk b bm N : Nat} {sd : List (Nat × Obj)} {w : World} {s : St} {vi ve : Value} {inp : List Int} {out : List Ev} {n c : Nat} (L : Lives B br bk b bm N sd w s vi ve inp out n c) (a m cc : Nat) (hm : m ≤ 8) (ha : a + m ≤ N) (v : Int) (hv : 0 ≤ v ∧ v < 18446744073709551616) :
    Calls Tryz.prog 129 #[.slice (some ⟨bm, a, none⟩) m cc, .int .u64 v] w fun e w' => e = .returned (.tuple #[]) ∧ Lives B br bk b bm N sd w' { s with mem := lay s.mem a m v } vi ve inp out n c ∧ Own B b bm w w' := by
  have HL := Lib.hid L
  clear L
  go_enter Tryz.func129, Tryz.ntmps129
  go_wp2
  go_loopw [7] (fun i wr => ∃ k : Nat, k ≤ m ∧ i = .int .i64 k ∧ Lives B br bk b bm N sd wr { s with mem := lay s.mem a k v } vi ve inp out n c ∧ Own B b bm w wr) (fun i _ => m - (intOf i).toNat)
  case atStart => exact ⟨0, Nat.zero_le _, rfl, by rw [lay_zero]; exact HL.out, Own.refl _ _ _ _⟩
  case round =>
    obtain ⟨k, hk, rfl, L1, O1⟩ := hrel
    by_cases hlt : k < m
    · have hcell := L1.at_.cm (i := a + k) (by omega)
      have hfz := L1.at_.fm (a + k)
      have H1 := Lib.hid L1
      clear L1
      go_wp2
      refine ⟨⟨k + 1, by omega, by go_num, ?_, O1.trans (Own.setMem _ _)⟩, by simp [intOf]; omega⟩
      rw [shr_lay]
      have H2 := Lives.setMem H1.out (a + k) (by omega) (v / 256 ^ k % 256)
      simp only [lay_succ] at H2
      exact H2
    · have : k = m := by omega
      subst this
      go_wp2
      go_end0
      exact ⟨rfl, L1, O1⟩
/-! ### an ECALL -/
theorem info_ev : (Tryz.prog.info? 223).map (fun i => (i.zero, i.size, i.bytes)) = some (some (.agg #[.int .i64 0, .int .u32 0, .int .u64 0]), 3, 24) := by kernel_rfl
theorem evs_snoc (l : List Ev) (a b : Int) (r : Nat) : evs (l ++ [(a, b, r)]) = evs l ++ [.int .i64 a, .int .u32 b, .int .u64 (r : Nat)] := by simp [evs]
section
variable {B br bk b bm N : Nat} {sd : List (Nat × Obj)} {w w' : World} {s s' : St} {vi ve : Value} {inp : List Int} {out : List Ev} {n c : Nat}
theorem call_3 (L : Lives B br bk b bm N sd w s vi ve inp out n c) (h : s.x 17 = 3) :
    Calls Tryz.prog 112 #[.pointer (some ⟨br, 0, none⟩)] w fun e w' => e = .returned (.tuple #[]) ∧ Lives B br bk b bm N sd w' (setst s 1) vi ve inp out n c ∧ Own B b bm w w' := by
  have h0 := L.r0
  have h1 : w.cell? ⟨b, 18, none⟩ = some (.int .u32 3) := by rw [← h]; exact L.at_.cx (i := 17) (by omega)
  have h2 := L.at_.cst
  have h3 := L.at_.fb 66
  clear h
  have HL := Lib.hid L
  clear L
  go_enter Tryz.func112, Tryz.ntmps112
  go_wp2
  go_end0
  exact ⟨rfl, HL.out.set 66 _ (set_state _ _ _ _) rfl, Own.set _ _ _⟩
theorem call_4 (L : Lives B br bk b bm N sd w s vi ve inp out n c) (h : s.x 17 = 4) :
    Calls Tryz.prog 112 #[.pointer (some ⟨br, 0, none⟩)] w fun e w' => e = .returned (.tuple #[]) ∧ Lives B br bk b bm N sd w' (setst s 4) vi ve inp out n c ∧ Own B b bm w w' := by
  have h0 := L.r0
  have h1 : w.cell? ⟨b, 18, none⟩ = some (.int .u32 4) := by rw [← h]; exact L.at_.cx (i := 17) (by omega)
  have h2 := L.at_.cst
  have h3 := L.at_.fb 66
  clear h
  have HL := Lib.hid L
  clear L
  go_enter Tryz.func112, Tryz.ntmps112
  go_wp2
  go_end0
  exact ⟨rfl, HL.out.set 66 _ (set_state _ _ _ _) rfl, Own.set _ _ _⟩
theorem call_no (L : Lives B br bk b bm N sd w s vi ve inp out n c) (h : ∀ k, 1 ≤ k → k ≤ 5 → s.x 17 ≠ k) :
    Calls Tryz.prog 112 #[.pointer (some ⟨br, 0, none⟩)] w fun e w' => e = .panicked [{ v := .iface 138 (.int .i64 2), recovered := false }] ∧ w = w' := by
  have h0 := L.r0
  have h1 : w.cell? ⟨b, 18, none⟩ = some (.int .u32 (s.x 17)) := L.at_.cx (i := 17) (by omega)
  clear L
  generalize s.x 17 = v at *
  have e1 : (v == 1) = false := by have := h 1 (by omega) (by omega); simp [this]
  have e2 : (v == 2) = false := by have := h 2 (by omega) (by omega); simp [this]
  have e3 : (v == 3) = false := by have := h 3 (by omega) (by omega); simp [this]
  have e4 : (v == 4) = false := by have := h 4 (by omega) (by omega); simp [this]
  have e5 : (v == 5) = false := by have := h 5 (by omega) (by omega); simp [this]
  clear h
  go_enter Tryz.func112, Tryz.ntmps112
  go_wp2
  exact ⟨rfl, rfl, rfl⟩
theorem call_2 (L : Lives B br bk b bm N sd w s vi ve inp out n c) (h : s.x 17 = 2) :
    Calls Tryz.prog 112 #[.pointer (some ⟨br, 0, none⟩)] w fun e w' => e = .returned (.tuple #[]) ∧ ∃ vi', Lives B br bk b bm N sd w' (setx s 10 (inp.headD 0)) vi' ve inp.tail out n c ∧ Own B b bm w w' := by
  have h0 := L.r0
  have h1 : w.cell? ⟨b, 18, none⟩ = some (.int .u32 2) := by rw [← h]; exact L.at_.cx (i := 17) (by omega)
  clear h
  have cn := next_ L
  generalize inp.headD 0 = hx at *
  generalize inp.tail = tl at *
  have HL := Lib.hid L
  clear L
  go_enter Tryz.func112, Tryz.ntmps112
  go_wp2_with (first
    | (go_at_call 131; (with_reducible refine cn.mono ?_); rintro e w1 ⟨rfl, vi1, L1, O1⟩; have cp := put_ L1 10 (by omega) hx; rw [show ((10 : Nat) : Int) = 10 from rfl] at cp; have O2 := Lib.hid O1; clear O1 L1 h0 h1)
    | (go_at_call 111; (with_reducible refine cp.mono ?_); rintro e w2 ⟨rfl, L2, O3⟩))
  go_end0
  exact ⟨rfl, _, L2, O2.out.trans O3⟩
theorem Lives.pushed {w1 : World} {e1 : Int} {e2 : Int} {e3 : Nat} {g cap : Nat} (L : Lives B br bk b bm N sd w s vi ve inp out n c) (o : Obj)
    (hown : w1.ownsRow (B + 3) 223 3 (.slice (some ⟨g, 0, none⟩) (out.length + 1) cap) (out.length + 1) (evs out ++ [.int .i64 e1, .int .u32 e2, .int .u64 (e3 : Nat)]))
    (hg : ((w.alloc o).drew).grownBy w1 ve.ownBlock) (hat : ve.ownBlock = some g ∨ g = w.heap.size + 1) :
    Lives B br bk b bm N sd (w1.setCell ⟨br, 2, none⟩ (.slice (some ⟨g, 0, none⟩) (out.length + 1) cap)) s vi (.slice (some ⟨g, 0, none⟩) (out.length + 1) cap) inp (out ++ [(e1, e2, e3)]) n c ∧ Own B b bm w (w1.setCell ⟨br, 2, none⟩ (.slice (some ⟨g, 0, none⟩) (out.length + 1) cap)) := by
  have hp := L.pl
  have hb := L.big
  have hv := L.evb
  have hk : ∀ k, k < B + 3 → w1.heap[k]? = w.heap[k]? := fun k hk => by
    rw [hg.block k (by simp; omega) (fun e => by have := hv k e.symm; omega)]
    exact Below.heap_alloc w o k (by omega)
  have ho : ∀ k, k ≠ br → (w1.setCell ⟨br, 2, none⟩ (.slice (some ⟨g, 0, none⟩) (out.length + 1) cap)).heap[k]? = w1.heap[k]? := fun k hk => heap_setCell_other w1 ⟨br, 2, none⟩ k _ hk
  have hs : w.heap.size ≤ w1.heap.size := by have := hg.size; simp only [World.size_drew, World.size_alloc] at this; omega
  refine ⟨⟨L.at_.kept ((ho b (by omega)).trans (hk b (by omega))) ((ho bm (by omega)).trans (hk bm (by omega))), ?_, L.inp.kept fun k h1 _ _ => (ho k (by omega)).trans (hk k (by omega)), ?_, L.known.same ((ho bk (by omega)).trans (hk bk (by omega))), by simp only [World.size_setCell]; omega, hp, fun p h => ?_⟩, ?_⟩
  · rw [heap_setCell_same w1 br 2 _ _ _ ((hk br (by omega)).trans L.run)]; rfl
  · rw [evs_snoc, List.length_append]
    exact ownsRow_same hown fun k hk => ho k (by omega)
  · obtain ⟨q1, q2, q3, q4, q5, q6⟩ := L.side p h
    have ql := lt_of_get q1
    refine ⟨?_, q2, q3, q4, q5, ?_⟩
    · rw [ho _ q4, hg.block _ (by simp only [World.size_drew, World.size_alloc]; omega) (fun e => q6 e.symm)]
      exact (Below.heap_alloc w o _ ql).trans q1
    · intro e
      have e' : g = p.1 := by simpa [Value.ownBlock] using e
      rcases hat with h1 | h1
      · exact q6 (by rw [h1, e'])
      · omega
  · exact ⟨hg.os, hg.tape, hg.output, by simp only [World.size_setCell]; omega, fun k h1 h2 h3 => (ho k (by omega)).trans (hk k (by omega))⟩
theorem Lives.pushed_facts {w1 : World} {j : Nat} {v : Value} (L : Lives B br bk b bm N sd w s vi ve inp out n c) (hj : w.cell? ⟨b, j, none⟩ = some v) (o : Obj) (hg : ((w.alloc o).drew).grownBy w1 ve.ownBlock) :
    w1.cell? ⟨br, 0, none⟩ = some (.pointer (some ⟨b, 0, none⟩)) ∧ w1.cell? ⟨br, 2, none⟩ = some ve ∧ w1.frozen? ⟨br, 2, none⟩ = false ∧ w1.cell? ⟨b, j, none⟩ = some v := by
  have hp := L.pl
  have hb := L.big
  have hv := L.evb
  have hk : ∀ k, k < B + 3 → w1.heap[k]? = w.heap[k]? := fun k hk => by
    rw [hg.block k (by simp; omega) (fun e => by have := hv k e.symm; omega)]
    exact Below.heap_alloc w o k (by omega)
  exact ⟨(World.cell?_of_block (w := w) (hk br (by omega))).trans L.r0, (World.cell?_of_block (w := w) (hk br (by omega))).trans L.r2, (World.frozen?_of_block (w := w) (hk br (by omega))).trans (L.rf 2), (World.cell?_of_block (w := w) (hk b (by omega))).trans hj⟩
set_option maxRecDepth 100000 in
set_option maxHeartbeats 1000000 in
theorem call_1 (L : Lives B br bk b bm N sd w s vi ve inp out n c) (h : s.x 17 = 1) (ho : out.length ≤ 100000) :
    Calls Tryz.prog 112 #[.pointer (some ⟨br, 0, none⟩)] w fun e w' => e = .returned (.tuple #[]) ∧ ∃ ve', Lives B br bk b bm N sd w' s vi ve' inp (out ++ [(1, s.x 10, 0)]) n c ∧ Own B b bm w w' := by
  have h0 := L.r0
  have h1 : w.cell? ⟨b, 18, none⟩ = some (.int .u32 1) := by rw [← h]; exact L.at_.cx (i := 17) (by omega)
  have h2 := L.r2
  have h3 : w.cell? ⟨b, 11, none⟩ = some (.int .u32 (s.x 10)) := L.at_.cx (i := 10) (by omega)
  have hf := L.rf 2
  have hp := L.pl
  have hv := L.evb
  have hbig := L.big
  have hown := L.ev
  have hlt : br < w.heap.size := lt_of_get L.run
  clear h
  have HL := Lib.hid L
  clear L
  obtain ⟨i0, hi, hz0, hz1, hz2⟩ := info_parts info_ev
  go_enter Tryz.func112, Tryz.ntmps112
  go_wp2
  go_region_law ((refine step_append_lies _ (by rfl) _ _ _ (by rfl) (B + 3) 223 i0 (.agg #[.int .i64 0, .int .u32 0, .int .u64 0]) 3 24 Tryz.underlying64 hi hz0 hz1 hz2 rfl (by decide) ve out.length (evs out) (by rfl) ((hown.alloc _).drew) ⟨w.heap.size, 0, none⟩ 1 1 [.int .i64 1, .int .u32 (s.x 10), .int .u64 0] (by rfl) (by rfl) (World.news_of_block (cs := #[.int .i64 1, .int .u32 (s.x 10), .int .u64 0]) (t := 223) (fr := (0, 0)) (heap_alloc_new w _)) (by simp [Value.oneCell']) (by decide) (by unfold maxLen; omega) (by omega) (by simp only [World.size_drew, World.size_alloc]; omega) (w.heap.size + 1) (by simp only [World.size_drew, World.size_alloc]) ?_; intro gg cap w1 hown1 hgrow1 hat1 hlt1; obtain ⟨c0, c2, f2, c3⟩ := Lives.pushed_facts HL.out h3 _ hgrow1; have HAT := Lib.hid hat1; clear hat1))
  all_goals (go_end0; exact ⟨rfl, _, Lives.pushed HL.out _ hown1 hgrow1 HAT.out⟩)
set_option maxRecDepth 100000 in
set_option maxHeartbeats 1000000 in
theorem call_5 (L : Lives B br bk b bm N sd w s vi ve inp out n c) (h : s.x 17 = 5) (ho : out.length ≤ 100000) :
    Calls Tryz.prog 112 #[.pointer (some ⟨br, 0, none⟩)] w fun e w' => e = .returned (.tuple #[]) ∧ ∃ ve', Lives B br bk b bm N sd w' s vi ve' inp (out ++ [(2, 0, s.f 10)]) n c ∧ Own B b bm w w' := by
  have h0 := L.r0
  have h1 : w.cell? ⟨b, 18, none⟩ = some (.int .u32 5) := by rw [← h]; exact L.at_.cx (i := 17) (by omega)
  have h2 := L.r2
  have h3 : w.cell? ⟨b, 43, none⟩ = some (.int .u64 (s.f 10 : Nat)) := L.at_.cf (i := 10) (by omega)
  have hf := L.rf 2
  have hp := L.pl
  have hv := L.evb
  have hbig := L.big
  have hown := L.ev
  have hlt : br < w.heap.size := lt_of_get L.run
  clear h
  have HL := Lib.hid L
  clear L
  obtain ⟨i0, hi, hz0, hz1, hz2⟩ := info_parts info_ev
  go_enter Tryz.func112, Tryz.ntmps112
  go_wp2
  go_region_law ((refine step_append_lies _ (by rfl) _ _ _ (by rfl) (B + 3) 223 i0 (.agg #[.int .i64 0, .int .u32 0, .int .u64 0]) 3 24 Tryz.underlying64 hi hz0 hz1 hz2 rfl (by decide) ve out.length (evs out) (by rfl) ((hown.alloc _).drew) ⟨w.heap.size, 0, none⟩ 1 1 [.int .i64 2, .int .u32 0, .int .u64 (s.f 10 : Nat)] (by rfl) (by rfl) (World.news_of_block (cs := #[.int .i64 2, .int .u32 0, .int .u64 (s.f 10 : Nat)]) (t := 223) (fr := (0, 0)) (heap_alloc_new w _)) (by simp [Value.oneCell']) (by decide) (by unfold maxLen; omega) (by omega) (by simp only [World.size_drew, World.size_alloc]; omega) (w.heap.size + 1) (by simp only [World.size_drew, World.size_alloc]) ?_; intro gg cap w1 hown1 hgrow1 hat1 hlt1; obtain ⟨c0, c2, f2, c3⟩ := Lives.pushed_facts HL.out h3 _ hgrow1; have HAT := Lib.hid hat1; clear hat1))
  all_goals (go_end0; exact ⟨rfl, _, Lives.pushed HL.out _ hown1 hgrow1 HAT.out⟩)
end
end ME
end Go.Proofs.YtlmblfkcmhgdaaaGreat
