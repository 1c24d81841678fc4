/-
  The statements' objects of sizes: a contract. Condition: the sizes lie in memory.
-/
import Derived.Test.YtaocclgnpphjfaaLayL
import Derived.Test.YtaocclgnpphjfaaLayS
import Derived.Deep.OwnRows
import Derived.Deep.AppendLies
import Derived.Deep.RegionHeld3
import Derived.Deep.DeepCutAuto
namespace Go.Proofs.Ytaocclgnpphjfaa
open Go.RowKit
set_option linter.unusedVariables false
set_option linter.unusedSimpArgs false
namespace LO
theorem cell_same {w w' : World} {b : Nat} (h : w'.heap[b]? = w.heap[b]?) (o : Nat) : w'.cell? ⟨b, o, none⟩ = w.cell? ⟨b, o, none⟩ := by
  unfold World.cell?
  rw [show w'.heap[(⟨b, o, none⟩ : Addr).block]? = w.heap[(⟨b, o, none⟩ : Addr).block]? from h]
open LM OO LC LL LS
theorem info32 : (Try.prog.info? 53).map (fun i => (i.zero, i.size, i.bytes)) = some (some (.int .u32 0), 1, 4) := by kernel_rfl
theorem info8 : (Try.prog.info? 5).map (fun i => (i.zero, i.size, i.bytes)) = some (some (.int .u8 0), 1, 1) := by kernel_rfl
theorem infoO : (Try.prog.info? TO).map (fun i => (i.zero, i.size, i.bytes)) = some (some (.agg #[.slice none 0 0, .slice none 0 0, .slice none 0 0, .slice none 0 0]), 4, 96) := by kernel_rfl
def zw (n : Nat) : Array Value := madeCells #[.int .u32 0] n
def zb (n : Nat) : Array Value := madeCells #[.int .u8 0] n
theorem mkw (n : Nat) (h : n ≤ 65535) (w : World) : (Instr.makeSlice 25 (.int .u16 (n : Int)) (.int .u16 (n : Int))).run Try.prog w = .ok (.slice (some ⟨w.heap.size, 0, none⟩) n n) (w.alloc (.cells (zw n) 53)) :=
  run_make_row' 25 53 (.int .u32 0) 4 Try.underlying25 info32 rfl .u16 .u16 n (by omega) (by omega) w
theorem mkb (n : Nat) (h : n ≤ 65535) (w : World) : (Instr.makeSlice 26 (.int .u16 (n : Int)) (.int .u16 (n : Int))).run Try.prog w = .ok (.slice (some ⟨w.heap.size, 0, none⟩) n n) (w.alloc (.cells (zb n) 5)) :=
  run_make_row' 26 5 (.int .u8 0) 1 Try.underlying26 info8 rfl .u16 .u16 n (by omega) (by omega) w
/-- the objects so far -/
def Rows (l : Sz) (k : Nat) (xs : List Value) : Prop :=
  xs.length = k * 4 ∧ ∀ i x, i < k → l[i]? = some x → ∃ p0 c0 p1 c1, xs[i * 4]? = some (.slice p0 x.1 c0) ∧ xs[i * 4 + 1]? = some (.slice p1 x.2 c1) ∧ xs[i * 4 + 2]? = some (.slice none 0 0) ∧ xs[i * 4 + 3]? = some (.slice none 0 0)
theorem Rows.next {l : Sz} {k : Nat} {xs : List Value} {x : Nat × Nat} {p0 p1 : Option Addr} {c0 c1 : Nat} (h : Rows l k xs) (hx : l[k]? = some x) : Rows l (k + 1) (xs ++ [.slice p0 x.1 c0, .slice p1 x.2 c1, .slice none 0 0, .slice none 0 0]) := by
  obtain ⟨h1, h2⟩ := h
  refine ⟨by rw [List.length_append, h1]; simp; omega, fun i y hi hy => ?_⟩
  by_cases e : i = k
  · subst e
    rw [hx] at hy
    cases hy
    refine ⟨p0, c0, p1, c1, ?_, ?_, ?_, ?_⟩
    all_goals rw [List.getElem?_append_right (by omega), h1]
    · rw [show i * 4 - i * 4 = 0 by omega]; rfl
    · rw [show i * 4 + 1 - i * 4 = 1 by omega]; rfl
    · rw [show i * 4 + 2 - i * 4 = 2 by omega]; rfl
    · rw [show i * 4 + 3 - i * 4 = 3 by omega]; rfl
  · obtain ⟨q0, d0, q1, d1, e0, e1, e2, e3⟩ := h2 i y (by omega) hy
    refine ⟨q0, d0, q1, d1, ?_, ?_, ?_, ?_⟩
    all_goals (rw [List.getElem?_append_left (by omega)]; assumption)
theorem ob_of {w : World} {base : Nat} {v : Value} {l : Sz} {xs : List Value} (h : w.ownsRow base TO 4 v l.length xs) (hr : Rows l l.length xs) : ObAt w.heap.size w v l := by
  rcases h.2 with ⟨rfl, e⟩ | ⟨g, cap, cur, rfl, _, hg, h1, h2, _, _⟩
  · exact ⟨none, 0, by rw [e], fun h0 => by omega⟩
  · refine ⟨some ⟨g, 0, none⟩, cap, rfl, fun h0 => ⟨g, 0, rfl, lt_heap hg, h1, h2, fun i x hx => ?_⟩⟩
    have hi : i < l.length := (List.getElem?_eq_some_iff.1 hx).1
    obtain ⟨p0, c0, p1, c1, e0, e1, e2, e3⟩ := hr.2 i x hi hx
    have f0 := h.cells (g := g) rfl _ _ e0
    have f1 := h.cells (g := g) rfl _ _ e1
    have f2 := h.cells (g := g) rfl _ _ e2
    have f3 := h.cells (g := g) rfl _ _ e3
    rw [OO.add_plain] at f0 f1 f2 f3
    exact ⟨p0, c0, p1, c1, _, _, _, _, _, _, f0, f1, f2, f3⟩
theorem newd (w : World) (o : Obj) (k : Nat) (h : k = w.heap.size) : (w.alloc o).drew.heap[k]? = some o := by subst h; exact heap_alloc_new w o
abbrev Two (w : World) (q x1 x2 : Nat) : Prop := w.cell? ⟨q, 0, none⟩ = some (.int .u16 (x1 : Int)) ∧ w.cell? ⟨q, 1, none⟩ = some (.int .u16 (x2 : Int))
theorem Two.alloc {w : World} {q x1 x2 : Nat} (h : Two w q x1 x2) (hq : q < w.heap.size) (o : Obj) : Two (w.alloc o) q x1 x2 :=
  ⟨(World.cell?_alloc_lt (w := w) (a := ⟨q, 0, none⟩) (o := o) hq).trans h.1, (World.cell?_alloc_lt (w := w) (a := ⟨q, 1, none⟩) (o := o) hq).trans h.2⟩
theorem Two.drew {w : World} {q x1 x2 : Nat} (h : Two w q x1 x2) : Two w.drew q x1 x2 := h
theorem Two.grown {w w' : World} {q x1 x2 : Nat} {row : Option Nat} (h : Two w q x1 x2) (hq : q < w.heap.size) (hg : w.grownBy w' row) (hne : some q ≠ row) : Two w' q x1 x2 :=
  ⟨(cell_same (hg.block q hq hne) 0).trans h.1, (cell_same (hg.block q hq hne) 1).trans h.2⟩
set_option maxRecDepth 100000 in
set_option maxHeartbeats 4000000 in
theorem objects_ {w : World} {n₀ : Nat} {v : Value} {l : Sz} (hn : n₀ ≤ w.heap.size) (ho : SzAt n₀ w v l) (hs : Sm l) (hm : l.length ≤ 65536) :
    Calls Try.prog 25 #[v] w fun e w' => ∃ p c, e = .returned (.slice p l.length c) ∧ ObAt w'.heap.size w' (.slice p l.length c) l ∧ Below w.heap.size w w' := by
  obtain ⟨p, c, rfl, hsl⟩ := ho
  have HO := Lib.hid hsl
  have HS := Lib.hid hs
  obtain ⟨i0, hi, hz0, hz1, hz2⟩ := info_parts infoO
  clear hsl hs
  go_enter Try.func25, Try.ntmps25
  go_wp2
  go_loopw [3, 8] (fun out i wr => ∃ k : Nat, k ≤ l.length ∧ i = .int .i64 k ∧ Hid (Below w.heap.size w wr) ∧ ∃ q cq xs, out = .slice q k cq ∧ Hid (wr.ownsRow w.heap.size TO 4 (.slice q k cq) k xs) ∧ Hid (Rows l k xs)) (fun _ i _ => l.length - (intOf i).toNat)
  case atStart => exact ⟨0, Nat.zero_le _, rfl, Lib.hid (Below.refl _ _), none, 0, [], rfl, Lib.hid (World.ownsRow_nil _ _ _ _), Lib.hid ⟨rfl, fun i x hi => absurd hi (by omega)⟩⟩
  case round =>
    obtain ⟨k, hk, rfl, HBL, q, cq, xs, rfl, HR, HX⟩ := hrel
    by_cases hlt : k < l.length
    · obtain ⟨b, o, rfl, hb, -, -, hall⟩ := HO.out (by omega)
      obtain ⟨e0, e1⟩ := hall k _ (List.getElem?_eq_getElem hlt)
      have k0 := (HBL.out.cell (p := ⟨b, o + k * 2, none⟩) (by show b < w.heap.size; omega)).trans e0
      have k1 := (HBL.out.cell (p := ⟨b, o + k * 2 + 1, none⟩) (by show b < w.heap.size; omega)).trans e1
      obtain ⟨hx1, hx2⟩ := HS.out _ (List.getElem_mem hlt)
      have HN := Lib.hid (fun p0 c0 p1 c1 => HX.out.next (p0 := p0) (p1 := p1) (c0 := c0) (c1 := c1) (List.getElem?_eq_getElem hlt))
      clear hall e0 e1
      generalize l[k] = x at *
      obtain ⟨x1, x2⟩ := x
      simp only at hx1 hx2 k0 k1
      have m1 := mkw x1 hx1
      have m2 := mkb x2 hx2
      go_upto_region 5 with fail
      have hbz := HBL.out.size
      have hb2 : Below w.heap.size w (wr.alloc (.cells #[.int .u16 (x1 : Int), .int .u16 (x2 : Int)] 75)) := HBL.out.alloc hbz _
      have hr2 := HR.out.alloc (.cells #[.int .u16 (x1 : Int), .int .u16 (x2 : Int)] 75)
      have b0 : (wr.alloc (.cells #[.int .u16 (x1 : Int), .int .u16 (x2 : Int)] 75)).cell? ⟨wr.heap.size, 0, none⟩ = some (.int .u16 (x1 : Int)) := Lib.cell_of_heap (heap_alloc_new wr _) 0
      have b1 : (wr.alloc (.cells #[.int .u16 (x1 : Int), .int .u16 (x2 : Int)] 75)).cell? ⟨wr.heap.size, 1, none⟩ = some (.int .u16 (x2 : Int)) := Lib.cell_of_heap (heap_alloc_new wr _) 1
      have hbw : w.heap.size ≤ (wr.alloc (.cells #[.int .u16 (x1 : Int), .int .u16 (x2 : Int)] 75)).heap.size := hb2.size
      have hqz : wr.heap.size < (wr.alloc (.cells #[.int .u16 (x1 : Int), .int .u16 (x2 : Int)] 75)).heap.size := by rw [World.size_alloc]; omega
      have hT0 : Two (wr.alloc (.cells #[.int .u16 (x1 : Int), .int .u16 (x2 : Int)] 75)) wr.heap.size x1 x2 := ⟨b0, b1⟩
      have hne : some wr.heap.size ≠ (Value.slice q k cq).ownBlock := fun e => by have := (HR.out.lt _ e.symm).2; omega
      have HNE := Lib.hid hne
      have HT0 := Lib.hid hT0
      have HB2 := Lib.hid hb2
      have HR2 := Lib.hid hr2
      clear hb2 hr2 k0 k1 HBL HR hbz hT0 hne
      generalize wr.alloc (.cells #[.int .u16 (x1 : Int), .int .u16 (x2 : Int)] 75) = w1 at *
      go_region_held3 (fun w' => w'.cell? ⟨wr.heap.size, 0, none⟩ = some (.int .u16 (x1 : Int)) ∧ w'.cell? ⟨wr.heap.size, 1, none⟩ = some (.int .u16 (x2 : Int))) (first | exact HT0.out.alloc hqz _ | exact (HT0.out.alloc hqz _).alloc (by simp only [World.size_alloc]; omega) _ | exact ((HT0.out.alloc hqz _).alloc (by simp only [World.size_alloc]; omega) _).alloc (by simp only [World.size_alloc]; omega) _ | exact (((HT0.out.alloc hqz _).alloc (by simp only [World.size_alloc]; omega) _).alloc (by simp only [World.size_alloc]; omega) _).drew | exact ((((HT0.out.alloc hqz _).alloc (by simp only [World.size_alloc]; omega) _).alloc (by simp only [World.size_alloc]; omega) _).drew).grown (by simp only [World.size_drew, World.size_alloc]; omega) hgrow6 HNE.out | go_keep)
        (first
          | (refine step_append_lies _ (by rfl) _ _ _ (by rfl) w.heap.size TO i0 (.agg #[.slice none 0 0, .slice none 0 0, .slice none 0 0, .slice none 0 0]) 4 96 Try.underlying22 hi hz0 hz1 hz2 rfl (by decide) (.slice q k cq) k xs (by rfl) ((((HR2.out.alloc _).alloc _).alloc _).drew) ⟨w1.heap.size + 2, 0, none⟩ 1 1 [.slice (some ⟨w1.heap.size, 0, none⟩) x1 x1, .slice (some ⟨w1.heap.size + 1, 0, none⟩) x2 x2, .slice none 0 0, .slice none 0 0] (by rfl) (by rfl) (World.news_of_block (cs := #[.slice (some ⟨w1.heap.size, 0, none⟩) x1 x1, .slice (some ⟨w1.heap.size + 1, 0, none⟩) x2 x2, .slice none 0 0, .slice none 0 0]) (t := TO) (fr := (0, 0)) (newd _ _ _ (by simp only [World.size_alloc]))) (by simp [Value.oneCell']) (by decide) (by unfold maxLen; omega) (by omega) (by simp only [World.size_drew, World.size_alloc]; omega) (w1.heap.size + 3) (by simp only [World.size_drew, World.size_alloc]) ?_; intro gg cap w6 hown6 hgrow6 hat6 hlt6)
          | (refine step_append_lies _ (by rfl) _ _ _ (by rfl) w.heap.size TO i0 (.agg #[.slice none 0 0, .slice none 0 0, .slice none 0 0, .slice none 0 0]) 4 96 Try.underlying22 hi hz0 hz1 hz2 rfl (by decide) (.slice q k cq) k xs (by rfl) ((((HR2.out.alloc _).alloc _).alloc _).drew) ⟨w1.heap.size + 2, 0, none⟩ 1 1 [.slice (some ⟨w1.heap.size + 1, 0, none⟩) x1 x1, .slice (some ⟨w1.heap.size, 0, none⟩) x2 x2, .slice none 0 0, .slice none 0 0] (by rfl) (by rfl) (World.news_of_block (cs := #[.slice (some ⟨w1.heap.size + 1, 0, none⟩) x1 x1, .slice (some ⟨w1.heap.size, 0, none⟩) x2 x2, .slice none 0 0, .slice none 0 0]) (t := TO) (fr := (0, 0)) (newd _ _ _ (by simp only [World.size_alloc]))) (by simp [Value.oneCell']) (by decide) (by unfold maxLen; omega) (by omega) (by simp only [World.size_drew, World.size_alloc]; omega) (w1.heap.size + 3) (by simp only [World.size_drew, World.size_alloc]) ?_; intro gg cap w6 hown6 hgrow6 hat6 hlt6))
      all_goals
        go_wp2
        refine ⟨⟨k + 1, by omega, by go_num, Lib.hid (((((HB2.out.alloc hbw _).alloc (by simp only [World.size_alloc]; omega) _).alloc (by simp only [World.size_alloc]; omega) _).drew).grown hgrow6 (by simp only [World.size_drew, World.size_alloc]; omega) (fun g hg => (HR2.out.lt g hg).1)), some ⟨gg, 0, none⟩, cap, _, rfl, Lib.hid hown6, Lib.hid (HN.out _ _ _ _)⟩, by simp [intOf]; omega⟩
    · obtain rfl : k = l.length := by omega
      go_wp2
      go_ret
      exact ⟨q, cq, rfl, ob_of HR.out HX.out, HBL.out⟩
end LO
end Go.Proofs.Ytaocclgnpphjfaa
