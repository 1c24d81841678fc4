/-
  Of any numbers and words the law LinkMore returns true: an object more, behind or ahead, that nobody needs, changes nothing of what is run.
  Conditions: none beyond those of the given statement.
-/
import Derived.Test.YtlmblfkcmhgdaaaGreatRows
import Derived.Deep.DeepMust
import Derived.Test.YtlmblfkcmhgdaaaGreatLinkQd
import Derived.Test.YtlmblfkcmhgdaaaGreatLinkQy
import Derived.Test.YtlmblfkcmhgdaaaGreatMachQb
import Derived.Test.YtlmblfkcmhgdaaaGreatLinkQx
import Derived.BigQuiet
import Derived.BigRegion
import Derived.Deep.AppendLies
import Derived.WalkKit
import Derived.ProofKit
import Derived.OpenShut
namespace Go.Proofs.YtlmblfkcmhgdaaaGreat.linkMore
open Go.ChangeShapes Go.WideShapes Go.ChangeAt Go.RowKit
set_option linter.unusedVariables false
set_option linter.unusedSimpArgs false

theorem own : ownKnob Tryz.prog.godebug = none := by kernel_rfl
open OO OJ RsM RsF RsB RsY LM LL KB KC KM KN KE KL KG KW KX KH KI KU MB MM
abbrev TIn : TypeId := 54
abbrev TWo : TypeId := 46
def insC (l : List Ins) : List Value := l.flatMap fun i => [.int .i64 i.1, .int .i64 i.2.1, .int .i64 i.2.2.1, .int .i64 i.2.2.2.1, .int .i64 i.2.2.2.2]
theorem insC_snoc (l : List Ins) (i : Ins) : insC (l ++ [i]) = insC l ++ [.int .i64 i.1, .int .i64 i.2.1, .int .i64 i.2.2.1, .int .i64 i.2.2.2.1, .int .i64 i.2.2.2.2] := by unfold insC; rw [List.flatMap_append]; simp
theorem insC_get : ∀ {l : List Ins} {k : Nat} {i : Ins}, l[k]? = some i → (insC l)[k * 5]? = some (.int .i64 i.1) ∧ (insC l)[k * 5 + 1]? = some (.int .i64 i.2.1) ∧ (insC l)[k * 5 + 2]? = some (.int .i64 i.2.2.1) ∧ (insC l)[k * 5 + 3]? = some (.int .i64 i.2.2.2.1) ∧ (insC l)[k * 5 + 4]? = some (.int .i64 i.2.2.2.2)
  | [], k, i, h => by simp at h
  | x :: l, 0, i, h => by cases h; exact ⟨rfl, rfl, rfl, rfl, rfl⟩
  | x :: l, k + 1, i, h => by
    have ih := insC_get (l := l) (k := k) (i := i) h
    have e : insC (x :: l) = [.int .i64 x.1, .int .i64 x.2.1, .int .i64 x.2.2.1, .int .i64 x.2.2.2.1, .int .i64 x.2.2.2.2] ++ insC l := rfl
    have s : ∀ q, (insC (x :: l))[(k + 1) * 5 + q]? = (insC l)[k * 5 + q]? := fun q => by
      rw [e, List.getElem?_append_right (by simp; omega)]
      congr 1; simp; omega
    exact ⟨(s 0).trans ih.1, (s 1).trans ih.2.1, (s 2).trans ih.2.2.1, (s 3).trans ih.2.2.2.1, (s 4).trans ih.2.2.2.2⟩
theorem is_of {w : World} {B n : Nat} {v : Value} {l : List Ins} (h : w.ownsRow B TIn 5 v n (insC l)) (hn : n = l.length) (h0 : 0 < n) : Is w v l := by
  subst hn
  rcases h.2 with ⟨-, e⟩ | ⟨g, cap, cur, rfl, -, hg, -⟩
  · omega
  · refine ⟨g, cap, rfl, lt_heap hg, fun k a b c d e hk => ?_⟩
    obtain ⟨e0, e1, e2, e3, e4⟩ := insC_get hk
    have f0 := h.cells (g := g) rfl _ _ e0
    have f1 := h.cells (g := g) rfl _ _ e1
    have f2 := h.cells (g := g) rfl _ _ e2
    have f3 := h.cells (g := g) rfl _ _ e3
    have f4 := h.cells (g := g) rfl _ _ e4
    rw [OO.add_plain, Nat.zero_add] at f0 f1 f2 f3 f4
    exact ⟨f0, f1, f2, f3, f4⟩
theorem i_info : (Tryz.prog.info? TIn).map (fun i => (i.zero, i.size, i.bytes)) = some (some (.agg #[.int .i64 0, .int .i64 0, .int .i64 0, .int .i64 0, .int .i64 0]), 5, 40) := by kernel_rfl
theorem w_info : (Tryz.prog.info? TWo).map (fun i => (i.zero, i.size, i.bytes)) = some (some (.int .u32 0), 1, 4) := by kernel_rfl
def nsOf (xs : List Int) : List Nat := xs.map Int.toNat
theorem ns_bd {xs : List Int} (h : ∀ x ∈ xs, (Lit.int .u8 x).wf = true) : ∀ n ∈ nsOf xs, n ≤ 255 := by
  intro n hn
  obtain ⟨x, hx, rfl⟩ := List.mem_map.1 hn
  have := (Go.bounds_u8 (h x hx))
  omega
def soFar (ns : List Nat) (k : Nat) : List Ins := (18, 10, 0, 0, 0) :: addL (ns.take k)
theorem soFar_succ {ns : List Nat} {k n : Nat} (h : ns[k]? = some n) : soFar ns (k + 1) = soFar ns k ++ [(18, 10, 10, 0, (n : Int))] := by
  unfold soFar addL
  rw [List.take_add_one, h]
  simp
theorem sum_succ {ns : List Nat} {k n : Nat} (h : ns[k]? = some n) : (ns.take (k + 1)).sum = (ns.take k).sum + n := by
  rw [List.take_add_one, h]; simp
theorem soFar_all (ns : List Nat) : soFar ns ns.length ++ [(41, 0, 1, 0, 0)] = bodyL ns := by
  unfold soFar bodyL
  rw [List.take_length]
  rfl
theorem obj_at2 {W : World} {B n₀ : Nat} {T2 : TypeId} {v : Value} {ws : List Int} {nm : ByteArray} (a : Nums8 .u32 n₀ W v ws) (b : W.heap[B]? = some (.cells #[.string nm, .int .i64 1, .int .i64 0, .int .i64 0, .bool true] T2 (0, 0))) (hB : B < n₀) :
    ObjAt n₀ W v (.slice none 0 0) (.slice (some ⟨B, 0, none⟩) 1 1) (.slice none 0 0) (oneO ws nm) := by
  refine ⟨a, ⟨_, _, rfl, fun h => absurd h (Nat.lt_irrefl 0)⟩, ⟨_, _, rfl, fun _ => ⟨B, 0, rfl, hB, Nat.le_refl _, by decide, fun j s hj => ?_⟩⟩, ⟨_, _, rfl, fun h => absurd h (Nat.lt_irrefl 0)⟩⟩
  match j, hj with
  | 0, hj =>
    cases hj
    exact ⟨by rw [Lib.cell_of_heap b]; rfl, by rw [Lib.cell_of_heap b]; rfl, by rw [Lib.cell_of_heap b]; rfl, by rw [Lib.cell_of_heap b]; rfl, by rw [Lib.cell_of_heap b]; rfl⟩
  | j + 1, hj => simp [oneO] at hj
theorem objs_pair {W : World} {D n₀ : Nat} {T : TypeId} {v0 v1 v2 v3 u0 u1 u2 u3 : Value} {x y : ObjV} (d : W.heap[D]? = some (.cells #[v0, v1, v2, v3, u0, u1, u2, u3] T (0, 0))) (hD : D < n₀) (ho : ObjAt n₀ W v0 v1 v2 v3 x) (hp : ObjAt n₀ W u0 u1 u2 u3 y) : ObjsAt n₀ W (.slice (some ⟨D, 0, none⟩) 2 2) [x, y] := by
  refine ⟨_, _, rfl, fun _ => ⟨D, 0, rfl, hD, Nat.le_refl _, by decide, fun i z hi => ?_⟩⟩
  match i, hi with
  | 0, hi =>
    cases hi
    exact ⟨v0, v1, v2, v3, by rw [Lib.cell_of_heap d]; rfl, by rw [Lib.cell_of_heap d]; rfl, by rw [Lib.cell_of_heap d]; rfl, by rw [Lib.cell_of_heap d]; rfl, ho⟩
  | 1, hi =>
    cases hi
    exact ⟨u0, u1, u2, u3, by rw [Lib.cell_of_heap d]; rfl, by rw [Lib.cell_of_heap d]; rfl, by rw [Lib.cell_of_heap d]; rfl, by rw [Lib.cell_of_heap d]; rfl, hp⟩
  | j + 2, hi => simp at hi
theorem nums_of {w : World} {B n : Nat} {v : Value} {xs : List Int} (h : w.ownsRow B TWo 1 v n (xs.map (Value.int .u32))) (hn : n = xs.length) : Nums8 .u32 w.heap.size w v xs := by
  subst hn
  rcases h.2 with ⟨rfl, e⟩ | ⟨g, cap, cur, rfl, -, hg, h1, h2, -⟩
  · exact ⟨none, 0, by rw [e], fun h0 => by omega⟩
  · refine ⟨some ⟨g, 0, none⟩, cap, rfl, fun h0 => ⟨g, 0, rfl, lt_heap hg, h1, h2, fun j x hj => ?_⟩⟩
    have h3 := (h.cells (g := g) rfl) j (.int .u32 x) (by rw [List.getElem?_map, hj]; rfl)
    rw [Nat.zero_add]
    rwa [OO.add_plain, Nat.zero_add] at h3
theorem nw (w : World) (o : Obj) (k : Nat) (h : k = w.heap.size) : (w.alloc o).heap[k]? = some o := by subst h; exact heap_alloc_new w o
theorem four_at (w : World) (o1 o2 o3 o4 : Obj) : ((((w.alloc o1).alloc o2).alloc o3).alloc o4).heap[w.heap.size]? = some o1 ∧ ((((w.alloc o1).alloc o2).alloc o3).alloc o4).heap[w.heap.size + 1]? = some o2 ∧ ((((w.alloc o1).alloc o2).alloc o3).alloc o4).heap[w.heap.size + 1 + 1]? = some o3 ∧ ((((w.alloc o1).alloc o2).alloc o3).alloc o4).heap[w.heap.size + 1 + 1 + 1]? = some o4 ∧ w.heap.size + 4 ≤ ((((w.alloc o1).alloc o2).alloc o3).alloc o4).heap.size ∧ Below w.heap.size w ((((w.alloc o1).alloc o2).alloc o3).alloc o4) := by
  refine ⟨?_, ?_, ?_, ?_, by simp only [World.size_alloc]; omega, ?_⟩
  · repeat (first | exact nw _ _ _ (by simp only [World.size_alloc]) | refine (Lib.alloc_old _ _ _ (by simp only [World.size_alloc]; omega)).trans ?_)
  · repeat (first | exact nw _ _ _ (by simp only [World.size_alloc]) | refine (Lib.alloc_old _ _ _ (by simp only [World.size_alloc]; omega)).trans ?_)
  · repeat (first | exact nw _ _ _ (by simp only [World.size_alloc]) | refine (Lib.alloc_old _ _ _ (by simp only [World.size_alloc]; omega)).trans ?_)
  · repeat (first | exact nw _ _ _ (by simp only [World.size_alloc]) | refine (Lib.alloc_old _ _ _ (by simp only [World.size_alloc]; omega)).trans ?_)
  · exact ((((Below.refl _ _).alloc (Nat.le_refl _) _).alloc (by simp only [World.size_alloc]; omega) _).alloc (by simp only [World.size_alloc]; omega) _).alloc (by simp only [World.size_alloc]; omega) _
theorem nums_mv {k : IntKind} {n₀ n₁ : Nat} {W W' : World} {v : Value} {xs : List Int} (h : Nums8 k n₀ W v xs) (hb : Below n₀ W W') (hn : n₀ ≤ n₁) : Nums8 k n₁ W' v xs := by
  obtain ⟨p, c, e, hh⟩ := h
  refine ⟨p, c, e, fun h0 => ?_⟩
  obtain ⟨b, o, h1, h2, h3, h4, h5⟩ := hh h0
  exact ⟨b, o, h1, Nat.lt_of_lt_of_le h2 hn, h3, h4, row_below h5 hb h2⟩
theorem one_wf {ws : List Int} {nm : ByteArray} (h : ∀ x ∈ ws, 0 ≤ x ∧ x ≤ 4294967295) (hn : nm.size ≤ maxLen) : (oneO ws nm).Wf := by
  refine ⟨h, by intro x hx; simp [oneO] at hx, ?_, by intro r hr; simp [oneO] at hr⟩
  intro s hs
  simp only [oneO, List.mem_cons, List.not_mem_nil, or_false] at hs
  subst hs
  exact ⟨hn, by unfold I64; simp, by unfold I64; simp, by unfold I64; simp⟩
abbrev SBm (nm : ByteArray) : Obj := .cells #[.string nm, .int .i64 1, .int .i64 0, .int .i64 0, .bool true] 57

set_option maxRecDepth 100000 in
set_option maxHeartbeats 8000000 in
theorem walk (v0 : Value) (xs0 : List Int) (v1 : Value) (xs1 : List Int) (w : World) (ha0 : MO.Arg .u8 w v0 xs0) (hx0 : ∀ x ∈ xs0, (Lit.int .u8 x).wf = true) (ha1 : MO.Arg .u32 w v1 xs1) (hx1 : ∀ x ∈ xs1, (Lit.int .u32 x).wf = true) :
    Calls Tryz.prog 9 #[v0, v1] w fun e w' => e = .returned (.bool true) ∧ Below w.heap.size w w' := by
  obtain ⟨p0, c0, rfl, hs0⟩ := ha0
  obtain ⟨p1, c1, rfl, hs1⟩ := ha1
  have HS0 := Lib.hid hs0
  have HS1 := Lib.hid hs1
  have HNB := Lib.hid (ns_bd hx0)
  have HX0 := Lib.hid hx0
  have HX1 := Lib.hid hx1
  clear hs0 hs1 hx0 hx1
  by_cases hbig : 20 < xs0.length ∨ 100 < xs1.length
  · by_cases h20 : 20 < xs0.length
    · have g1 : (20 : Int) < (xs0.length : Int) := by omega
      clear hbig
      go_enter Tryz.func9, Tryz.ntmps9
      go_wp2_with (go_at_call 10; (first
        | (with_reducible refine (KW.awake_ _).mono ?_; rintro e w2 ⟨rfl, hb2⟩; have HB2 := Lib.hid (HB1.out.trans (hb2.mono HB1.out.size)); clear hb2)
        | (with_reducible refine (KW.awake_ _).mono ?_; rintro e w1 ⟨rfl, hb1⟩; have HB1 := Lib.hid hb1; clear hb1)))
      go_ret
      exact ⟨rfl, HB2.out⟩
    · have g1 : ¬ (20 : Int) < (xs0.length : Int) := by omega
      have g2 : (100 : Int) < (xs1.length : Int) := by omega
      clear hbig
      go_enter Tryz.func9, Tryz.ntmps9
      go_wp2_with (go_at_call 10; (first
        | (with_reducible refine (KW.awake_ _).mono ?_; rintro e w2 ⟨rfl, hb2⟩; have HB2 := Lib.hid (HB1.out.trans (hb2.mono HB1.out.size)); clear hb2)
        | (with_reducible refine (KW.awake_ _).mono ?_; rintro e w1 ⟨rfl, hb1⟩; have HB1 := Lib.hid hb1; clear hb1)))
      go_ret
      exact ⟨rfl, HB2.out⟩
  · have hl0 : xs0.length ≤ 20 := by omega
    have hl1 : xs1.length ≤ 100 := by omega
    clear hbig
    obtain ⟨i0, hi, hi0, hi1, hi2⟩ := info_parts i_info
    have hnl : (nsOf xs0).length = xs0.length := by simp [nsOf]
    have HNL := Lib.hid hnl
    clear hnl
    have g1 : ¬ (20 : Int) < (xs0.length : Int) := by omega
    have g2 : ¬ (100 : Int) < (xs1.length : Int) := by omega
    go_enter Tryz.func9, Tryz.ntmps9
    go_upto_region 6 with (go_at_call 10; with_reducible refine (KW.awake_ _).mono ?_; rintro e w1 ⟨rfl, hb1⟩; have HB1 := Lib.hid hb1; clear hb1)
    clear g1 g2
    obtain ⟨W2, hW2⟩ : ∃ W2, W2 = w1.alloc (.cells #[.int .i64 18, .int .i64 10, .int .i64 0, .int .i64 0, .int .i64 0] TIn) := ⟨_, rfl⟩
    rw [← hW2]
    have ho2 : W2.ownsRow w1.heap.size TIn 5 (.slice (some ⟨w1.heap.size, 0, none⟩) 1 1) 1 (insC (soFar (nsOf xs0) 0)) := by
      rw [hW2]
      exact World.ownsRow_lit (base := w1.heap.size) (e := TIn) (size := 5) w1 #[.int .i64 18, .int .i64 10, .int .i64 0, .int .i64 0, .int .i64 0] 1 (Nat.le_refl _) (by unfold maxLen; omega) rfl
    have hb2 : Below w1.heap.size w1 W2 := by rw [hW2]; exact (Below.refl _ _).alloc (Nat.le_refl _) _
    have HO2 := Lib.hid ho2
    have HB2 := Lib.hid hb2
    clear hW2 ho2 hb2
    go_loopw [5, 6, 35] (fun lv sv iv wr => ∃ k : Nat, k ≤ xs0.length ∧ iv = .int .i64 (k : Int) ∧ sv = .int .i64 (((nsOf xs0).take k).sum : Nat) ∧ Hid (wr.ownsRow w1.heap.size TIn 5 lv (k + 1) (insC (soFar (nsOf xs0) k))) ∧ Hid (Below w1.heap.size w1 wr)) (fun _ _ iv _ => xs0.length - (intOf iv).toNat)
    case atStart => exact ⟨0, Nat.zero_le _, rfl, rfl, HO2, HB2⟩
    case round =>
      obtain ⟨k, hk, rfl, rfl, HOk, HBk⟩ := hrel
      by_cases hlt : k < xs0.length
      · obtain ⟨g, o, rfl, -, -, hg, hc⟩ := HS0.out (by intro e; rw [e] at hlt; simp at hlt)
        have hxk := List.getElem?_eq_getElem hlt
        have hbk : Below w.heap.size w wr := HB1.out.trans (HBk.out.mono HB1.out.size)
        have hck := (hbk.cell (p := ⟨g, o + k, none⟩) hg).trans (hc k _ hxk)
        have hnk : (nsOf xs0)[k]? = some (xs0[k]).toNat := by unfold nsOf; rw [List.getElem?_map, hxk]; rfl
        have hbd := Go.bounds_u8 (HX0.out _ (List.getElem_mem hlt))
        have HSF := Lib.hid (soFar_succ hnk)
        have HSU := Lib.hid (sum_succ hnk)
        have hsb := sum_bd (ns := (nsOf xs0).take k) fun n hn => HNB.out n (List.mem_of_mem_take hn)
        have htl : ((nsOf xs0).take k).length ≤ 20 := by rw [List.length_take]; omega
        have hbw := HBk.out.size
        clear hc hxk hnk hbk
        generalize ((nsOf xs0).take k).sum = S at *
        generalize xs0[k] = x at *
        obtain ⟨xn, rfl⟩ : ∃ xn : Nat, x = (xn : Int) := ⟨x.toNat, by omega⟩
        rw [Int.toNat_natCast] at HSF HSU
        have hS : S ≤ 5100 := by omega
        go_wp2_with (at_builtin; refine wpList_append_lies _ rfl _ _ 55 rfl w1.heap.size TIn i0 (.agg #[.int .i64 0, .int .i64 0, .int .i64 0, .int .i64 0, .int .i64 0]) 5 40 Tryz.underlying55 hi hi0 hi1 hi2 rfl (by decide) _ _ _ rfl (HOk.out.alloc _) ⟨wr.heap.size, 0, none⟩ 1 1 [.int .i64 18, .int .i64 10, .int .i64 10, .int .i64 0, .int .i64 (xn : Int)] rfl rfl (World.news_of_block (cs := #[.int .i64 18, .int .i64 10, .int .i64 10, .int .i64 0, .int .i64 (xn : Int)]) (t := TIn) (fr := (0, 0)) (heap_alloc_new wr _)) (by simp [Value.oneCell']) (by decide) (by unfold maxLen; omega) (by omega) (by simp only [World.size_alloc]; omega) (wr.heap.size + 1) (by simp only [World.size_alloc]) ?_; intro gg cap w3 hown3 hgrow3 hat3 hlt3; have HO := Lib.hid hown3; have HG := Lib.hid hgrow3; clear hown3 hgrow3 hat3)
        refine ⟨⟨k + 1, by omega, by go_num, by rw [HSU.out]; go_num, Lib.hid ?_, Lib.hid ((HBk.out.alloc HBk.out.size _).grown HG.out (by simp only [World.size_alloc]; omega) (fun g hg => (HOk.out.lt g hg).1))⟩, by simp [intOf]; omega⟩
        rw [HSF.out, insC_snoc]
        exact HO.out
      · obtain rfl : k = xs0.length := by omega
        have hbody := soFar_all (nsOf xs0)
        rw [HNL.out] at hbody
        have hsum : ((nsOf xs0).take xs0.length).sum = (nsOf xs0).sum := by rw [← HNL.out, List.take_length]
        rw [hsum]
        have hlb : (bodyL (nsOf xs0)).length = xs0.length + 2 := by rw [body_len, HNL.out]
        have HBODY := Lib.hid hbody
        have HLB := Lib.hid hlb
        have hbw := HBk.out.size
        clear hbody hsum hlb
        go_upto_region 12 with (at_builtin; refine wpList_append_lies _ rfl _ _ 55 rfl w1.heap.size TIn i0 (.agg #[.int .i64 0, .int .i64 0, .int .i64 0, .int .i64 0, .int .i64 0]) 5 40 Tryz.underlying55 hi hi0 hi1 hi2 rfl (by decide) _ _ _ rfl (HOk.out.alloc _) ⟨wr.heap.size, 0, none⟩ 1 1 [.int .i64 41, .int .i64 0, .int .i64 1, .int .i64 0, .int .i64 0] rfl rfl (World.news_of_block (cs := #[.int .i64 41, .int .i64 0, .int .i64 1, .int .i64 0, .int .i64 0]) (t := TIn) (fr := (0, 0)) (heap_alloc_new wr _)) (by simp [Value.oneCell']) (by decide) (by unfold maxLen; omega) (by omega) (by simp only [World.size_alloc]; omega) (wr.heap.size + 1) (by simp only [World.size_alloc]) ?_; intro gg cap w3 hown3 hgrow3 hat3 hlt3; have HO := Lib.hid hown3; have HG := Lib.hid hgrow3; clear hown3 hgrow3 hat3)
        have hb3 : Below w1.heap.size w1 w3 := (HBk.out.alloc HBk.out.size _).grown HG.out (by simp only [World.size_alloc]; omega) (fun g hg => (HOk.out.lt g hg).1)
        have ho3 : w3.ownsRow w1.heap.size TIn 5 (.slice (some ⟨gg, 0, none⟩) (xs0.length + 1 + 1) cap) (xs0.length + 1 + 1) (insC (bodyL (nsOf xs0))) := by
          rw [← HBODY.out, insC_snoc]; exact HO.out
        have his := is_of ho3 (by rw [HLB.out]) (by omega)
        have cw := words_ _ _ _ (by rw [HLB.out]; omega) his (body_good HNB.out)
        have hul : (u32s ((bodyL (nsOf xs0)).map wordOf)).length = xs0.length + 2 := by unfold u32s; rw [List.length_map, List.length_map, HLB.out]
        have HB3 := Lib.hid hb3
        have HUL := Lib.hid hul
        have GGN := Lib.hid (show xs0.length + 1 + 1 = xs0.length + 2 from rfl)
        clear hb3 ho3 his hul HO HG HOk HBk hbw
        go_upto_region 13 with (go_at_call 19; (with_reducible refine cw.mono ?_); rintro e w4 ⟨v4, rfl, ho4, hb4⟩; rw [HUL.out] at ho4; obtain ⟨g4, cap4, rfl, -, hg4, hc4, hc4', hr4⟩ := row_of ho4 (by omega); have HR4 := Lib.hid hr4; have HB4 := Lib.hid hb4; clear ho4 hb4 cw hr4)
        obtain ⟨W5, hW5⟩ : ∃ W5, W5 = (w4.alloc (SBm mainB)).alloc (.cells #[.slice (some ⟨g4, 0, none⟩) (xs0.length + 2) cap4, .slice none 0 0, .slice (some ⟨w4.heap.size, 0, none⟩) 1 1, .slice none 0 0] TO) := ⟨_, rfl⟩
        have hs5 : w4.heap.size + 2 ≤ W5.heap.size := by rw [hW5]; simp
        have hb5 : Below w4.heap.size w4 W5 := by rw [hW5]; exact ((Below.refl _ _).alloc (Nat.le_refl _) _).alloc (by simp) _
        have hsm : W5.heap[w4.heap.size]? = some (SBm mainB) := by rw [hW5]; exact (Lib.alloc_old _ _ _ (by simp)).trans (heap_alloc_new w4 _)
        have hom : W5.heap[w4.heap.size + 1]? = some (.cells #[.slice (some ⟨g4, 0, none⟩) (xs0.length + 2) cap4, .slice none 0 0, .slice (some ⟨w4.heap.size, 0, none⟩) 1 1, .slice none 0 0] TO) := by
          rw [hW5]
          have := heap_alloc_new (w4.alloc (SBm mainB)) (.cells #[.slice (some ⟨g4, 0, none⟩) (xs0.length + 2) cap4, .slice none 0 0, .slice (some ⟨w4.heap.size, 0, none⟩) 1 1, .slice none 0 0] TO)
          rwa [World.size_alloc] at this
        simp only [SBm, mainB] at hW5
        rw [← hW5]
        clear hW5
        obtain ⟨i1, hj, hj0, hj1, hj2⟩ := info_parts w_info
        have hbw5 : Below w.heap.size w W5 := (HB1.out.trans (HB3.out.mono HB1.out.size)).trans ((HB4.out.mono (Nat.le_trans HB1.out.size HB3.out.size)).trans (hb5.mono (Nat.le_trans HB1.out.size (Nat.le_trans HB3.out.size HB4.out.size))))
        have hnews : 0 < xs1.length → ∃ b o, p1 = some ⟨b, o, none⟩ ∧ ∀ j u, (xs1.map (Value.int .u32))[j]? = some u → (W5.alloc (.cells #[] TWo)).cell? ⟨b, o + j, none⟩ = some u := fun h0 => by
          obtain ⟨g, o, e, -, -, hg, hc⟩ := HS1.out (by intro e; rw [e] at h0; simp at h0)
          refine ⟨g, o, e, fun j u hu => ?_⟩
          rw [List.getElem?_map] at hu
          cases hx : xs1[j]? with
          | none => rw [hx] at hu; cases hu
          | some x =>
            rw [hx] at hu
            cases hu
            exact ((hbw5.alloc hbw5.size _).cell (p := ⟨g, o + j, none⟩) hg).trans (hc j x hx)
        have hone : ∀ u ∈ xs1.map (Value.int .u32), u.oneCell' = true := fun u hu => by
          obtain ⟨x, _, rfl⟩ := List.mem_map.1 hu
          rfl
        have HNE := Lib.hid hnews
        have HON := Lib.hid hone
        have HB5 := Lib.hid hb5
        have HSM := Lib.hid hsm
        have HOM := Lib.hid hom
        have HBW5 := Lib.hid hbw5
        clear hb5 hsm hbw5 hnews hone
        go_upto_region 14 with (at_builtin; go_must (refine wpList_append_sl rfl _ _ 25 rfl W5.heap.size TWo i1 (.int .u32 0) 1 4 Tryz.underlying25 hj hj0 hj1 hj2 rfl (by decide) (.slice (some ⟨W5.heap.size, 0, none⟩) 0 0) 0 [] rfl (World.ownsRow_lit (base := W5.heap.size) (e := TWo) (size := 1) W5 #[] 0 (Nat.le_refl _) (Nat.zero_le _) rfl) p1 xs1.length c1 (xs1.map (Value.int .u32)) rfl (by simp) HNE.out HON.out (by unfold maxLen; omega) (by omega) (by simp) ?_); go_must (intro p6 c6 w6 ho6 hg6; have HB6 := Lib.hid (((Below.refl W5.heap.size W5).alloc (Nat.le_refl _) _).grown hg6 (by simp) (fun g hg => by cases hg; exact Nat.le_refl _)); rw [Nat.zero_add, List.nil_append] at ho6; rw [Nat.zero_add]; have HN6 := Lib.hid (nums_of ho6 rfl); clear ho6 hg6))
        obtain ⟨W7, hW7⟩ : ∃ W7, W7 = (w6.alloc (SBm nobB)).alloc (.cells #[.slice p6 xs1.length c6, .slice none 0 0, .slice (some ⟨w6.heap.size, 0, none⟩) 1 1, .slice none 0 0] TO) := ⟨_, rfl⟩
        have hs7 : w6.heap.size + 2 ≤ W7.heap.size := by rw [hW7]; simp
        have hb7 : Below w6.heap.size w6 W7 := by rw [hW7]; exact ((Below.refl _ _).alloc (Nat.le_refl _) _).alloc (by simp) _
        have hsn : W7.heap[w6.heap.size]? = some (SBm nobB) := by rw [hW7]; exact (Lib.alloc_old _ _ _ (by simp)).trans (heap_alloc_new w6 _)
        have hon : W7.heap[w6.heap.size + 1]? = some (.cells #[.slice p6 xs1.length c6, .slice none 0 0, .slice (some ⟨w6.heap.size, 0, none⟩) 1 1, .slice none 0 0] TO) := by
          rw [hW7]
          have := heap_alloc_new (w6.alloc (SBm nobB)) (.cells #[.slice p6 xs1.length c6, .slice none 0 0, .slice (some ⟨w6.heap.size, 0, none⟩) 1 1, .slice none 0 0] TO)
          rwa [World.size_alloc] at this
        have hs6 := HB6.out.size
        have hom7 : W7.heap[w4.heap.size + 1]? = some (.cells #[.slice (some ⟨g4, 0, none⟩) (xs0.length + 2) cap4, .slice none 0 0, .slice (some ⟨w4.heap.size, 0, none⟩) 1 1, .slice none 0 0] TO) := (hb7.block _ (by omega)).trans ((HB6.out.block _ (by omega)).trans HOM.out)
        simp only [SBm, nobB] at hW7
        rw [← hW7]
        clear hW7
        have HB7 := Lib.hid hb7
        have HSN := Lib.hid hsn
        have HON := Lib.hid hon
        have HOM7 := Lib.hid hom7
        clear hb7 hsn hom
        have a0 := Lib.cell_of_heap hom7 0
        have a1 := Lib.cell_of_heap hom7 1
        have a2 := Lib.cell_of_heap hom7 2
        have a3 := Lib.cell_of_heap hom7 3
        have n0 := Lib.cell_of_heap hon 0
        have n1 := Lib.cell_of_heap hon 1
        have n2 := Lib.cell_of_heap hon 2
        have n3 := Lib.cell_of_heap hon 3
        obtain ⟨A1, hA1⟩ : ∃ A1, A1 = Obj.cells #[.slice (some ⟨g4, 0, none⟩) (xs0.length + 2) cap4, .slice none 0 0, .slice (some ⟨w4.heap.size, 0, none⟩) 1 1, .slice none 0 0] TO := ⟨_, rfl⟩
        obtain ⟨A2, hA2⟩ : ∃ A2, A2 = Obj.cells #[.slice (some ⟨g4, 0, none⟩) (xs0.length + 2) cap4, .slice none 0 0, .slice (some ⟨w4.heap.size, 0, none⟩) 1 1, .slice none 0 0, .slice p6 xs1.length c6, .slice none 0 0, .slice (some ⟨w6.heap.size, 0, none⟩) 1 1, .slice none 0 0] TO := ⟨_, rfl⟩
        obtain ⟨A3, hA3⟩ : ∃ A3, A3 = Obj.cells #[.slice p6 xs1.length c6, .slice none 0 0, .slice (some ⟨w6.heap.size, 0, none⟩) 1 1, .slice none 0 0, .slice (some ⟨g4, 0, none⟩) (xs0.length + 2) cap4, .slice none 0 0, .slice (some ⟨w4.heap.size, 0, none⟩) 1 1, .slice none 0 0] TO := ⟨_, rfl⟩
        obtain ⟨A4, hA4⟩ : ∃ A4, A4 = Obj.cells #[.slice (some ⟨W7.heap.size, 0, none⟩) 1 1, .slice (some ⟨W7.heap.size + 1, 0, none⟩) 2 2, .slice (some ⟨W7.heap.size + 1 + 1, 0, none⟩) 2 2] 22 := ⟨_, rfl⟩
        have h9 : w4.heap.size + 1 < W7.heap.size := by omega
        have h10 : w6.heap.size + 1 < W7.heap.size := by omega
        have h11 : w6.heap.size < W7.heap.size := by omega
        have h12 : w4.heap.size < W7.heap.size := by omega
        have h13 : w6.heap.size < W7.heap.size + 1 := by omega
        have h14 : w4.heap.size < W7.heap.size + 1 := by omega
        have HA := Lib.hid (⟨hA1, hA2, hA3, hA4⟩ : _ ∧ _ ∧ _ ∧ _)
        clear hA1 hA2 hA3 hA4
        go_upto_region 15 with fail
        clear a0 a1 a2 a3 n0 n1 n2 n3
        obtain ⟨hA1, hA2, hA3, hA4⟩ := HA.out
        obtain ⟨W8, hW8⟩ : ∃ W8, W8 = (((W7.alloc A1).alloc A2).alloc A3).alloc A4 := ⟨_, rfl⟩
        obtain ⟨z1, z2, z3, z4, hs8, hb8⟩ := four_at W7 A1 A2 A3 A4
        rw [← hW8] at z1 z2 z3 z4 hs8 hb8
        rw [hA1, hA2, hA3, hA4] at hW8
        rw [← hW8]
        rw [hA1] at z1
        rw [hA2] at z2
        rw [hA3] at z3
        rw [hA4] at z4
        clear hW8 hA1 hA2 hA3 hA4 HA
        have q5 := HB5.out.size
        have b68 : Below w6.heap.size w6 W8 := HB7.out.trans (hb8.mono (by omega))
        have b58 : Below W5.heap.size W5 W8 := HB6.out.trans (b68.mono hs6)
        have b48 : Below w4.heap.size w4 W8 := HB5.out.trans (b58.mono q5)
        have bw8 : Below w.heap.size w W8 := HBW5.out.trans (b58.mono HBW5.out.size)
        have hwl : ((bodyL (nsOf xs0)).map wordOf).length = xs0.length + 2 := by rw [List.length_map, HLB.out]
        have q8 := b68.size
        have nm : Nums8 .u32 W8.heap.size W8 (.slice (some ⟨g4, 0, none⟩) (xs0.length + 2) cap4) ((bodyL (nsOf xs0)).map wordOf) := ⟨some ⟨g4, 0, none⟩, cap4, by rw [hwl], fun _ => ⟨g4, 0, rfl, by omega, by rw [hwl]; exact hc4, hc4', row_below HR4.out b48 hg4⟩⟩
        have nn6 : Nums8 .u32 W8.heap.size W8 (.slice p6 xs1.length c6) xs1 := nums_mv HN6.out b68 q8
        have o1 : ObjAt W8.heap.size W8 _ _ _ _ (mainO (nsOf xs0)) := obj_at2 nm ((b58.block _ (by omega)).trans HSM.out) (by omega)
        have o2 : ObjAt W8.heap.size W8 _ _ _ _ (moreO xs1) := obj_at2 nn6 ((hb8.block _ (by omega)).trans HSN.out) (by omega)
        have P1 := KW.objs_one z1 (show _ < W8.heap.size by omega) o1
        have P2 := objs_pair z2 (show _ < W8.heap.size by omega) o1 o2
        have P3 := objs_pair z3 (show _ < W8.heap.size by omega) o2 o1
        have m0 := Lib.cell_of_heap z4 0
        have m1 := Lib.cell_of_heap z4 1
        have m2 := Lib.cell_of_heap z4 2
        have hnl := HNL.out
        have wf1 : (mainO (nsOf xs0)).Wf := one_wf (fun x hx => by
          obtain ⟨i, -, rfl⟩ := List.mem_map.1 hx
          have := CL.enc_bd i.1 i.2.1 i.2.2.1 i.2.2.2.1 i.2.2.2.2
          unfold wordOf; omega) (by decide)
        have wf2 : (moreO xs1).Wf := one_wf (fun x hx => by have := Go.bounds_u32 (HX1.out x hx); omega) (by decide)
        have lm1 : (mainO (nsOf xs0)).ws.length ≤ 65536 ∧ (mainO (nsOf xs0)).ds.length ≤ 65536 ∧ (mainO (nsOf xs0)).ss.length ≤ 60 ∧ (mainO (nsOf xs0)).rs.length ≤ 100 := ⟨by show ((bodyL _).map wordOf).length ≤ _; rw [hwl]; omega, by simp [mainO, oneO], by simp [mainO, oneO], by simp [mainO, oneO]⟩
        have lm2 : (moreO xs1).ws.length ≤ 65536 ∧ (moreO xs1).ds.length ≤ 65536 ∧ (moreO xs1).ss.length ≤ 60 ∧ (moreO xs1).rs.length ≤ 100 := ⟨by show xs1.length ≤ _; omega, by simp [moreO, oneO], by simp [moreO, oneO], by simp [moreO, oneO]⟩
        have P : ∀ k, k < 3 → ∃ (D m i : Nat) (objs : List ObjV), W8.cell? ⟨W7.heap.size + 1 + 1 + 1, k, none⟩ = some (.slice (some ⟨D, 0, none⟩) m m) ∧ ObjsAt W8.heap.size W8 (.slice (some ⟨D, 0, none⟩) m m) objs ∧ Runs objs (nsOf xs0) i ∧ (∀ o ∈ objs, o.Wf) ∧ objs.length ≤ 12 ∧ ∀ o ∈ objs, o.ws.length ≤ 65536 ∧ o.ds.length ≤ 65536 ∧ o.ss.length ≤ 60 ∧ o.rs.length ≤ 100 := fun k hk => by
          obtain rfl | rfl | rfl : k = 0 ∨ k = 1 ∨ k = 2 := by omega
          · exact ⟨_, 1, 0, _, m0, P1, runs_a (by omega), by simpa using wf1, by simp, by simpa using lm1⟩
          · exact ⟨_, 2, 0, _, m1, P2, runs_b (by omega) hl1, by simpa using ⟨wf1, wf2⟩, by simp, by simpa using ⟨lm1, lm2⟩⟩
          · exact ⟨_, 2, 1, _, m2, P3, runs_c (by omega) hl1, by simpa using ⟨wf2, wf1⟩, by simp, by simpa using ⟨lm2, lm1⟩⟩
        have HP := Lib.hid P
        have HBW8 := Lib.hid bw8
        have hsum := sum_bd HNB.out
        have HSB := Lib.hid (show (nsOf xs0).sum ≤ 5100 by omega)
        have hs83 : W7.heap.size + 1 + 1 + 1 < W8.heap.size := by omega
        clear P P1 P2 P3 m0 m1 m2 z1 z2 z3 z4 o1 o2 nm nn6 wf1 wf2 lm1 lm2 b68 b58 b48 bw8 hwl hnl hsum hb8 hs8 q8 h9 h10 h11 h12 h13 h14 hs7 hs6
        go_loopw [75] (fun iv wr => ∃ k : Nat, k ≤ 3 ∧ iv = .int .i64 (k : Int) ∧ Hid (Below W8.heap.size W8 wr)) (fun iv _ => 3 - (intOf iv).toNat)
        case atStart => exact ⟨0, by omega, rfl, Lib.hid (Below.refl _ _)⟩
        case round =>
          obtain ⟨k, hk, rfl, HBk⟩ := hrel
          have hsz := HBk.out.size
          by_cases hlt : k < 3
          · obtain ⟨D, m, i, objs, hc, ho, R, hwf, hl12, hlim⟩ := HP.out k hlt
            have hck := (HBk.out.cell (p := ⟨W7.heap.size + 1 + 1 + 1, k, none⟩) hs83).trans hc
            obtain ⟨bs, hl, hlen, hdo⟩ := runs_link R HNB.out (by rw [HNL.out]; omega)
            have hd := R.dend
            obtain ⟨nn, hnn⟩ : ∃ nn, LM.dend (szL objs) = nn := ⟨_, rfl⟩
            rw [hnn] at hdo hd
            have cl := link_ok (w := wr) (n₀ := W8.heap.size) hsz (ObjsAt.same ho (Same.of HBk.out (Nat.le_refl _))) hwf hl12 hlim hl hnn
            obtain ⟨N, hN⟩ : ∃ N : Nat, MW.up (MW.up (nn : Int) + 0) = N := ⟨(MW.up (MW.up (nn : Int) + 0)).toNat, by unfold MW.up; omega⟩
            have hN1 : nn ≤ N ∧ N ≤ 2097152 ∧ 0 ≤ MW.up (nn : Int) ∧ MW.up (nn : Int) ≤ 4294967295 := by unfold MW.up at hN ⊢; omega
            obtain ⟨T, hT, hT1, hT2, hT3, hT4⟩ := hdo N (MW.up (nn : Int)) hN1.1 hN1.2.1
            rw [HNL.out] at hT3
            have HT := Lib.hid (⟨hT, hT1, hT2, hT3, hT4⟩ : _ ∧ _ ∧ _ ∧ _ ∧ _)
            have HNN := Lib.hid (⟨hN, hN1, (by omega : nn ≤ 100000)⟩ : _ ∧ _ ∧ _)
            have hS := HSB.out
            clear hc ho R hwf hl12 hlim hl hlen hdo hd hnn hN hN1 hT hT1 hT2 hT3 hT4
            generalize (nsOf xs0).sum = S at *
            go_wp2_with (first
              | (go_at_call 13; go_must (with_reducible refine cl.mono ?_); rintro e w9 ⟨g9, rfl, hg9, hbl, hby, hb9⟩; have HG9 := Lib.hid hg9; have HBY := Lib.hid hby; have HB9 := Lib.hid hb9; have cl2 := load_img hg9 hbl HNN.out.2.2 0 (by omega) (by omega) HNN.out.1; clear hg9 hbl hby hb9 cl)
              | (go_at_call 20; go_must (with_reducible refine cl2.mono ?_); rintro e w11 ⟨b, bm, rfl, A, hb, hbm, hb11⟩; have cg := run_img (F := 100) A HBY.out HNN.out.2.1.2.2 HNN.out.2.1.2.1 (by omega) HT.out.1 HT.out.2.1 HT.out.2.2.1 HT.out.2.2.2.1 (by omega) HT.out.2.2.2.2; have HB11 := Lib.hid hb11; have HBB := Lib.hid (⟨hb, hbm⟩ : _ ∧ _); clear A hb11 hb hbm cl2)
              | (go_at_call 21; go_must (with_reducible refine cg.mono ?_); rintro e w12 ⟨p5, l5, c5, rfl, O12⟩; have HO12 := Lib.hid O12; clear cg O12))
            refine ⟨⟨k + 1, by omega, by go_num, Lib.hid ?_⟩, by simp [intOf]; omega⟩
            have c9 := HBk.out.trans (HB9.out.mono hsz)
            have q9 := c9.size
            have c11 := (c9.alloc c9.size (.cells #[.int .i64 0, .slice (some ⟨g9, 0, none⟩) nn nn] KG.TI)).trans (HB11.out.mono (by omega))
            have q3 := HBB.out
            have c12 := c11.trans (HO12.out.below c11.size (by omega) (by omega))
            exact c12.alloc c12.size _
          · obtain rfl : k = 3 := by omega
            go_wp2
            go_ret
            exact ⟨rfl, HBW8.out.trans (HBk.out.mono HBW8.out.size)⟩

set_option maxRecDepth 100000 in
theorem lifted (os : Os) (started : os.Started) (H : Type) (enc : TypeId × Value → H) :
    ReturnsInHanded {} Tryz.checked os 9 .any (Rows.linkMoreSpec.pre6 enc Tryz.prog Tryz.f9 Rows.linkMoreRow.domain false) (Rows.linkMoreSpec.post enc Tryz.prog Tryz.f9 false true false false) := by
  refine returnsInHanded_of_change (C := Tryz.checked) own started (by kernel_rfl) Tryz.func9
    (ChangeSpec.witness6 (enc := enc) (C := Tryz.checked) false ⟨#[], #[.slice none 0 0, .slice none 0 0], []⟩ 8 (by kernel_rfl) (by kernel_rfl) (by kernel_rfl) (by kernel_rfl)) ?_
  intro W base args ds gs before hval0 hW hcnd _
  have hval : ∀ (j : Nat) t v, Tryz.f9.params[j]? = some t → args[j]? = some v → Value.okWide Tryz.prog W .any base t v := hval0
  have hW' := hW
  obtain ⟨p, q, hA0, hV, rfl, hfz, hnd⟩ := hW
  have hA : DataW.TrodAll enc Tryz.prog W 0 (fun _ => true) true Tryz.f9.params.toList args.toList ds p := hA0
  rw [Tryz.params9] at hA hval
  obtain ⟨v0, vs0, d0, ds0, p0, q0, hargs, rfl, rfl, h0, r0⟩ := trodAll_cons hA
  obtain ⟨v1, vs1, d1, ds1, p1, q1, rfl, rfl, rfl, h1, r1⟩ := trodAll_cons r0
  obtain ⟨rfl, rfl, rfl⟩ := trodAll_nil r1
  obtain rfl : args = #[v0, v1] := by cases args; simp_all
  obtain ⟨rfl, rfl⟩ := trodVars_none hV
  obtain ⟨xs0, ha0, hx0, sh0⟩ := MO.open_nums Tryz.underlying26 Tryz.underlying5 (by kernel_rfl) (hval 0 26 v0 rfl rfl) h0
  obtain ⟨xs1, ha1, hx1, sh1⟩ := MO.open_nums Tryz.underlying25 Tryz.underlying46 (by kernel_rfl) (hval 1 25 v1 rfl rfl) h1
  clear hA0 hval0
  simp only [List.append_nil] at hW'
  refine (walk v0 xs0 v1 xs1 W ha0 hx0 ha1 hx1).mono fun e W' ⟨he, hg⟩ => ?_
  subst he
  exact ⟨_, rfl, _, _, _, [], _, _, hW', (trodAll_cons_mk (shut_bool Tryz.underlying4 _) trodAll_mk0), (trodAll_cons_mk (sh0 _ _ (fun b hb => decide_eq_true hb) hg) (trodAll_cons_mk (sh1 _ _ (fun b hb => decide_eq_true hb) hg) trodAll_mk0)), rfl, hg.frame _, fun h => by cases h⟩

theorem over : Rows.linkMoreRow.holds Tryz.pinned (OpenSpec.ofChange Rows.linkMoreSpec) :=
  OpenClaim.holds_of_wide 9 Tryz.f9 rfl rfl rfl rfl rfl rfl rfl ⟨rfl, rfl, rfl, rfl, rfl⟩ rfl rfl rfl rfl rfl (by kernel_rfl) Tryz.func9 (by kernel_rfl)
    (of_decide_eq_true (by kernel_rfl)) (by unfold Func.isWrapper; first | (rw [if_pos (by decide +kernel)]; kernel_rfl) | (rw [if_neg (by decide +kernel)]; exact ⟨rfl, rfl⟩))
    (fun os started H enc _ => lifted os started H enc)

/-- The statement. -/
theorem proved : Rows.LinkMoreSaid :=
  over
end Go.Proofs.YtlmblfkcmhgdaaaGreat.linkMore
