/-
  Of any objects the law ResolveMore returns true: an object more that defines just what nobody does takes the error away; one that defines a name that is, brings one.
  Conditions: none beyond those of the given statement.
-/
import Derived.Test.YtieehjkmfmkfjaaRows
import Derived.Test.YtieehjkmfmkfjaaResC
import Derived.Test.YtieehjkmfmkfjaaResA
import Derived.Test.YtieehjkmfmkfjaaResO
import Derived.Deep.AppendLies
import Derived.Deep.RegionHeld3
import Derived.Deep.DeepCutAuto
import Derived.BigQuiet
import Derived.BigRegion
import Derived.WalkKit
import Derived.ProofKit
import Derived.OpenShut
namespace Go.Proofs.Ytieehjkmfmkfjaa.resolveMore
open Go.ChangeShapes Go.WideShapes Go.ChangeAt Go.RowKit
set_option linter.unusedVariables false
set_option linter.unusedSimpArgs false

theorem own : ownKnob Try.prog.godebug = none := by kernel_rfl
open OO OJ RsM RsF RsB RsT RsD RsQ RsY RsJ RsK RsZ RsV RsH RsC LV
theorem small_names {objs : List ObjV} (h : fewO objs = true) : ∀ o ∈ objs, ∀ s ∈ o.ss, s.name.size ≤ 1000000 := fun o ho s hs => by
  have := (OE.few_lim ((fewO_lim h).2 o ho)).2.2.2.2 s hs
  omega
theorem few_flat2 {objs : List ObjV} (h : fewO objs = true) : (flat objs).length ≤ 720 := by
  obtain ⟨h1, h2⟩ := fewO_lim h
  have h3 : ∀ o ∈ objs, o.ss.length ≤ 60 := fun o ho => (OE.few_lim (h2 o ho)).2.2.1
  have := flatTo_len h3 objs.length
  unfold flat
  omega
abbrev Mr (W : World) (A : Nat) (m0 m1 m2 m3 : Value) : Prop := W.cell? ⟨A, 0, none⟩ = some m0 ∧ W.cell? ⟨A, 1, none⟩ = some m1 ∧ W.cell? ⟨A, 2, none⟩ = some m2 ∧ W.cell? ⟨A, 3, none⟩ = some m3
theorem Mr.alloc {W : World} {A : Nat} {m0 m1 m2 m3 : Value} (h : Mr W A m0 m1 m2 m3) (hA : A < W.heap.size) (o : Obj) : Mr (W.alloc o) A m0 m1 m2 m3 :=
  ⟨(World.cell?_alloc_lt (w := W) (a := ⟨A, 0, none⟩) (o := o) hA).trans h.1, (World.cell?_alloc_lt (w := W) (a := ⟨A, 1, none⟩) (o := o) hA).trans h.2.1, (World.cell?_alloc_lt (w := W) (a := ⟨A, 2, none⟩) (o := o) hA).trans h.2.2.1, (World.cell?_alloc_lt (w := W) (a := ⟨A, 3, none⟩) (o := o) hA).trans h.2.2.2⟩
theorem Mr.drew {W : World} {A : Nat} {m0 m1 m2 m3 : Value} (h : Mr W A m0 m1 m2 m3) : Mr W.drew A m0 m1 m2 m3 := h
theorem Mr.grown {W W' : World} {A : Nat} {m0 m1 m2 m3 : Value} {row : Option Nat} (h : Mr W A m0 m1 m2 m3) (hA : A < W.heap.size) (hg : W.grownBy W' row) (hne : some A ≠ row) : Mr W' A m0 m1 m2 m3 :=
  ⟨(cell_same (hg.block A hA hne) 0).trans h.1, (cell_same (hg.block A hA hne) 1).trans h.2.1, (cell_same (hg.block A hA hne) 2).trans h.2.2.1, (cell_same (hg.block A hA hne) 3).trans h.2.2.2⟩
theorem own0 {base : Nat} (w : World) (k : Nat) (h : k = w.heap.size) (hb : base ≤ w.heap.size) : (w.alloc (.cells #[] TO)).ownsRow base TO 4 (.slice (some ⟨k, 0, none⟩) 0 0) 0 [] := by
  subst h
  exact World.ownsRow_lit w #[] 0 hb (Nat.zero_le _) rfl
/-- what the loop has done -/
structure MI (w w10 : World) (A : Nat) (N : List (List UInt8)) (k : Nat) (W : World) : Prop where
  a0 : W.heap[A]? = some (.cells #[.int .u32 19] TW (0, 0))
  a1 : ∃ q c, W.heap[A + 1]? = some (.cells #[.slice (some ⟨A, 0, none⟩) 1 1, .slice none 0 0, .slice q k c, .slice none 0 0] TO (0, 0)) ∧ W.ownsRow w10.heap.size TY 5 (.slice q k c) k (symsC ((N.take k).map symM))
  bel : Below w.heap.size w W
  oth : ∀ b, b < w10.heap.size → b ≠ A + 1 → W.heap[b]? = w10.heap[b]?
  zz : w10.heap.size ≤ W.heap.size
theorem not_str {W : World} {A i : Nat} {m0 m1 m2 m3 : Value} {T : TypeId} {f : Nat × Nat} {s : ByteArray} (h : W.heap[A]? = some (.cells #[m0, m1, m2, m3] T f)) (h0 : ∀ t, m0 ≠ .string t) (h1 : ∀ t, m1 ≠ .string t) (h2 : ∀ t, m2 ≠ .string t) (h3 : ∀ t, m3 ≠ .string t) : W.cell? ⟨A, i, none⟩ ≠ some (.string s) := by
  intro e
  unfold World.cell? at e
  rw [show W.heap[(⟨A, i, none⟩ : Addr).block]? = _ from h] at e
  match i, e with
  | 0, e => exact h0 s (by simpa using e)
  | 1, e => exact h1 s (by simpa using e)
  | 2, e => exact h2 s (by simpa using e)
  | 3, e => exact h3 s (by simpa using e)
  | i + 4, e => simp at e
theorem take_map {N : List (List UInt8)} {k : Nat} (h : k < N.length) : (N.take (k + 1)).map symM = (N.take k).map symM ++ [symM N[k]] := by
  rw [List.take_succ_eq_append_getElem h, List.map_append]; rfl
theorem mi_next {w w10 W W' : World} {A k : Nat} {N : List (List UInt8)} {q q' : Option Addr} {c c' : Nat} (h : MI w w10 A N k W) (hk : k < N.length) (hA : A + 1 < w10.heap.size) (hw : w.heap.size ≤ A)
    (b1 : W.heap[A + 1]? = some (.cells #[.slice (some ⟨A, 0, none⟩) 1 1, .slice none 0 0, .slice q k c, .slice none 0 0] TO (0, 0))) (b2 : W.ownsRow w10.heap.size TY 5 (.slice q k c) k (symsC ((N.take k).map symM)))
    (hr : W'.ownsRow w10.heap.size TY 5 (.slice q' (k + 1) c') (k + 1) (symsC ((N.take k).map symM) ++ symC (symM N[k]))) (hg : (W.alloc (.cells (symC (symM N[k])).toArray TY)).grownBy W' (Value.slice q k c).ownBlock) : MI w w10 A N (k + 1) (W'.setCell ⟨A + 1, 2, none⟩ (.slice q' (k + 1) c')) := by
  have hz := h.zz
  have hlow : ∀ g, (Value.slice q k c).ownBlock = some g → w10.heap.size ≤ g := fun g hg => (b2.lt g hg).1
  have hne : ∀ b, b < w10.heap.size → some b ≠ (Value.slice q k c).ownBlock := fun b hb e => by have := hlow b e.symm; omega
  have low : ∀ b, b < w10.heap.size → W'.heap[b]? = W.heap[b]? := fun b hb => (hg.block b (by simp only [World.size_alloc]; omega) (hne b hb)).trans (Lib.alloc_old _ _ _ (by omega))
  have g2 := grownBy_setCell' W' (A + 1) (.slice q' (k + 1) c')
  refine ⟨(Below.heap_setCell _ _ _ _ (by show A ≠ A + 1; omega)).trans ((low _ (by omega)).trans h.a0), ⟨q', c', RsV.hset ((low _ hA).trans b1) _, ?_⟩, ?_, fun b hb hb2 => (Below.heap_setCell _ _ _ _ (by exact hb2)).trans ((low b hb).trans (h.oth b hb hb2)), by rw [World.size_setCell]; have := hg.size; simp only [World.size_alloc] at this; omega⟩
  · rw [take_map hk, symsC_snoc]
    exact ownsRow_setCell_other hr (fun e => by have := (hr.lt _ e).1; simp at this; omega) _
  · exact ((h.bel.alloc h.bel.size _).grown hg (by simp only [World.size_alloc]; have := h.bel.size; omega) (fun g hg => by have := hlow g hg; omega)).setCell (by simp; omega) _

set_option maxRecDepth 100000 in
set_option maxHeartbeats 8000000 in
theorem walk (v0 : Value) (objs0 : List OO.ObjV) (w : World) (ha0 : RsM.ObjsAt w.heap.size w v0 objs0) (hw0 : ∀ o ∈ objs0, o.Wf) :
    Calls Try.prog 7 #[v0] w fun e w' => e = .returned (.bool true) ∧ Below w.heap.size w w' := by
  have HO := Lib.hid ha0
  have HW := Lib.hid hw0
  have HM := Lib.hid (OB.Sl_len ha0)
  obtain ⟨p, c, rfl, -⟩ := ha0
  clear hw0
  cases hf : RsF.fewO objs0 with
  | false =>
    have HF := Lib.hid hf
    clear hf
    go_enter Try.func7, Try.ntmps7
    go_wp2_with (first
      | (go_at_call 10; (first
          | (with_reducible refine (RsA.awake_ _).mono ?_; rintro e w3 ⟨rfl, hb3⟩; have HB3 := Lib.hid (HB2.out.trans (hb3.mono HB2.out.size)); clear hb3)
          | (with_reducible refine (RsA.awake_ _).mono ?_; rintro e w1 ⟨rfl, hb1⟩; have HB1 := Lib.hid hb1; clear hb1)))
      | (go_at_call 11; (with_reducible refine (RsF.fewO_ HB1.out.size (ObjsAt.same HO.out (Same.of HB1.out (Nat.le_refl _))) HW.out HM.out).mono ?_); rintro e w2 ⟨rfl, hb2⟩; have HB2 := Lib.hid (HB1.out.trans (hb2.mono HB1.out.size)); rw [HF.out]; clear hb2))
    go_ret
    exact ⟨rfl, HB3.out⟩
  | true =>
    have HF := Lib.hid hf
    obtain ⟨hm12, hms, hN⟩ := few_flat hf
    have hN2 := few_flat2 hf
    have HSN := Lib.hid (small_names hf)
    have HMS := Lib.hid hms
    have HRC := Lib.hid (code_cases objs0)
    have HND := Lib.hid (fun (h : resCode objs0 = 0 ∨ resCode objs0 = 3) => nd_of h)
    clear hf hms
    go_enter Try.func7, Try.ntmps7
    go_upto_region 3 with (first
      | (go_at_call 10; with_reducible refine (RsA.awake_ _).mono ?_; rintro e w1 ⟨rfl, hb1⟩; have HB1 := Lib.hid hb1; clear hb1)
      | (go_at_call 11; (with_reducible refine (RsF.fewO_ HB1.out.size (ObjsAt.same HO.out (Same.of HB1.out (Nat.le_refl _))) HW.out HM.out).mono ?_); rintro e w2 ⟨rfl, hb2⟩; have HB2 := Lib.hid (HB1.out.trans (hb2.mono HB1.out.size)); rw [HF.out]; clear hb2))
    have cr1 := res_ (w := w2) (n₀ := w.heap.size) HB2.out.size (ObjsAt.same HO.out (Same.of HB2.out (Nat.le_refl _))) HW.out (by omega) HMS.out hN
    have hs2 := HB2.out.size
    go_upto_region 4 with (go_at_call 13; (with_reducible refine cr1.mono ?_); rintro e w6 ⟨p1, c1, i1, k1, rfl, -, hb6⟩; have HB6 := Lib.hid (HB2.out.trans (hb6.mono hs2)); clear hb6 cr1)
    have h6z := HB6.out.size
    have hb7 : Below w.heap.size w (w6.alloc (.cells #[.int .i64 i1, .int .i64 k1] TT)) := HB6.out.alloc h6z _
    have cn := Needs_ (w := w6.alloc (.cells #[.int .i64 i1, .int .i64 k1] TT)) (n₀ := w.heap.size) hb7.size (ObjsAt.same HO.out (Same.of hb7 (Nat.le_refl _))) HW.out (by omega) HMS.out hN HSN.out
    unfold NRes at cn
    have HB7 := Lib.hid hb7
    have h7z := hb7.size
    clear hb7 HB6 HB1 HB2
    generalize w6.alloc (.cells #[.int .i64 i1, .int .i64 k1] TT) = w7 at *
    by_cases hz : resCode objs0 = 0 ∨ resCode objs0 = 3
    · have hnd := HND.out hz
      have HN := Lib.hid hnd
      have HNEED := Lib.hid (rfl : needsL objs0 = needsL objs0)
      have cnF : ∀ (W : World), w.heap.size ≤ W.heap.size → Below w.heap.size w W → Calls Try.prog 19 #[.slice p objs0.length c] W (NRes objs0 W) := fun W hW hb => Needs_ (w := W) (n₀ := w.heap.size) hW (ObjsAt.same HO.out (Same.of hb (Nat.le_refl _))) HW.out (by omega) HMS.out hN HSN.out
      unfold NRes at cnF
      generalize needsL objs0 = N at *
      have HCN := Lib.hid cnF
      clear cnF hnd HND HRC HNEED
      by_cases h5 : 500 < N.length
      · rcases hz with hz | hz
        all_goals
          rw [hz]
          go_wp2_with (go_at_call 19; (with_reducible refine cn.mono ?_); rintro e w8 ⟨pn, cn', rfl, -, hb8⟩; have HB8 := Lib.hid hb8; clear hb8)
          go_ret
          exact ⟨rfl, HB7.out.trans (HB8.out.mono h7z)⟩
      · rcases hz with hz | hz
        all_goals
          rw [hz]
          clear hz
          go_upto_region 7 with (go_at_call 19; (with_reducible refine cn.mono ?_); rintro e w8 ⟨pn, cn', rfl, -, hb8⟩; have HB8 := Lib.hid (HB7.out.trans (hb8.mono h7z)); clear hb8)
          have h8z := HB8.out.size
          have hb9 : Below w.heap.size w ((w8.alloc (.cells #[.int .u32 19] TW)).alloc (.cells #[.slice (some ⟨w8.heap.size, 0, none⟩) 1 1, .slice none 0 0, .slice none 0 0, .slice none 0 0] TO)) := (HB8.out.alloc h8z _).alloc (by simp only [World.size_alloc]; omega) _
          have y0 : ((w8.alloc (.cells #[.int .u32 19] TW)).alloc (.cells #[.slice (some ⟨w8.heap.size, 0, none⟩) 1 1, .slice none 0 0, .slice none 0 0, .slice none 0 0] TO)).heap[w8.heap.size]? = some (.cells #[.int .u32 19] TW (0, 0)) := (Lib.alloc_old _ _ _ (by simp)).trans (heap_alloc_new w8 _)
          have y1 : ((w8.alloc (.cells #[.int .u32 19] TW)).alloc (.cells #[.slice (some ⟨w8.heap.size, 0, none⟩) 1 1, .slice none 0 0, .slice none 0 0, .slice none 0 0] TO)).heap[w8.heap.size + 1]? = some (.cells #[.slice (some ⟨w8.heap.size, 0, none⟩) 1 1, .slice none 0 0, .slice none 0 0, .slice none 0 0] TO (0, 0)) := by
            have := heap_alloc_new (w8.alloc (.cells #[.int .u32 19] TW)) (.cells #[.slice (some ⟨w8.heap.size, 0, none⟩) 1 1, .slice none 0 0, .slice none 0 0, .slice none 0 0] TO)
            rwa [World.size_alloc] at this
          have hs9 : w8.heap.size + 2 ≤ ((w8.alloc (.cells #[.int .u32 19] TW)).alloc (.cells #[.slice (some ⟨w8.heap.size, 0, none⟩) 1 1, .slice none 0 0, .slice none 0 0, .slice none 0 0] TO)).heap.size := by simp
          have Y0 := Lib.hid y0
          have Y1 := Lib.hid y1
          have HB9 := Lib.hid hb9
          have cn2 := HCN.out _ hb9.size hb9
          clear y0 y1 hb9 cn HB7 HB8
          generalize (w8.alloc (.cells #[.int .u32 19] TW)).alloc (.cells #[.slice (some ⟨w8.heap.size, 0, none⟩) 1 1, .slice none 0 0, .slice none 0 0, .slice none 0 0] TO) = w9 at *
          have hlN : N.length ≤ 500 := by omega
          go_wp2_with (go_at_call 19; (with_reducible refine cn2.mono ?_); rintro e w10 ⟨pn, cn', rfl, hst, hb10⟩; have HST := Lib.hid hst; have HB10 := Lib.hid hb10; clear hst hb10)
          have h10z := HB10.out.size
          have h9z := HB9.out.size
          obtain ⟨iy, hiy, hzy0, hzy1, hzy2⟩ := info_parts infoY
          have hmi : MI w w10 w8.heap.size N 0 w10 := ⟨(HB10.out.block _ (by omega)).trans Y0.out, ⟨none, 0, (HB10.out.block _ (by omega)).trans Y1.out, World.ownsRow_nil _ _ _ _⟩, HB9.out.trans (HB10.out.mono h9z), fun _ _ _ => rfl, Nat.le_refl _⟩
          have Y10 := Lib.hid ((HB10.out.block _ (by omega)).trans Y1.out)
          have HMI := Lib.hid hmi
          clear hmi Y0 Y1 HB9 HB10 cn2
          have hA1 : w8.heap.size + 1 < w10.heap.size := by omega
          go_loopw [47] (fun i wr => ∃ k : Nat, k ≤ N.length ∧ i = .int .i64 k ∧ Hid (MI w w10 w8.heap.size N k wr)) (fun i _ => N.length - (intOf i).toNat)
          case atStart => exact ⟨0, Nat.zero_le _, rfl, HMI⟩
          case round =>
            obtain ⟨k, hk, rfl, HI⟩ := hrel
            by_cases hlt : k < N.length
            · obtain ⟨pn', cn'', hv, hh⟩ := HST.out
              cases hv
              obtain ⟨gs, os, rfl, hgs, hcs, -, hall⟩ := hh (by omega)
              have hstr := hall k _ (List.getElem?_eq_getElem hlt)
              have hne : gs ≠ w8.heap.size + 1 := fun e => by
                subst e
                exact not_str Y10.out (fun t => by simp) (fun t => by simp) (fun t => by simp) (fun t => by simp) hstr
              have sc : wr.cell? ⟨gs, os + k, none⟩ = some (.string (bs N[k])) := (cell_same (HI.out.oth gs hgs hne) _).trans hstr
              obtain ⟨q, cq, ha1, hrow⟩ := HI.out.a1
              have hz10 := HI.out.zz
              have c2 := Lib.cell_of_heap ha1 2
              simp only [List.getElem?_toArray, List.getElem?_cons_zero, List.getElem?_cons_succ] at c2
              have HA1 := Lib.hid ha1
              have HR := Lib.hid hrow
              have HTM := Lib.hid (fun (W' : World) (q' : Option Addr) (c' : Nat) hr hg => mi_next (W' := W') (q' := q') (c' := c') HI.out hlt hA1 (by omega) ha1 hrow hr hg)
              clear hh hall hstr ha1 hrow
              generalize N[k] = nk at *
              go_wp2_with (at_builtin; refine wpList_append_lies _ rfl _ _ 27 rfl w10.heap.size TY iy (.agg #[.string ByteArray.empty, .int .i64 0, .int .i64 0, .int .i64 0, .bool false]) 5 48 Try.underlying27 hiy hzy0 hzy1 hzy2 rfl (by decide) _ _ _ rfl (HR.out.alloc _) ⟨wr.heap.size, 0, none⟩ 1 1 [.string (bs nk), .int .i64 1, .int .i64 0, .int .i64 0, .bool true] rfl rfl (World.news_of_block (cs := #[.string (bs nk), .int .i64 1, .int .i64 0, .int .i64 0, .bool true]) (t := TY) (fr := (0, 0)) (heap_alloc_new wr _)) (by simp [Value.oneCell']) (by decide) (by unfold maxLen; omega) (by omega) (by simp only [World.size_alloc]; omega) (wr.heap.size + 1) (by simp only [World.size_alloc]) ?_; intro gg cap w3 hown3 hgrow3 hat3 hlt3; have hb3 := (hgrow3.block (w8.heap.size + 1) (by simp only [World.size_alloc]; omega) (fun e => by have := (HR.out.lt _ e.symm).1; omega)).trans ((Lib.alloc_old _ _ _ (by omega)).trans HA1.out); have c3 := Lib.cell_of_heap hb3 2; have c4 := Lib.frozen_of_heap hb3 2; simp only [List.getElem?_toArray, List.getElem?_cons_zero, List.getElem?_cons_succ] at c3; have HN3 := Lib.hid (HTM.out w3 _ _ hown3 hgrow3); clear hown3 hgrow3 hat3 hb3)
              exact ⟨⟨k + 1, by omega, by go_num, HN3⟩, by simp [intOf]; omega⟩
            · obtain rfl : k = N.length := by omega
              obtain ⟨q, cq, ha1, hrow⟩ := HI.out.a1
              rw [List.take_length] at hrow
              have ha0 := HI.out.a0
              have hbelR := HI.out.bel
              have hbr := hbelR.size
              have hzz := HI.out.zz
              have hA1w : w8.heap.size + 1 < wr.heap.size := by omega
              have hmo : ObjAt wr.heap.size wr (.slice (some ⟨w8.heap.size, 0, none⟩) 1 1) (.slice none 0 0) (.slice q N.length cq) (.slice none 0 0) (RsH.mo N) := mo_at ha0 (show wr.ownsRow w10.heap.size TY 5 (.slice q N.length cq) (N.map symM).length (symsC (N.map symM)) by rw [List.length_map]; exact hrow)
              obtain ⟨oc, hocl, hoc1, hocm, hocall⟩ := objs_cells HO.out
              have HT3 : Hid (Mr wr (w8.heap.size + 1) (.slice (some ⟨w8.heap.size, 0, none⟩) 1 1) (.slice none 0 0) (.slice q N.length cq) (.slice none 0 0)) := Lib.hid ⟨Lib.cell_of_heap ha1 0, Lib.cell_of_heap ha1 1, Lib.cell_of_heap ha1 2, Lib.cell_of_heap ha1 3⟩
              have HOC : Hid (∀ W : World, (∀ k, k < w.heap.size → W.heap[k]? = w.heap[k]?) → 0 < objs0.length → ∃ b o, p = some ⟨b, o, none⟩ ∧ ∀ j u, oc[j]? = some u → W.cell? ⟨b, o + j, none⟩ = some u) := Lib.hid (fun W hs h0 => by
                obtain ⟨b, o, e, hb, hc⟩ := hocm h0
                exact ⟨b, o, e, fun j u hj => (cell_same (hs b hb) _).trans (hc j u hj)⟩)
              have hallW : ∀ (W : World), Below wr.heap.size wr W → ∀ i x, objs0[i]? = some x → ∃ v0 v1 v2 v3, oc[i * 4]? = some v0 ∧ oc[i * 4 + 1]? = some v1 ∧ oc[i * 4 + 2]? = some v2 ∧ oc[i * 4 + 3]? = some v3 ∧ ObjAt W.heap.size W v0 v1 v2 v3 x := fun W hb i x hx => by
                obtain ⟨v0, v1, v2, v3, e0, e1, e2, e3, ho⟩ := hocall i x hx
                have hbw : Below w.heap.size w W := hbelR.trans (hb.mono hbr)
                exact ⟨v0, v1, v2, v3, e0, e1, e2, e3, (ho.below hbw).up hbw.size⟩
              have hmoW : ∀ (W : World), Below wr.heap.size wr W → ObjAt W.heap.size W (.slice (some ⟨w8.heap.size, 0, none⟩) 1 1) (.slice none 0 0) (.slice q N.length cq) (.slice none 0 0) (RsH.mo N) := fun W hb => (hmo.below hb).up hb.size
              have hwm := mo_wf HN.out HW.out
              have hcr2 : ∀ (W : World) (g cc : Nat), W.ownsRow wr.heap.size TO 4 (.slice (some ⟨g, 0, none⟩) (objs0.length + 1) cc) (objs0.length + 1) (oc ++ [.slice (some ⟨w8.heap.size, 0, none⟩) 1 1, .slice none 0 0, .slice q N.length cq, .slice none 0 0]) → Below wr.heap.size wr W →
                  Calls Try.prog 13 #[.slice (some ⟨g, 0, none⟩) (objs0.length + 1) cc] W fun e w' => ∃ p c i k, e = .returned (.tuple #[.slice p (tgL (objs0 ++ [RsH.mo N])).length c, .agg #[.int .i64 i, .int .i64 k], .int .i64 0]) ∧ Below W.heap.size W w' := fun W g cc hr hb => by
                obtain ⟨hl2, hall2⟩ := more_of (w' := W) hocl (hallW W hb) (hmoW W hb)
                have hos := objs_of (objs := objs0 ++ [RsH.mo N]) (by simp) hr hall2
                have := res_ (w := W) (n₀ := W.heap.size) (Nat.le_refl _) hos (fun o ho => by
                  rcases List.mem_append.1 ho with ho | ho
                  · exact HW.out o ho
                  · rw [List.mem_singleton.1 ho]; exact hwm) (by simp; omega) (fun o ho => by
                  rcases List.mem_append.1 ho with ho | ho
                  · exact HMS.out o ho
                  · rw [List.mem_singleton.1 ho, mo_len]; unfold maxLen; omega) (by rw [flat_more]; omega)
                rw [RsH.code_more HN.out hlN] at this
                refine this.mono ?_
                rintro e w' ⟨p2, c2, i2, k2, rfl, -, hb2⟩
                exact ⟨p2, c2, i2, k2, rfl, hb2⟩
              have hcr3 : 0 < N.length → ∀ (W : World) (g cc : Nat), W.ownsRow wr.heap.size TO 4 (.slice (some ⟨g, 0, none⟩) (objs0.length + 1 + 1) cc) (objs0.length + 1 + 1) (oc ++ [.slice (some ⟨w8.heap.size, 0, none⟩) 1 1, .slice none 0 0, .slice q N.length cq, .slice none 0 0] ++ [.slice (some ⟨w8.heap.size, 0, none⟩) 1 1, .slice none 0 0, .slice q N.length cq, .slice none 0 0]) → Below wr.heap.size wr W →
                  Calls Try.prog 13 #[.slice (some ⟨g, 0, none⟩) (objs0.length + 1 + 1) cc] W fun e w' => ∃ p c k, e = .returned (.tuple #[.slice p (tgL (objs0 ++ [RsH.mo N] ++ [RsH.mo N])).length c, .agg #[.int .i64 ((objs0.length : Int) + 1), .int .i64 k], .int .i64 4]) ∧ Below W.heap.size W w' := fun hpos W g cc hr hb => by
                obtain ⟨hl2, hall2⟩ := more_of (w' := W) hocl (hallW W hb) (hmoW W hb)
                obtain ⟨hl3, hall3⟩ := more_of (w' := W) hl2 hall2 (hmoW W hb)
                have hos := objs_of (objs := objs0 ++ [RsH.mo N] ++ [RsH.mo N]) (by simp) hr hall3
                have := res3_ (w := W) (n₀ := W.heap.size) (Nat.le_refl _) hos (fun o ho => by
                  rcases List.mem_append.1 ho with ho | ho
                  · rcases List.mem_append.1 ho with ho | ho
                    · exact HW.out o ho
                    · rw [List.mem_singleton.1 ho]; exact hwm
                  · rw [List.mem_singleton.1 ho]; exact hwm) (by simp; omega) (fun o ho => by
                  rcases List.mem_append.1 ho with ho | ho
                  · rcases List.mem_append.1 ho with ho | ho
                    · exact HMS.out o ho
                    · rw [List.mem_singleton.1 ho, mo_len]; unfold maxLen; omega
                  · rw [List.mem_singleton.1 ho, mo_len]; unfold maxLen; omega) (by rw [flat_more, flat_more]; omega)
                obtain ⟨e1, e2⟩ := code_twice HN.out hlN hpos
                rw [e1, e2] at this
                refine this.mono ?_
                rintro e w' ⟨p2, c2, rfl, -, hb2⟩
                exact ⟨p2, c2, _, rfl, hb2⟩
              have HBR := Lib.hid hbelR
              have HCR2 := Lib.hid hcr2
              have HCR3 := Lib.hid hcr3
              obtain ⟨i0, hi, hz0, hz1, hz2⟩ := info_parts infoO
              generalize tgL (objs0 ++ [RsH.mo N]) = L2 at *
              generalize tgL (objs0 ++ [RsH.mo N] ++ [RsH.mo N]) = L3 at *
              clear hmo hocm hocall hallW hmoW hwm hcr2 hcr3 ha0 ha1 hrow hbelR HI HMI Y10 HST
              go_upto_region 12 with fail
              go_region_held3 (fun w' => w'.cell? ⟨w8.heap.size + 1, 0, none⟩ = some (.slice (some ⟨w8.heap.size, 0, none⟩) 1 1) ∧ w'.cell? ⟨w8.heap.size + 1, 1, none⟩ = some (.slice none 0 0) ∧ w'.cell? ⟨w8.heap.size + 1, 2, none⟩ = some (.slice q N.length cq) ∧ w'.cell? ⟨w8.heap.size + 1, 3, none⟩ = some (.slice none 0 0)) (first | with_reducible exact HT3.out.drew | with_reducible exact HT3.out | with_reducible exact HTB.out | with_reducible exact (HTA.out.alloc (by have := HSA.out; first | (simp only [World.size_drew, World.size_alloc] at this ⊢; omega) | (simp only [World.size_drew, World.size_alloc] at this; omega) | omega) _) | with_reducible exact HTA.out | with_reducible exact (HT3.out.alloc (by first | omega | (simp only [World.size_drew, World.size_alloc]; omega)) _) | with_reducible exact (HT3.out.alloc (by first | omega | (simp only [World.size_drew, World.size_alloc]; omega)) _).drew | with_reducible exact ((HT3.out.alloc (by first | omega | (simp only [World.size_drew, World.size_alloc]; omega)) _).alloc (by first | omega | (simp only [World.size_drew, World.size_alloc]; omega)) _) | with_reducible exact ((HT3.out.alloc (by first | omega | (simp only [World.size_drew, World.size_alloc]; omega)) _).alloc (by first | omega | (simp only [World.size_drew, World.size_alloc]; omega)) _).drew)
                (first
                  | (refine step_append_sl0 _ (by rfl) _ _ _ (by rfl) wr.heap.size TO i0 (.agg #[.slice none 0 0, .slice none 0 0, .slice none 0 0, .slice none 0 0]) 4 96 Try.underlying22 hi hz0 hz1 hz2 rfl (by decide) wr.heap.size (by rfl) ((own0 wr wr.heap.size rfl (by omega)).drew) p objs0.length c oc (by rfl) hocl (HOC.out _ (fun k hk => (((Below.refl wr.heap.size wr).alloc (by first | omega | (simp only [World.size_drew, World.size_alloc]; omega)) _).block k (by omega)).trans (HBR.out.block k hk))) hoc1 (by unfold maxLen; omega) (by omega) (by first | omega | (simp only [World.size_drew, World.size_alloc]; omega)) ?_; intro pA cA wa hownA hgrowA; have HTA := Lib.hid ((HT3.out.alloc (by first | omega | (simp only [World.size_drew, World.size_alloc]; omega)) _).drew.grown (by first | omega | (simp only [World.size_drew, World.size_alloc]; omega)) hgrowA (by intro e; injection e with e; omega)); have HBA := Lib.hid (((Below.refl wr.heap.size wr).alloc (by first | omega | (simp only [World.size_drew, World.size_alloc]; omega)) _).drew.grown hgrowA (by first | omega | (simp only [World.size_drew, World.size_alloc]; omega)) (fun g hg => by cases hg; omega)); have HSA := Lib.hid hgrowA.size)
                  | (refine step_append_sl0 _ (by rfl) _ _ _ (by rfl) wr.heap.size TO i0 (.agg #[.slice none 0 0, .slice none 0 0, .slice none 0 0, .slice none 0 0]) 4 96 Try.underlying22 hi hz0 hz1 hz2 rfl (by decide) wr.heap.size (by rfl) (((own0 wr wr.heap.size rfl (by omega)).alloc _).drew) p objs0.length c oc (by rfl) hocl (HOC.out _ (fun k hk => ((((Below.refl wr.heap.size wr).alloc (by first | omega | (simp only [World.size_drew, World.size_alloc]; omega)) _).alloc (by first | omega | (simp only [World.size_drew, World.size_alloc]; omega)) _).block k (by omega)).trans (HBR.out.block k hk))) hoc1 (by unfold maxLen; omega) (by omega) (by first | omega | (simp only [World.size_drew, World.size_alloc]; omega)) ?_; intro pA cA wa hownA hgrowA; have HTA := Lib.hid (((HT3.out.alloc (by first | omega | (simp only [World.size_drew, World.size_alloc]; omega)) _).alloc (by first | omega | (simp only [World.size_drew, World.size_alloc]; omega)) _).drew.grown (by first | omega | (simp only [World.size_drew, World.size_alloc]; omega)) hgrowA (by intro e; injection e with e; omega)); have HBA := Lib.hid ((((Below.refl wr.heap.size wr).alloc (by first | omega | (simp only [World.size_drew, World.size_alloc]; omega)) _).alloc (by first | omega | (simp only [World.size_drew, World.size_alloc]; omega)) _).drew.grown hgrowA (by first | omega | (simp only [World.size_drew, World.size_alloc]; omega)) (fun g hg => by cases hg; omega)); have HSA := Lib.hid hgrowA.size)
                  | (refine step_append_sl0 _ (by rfl) _ _ _ (by rfl) wr.heap.size TO i0 (.agg #[.slice none 0 0, .slice none 0 0, .slice none 0 0, .slice none 0 0]) 4 96 Try.underlying22 hi hz0 hz1 hz2 rfl (by decide) (wr.heap.size + 1) (by rfl) ((own0 (wr.alloc (.cells #[.slice (some ⟨w8.heap.size, 0, none⟩) 1 1, .slice none 0 0, .slice q N.length cq, .slice none 0 0] TO)) (wr.heap.size + 1) (by simp) (by first | omega | (simp only [World.size_drew, World.size_alloc]; omega))).drew) p objs0.length c oc (by rfl) hocl (HOC.out _ (fun k hk => ((((Below.refl wr.heap.size wr).alloc (by first | omega | (simp only [World.size_drew, World.size_alloc]; omega)) _).alloc (by first | omega | (simp only [World.size_drew, World.size_alloc]; omega)) _).block k (by omega)).trans (HBR.out.block k hk))) hoc1 (by unfold maxLen; omega) (by omega) (by first | omega | (simp only [World.size_drew, World.size_alloc]; omega)) ?_; intro pA cA wa hownA hgrowA; have HTA := Lib.hid (((HT3.out.alloc (by first | omega | (simp only [World.size_drew, World.size_alloc]; omega)) _).alloc (by first | omega | (simp only [World.size_drew, World.size_alloc]; omega)) _).drew.grown (by first | omega | (simp only [World.size_drew, World.size_alloc]; omega)) hgrowA (by intro e; injection e with e; omega)); have HBA := Lib.hid ((((Below.refl wr.heap.size wr).alloc (by first | omega | (simp only [World.size_drew, World.size_alloc]; omega)) _).alloc (by first | omega | (simp only [World.size_drew, World.size_alloc]; omega)) _).drew.grown hgrowA (by first | omega | (simp only [World.size_drew, World.size_alloc]; omega)) (fun g hg => by cases hg; omega)); have HSA := Lib.hid hgrowA.size)
                  | (refine step_append_lies _ (by rfl) _ _ _ (by rfl) wr.heap.size TO i0 (.agg #[.slice none 0 0, .slice none 0 0, .slice none 0 0, .slice none 0 0]) 4 96 Try.underlying22 hi hz0 hz1 hz2 rfl (by decide) (.slice pA objs0.length cA) objs0.length oc (by rfl) (hownA.alloc _) ⟨wa.heap.size, 0, none⟩ 1 1 [.slice (some ⟨w8.heap.size, 0, none⟩) 1 1, .slice none 0 0, .slice q N.length cq, .slice none 0 0] (by rfl) (by rfl) (World.news_of_block (cs := #[.slice (some ⟨w8.heap.size, 0, none⟩) 1 1, .slice none 0 0, .slice q N.length cq, .slice none 0 0]) (t := TO) (fr := (0, 0)) (heap_alloc_new _ _)) (by simp [Value.oneCell']) (by decide) (by unfold maxLen; omega) (by omega) (by have := HSA.out; first | (simp only [World.size_drew, World.size_alloc] at this ⊢; omega) | (simp only [World.size_drew, World.size_alloc] at this; omega) | omega) (wa.heap.size + 1) (by simp) ?_; intro gB cB wb hownB hgrowB hatB hltB; have HTB := Lib.hid ((HTA.out.alloc (by have := HSA.out; first | (simp only [World.size_drew, World.size_alloc] at this ⊢; omega) | (simp only [World.size_drew, World.size_alloc] at this; omega) | omega) _).grown (by have := HSA.out; first | (simp only [World.size_drew, World.size_alloc] at this ⊢; omega) | (simp only [World.size_drew, World.size_alloc] at this; omega) | omega) hgrowB (fun e => by have := (hownA.lt _ e.symm).1; omega)); have HBB := Lib.hid ((HBA.out.alloc (by have := HSA.out; first | (simp only [World.size_drew, World.size_alloc] at this ⊢; omega) | (simp only [World.size_drew, World.size_alloc] at this; omega) | omega) _).grown hgrowB (by have := HSA.out; first | (simp only [World.size_drew, World.size_alloc] at this ⊢; omega) | (simp only [World.size_drew, World.size_alloc] at this; omega) | omega) (fun g hg => by have := (hownA.lt g hg).1; omega)))
                  | (refine step_append_lies _ (by rfl) _ _ _ (by rfl) wr.heap.size TO i0 (.agg #[.slice none 0 0, .slice none 0 0, .slice none 0 0, .slice none 0 0]) 4 96 Try.underlying22 hi hz0 hz1 hz2 rfl (by decide) (.slice pA objs0.length cA) objs0.length oc (by rfl) (hownA) ⟨wr.heap.size + 1, 0, none⟩ 1 1 [.slice (some ⟨w8.heap.size, 0, none⟩) 1 1, .slice none 0 0, .slice q N.length cq, .slice none 0 0] (by rfl) (by rfl) (World.news_of_block (cs := #[.slice (some ⟨w8.heap.size, 0, none⟩) 1 1, .slice none 0 0, .slice q N.length cq, .slice none 0 0]) (t := TO) (fr := (0, 0)) ((hgrowA.block _ (by first | omega | (simp only [World.size_drew, World.size_alloc]; omega)) (by simp)).trans (LV.newd _ _ _ (by simp)))) (by simp [Value.oneCell']) (by decide) (by unfold maxLen; omega) (by omega) (by have := HSA.out; first | (simp only [World.size_drew, World.size_alloc] at this ⊢; omega) | (simp only [World.size_drew, World.size_alloc] at this; omega) | omega) (wa.heap.size) rfl ?_; intro gB cB wb hownB hgrowB hatB hltB; have HTB := Lib.hid (HTA.out.grown (by have := HSA.out; first | (simp only [World.size_drew, World.size_alloc] at this ⊢; omega) | (simp only [World.size_drew, World.size_alloc] at this; omega) | omega) hgrowB (fun e => by have := (hownA.lt _ e.symm).1; omega)); have HBB := Lib.hid (HBA.out.grown hgrowB (by have := HSA.out; first | (simp only [World.size_drew, World.size_alloc] at this ⊢; omega) | (simp only [World.size_drew, World.size_alloc] at this; omega) | omega) (fun g hg => by have := (hownA.lt g hg).1; omega)))
                  | (refine step_append_lies _ (by rfl) _ _ _ (by rfl) wr.heap.size TO i0 (.agg #[.slice none 0 0, .slice none 0 0, .slice none 0 0, .slice none 0 0]) 4 96 Try.underlying22 hi hz0 hz1 hz2 rfl (by decide) (.slice pA objs0.length cA) objs0.length oc (by rfl) (hownA) ⟨wr.heap.size, 0, none⟩ 1 1 [.slice (some ⟨w8.heap.size, 0, none⟩) 1 1, .slice none 0 0, .slice q N.length cq, .slice none 0 0] (by rfl) (by rfl) (World.news_of_block (cs := #[.slice (some ⟨w8.heap.size, 0, none⟩) 1 1, .slice none 0 0, .slice q N.length cq, .slice none 0 0]) (t := TO) (fr := (0, 0)) ((hgrowA.block _ (by first | omega | (simp only [World.size_drew, World.size_alloc]; omega)) (by simp)).trans ((Lib.alloc_old _ _ _ (by first | omega | (simp only [World.size_drew, World.size_alloc]; omega))).trans (heap_alloc_new wr _)))) (by simp [Value.oneCell']) (by decide) (by unfold maxLen; omega) (by omega) (by have := HSA.out; first | (simp only [World.size_drew, World.size_alloc] at this ⊢; omega) | (simp only [World.size_drew, World.size_alloc] at this; omega) | omega) (wa.heap.size) rfl ?_; intro gB cB wb hownB hgrowB hatB hltB; have HTB := Lib.hid (HTA.out.grown (by have := HSA.out; first | (simp only [World.size_drew, World.size_alloc] at this ⊢; omega) | (simp only [World.size_drew, World.size_alloc] at this; omega) | omega) hgrowB (fun e => by have := (hownA.lt _ e.symm).1; omega)); have HBB := Lib.hid (HBA.out.grown hgrowB (by have := HSA.out; first | (simp only [World.size_drew, World.size_alloc] at this ⊢; omega) | (simp only [World.size_drew, World.size_alloc] at this; omega) | omega) (fun g hg => by have := (hownA.lt g hg).1; omega))))
              all_goals
                have hzB := HBB.out.size
                have cr2 := HCR2.out wb gB cB hownB HBB.out
                have hAB : w8.heap.size + 1 < wb.heap.size := by omega
                have hNG : ∀ k, k < wr.heap.size → some k ≠ (Value.slice (some ⟨gB, 0, none⟩) (objs0.length + 1) cB).ownBlock := fun k hk e => by have := (hownB.lt _ e.symm).1; omega
                go_upto_region 14 with (go_at_call 13; (with_reducible refine cr2.mono ?_); rintro e w12 ⟨p2, c2, i2, k2, rfl, hb12⟩; have HB12 := Lib.hid hb12; clear hb12 cr2)
                have h12z := HB12.out.size
                have hb13 : Below wb.heap.size wb (w12.alloc (.cells #[.int .i64 i2, .int .i64 k2] TT)) := HB12.out.alloc h12z _
                have hg13 : wb.grownBy (w12.alloc (.cells #[.int .i64 i2, .int .i64 k2] TT)) none := ⟨hb13.os, hb13.tape, hb13.output, hb13.size, fun k hk _ => hb13.block k hk⟩
                obtain ⟨r0, r1, r2, r3⟩ := HTB.out.grown hAB hg13 (by simp)
                have ho13 := hownB.kept hg13 (.inr (by simp [Value.ownBlock]))
                have hbr13 : Below wr.heap.size wr (w12.alloc (.cells #[.int .i64 i2, .int .i64 k2] TT)) := HBB.out.trans (hb13.mono hzB)
                have h13z := hb13.size
                have HO13 := Lib.hid ho13
                have HBR13 := Lib.hid hbr13
                clear hg13 ho13 hbr13 hb13 HTB HTA HBA HSA
                generalize w12.alloc (.cells #[.int .i64 i2, .int .i64 k2] TT) = w13 at *
                by_cases hn0 : N.length = 0
                · rw [hn0] at r2 ⊢
                  go_wp2
                  go_ret
                  exact ⟨rfl, HBR.out.trans (HBR13.out.mono hbr)⟩
                · have cr3 := HCR3.out (by omega)
                  have HC3 := Lib.hid cr3
                  clear cr3
                  go_wp2_with (first
                    | (at_builtin; refine wpList_append_lies _ rfl _ _ 22 rfl wr.heap.size TO i0 (.agg #[.slice none 0 0, .slice none 0 0, .slice none 0 0, .slice none 0 0]) 4 96 Try.underlying22 hi hz0 hz1 hz2 rfl (by decide) _ _ _ rfl (HO13.out.alloc _) ⟨w13.heap.size, 0, none⟩ 1 1 [.slice (some ⟨w8.heap.size, 0, none⟩) 1 1, .slice none 0 0, .slice q N.length cq, .slice none 0 0] rfl rfl (World.news_of_block (cs := #[.slice (some ⟨w8.heap.size, 0, none⟩) 1 1, .slice none 0 0, .slice q N.length cq, .slice none 0 0]) (t := TO) (fr := (0, 0)) (heap_alloc_new w13 _)) (by simp [Value.oneCell']) (by decide) (by unfold maxLen; omega) (by omega) (by simp only [World.size_alloc]; omega) (w13.heap.size + 1) (by simp only [World.size_alloc]) ?_; intro gC cC w15 hown15 hgrow15 hat15 hlt15; have hb15 : Below wr.heap.size wr w15 := (HBR13.out.alloc (by omega) _).grown hgrow15 (by simp only [World.size_alloc]; omega) (fun g hg => (HO13.out.lt g hg).1); have cr4 := HC3.out w15 gC cC hown15 hb15; have HB15 := Lib.hid hb15; clear hown15 hgrow15 hat15 hb15)
                    | (go_at_call 13; (with_reducible refine cr4.mono ?_); rintro e w16 ⟨p4, c4, k4, rfl, hb16⟩; have HB16 := Lib.hid hb16; clear hb16 cr4))
                  go_ret
                  exact ⟨by simp, (HBR.out.trans (HB15.out.mono hbr)).trans (HB16.out.mono (by have := HB15.out.size; omega)) |>.alloc (by have := HB15.out.size; have := HB16.out.size; omega) _⟩
    · have hrc := HRC.out
      generalize resCode objs0 = rc at *
      clear cn
      have e1 : (rc != 0) = true := by simp; omega
      have e2 : (rc != 3) = true := by simp; omega
      go_wp2
      go_ret
      exact ⟨rfl, HB7.out⟩

set_option maxRecDepth 100000 in
theorem lifted (os : Os) (started : os.Started) (H : Type) (enc : TypeId × Value → H) :
    ReturnsInHanded {} Try.checked os 7 .any (Rows.resolveMoreSpec.pre6 enc Try.prog Try.f7 Rows.resolveMoreRow.domain false) (Rows.resolveMoreSpec.post enc Try.prog Try.f7 false true false false) := by
  refine returnsInHanded_of_change (C := Try.checked) own started (by kernel_rfl) Try.func7
    (ChangeSpec.witness6 (enc := enc) (C := Try.checked) false ⟨#[], #[.slice none 0 0], []⟩ 8 (by kernel_rfl) (by kernel_rfl) (by kernel_rfl) (by kernel_rfl)) ?_
  intro W base args ds gs before hval0 hW hcnd _
  have hval : ∀ (j : Nat) t v, Try.f7.params[j]? = some t → args[j]? = some v → Value.okWide Try.prog W .any base t v := hval0
  have hW' := hW
  obtain ⟨p, q, hA0, hV, rfl, hfz, hnd⟩ := hW
  have hA : DataW.TrodAll enc Try.prog W 0 (fun _ => true) true Try.f7.params.toList args.toList ds p := hA0
  rw [Try.params7] at hA hval
  obtain ⟨v0, vs0, d0, ds0, p0, q0, hargs, rfl, rfl, h0, r0⟩ := trodAll_cons hA
  obtain ⟨rfl, rfl, rfl⟩ := trodAll_nil r0
  obtain rfl : args = #[v0] := by cases args; simp_all
  obtain ⟨rfl, rfl⟩ := trodVars_none hV
  obtain ⟨objs0, ha0, hw0⟩ := RsO.open_objs (hval 0 22 v0 rfl rfl) h0
  clear hA0 hval0
  simp only [List.append_nil] at hW'
  refine (walk v0 objs0 W ha0 hw0).mono fun e W' ⟨he, hg⟩ => ?_
  subst he
  exact ⟨_, rfl, _, _, _, [], _, _, hW', (trodAll_cons_mk (shut_bool Try.underlying4 _) trodAll_mk0), (trodAll_cons_mk (OB.shut_any (by kernel_rfl) (by kernel_rfl) (by decide) h0 hg) trodAll_mk0), rfl, hg.frame _, fun h => by cases h⟩

theorem over : Rows.resolveMoreRow.holds Try.pinned (OpenSpec.ofChange Rows.resolveMoreSpec) :=
  OpenClaim.holds_of_wide 7 Try.f7 rfl rfl rfl rfl rfl rfl rfl ⟨rfl, rfl, rfl, rfl, rfl⟩ rfl rfl rfl rfl rfl (by kernel_rfl) Try.func7 (by kernel_rfl)
    (of_decide_eq_true (by kernel_rfl)) (by unfold Func.isWrapper; first | (rw [if_pos (by decide +kernel)]; kernel_rfl) | (rw [if_neg (by decide +kernel)]; exact ⟨rfl, rfl⟩))
    (fun os started H enc _ => lifted os started H enc)

/-- The statement. -/
theorem proved : Rows.ResolveMoreSaid :=
  over
end Go.Proofs.Ytieehjkmfmkfjaa.resolveMore
