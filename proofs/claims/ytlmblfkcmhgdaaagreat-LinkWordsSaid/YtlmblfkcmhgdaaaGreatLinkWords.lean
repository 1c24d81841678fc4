/-
  Of any objects the law LinkWords returns true: words and bytes that no relocation is of stand in the image as they were, one object's behind the other's; so many bytes and not more.
  Conditions: none beyond those of the given statement.
-/
import Derived.Test.YtlmblfkcmhgdaaaGreatRows
import Derived.Test.YtlmblfkcmhgdaaaGreatLinkQd
import Derived.Test.YtlmblfkcmhgdaaaGreatLinkQy
import Derived.Test.YtlmblfkcmhgdaaaGreatResQa
import Derived.BigQuiet
import Derived.BigRegion
import Derived.Deep.OwnRows
import Derived.Deep.RegionHeld3
import Derived.WalkKit
import Derived.ProofKit
import Derived.OpenShut
namespace Go.Proofs.YtlmblfkcmhgdaaaGreat.linkWords
open Go.ChangeShapes Go.WideShapes Go.ChangeAt Go.RowKit
set_option linter.unusedVariables false
set_option linter.unusedSimpArgs false

theorem own : ownKnob Tryz.prog.godebug = none := by kernel_rfl
open OO OJ RsM RsF RsB RsY LM LL KB KC KM KN KE KL KG KW KX KY
theorem few_sz {objs : List ObjV} (h : fewO objs = true) : objs.length ≤ 65536 ∧ (∀ o ∈ objs, o.rs.length ≤ 100000) ∧ ∀ x ∈ szL objs, x.1 ≤ 4294967296 ∧ x.2 ≤ 4294967296 := by
  obtain ⟨h1, h2⟩ := fewO_lim h
  refine ⟨by omega, fun o ho => by have := OE.few_lim (h2 o ho); omega, fun x hx => ?_⟩
  unfold szL at hx
  obtain ⟨o, ho, rfl⟩ := List.mem_map.1 hx
  have := OE.few_lim (h2 o ho)
  simp only
  omega
abbrev TB : TypeId := 4
abbrev TL : TypeId := 59
def tcells (f : Nat → Bool) (n : Nat) : List Value := (List.range n).map fun x => .bool (f x)
theorem tcells_length (f : Nat → Bool) (n : Nat) : (tcells f n).length = n := by simp [tcells]
theorem tcells_get {f : Nat → Bool} {n x : Nat} (h : x < n) : (tcells f n)[x]? = some (.bool (f x)) := by unfold tcells; rw [List.getElem?_map, List.getElem?_range h]; rfl
theorem tcells_congr {f g : Nat → Bool} (h : ∀ x, f x = g x) (n : Nat) : tcells f n = tcells g n := by rw [show f = g from funext h]
theorem tcells_set {f : Nat → Bool} {n i : Nat} : (tcells f n).toArray.setIfInBounds i (.bool true) = (tcells (fun x => f x || decide (x = i)) n).toArray := by
  rw [List.setIfInBounds_toArray]
  congr 1
  apply List.ext_getElem?
  intro j
  rw [List.getElem?_set]
  by_cases hj : j < n
  · by_cases e : i = j
    · subst e
      rw [if_pos rfl, if_pos (by rw [tcells_length]; exact hj), tcells_get hj]; simp
    · rw [if_neg e, tcells_get hj, tcells_get hj, decide_eq_false (fun h => e h.symm), Bool.or_false]
  · by_cases e : i = j
    · subst e
      rw [if_pos rfl, if_neg (by rw [tcells_length]; exact hj), List.getElem?_eq_none (by rw [tcells_length]; omega)]
    · rw [if_neg e, List.getElem?_eq_none (by rw [tcells_length]; omega), List.getElem?_eq_none (by rw [tcells_length]; omega)]
theorem b_info : (Tryz.prog.info? TB).map (fun i => (i.zero, i.size, i.bytes)) = some (some (.bool false), 1, 1) := by kernel_rfl
theorem mkb (n : Nat) (h : n ≤ 2097152) (w : World) : (Instr.makeSlice 71 (.int .i64 (n : Int)) (.int .i64 (n : Int))).run Tryz.prog w = .ok (.slice (some ⟨w.heap.size, 0, none⟩) n n) (w.alloc (.cells (tcells (fun _ => false) n).toArray TB)) := by
  have h := run_make_row' (P := Tryz.prog) 71 TB (.bool false) 1 Tryz.underlying71 b_info rfl .i64 .i64 n (by omega) (by omega) w
  rw [h, show madeCells #[Value.bool false] n = (tcells (fun _ => false) n).toArray from by
    apply Array.ext'
    rw [toList_madeCells_one]
    apply List.ext_getElem <;> simp [tcells]]
def aOf (objs : List ObjV) (q : Nat) : Nat := if q = 3 then dend (szL objs) else atOf objs q 0
theorem at_end {objs : List ObjV} (hc : resCode objs = 0) {q : Nat} (h : q = 1 ∨ q = 2) : line (atOf objs q objs.length) = aOf objs (q + 1) := by
  unfold atOf aOf
  rcases h with rfl | rfl
  · simp only [if_true]
    rw [if_neg (by decide), show objs.length = (szL objs).length from (szL_length objs).symm, textAt_end]
    unfold atOf
    rw [if_neg (by decide), dataAt_zero]
  · rw [if_neg (by decide), if_pos rfl, show objs.length = (szL objs).length from (szL_length objs).symm, dataAt_end]
    exact line_dend hc
theorem cell_old {W : World} {b j : Nat} {o : Obj} {v : Value} (h : W.cell? ⟨b, j, none⟩ = some v) : (W.alloc o).cell? ⟨b, j, none⟩ = some v := (World.cell?_alloc_lt (w := W) (a := ⟨b, j, none⟩) (o := o) (World.block_lt_of_cell? W ⟨b, j, none⟩ h)).trans h
theorem at_end_le (objs : List ObjV) (q : Nat) : atOf objs q objs.length ≤ dend (szL objs) := by
  have h := tend_le (szL objs)
  unfold atOf
  rw [show objs.length = (szL objs).length from (szL_length objs).symm, textAt_end, dataAt_end]
  split <;> omega
theorem LV_form {w : World} {B : Nat} {e : TypeId} {z n : Nat} {v : Value} {xs : List Value} (h : w.ownsRow B e z v n xs) : ∃ p c, v = .slice p n c := by
  rcases h.2 with ⟨rfl, rfl⟩ | ⟨g, cap, cur, rfl, _⟩
  · exact ⟨_, _, rfl⟩
  · exact ⟨_, _, rfl⟩

set_option maxRecDepth 100000 in
set_option maxHeartbeats 8000000 in
theorem walk (v0 : Value) (objs0 : List OO.ObjV) (w : World) (ha0 : RsM.ObjsAt w.heap.size w v0 objs0) (hw0 : ∀ o ∈ objs0, o.Wf) :
    Calls Tryz.prog 8 #[v0] w fun e w' => e = .returned (.bool true) ∧ Below w.heap.size w w' := by
  have HO := Lib.hid ha0
  have HW := Lib.hid hw0
  have HM := Lib.hid (OB.Sl_len ha0)
  obtain ⟨p, c, rfl, hsl⟩ := ha0
  have HSL := Lib.hid hsl
  clear hw0 hsl
  cases hf : RsF.fewO objs0 with
  | false =>
    have HF := Lib.hid hf
    clear hf
    go_enter Tryz.func8, Tryz.ntmps8
    go_wp2_with (first
      | (go_at_call 10; (first
          | (with_reducible refine (KW.awake_ _).mono ?_; rintro e w3 ⟨rfl, hb3⟩; have HB3 := Lib.hid (HB2.out.trans (hb3.mono HB2.out.size)); clear hb3)
          | (with_reducible refine (KW.awake_ _).mono ?_; rintro e w1 ⟨rfl, hb1⟩; have HB1 := Lib.hid hb1; clear hb1)))
      | (go_at_call 11; (with_reducible refine (RsF.fewO_ HB1.out.size (ObjsAt.same HO.out (Same.of HB1.out (Nat.le_refl _))) HW.out HM.out).mono ?_); rintro e w2 ⟨rfl, hb2⟩; rw [HF.out]; have HB2 := Lib.hid (HB1.out.trans (hb2.mono HB1.out.size)); clear hb2))
    go_ret
    exact ⟨rfl, HB3.out⟩
  | true =>
    have HF := Lib.hid hf
    obtain ⟨f1, f2, f3⟩ := few_flat hf
    obtain ⟨f4, f5, f6⟩ := few_sz hf
    clear hf
    have cl := fun (W : World) (hW : Below w.heap.size w W) => Link_ (w := W) (n₀ := w.heap.size) hW.size (ObjsAt.same HO.out (Same.of hW (Nat.le_refl _))) HW.out f4 f2 f5 f3 f6
    clear f2 f3 f4 f6
    have FR := Lib.hid f5
    clear f5
    by_cases hc : (linkOut objs0).2 = 0
    · have cly : ∀ W, Below w.heap.size w W → Calls Tryz.prog 13 #[.slice p objs0.length c] W fun e w' => LM.ok (szL objs0) = true ∧ ∃ g : Nat, e = .returned (.tuple #[.agg #[.int .i64 0, .slice (some ⟨g, 0, none⟩) (dend (szL objs0)) (dend (szL objs0))], .int .i64 0]) ∧ W.heap.size < g ∧ w'.heap[g]? = some (.cells (img (linkS objs0).1).toArray TU (0, 0)) ∧ Below W.heap.size W w' ∧ (linkS objs0).1.length = dend (szL objs0) := fun W hW => (cl W hW).mono fun e w' hr => by
        have hls : (linkOut objs0).1 = (linkS objs0).1 := by
          unfold linkOut at hc ⊢
          by_cases h1 : (mainOut objs0).2.2 ≠ 0
          · rw [if_pos h1] at hc; exact absurd hc h1
          · rw [if_neg h1] at hc ⊢
            by_cases h2 : LM.ok (szL objs0) = false
            · rw [if_pos h2] at hc; simp at hc
            · rw [if_neg h2] at hc ⊢
              by_cases h3 : (linkS objs0).2 = 0
              · rw [if_pos h3]
              · rw [if_neg h3] at hc; exact absurd hc h3
        obtain ⟨hb, hr⟩ := hr
        rcases hr with ⟨h0, -⟩ | ⟨-, h1, h2, -, g, h3, h4, h5⟩
        · exact absurd hc h0
        · rw [hls] at h2 h5
          exact ⟨h1, g, h3, h4, h5, hb, h2⟩
      have hrc : resCode objs0 = 0 := main_res (by
        refine Decidable.byContradiction fun h => ?_
        unfold linkOut at hc
        rw [if_pos h] at hc
        exact h hc)
      have HRC := Lib.hid hrc
      clear cl hc hrc
      generalize hnd : dend (szL objs0) = nd at *
      have HND := Lib.hid hnd
      clear hnd
      go_enter Tryz.func8, Tryz.ntmps8
      go_upto_region 8 with (first
        | (go_at_call 10; with_reducible refine (KW.awake_ _).mono ?_; rintro e w1 ⟨rfl, hb1⟩; have HB1 := Lib.hid hb1; clear hb1)
        | (go_at_call 11; (with_reducible refine (RsF.fewO_ HB1.out.size (ObjsAt.same HO.out (Same.of HB1.out (Nat.le_refl _))) HW.out HM.out).mono ?_); rintro e w2 ⟨rfl, hb2⟩; rw [HF.out]; have HB2 := Lib.hid (HB1.out.trans (hb2.mono HB1.out.size)); clear hb2)
        | (go_at_call 13; (with_reducible refine (cly _ HB2.out).mono ?_); rintro e w3 ⟨hok, g, rfl, hg3, hi3, hb3, hil⟩; have HOK := Lib.hid hok; have HI3 := Lib.hid hi3; have HIL := Lib.hid hil; have HB3 := Lib.hid (HB2.out.trans (hb3.mono HB2.out.size)); clear hok hi3 hb3 hil cly))
      have hdl := ok_lim HOK.out
      rw [HND.out] at hdl
      obtain ⟨W3, hW3⟩ : ∃ W3, W3 = w3.alloc (.cells #[.int .i64 0, .slice (some ⟨g, 0, none⟩) nd nd] TI) := ⟨_, rfl⟩
      rw [← hW3]
      have hgl := lt_heap HI3.out
      have hs3 : W3.heap.size = w3.heap.size + 1 := by rw [hW3, World.size_alloc]
      have hi3 : W3.heap[g]? = some (.cells (img (linkS objs0).1).toArray TU (0, 0)) := by rw [hW3, Lib.alloc_old _ _ _ hgl]; exact HI3.out
      have hx3 : W3.cell? ⟨w3.heap.size, 1, none⟩ = some (.slice (some ⟨g, 0, none⟩) nd nd) := by rw [hW3]; exact Lib.cell_of_heap (heap_alloc_new w3 _) 1
      have hb3 : Below w.heap.size w W3 := by rw [hW3]; exact HB3.out.alloc HB3.out.size _
      have HI := Lib.hid hi3
      have HX3 := Lib.hid hx3
      have HB := Lib.hid hb3
      have HS3 := Lib.hid hs3
      clear hW3 hi3 hx3 hb3 HI3 HB3 hs3
      have hm12 := f1
      go_loopw [5, 6] (fun av qv wr => ∃ q : Nat, 1 ≤ q ∧ q ≤ 3 ∧ qv = .int .i64 (q : Int) ∧ av = .int .i64 (aOf objs0 q : Nat) ∧ Hid (Below W3.heap.size W3 wr)) (fun _ qv _ => 3 - (intOf qv).toNat)
      case atStart => exact ⟨1, Nat.le_refl _, by omega, rfl, rfl, Lib.hid (Below.refl _ _)⟩
      case round =>
        obtain ⟨q, hq1, hq3, rfl, rfl, HBq⟩ := hrel
        have hq : q = 1 ∨ q = 2 ∨ q = 3 := by omega
        rcases hq with rfl | rfl | rfl
        · have HA := Lib.hid (show aOf objs0 1 = atOf objs0 1 0 from rfl)
          rw [HA.out]
          rw [show ((1 : Nat) : Int) = 1 from rfl]
          have hle : ∀ k, k ≤ objs0.length → atOf objs0 1 k ≤ 2097152 := fun k hk => by
            by_cases h : k < objs0.length
            · have := at_in (objs := objs0) (part := 1) h
              rw [HND.out] at this; omega
            · obtain rfl : k = objs0.length := by omega
              have := at_end_le objs0 1
              rw [HND.out] at this; omega
          have HLE := Lib.hid hle
          clear hle
          go_upto_region 11 with fail
          go_loopw [5, 41] (fun av iv wr => ∃ k : Nat, k ≤ objs0.length ∧ iv = .int .i64 (k : Int) ∧ av = .int .i64 (atOf objs0 1 k : Nat) ∧ Hid (Below W3.heap.size W3 wr)) (fun _ iv _ => objs0.length - (intOf iv).toNat)
          case atStart => exact ⟨0, Nat.zero_le _, rfl, rfl, HBq⟩
          case round =>
            obtain ⟨k, hk, rfl, rfl, HBk⟩ := hrel
            by_cases hlt : k < objs0.length
            · obtain ⟨b, o, rfl, hb, hb1_, hb2_, hall⟩ := HSL.out (by omega)
              obtain ⟨v0, v1, v2, v3, k0, k1, k2, k3, hoa⟩ := hall k _ (obAt_get hlt)
              have hbk : Below w.heap.size w wr := HB.out.trans (HBk.out.mono HB.out.size)
              have k0 := (hbk.cell (p := ⟨b, o + k * 4, none⟩) hb).trans k0
              have k1 := (hbk.cell (p := ⟨b, o + k * 4 + 1, none⟩) hb).trans k1
              have k2 := (hbk.cell (p := ⟨b, o + k * 4 + 2, none⟩) hb).trans k2
              have k3 := (hbk.cell (p := ⟨b, o + k * 4 + 3, none⟩) hb).trans k3
              obtain ⟨p0, q0, rfl, hws⟩ := hoa.ws
              obtain ⟨p1, q1, rfl, hds⟩ := hoa.ds
              obtain ⟨p2, q2, rfl, -⟩ := hoa.ss
              obtain ⟨p3, q3, rfl, hrs⟩ := hoa.rs
              have hrl := FR.out _ (show obAt objs0 k ∈ objs0 by rw [obAt_eq hlt]; exact List.getElem_mem hlt)
              have hwl : (obAt objs0 k).ws.length ≤ 300 ∧ (obAt objs0 k).ds.length ≤ 600 := by
                have := OE.few_lim ((fewO_lim HF.out).2 _ (show obAt objs0 k ∈ objs0 by rw [obAt_eq hlt]; exact List.getElem_mem hlt))
                omega
              have HWS := Lib.hid hws
              have HDS := Lib.hid hds
              have HRS := Lib.hid hrs
              have HBW := Lib.hid hbk
              have hAk := HLE.out k hk
              have hAin := at_in (objs := objs0) (part := 1) hlt
              rw [HND.out] at hAin
              have HAS := Lib.hid (at_succ (objs := objs0) (part := 1) hlt)
              have HKEPT := Lib.hid (fun x hx ht => kept (x := x) HRC.out (by rw [HND.out]; exact hdl) (part := 1) (by decide) hlt hx ht)
              have HREL := Lib.hid (fun r hr => rel_from HRC.out hlt (k := r) hr)
              clear hall hoa hws hds hrs hbk
              obtain ⟨wo, rfl⟩ : ∃ wo : World, wo = wr := ⟨_, rfl⟩
              obtain ⟨W4, hW4⟩ : ∃ W4, W4 = wo.alloc (.cells #[.slice p0 (obAt objs0 k).ws.length q0, .slice p1 (obAt objs0 k).ds.length q1, .slice p2 (obAt objs0 k).ss.length q2, .slice p3 (obAt objs0 k).rs.length q3] TO) := ⟨_, rfl⟩
              have hb4 : Below wo.heap.size wo W4 := by rw [hW4]; exact (Below.refl _ _).alloc (Nat.le_refl _) _
              have b0 : W4.cell? ⟨wo.heap.size, 0, none⟩ = some (.slice p0 (obAt objs0 k).ws.length q0) := by rw [hW4]; exact Lib.cell_of_heap (heap_alloc_new wo _) 0
              have b1 : W4.cell? ⟨wo.heap.size, 1, none⟩ = some (.slice p1 (obAt objs0 k).ds.length q1) := by rw [hW4]; exact Lib.cell_of_heap (heap_alloc_new wo _) 1
              have b3 : W4.cell? ⟨wo.heap.size, 3, none⟩ = some (.slice p3 (obAt objs0 k).rs.length q3) := by rw [hW4]; exact Lib.cell_of_heap (heap_alloc_new wo _) 3
              have hs4 : W4.heap.size = wo.heap.size + 1 := by rw [hW4, World.size_alloc]
              have HB4 := Lib.hid hb4
              have hwsW : MB.Ws W4 (.slice p0 (obAt objs0 k).ws.length q0) (obAt objs0 k).ws := by
                by_cases h0 : (obAt objs0 k).ws.length = 0
                · exact .inl ⟨List.eq_nil_of_length_eq_zero h0, p0, q0, by rw [h0]⟩
                · obtain ⟨b', o', e, hb', -, -, hr⟩ := HWS.out (by omega)
                  exact .inr ⟨b', o', q0, by rw [e], by have := HBW.out.size; omega, fun j x hj => row_below hr (HBW.out.trans (hb4.mono HBW.out.size)) hb' j x hj⟩
              have cby := MB.bytes_ W4 (.slice p0 (obAt objs0 k).ws.length q0) (obAt objs0 k).ws (by omega) hwsW
              clear hb4 hwsW
              go_upto_region 13 with fail
              rw [← hW4]
              clear hW4 k0 k1 k2 k3
              go_upto_region 16 with (go_at_call 22; (with_reducible refine cby.mono ?_); rintro e w5 ⟨v5, rfl, ho5, hb5⟩; obtain ⟨p5, c5, rfl⟩ := LV_form ho5; have HO5 := Lib.hid ho5; have B1 := (hb5.cell (p := ⟨wo.heap.size, 1, none⟩) (by show wo.heap.size < W4.heap.size; omega)).trans b1; have B3 := (hb5.cell (p := ⟨wo.heap.size, 3, none⟩) (by show wo.heap.size < W4.heap.size; omega)).trans b3; have HB5 := Lib.hid hb5; clear ho5 hb5 cby)
              have hn5 : (MB.u8s (MB.bts (obAt objs0 k).ws)).length = (bOf 1 (obAt objs0 k)).length := by simp [MB.u8s, bOf]
              have HBY := Lib.hid (show 0 < (bOf 1 (obAt objs0 k)).length → ∃ b' o', p5 = some ⟨b', o', none⟩ ∧ b' < w5.heap.size ∧ Row .u8 w5 b' o' (bOf 1 (obAt objs0 k)) from fun h0 => by
                rcases HO5.out.2 with ⟨-, e0⟩ | ⟨g5, cap5, cur5, e5, -, hg5, -⟩
                · omega
                · simp only [Value.slice.injEq] at e5
                  obtain ⟨rfl, -, rfl⟩ := e5
                  refine ⟨g5, 0, rfl, lt_heap hg5, fun j x hj => ?_⟩
                  have h3 := (HO5.out.cells (g := g5) rfl) j (.int .u8 x) (by unfold MB.u8s; unfold bOf at hj; rw [if_pos rfl] at hj; rw [List.getElem?_map, hj]; rfl)
                  rw [Nat.zero_add]
                  rwa [OO.add_plain, Nat.zero_add] at h3)
              rw [hn5]
              clear hn5 HO5
              have hml : (bOf 1 (obAt objs0 k)).length ≤ 1200 := by rw [bOf_len]; split <;> omega
              have hbO := HBY
              obtain ⟨nb, hnb⟩ : ∃ nb, nb = (bOf 1 (obAt objs0 k)).length := ⟨_, rfl⟩
              rw [← hnb] at hml hAin ⊢
              have HNB := Lib.hid hnb
              clear hnb
              have hmk : ∀ w, (Instr.makeSlice 71 (.int .i64 ((nb : Int) + 4)) (.int .i64 ((nb : Int) + 4))).run Tryz.prog w = .ok (.slice (some ⟨w.heap.size, 0, none⟩) (nb + 4) (nb + 4)) (w.alloc (.cells (tcells (fun _ => false) (nb + 4)).toArray TB)) := fun w => by
                have := mkb (nb + 4) (by omega) w
                rwa [show ((nb + 4 : Nat) : Int) = (nb : Int) + 4 by omega] at this
              obtain ⟨W6, hW6⟩ : ∃ W6, W6 = w5.alloc (.cells (tcells (fun _ => false) (nb + 4)).toArray TB) := ⟨_, rfl⟩
              have hb6 : Below w5.heap.size w5 W6 := by rw [hW6]; exact (Below.refl _ _).alloc (Nat.le_refl _) _
              have hs6 : W6.heap.size = w5.heap.size + 1 := by rw [hW6, World.size_alloc]
              have ht6 : W6.heap[w5.heap.size]? = some (.cells (tcells (fun _ => false) (nb + 4)).toArray TB (0, 0)) := by rw [hW6]; exact heap_alloc_new w5 _
              have hs5 := HB5.out.size
              have b36 := (hb6.cell (p := ⟨wo.heap.size, 3, none⟩) (by show wo.heap.size < w5.heap.size; omega)).trans B3
              have HT6 := Lib.hid ht6
              have HB6 := Lib.hid hb6
              have HS6 := Lib.hid hs6
              clear ht6 hb6
              obtain ⟨nr, hnr⟩ : ∃ nr, nr = (obAt objs0 k).rs.length := ⟨_, rfl⟩
              rw [← hnr] at b36 hrl
              have HNR := Lib.hid hnr
              clear hnr b0 b1 b3 B1 B3
              go_upto_region 17 with fail
              rw [← hW6]
              clear hW6 hmk
              go_upto_region 18 with fail
              have hwo := HBW.out.size
              have hs4 := Nat.le_of_eq hs4.symm
              have hs6 := Nat.le_of_eq hs6.symm
              have HCH := Lib.hid (show Below w.heap.size w W6 from ((HBW.out.trans (HB4.out.mono hwo)).trans (HB5.out.mono (by omega))).trans (HB6.out.mono (by omega)))
              have hw3o := HBk.out.size
              have HC3 := Lib.hid (show Below W3.heap.size W3 W6 from ((HBk.out.trans (HB4.out.mono hw3o)).trans (HB5.out.mono (by omega))).trans (HB6.out.mono (by omega)))
              clear b36
              go_loopw [59] (fun iv wr => ∃ r : Nat, r ≤ nr ∧ iv = .int .i64 (r : Int) ∧ Hid (wr.heap[w5.heap.size]? = some (.cells (tcells (tch 1 (obAt objs0 k).rs r) (nb + 4)).toArray TB (0, 0))) ∧ Hid (Below w5.heap.size W6 wr)) (fun iv _ => nr - (intOf iv).toNat)
              case atStart => exact ⟨0, Nat.zero_le _, rfl, Lib.hid (by rw [tcells_congr (f := tch 1 (obAt objs0 k).rs 0) (g := fun _ => false) (fun x => rfl)]; exact HT6.out), Lib.hid (Below.refl _ _)⟩
              case round =>
                obtain ⟨r, hr, rfl, HTr, HBr⟩ := hrel
                by_cases hltr : r < nr
                · obtain ⟨sb, so, rfl, hsb, hsb1, hsb2, hrel⟩ := HRS.out (by have := HNR.out; omega)
                  have hrv := rel_get (objs := objs0) (i := k) (k := r) (by have := HNR.out; omega)
                  have hra := hrel r _ hrv
                  have hbr : Below w.heap.size w wr := HCH.out.trans (HBr.out.mono (by omega))
                  have r0 := (hbr.cell (p := ⟨sb, so + r * 5, none⟩) hsb).trans hra.c0
                  have r1 := (hbr.cell (p := ⟨sb, so + r * 5 + 1, none⟩) hsb).trans hra.c1
                  have r2 := (hbr.cell (p := ⟨sb, so + r * 5 + 2, none⟩) hsb).trans hra.c2
                  have r3 := (hbr.cell (p := ⟨sb, so + r * 5 + 3, none⟩) hsb).trans hra.c3
                  have r4 := (hbr.cell (p := ⟨sb, so + r * 5 + 4, none⟩) hsb).trans hra.c4
                  obtain ⟨hp0, hp1, hfr⟩ := HREL.out r (by have := HNR.out; omega)
                  have hfr := fun h => hfr 1 h (by decide)
                  rw [← HNB.out] at hfr
                  have HSUC := Lib.hid (fun x => tch_succ (part := 1) (rs := (obAt objs0 k).rs) (n := r) (by have := HNR.out; omega) x)
                  have hge : (obAt objs0 k).rs[r]'(by have := HNR.out; omega) = relV objs0 k r := (List.getElem?_eq_some_iff.1 hrv).2
                  rw [hge] at HSUC
                  unfold maxLen at hsb2
                  clear hrel hrv hra hbr hge
                  generalize relV objs0 k r = rr at *
                  obtain ⟨se, pl, kd, sy, ad⟩ := rr
                  simp only at r0 r1 r2 r3 r4 hp0 hp1 hfr
                  obtain ⟨wq, rfl⟩ : ∃ wq : World, wq = wr := ⟨_, rfl⟩
                  obtain ⟨W7, hW7⟩ : ∃ W7, W7 = wq.alloc (.cells #[.int .i64 se, .int .i64 pl, .int .i64 kd, .int .i64 sy, .int .i64 ad] TL) := ⟨_, rfl⟩
                  have hb7 : Below wq.heap.size wq W7 := by rw [hW7]; exact (Below.refl _ _).alloc (Nat.le_refl _) _
                  have y0 : W7.cell? ⟨wq.heap.size, 0, none⟩ = some (.int .i64 se) := by rw [hW7]; exact Lib.cell_of_heap (heap_alloc_new wq _) 0
                  have y1 : W7.cell? ⟨wq.heap.size, 1, none⟩ = some (.int .i64 pl) := by rw [hW7]; exact Lib.cell_of_heap (heap_alloc_new wq _) 1
                  have hsq := HBr.out.size
                  have ht7 : W7.heap[w5.heap.size]? = some (.cells (tcells (tch 1 (obAt objs0 k).rs r) (nb + 4)).toArray TB (0, 0)) := (hb7.block _ (by omega)).trans HTr.out
                  have HT7 := Lib.hid ht7
                  have HB7 := Lib.hid (show Below w5.heap.size W6 W7 from HBr.out.trans (hb7.mono (by omega)))
                  have hz1 : (r : Int) < (nr : Int) := by omega
                  have hz2 : (0 : Int) ≤ (r : Int) := by omega
                  clear ht7 hb7
                  go_upto_region 20 with fail
                  rw [← hW7]
                  clear hW7 r0 r1 r2 r3 r4
                  go_upto_region 24 with fail
                  obtain ⟨F, hF⟩ : ∃ F : Int, F = 4 * pl := ⟨_, rfl⟩
                  rw [← hF]
                  have hfr2 : se = (1 : Int) → ∃ f : Nat, F = (f : Int) ∧ f + 4 ≤ nb := fun h => by
                    obtain ⟨f, e1, e2⟩ := hfr h
                    exact ⟨f, by rw [hF, ← e1]; rfl, e2⟩
                  have HFE := Lib.hid (show fromOf 1 ⟨se, pl, kd, sy, ad⟩ = F by rw [hF]; rfl)
                  have HFR := Lib.hid hfr2
                  clear hfr hfr2 hF y1
                  go_loopw [14] (fun kv wr => ∃ m : Nat, m ≤ 4 ∧ (se ≠ (1 : Int) → m = 0) ∧ kv = .int .i64 (m : Int) ∧ Hid (wr.heap[w5.heap.size]? = some (.cells (tcells (fun x => tch 1 (obAt objs0 k).rs r x || hit 1 ⟨se, pl, kd, sy, ad⟩ m x) (nb + 4)).toArray TB (0, 0))) ∧ Hid (Put w5.heap.size W7 wr)) (fun kv _ => 4 - (intOf kv).toNat)
                  case atStart => exact ⟨0, by omega, fun _ => rfl, rfl, Lib.hid (by rw [tcells_congr (g := tch 1 (obAt objs0 k).rs r) (fun x => by rw [hit_zero, Bool.or_false])]; exact HT7.out), Lib.hid (Put.refl _ _)⟩
                  case round =>
                    obtain ⟨m, hm4, hm0, rfl, HTm, HPm⟩ := hrel
                    have x0 := (HPm.out.cell (b := wq.heap.size) (o := 0) (by omega)).trans y0
                    by_cases hse : se = (1 : Int)
                    · by_cases hlm : m < 4
                      · obtain ⟨f, hf, hf4⟩ := HFR.out hse
                        have HHS := Lib.hid (fun x => hit_succ (part := 1) (r := ⟨se, pl, kd, sy, ad⟩) hse (m := m) (x := x) (f := f) (HFE.out.trans hf))
                        have g0 : wr.cell? ⟨w5.heap.size, f + m, none⟩ = some (.bool (tch 1 (obAt objs0 k).rs r (f + m) || hit 1 ⟨se, pl, kd, sy, ad⟩ m (f + m))) := (Lib.cell_of_heap HTm.out _).trans ((List.getElem?_toArray ..).trans (tcells_get (by omega)))
                        have g1 : wr.frozen? ⟨w5.heap.size, f + m, none⟩ = false := Lib.frozen_of_heap HTm.out _
                        have q0 : (se == (1 : Int)) = true := by simp [hse]
                        have hlm' : decide ((m : Int) < 4) = true := decide_eq_true (by omega)
                        rw [hf]
                        clear hf
                        have HSE := Lib.hid hse
                        clear hse
                        go_wp2
                        refine ⟨⟨m + 1, by omega, fun h => absurd HSE.out h, by go_num, Lib.hid ?_, Lib.hid (HPm.out.trans (Put.set _ _ _ _))⟩, by simp [intOf]; omega⟩
                        have e := KC.hset HTm.out (i := f + m) (.bool true)
                        rw [tcells_set, tcells_congr (g := fun x => tch 1 (obAt objs0 k).rs r x || hit 1 ⟨se, pl, kd, sy, ad⟩ (m + 1) x) (fun x => by rw [HHS.out x, Bool.or_assoc])] at e
                        exact e
                      · obtain rfl : m = 4 := by omega
                        have q0 : (se == (1 : Int)) = true := by simp [hse]
                        clear hse
                        go_wp2
                        refine ⟨⟨r + 1, by omega, by go_num, Lib.hid ?_, Lib.hid (HB7.out.trans (HPm.out.below (Nat.le_refl _)))⟩, by simp [intOf]; omega⟩
                        rw [tcells_congr (g := fun x => tch 1 (obAt objs0 k).rs r x || hit 1 ⟨se, pl, kd, sy, ad⟩ 4 x) HSUC.out]
                        exact HTm.out
                    · obtain rfl : m = 0 := hm0 hse
                      have q0 : (se == (1 : Int)) = false := by simpa using hse
                      have HSE := Lib.hid hse
                      clear hse
                      go_wp2
                      refine ⟨⟨r + 1, by omega, by go_num, Lib.hid ?_, Lib.hid (HB7.out.trans (HPm.out.below (Nat.le_refl _)))⟩, by simp [intOf]; omega⟩
                      rw [tcells_congr (g := fun x => tch 1 (obAt objs0 k).rs r x || hit 1 ⟨se, pl, kd, sy, ad⟩ 0 x) (fun x => by rw [HSUC.out x, hit_zero, hit_other HSE.out])]
                      exact HTm.out
                · obtain rfl : r = nr := by omega
                  have c3 := ((HC3.out.trans (HBr.out.mono (by omega))).cell (p := ⟨w3.heap.size, 1, none⟩) (by show w3.heap.size < W3.heap.size; have := HS3.out; omega)).trans HX3.out
                  have hgt : ¬ (nd : Int) < (atOf objs0 1 k : Int) + (nb : Int) := by omega
                  go_upto_region 31 with fail
                  go_loopw [96] (fun iv wr => ∃ x : Nat, x ≤ nb ∧ iv = .int .i64 (x : Int) ∧ Hid (wr.heap[w5.heap.size]? = some (.cells (tcells (tch 1 (obAt objs0 k).rs r) (nb + 4)).toArray TB (0, 0))) ∧ Hid (Below w5.heap.size W6 wr)) (fun iv _ => nb - (intOf iv).toNat)
                  case atStart => exact ⟨0, Nat.zero_le _, rfl, HTr, HBr⟩
                  case round =>
                    obtain ⟨x, hx, rfl, HTx, HBx⟩ := hrel
                    by_cases hlx : x < nb
                    · have hxi : (x : Int) < (nb : Int) := by omega
                      have hxi2 : (0 : Int) ≤ (x : Int) := by omega
                      have hxi3 : (x : Int) < (nb : Int) + 4 := by omega
                      have hC : Below W3.heap.size W3 wr := HC3.out.trans (HBx.out.mono (by omega))
                      have c3 := (hC.cell (p := ⟨w3.heap.size, 1, none⟩) (by show w3.heap.size < W3.heap.size; have := HS3.out; omega)).trans HX3.out
                      obtain ⟨bb, bo, eb, hbb, hbr⟩ := HBY.out (by rw [← HNB.out]; omega)
                      have hxr : x < (bOf 1 (obAt objs0 k)).length := by rw [← HNB.out]; exact hlx
                      have hby := hbr x _ (List.getElem?_eq_getElem hxr)
                      have hby := ((HB6.out.trans (HBx.out)).cell (p := ⟨bb, bo + x, none⟩) hbb).trans hby
                      subst eb
                      cases htx : tch 1 (obAt objs0 k).rs r x with
                      | true =>
                        have t0 : wr.cell? ⟨w5.heap.size, x, none⟩ = some (.bool true) := (Lib.cell_of_heap HTx.out _).trans ((List.getElem?_toArray ..).trans ((tcells_get (by omega)).trans (by rw [htx])))
                        clear hby hbr hC htx
                        go_upto_region 33 with fail
                        go_region
                        go_wp2
                        go_roundw
                        case rel => exact ⟨x + 1, by omega, by go_num, Lib.hid HTx.out, Lib.hid HBx.out.drew⟩
                        case measure => simp [intOf]; omega
                      | false =>
                        have hkp := HKEPT.out x hxr (by rw [← HNR.out]; exact htx)
                        have t0 : wr.cell? ⟨w5.heap.size, x, none⟩ = some (.bool false) := (Lib.cell_of_heap HTx.out _).trans ((List.getElem?_toArray ..).trans ((tcells_get (by omega)).trans (by rw [htx])))
                        have hig := hC.block g (by have := lt_heap HI.out; omega)
                        have i0 := (cell_same hig (atOf objs0 1 k + x)).trans (img_get HI.out (atOf objs0 1 k + x) (by rw [HIL.out]; omega))
                        rw [List.getD_eq_getElem?_getD, hkp, List.getElem?_eq_getElem hxr] at i0
                        simp only [Option.getD_some] at i0
                        generalize (bOf 1 (obAt objs0 k))[x] = y at *
                        have hsum : ((atOf objs0 1 k : Int) + (x : Int)) < (nd : Int) := by omega
                        clear hkp hbr hC htx hig
                        go_upto_region 33 with fail
                        go_region
                        go_wp2
                        go_roundw
                        case rel => exact ⟨x + 1, by omega, by go_num, Lib.hid HTx.out, Lib.hid HBx.out.drew⟩
                        case measure => simp [intOf]; omega
                    · obtain rfl : x = nb := by omega
                      have hfin : Below W3.heap.size W3 wr := HC3.out.trans (HBx.out.mono (by omega))
                      have HFIN := Lib.hid hfin
                      clear hfin
                      go_wp2
                      refine ⟨⟨k + 1, by omega, by go_num, ?_, HFIN⟩, by simp [intOf]; omega⟩
                      rw [HAS.out, ← HNB.out]
                      go_num
            · obtain rfl : k = objs0.length := by omega
              have HLB := Lib.hid (line_bits (atOf objs0 1 objs0.length) (by have := HLE.out objs0.length (Nat.le_refl _); omega))
              have HAE := Lib.hid (at_end HRC.out (q := 1) (by decide))
              have hAk := HLE.out objs0.length (Nat.le_refl _)
              have HL9 := Lib.hid (line_lim hAk)
              generalize atOf objs0 1 objs0.length = a9 at *
              go_wp2
              exact ⟨⟨1 + 1, by omega, by omega, rfl, by rw [HLB.out, HAE.out], HBk⟩, by simp [intOf]⟩
        · have HA := Lib.hid (show aOf objs0 2 = atOf objs0 2 0 from rfl)
          rw [HA.out]
          rw [show ((2 : Nat) : Int) = 2 from rfl]
          have hle : ∀ k, k ≤ objs0.length → atOf objs0 2 k ≤ 2097152 := fun k hk => by
            by_cases h : k < objs0.length
            · have := at_in (objs := objs0) (part := 2) h
              rw [HND.out] at this; omega
            · obtain rfl : k = objs0.length := by omega
              have := at_end_le objs0 2
              rw [HND.out] at this; omega
          have HLE := Lib.hid hle
          clear hle
          go_upto_region 11 with fail
          go_loopw [5, 41] (fun av iv wr => ∃ k : Nat, k ≤ objs0.length ∧ iv = .int .i64 (k : Int) ∧ av = .int .i64 (atOf objs0 2 k : Nat) ∧ Hid (Below W3.heap.size W3 wr)) (fun _ iv _ => objs0.length - (intOf iv).toNat)
          case atStart => exact ⟨0, Nat.zero_le _, rfl, rfl, HBq⟩
          case round =>
            obtain ⟨k, hk, rfl, rfl, HBk⟩ := hrel
            by_cases hlt : k < objs0.length
            · obtain ⟨b, o, rfl, hb, hb1_, hb2_, hall⟩ := HSL.out (by omega)
              obtain ⟨v0, v1, v2, v3, k0, k1, k2, k3, hoa⟩ := hall k _ (obAt_get hlt)
              have hbk : Below w.heap.size w wr := HB.out.trans (HBk.out.mono HB.out.size)
              have k0 := (hbk.cell (p := ⟨b, o + k * 4, none⟩) hb).trans k0
              have k1 := (hbk.cell (p := ⟨b, o + k * 4 + 1, none⟩) hb).trans k1
              have k2 := (hbk.cell (p := ⟨b, o + k * 4 + 2, none⟩) hb).trans k2
              have k3 := (hbk.cell (p := ⟨b, o + k * 4 + 3, none⟩) hb).trans k3
              obtain ⟨p0, q0, rfl, hws⟩ := hoa.ws
              obtain ⟨p1, q1, rfl, hds⟩ := hoa.ds
              obtain ⟨p2, q2, rfl, -⟩ := hoa.ss
              obtain ⟨p3, q3, rfl, hrs⟩ := hoa.rs
              have hrl := FR.out _ (show obAt objs0 k ∈ objs0 by rw [obAt_eq hlt]; exact List.getElem_mem hlt)
              have hwl : (obAt objs0 k).ws.length ≤ 300 ∧ (obAt objs0 k).ds.length ≤ 600 := by
                have := OE.few_lim ((fewO_lim HF.out).2 _ (show obAt objs0 k ∈ objs0 by rw [obAt_eq hlt]; exact List.getElem_mem hlt))
                omega
              have HWS := Lib.hid hws
              have HDS := Lib.hid hds
              have HRS := Lib.hid hrs
              have HBW := Lib.hid hbk
              have hAk := HLE.out k hk
              have hAin := at_in (objs := objs0) (part := 2) hlt
              rw [HND.out] at hAin
              have HAS := Lib.hid (at_succ (objs := objs0) (part := 2) hlt)
              have HKEPT := Lib.hid (fun x hx ht => kept (x := x) HRC.out (by rw [HND.out]; exact hdl) (part := 2) (by decide) hlt hx ht)
              have HREL := Lib.hid (fun r hr => rel_from HRC.out hlt (k := r) hr)
              clear hall hoa hws hds hrs hbk
              obtain ⟨wo, rfl⟩ : ∃ wo : World, wo = wr := ⟨_, rfl⟩
              obtain ⟨W4, hW4⟩ : ∃ W4, W4 = wo.alloc (.cells #[.slice p0 (obAt objs0 k).ws.length q0, .slice p1 (obAt objs0 k).ds.length q1, .slice p2 (obAt objs0 k).ss.length q2, .slice p3 (obAt objs0 k).rs.length q3] TO) := ⟨_, rfl⟩
              have hb4 : Below wo.heap.size wo W4 := by rw [hW4]; exact (Below.refl _ _).alloc (Nat.le_refl _) _
              have b0 : W4.cell? ⟨wo.heap.size, 0, none⟩ = some (.slice p0 (obAt objs0 k).ws.length q0) := by rw [hW4]; exact Lib.cell_of_heap (heap_alloc_new wo _) 0
              have b1 : W4.cell? ⟨wo.heap.size, 1, none⟩ = some (.slice p1 (obAt objs0 k).ds.length q1) := by rw [hW4]; exact Lib.cell_of_heap (heap_alloc_new wo _) 1
              have b3 : W4.cell? ⟨wo.heap.size, 3, none⟩ = some (.slice p3 (obAt objs0 k).rs.length q3) := by rw [hW4]; exact Lib.cell_of_heap (heap_alloc_new wo _) 3
              have hs4 : W4.heap.size = wo.heap.size + 1 := by rw [hW4, World.size_alloc]
              have HB4 := Lib.hid hb4
              have hwsW : MB.Ws W4 (.slice p0 (obAt objs0 k).ws.length q0) (obAt objs0 k).ws := by
                by_cases h0 : (obAt objs0 k).ws.length = 0
                · exact .inl ⟨List.eq_nil_of_length_eq_zero h0, p0, q0, by rw [h0]⟩
                · obtain ⟨b', o', e, hb', -, -, hr⟩ := HWS.out (by omega)
                  exact .inr ⟨b', o', q0, by rw [e], by have := HBW.out.size; omega, fun j x hj => row_below hr (HBW.out.trans (hb4.mono HBW.out.size)) hb' j x hj⟩
              have cby := MB.bytes_ W4 (.slice p0 (obAt objs0 k).ws.length q0) (obAt objs0 k).ws (by omega) hwsW
              clear hb4 hwsW
              go_upto_region 13 with fail
              rw [← hW4]
              clear hW4 k0 k1 k2 k3
              go_upto_region 16 with (go_at_call 22; (with_reducible refine cby.mono ?_); rintro e w5 ⟨v5, rfl, ho5, hb5⟩; obtain ⟨p5, c5, rfl⟩ := LV_form ho5; have HO5 := Lib.hid ho5; have B1 := (hb5.cell (p := ⟨wo.heap.size, 1, none⟩) (by show wo.heap.size < W4.heap.size; omega)).trans b1; have B3 := (hb5.cell (p := ⟨wo.heap.size, 3, none⟩) (by show wo.heap.size < W4.heap.size; omega)).trans b3; have HB5 := Lib.hid hb5; clear ho5 hb5 cby)
              have hn5 : (obAt objs0 k).ds.length = (bOf 2 (obAt objs0 k)).length := rfl
              have HBY := Lib.hid (show 0 < (bOf 2 (obAt objs0 k)).length → ∃ b' o', p1 = some ⟨b', o', none⟩ ∧ b' < w5.heap.size ∧ Row .u8 w5 b' o' (bOf 2 (obAt objs0 k)) from fun h0 => by
                obtain ⟨b', o', e, hb', -, -, hr⟩ := HDS.out h0
                have hbw : Below w.heap.size w w5 := (HBW.out.trans (HB4.out.mono HBW.out.size)).trans (HB5.out.mono (by have := HBW.out.size; omega))
                exact ⟨b', o', e, Nat.lt_of_lt_of_le hb' hbw.size, row_below hr hbw hb'⟩)
              rw [hn5]
              clear hn5 HO5
              have hml : (bOf 2 (obAt objs0 k)).length ≤ 1200 := by rw [bOf_len]; split <;> omega
              have hbO := HBY
              obtain ⟨nb, hnb⟩ : ∃ nb, nb = (bOf 2 (obAt objs0 k)).length := ⟨_, rfl⟩
              rw [← hnb] at hml hAin ⊢
              have HNB := Lib.hid hnb
              clear hnb
              have hmk : ∀ w, (Instr.makeSlice 71 (.int .i64 ((nb : Int) + 4)) (.int .i64 ((nb : Int) + 4))).run Tryz.prog w = .ok (.slice (some ⟨w.heap.size, 0, none⟩) (nb + 4) (nb + 4)) (w.alloc (.cells (tcells (fun _ => false) (nb + 4)).toArray TB)) := fun w => by
                have := mkb (nb + 4) (by omega) w
                rwa [show ((nb + 4 : Nat) : Int) = (nb : Int) + 4 by omega] at this
              obtain ⟨W6, hW6⟩ : ∃ W6, W6 = w5.alloc (.cells (tcells (fun _ => false) (nb + 4)).toArray TB) := ⟨_, rfl⟩
              have hb6 : Below w5.heap.size w5 W6 := by rw [hW6]; exact (Below.refl _ _).alloc (Nat.le_refl _) _
              have hs6 : W6.heap.size = w5.heap.size + 1 := by rw [hW6, World.size_alloc]
              have ht6 : W6.heap[w5.heap.size]? = some (.cells (tcells (fun _ => false) (nb + 4)).toArray TB (0, 0)) := by rw [hW6]; exact heap_alloc_new w5 _
              have hs5 := HB5.out.size
              have b36 := (hb6.cell (p := ⟨wo.heap.size, 3, none⟩) (by show wo.heap.size < w5.heap.size; omega)).trans B3
              have HT6 := Lib.hid ht6
              have HB6 := Lib.hid hb6
              have HS6 := Lib.hid hs6
              clear ht6 hb6
              obtain ⟨nr, hnr⟩ : ∃ nr, nr = (obAt objs0 k).rs.length := ⟨_, rfl⟩
              rw [← hnr] at b36 hrl
              have HNR := Lib.hid hnr
              clear hnr b0 b1 b3 B1 B3
              go_upto_region 17 with fail
              rw [← hW6]
              clear hW6 hmk
              go_upto_region 18 with fail
              have hwo := HBW.out.size
              have hs4 := Nat.le_of_eq hs4.symm
              have hs6 := Nat.le_of_eq hs6.symm
              have HCH := Lib.hid (show Below w.heap.size w W6 from ((HBW.out.trans (HB4.out.mono hwo)).trans (HB5.out.mono (by omega))).trans (HB6.out.mono (by omega)))
              have hw3o := HBk.out.size
              have HC3 := Lib.hid (show Below W3.heap.size W3 W6 from ((HBk.out.trans (HB4.out.mono hw3o)).trans (HB5.out.mono (by omega))).trans (HB6.out.mono (by omega)))
              clear b36
              go_loopw [59] (fun iv wr => ∃ r : Nat, r ≤ nr ∧ iv = .int .i64 (r : Int) ∧ Hid (wr.heap[w5.heap.size]? = some (.cells (tcells (tch 2 (obAt objs0 k).rs r) (nb + 4)).toArray TB (0, 0))) ∧ Hid (Below w5.heap.size W6 wr)) (fun iv _ => nr - (intOf iv).toNat)
              case atStart => exact ⟨0, Nat.zero_le _, rfl, Lib.hid (by rw [tcells_congr (f := tch 2 (obAt objs0 k).rs 0) (g := fun _ => false) (fun x => rfl)]; exact HT6.out), Lib.hid (Below.refl _ _)⟩
              case round =>
                obtain ⟨r, hr, rfl, HTr, HBr⟩ := hrel
                by_cases hltr : r < nr
                · obtain ⟨sb, so, rfl, hsb, hsb1, hsb2, hrel⟩ := HRS.out (by have := HNR.out; omega)
                  have hrv := rel_get (objs := objs0) (i := k) (k := r) (by have := HNR.out; omega)
                  have hra := hrel r _ hrv
                  have hbr : Below w.heap.size w wr := HCH.out.trans (HBr.out.mono (by omega))
                  have r0 := (hbr.cell (p := ⟨sb, so + r * 5, none⟩) hsb).trans hra.c0
                  have r1 := (hbr.cell (p := ⟨sb, so + r * 5 + 1, none⟩) hsb).trans hra.c1
                  have r2 := (hbr.cell (p := ⟨sb, so + r * 5 + 2, none⟩) hsb).trans hra.c2
                  have r3 := (hbr.cell (p := ⟨sb, so + r * 5 + 3, none⟩) hsb).trans hra.c3
                  have r4 := (hbr.cell (p := ⟨sb, so + r * 5 + 4, none⟩) hsb).trans hra.c4
                  obtain ⟨hp0, hp1, hfr⟩ := HREL.out r (by have := HNR.out; omega)
                  have hfr := fun h => hfr 2 h (by decide)
                  rw [← HNB.out] at hfr
                  have HSUC := Lib.hid (fun x => tch_succ (part := 2) (rs := (obAt objs0 k).rs) (n := r) (by have := HNR.out; omega) x)
                  have hge : (obAt objs0 k).rs[r]'(by have := HNR.out; omega) = relV objs0 k r := (List.getElem?_eq_some_iff.1 hrv).2
                  rw [hge] at HSUC
                  unfold maxLen at hsb2
                  clear hrel hrv hra hbr hge
                  generalize relV objs0 k r = rr at *
                  obtain ⟨se, pl, kd, sy, ad⟩ := rr
                  simp only at r0 r1 r2 r3 r4 hp0 hp1 hfr
                  obtain ⟨wq, rfl⟩ : ∃ wq : World, wq = wr := ⟨_, rfl⟩
                  obtain ⟨W7, hW7⟩ : ∃ W7, W7 = wq.alloc (.cells #[.int .i64 se, .int .i64 pl, .int .i64 kd, .int .i64 sy, .int .i64 ad] TL) := ⟨_, rfl⟩
                  have hb7 : Below wq.heap.size wq W7 := by rw [hW7]; exact (Below.refl _ _).alloc (Nat.le_refl _) _
                  have y0 : W7.cell? ⟨wq.heap.size, 0, none⟩ = some (.int .i64 se) := by rw [hW7]; exact Lib.cell_of_heap (heap_alloc_new wq _) 0
                  have y1 : W7.cell? ⟨wq.heap.size, 1, none⟩ = some (.int .i64 pl) := by rw [hW7]; exact Lib.cell_of_heap (heap_alloc_new wq _) 1
                  have hsq := HBr.out.size
                  have ht7 : W7.heap[w5.heap.size]? = some (.cells (tcells (tch 2 (obAt objs0 k).rs r) (nb + 4)).toArray TB (0, 0)) := (hb7.block _ (by omega)).trans HTr.out
                  have HT7 := Lib.hid ht7
                  have HB7 := Lib.hid (show Below w5.heap.size W6 W7 from HBr.out.trans (hb7.mono (by omega)))
                  have hz1 : (r : Int) < (nr : Int) := by omega
                  have hz2 : (0 : Int) ≤ (r : Int) := by omega
                  clear ht7 hb7
                  go_upto_region 20 with fail
                  rw [← hW7]
                  clear hW7 r0 r1 r2 r3 r4
                  go_upto_region 24 with fail
                  obtain ⟨F, hF⟩ : ∃ F : Int, F = pl := ⟨_, rfl⟩
                  rw [← hF]
                  have hfr2 : se = (2 : Int) → ∃ f : Nat, F = (f : Int) ∧ f + 4 ≤ nb := fun h => by
                    obtain ⟨f, e1, e2⟩ := hfr h
                    exact ⟨f, by rw [hF, ← e1]; rfl, e2⟩
                  have HFE := Lib.hid (show fromOf 2 ⟨se, pl, kd, sy, ad⟩ = F by rw [hF]; rfl)
                  have HFR := Lib.hid hfr2
                  clear hfr hfr2 hF y1
                  go_loopw [14] (fun kv wr => ∃ m : Nat, m ≤ 4 ∧ (se ≠ (2 : Int) → m = 0) ∧ kv = .int .i64 (m : Int) ∧ Hid (wr.heap[w5.heap.size]? = some (.cells (tcells (fun x => tch 2 (obAt objs0 k).rs r x || hit 2 ⟨se, pl, kd, sy, ad⟩ m x) (nb + 4)).toArray TB (0, 0))) ∧ Hid (Put w5.heap.size W7 wr)) (fun kv _ => 4 - (intOf kv).toNat)
                  case atStart => exact ⟨0, by omega, fun _ => rfl, rfl, Lib.hid (by rw [tcells_congr (g := tch 2 (obAt objs0 k).rs r) (fun x => by rw [hit_zero, Bool.or_false])]; exact HT7.out), Lib.hid (Put.refl _ _)⟩
                  case round =>
                    obtain ⟨m, hm4, hm0, rfl, HTm, HPm⟩ := hrel
                    have x0 := (HPm.out.cell (b := wq.heap.size) (o := 0) (by omega)).trans y0
                    by_cases hse : se = (2 : Int)
                    · by_cases hlm : m < 4
                      · obtain ⟨f, hf, hf4⟩ := HFR.out hse
                        have HHS := Lib.hid (fun x => hit_succ (part := 2) (r := ⟨se, pl, kd, sy, ad⟩) hse (m := m) (x := x) (f := f) (HFE.out.trans hf))
                        have g0 : wr.cell? ⟨w5.heap.size, f + m, none⟩ = some (.bool (tch 2 (obAt objs0 k).rs r (f + m) || hit 2 ⟨se, pl, kd, sy, ad⟩ m (f + m))) := (Lib.cell_of_heap HTm.out _).trans ((List.getElem?_toArray ..).trans (tcells_get (by omega)))
                        have g1 : wr.frozen? ⟨w5.heap.size, f + m, none⟩ = false := Lib.frozen_of_heap HTm.out _
                        have q0 : (se == (2 : Int)) = true := by simp [hse]
                        have hlm' : decide ((m : Int) < 4) = true := decide_eq_true (by omega)
                        rw [hf]
                        clear hf
                        have HSE := Lib.hid hse
                        clear hse
                        go_wp2
                        refine ⟨⟨m + 1, by omega, fun h => absurd HSE.out h, by go_num, Lib.hid ?_, Lib.hid (HPm.out.trans (Put.set _ _ _ _))⟩, by simp [intOf]; omega⟩
                        have e := KC.hset HTm.out (i := f + m) (.bool true)
                        rw [tcells_set, tcells_congr (g := fun x => tch 2 (obAt objs0 k).rs r x || hit 2 ⟨se, pl, kd, sy, ad⟩ (m + 1) x) (fun x => by rw [HHS.out x, Bool.or_assoc])] at e
                        exact e
                      · obtain rfl : m = 4 := by omega
                        have q0 : (se == (2 : Int)) = true := by simp [hse]
                        clear hse
                        go_wp2
                        refine ⟨⟨r + 1, by omega, by go_num, Lib.hid ?_, Lib.hid (HB7.out.trans (HPm.out.below (Nat.le_refl _)))⟩, by simp [intOf]; omega⟩
                        rw [tcells_congr (g := fun x => tch 2 (obAt objs0 k).rs r x || hit 2 ⟨se, pl, kd, sy, ad⟩ 4 x) HSUC.out]
                        exact HTm.out
                    · obtain rfl : m = 0 := hm0 hse
                      have q0 : (se == (2 : Int)) = false := by simpa using hse
                      have HSE := Lib.hid hse
                      clear hse
                      go_wp2
                      refine ⟨⟨r + 1, by omega, by go_num, Lib.hid ?_, Lib.hid (HB7.out.trans (HPm.out.below (Nat.le_refl _)))⟩, by simp [intOf]; omega⟩
                      rw [tcells_congr (g := fun x => tch 2 (obAt objs0 k).rs r x || hit 2 ⟨se, pl, kd, sy, ad⟩ 0 x) (fun x => by rw [HSUC.out x, hit_zero, hit_other HSE.out])]
                      exact HTm.out
                · obtain rfl : r = nr := by omega
                  have c3 := ((HC3.out.trans (HBr.out.mono (by omega))).cell (p := ⟨w3.heap.size, 1, none⟩) (by show w3.heap.size < W3.heap.size; have := HS3.out; omega)).trans HX3.out
                  have hgt : ¬ (nd : Int) < (atOf objs0 2 k : Int) + (nb : Int) := by omega
                  go_upto_region 31 with fail
                  go_loopw [96] (fun iv wr => ∃ x : Nat, x ≤ nb ∧ iv = .int .i64 (x : Int) ∧ Hid (wr.heap[w5.heap.size]? = some (.cells (tcells (tch 2 (obAt objs0 k).rs r) (nb + 4)).toArray TB (0, 0))) ∧ Hid (Below w5.heap.size W6 wr)) (fun iv _ => nb - (intOf iv).toNat)
                  case atStart => exact ⟨0, Nat.zero_le _, rfl, HTr, HBr⟩
                  case round =>
                    obtain ⟨x, hx, rfl, HTx, HBx⟩ := hrel
                    by_cases hlx : x < nb
                    · have hxi : (x : Int) < (nb : Int) := by omega
                      have hxi2 : (0 : Int) ≤ (x : Int) := by omega
                      have hxi3 : (x : Int) < (nb : Int) + 4 := by omega
                      have hC : Below W3.heap.size W3 wr := HC3.out.trans (HBx.out.mono (by omega))
                      have c3 := (hC.cell (p := ⟨w3.heap.size, 1, none⟩) (by show w3.heap.size < W3.heap.size; have := HS3.out; omega)).trans HX3.out
                      obtain ⟨bb, bo, eb, hbb, hbr⟩ := HBY.out (by rw [← HNB.out]; omega)
                      have hxr : x < (bOf 2 (obAt objs0 k)).length := by rw [← HNB.out]; exact hlx
                      have hby := hbr x _ (List.getElem?_eq_getElem hxr)
                      have hby := ((HB6.out.trans (HBx.out)).cell (p := ⟨bb, bo + x, none⟩) hbb).trans hby
                      subst eb
                      cases htx : tch 2 (obAt objs0 k).rs r x with
                      | true =>
                        have t0 : wr.cell? ⟨w5.heap.size, x, none⟩ = some (.bool true) := (Lib.cell_of_heap HTx.out _).trans ((List.getElem?_toArray ..).trans ((tcells_get (by omega)).trans (by rw [htx])))
                        clear hby hbr hC htx
                        go_upto_region 33 with fail
                        go_region
                        go_wp2
                        go_roundw
                        case rel => exact ⟨x + 1, by omega, by go_num, Lib.hid HTx.out, Lib.hid HBx.out.drew⟩
                        case measure => simp [intOf]; omega
                      | false =>
                        have hkp := HKEPT.out x hxr (by rw [← HNR.out]; exact htx)
                        have t0 : wr.cell? ⟨w5.heap.size, x, none⟩ = some (.bool false) := (Lib.cell_of_heap HTx.out _).trans ((List.getElem?_toArray ..).trans ((tcells_get (by omega)).trans (by rw [htx])))
                        have hig := hC.block g (by have := lt_heap HI.out; omega)
                        have i0 := (cell_same hig (atOf objs0 2 k + x)).trans (img_get HI.out (atOf objs0 2 k + x) (by rw [HIL.out]; omega))
                        rw [List.getD_eq_getElem?_getD, hkp, List.getElem?_eq_getElem hxr] at i0
                        simp only [Option.getD_some] at i0
                        generalize (bOf 2 (obAt objs0 k))[x] = y at *
                        have hsum : ((atOf objs0 2 k : Int) + (x : Int)) < (nd : Int) := by omega
                        clear hkp hbr hC htx hig
                        go_upto_region 33 with fail
                        go_region
                        go_wp2
                        go_roundw
                        case rel => exact ⟨x + 1, by omega, by go_num, Lib.hid HTx.out, Lib.hid HBx.out.drew⟩
                        case measure => simp [intOf]; omega
                    · obtain rfl : x = nb := by omega
                      have hfin : Below W3.heap.size W3 wr := HC3.out.trans (HBx.out.mono (by omega))
                      have HFIN := Lib.hid hfin
                      clear hfin
                      go_wp2
                      refine ⟨⟨k + 1, by omega, by go_num, ?_, HFIN⟩, by simp [intOf]; omega⟩
                      rw [HAS.out, ← HNB.out]
                      go_num
            · obtain rfl : k = objs0.length := by omega
              have HLB := Lib.hid (line_bits (atOf objs0 2 objs0.length) (by have := HLE.out objs0.length (Nat.le_refl _); omega))
              have HAE := Lib.hid (at_end HRC.out (q := 2) (by decide))
              have hAk := HLE.out objs0.length (Nat.le_refl _)
              have HL9 := Lib.hid (line_lim hAk)
              generalize atOf objs0 2 objs0.length = a9 at *
              go_wp2
              exact ⟨⟨2 + 1, by omega, by omega, rfl, by rw [HLB.out, HAE.out], HBk⟩, by simp [intOf]⟩
        · have c3 := (HBq.out.cell (p := ⟨w3.heap.size, 1, none⟩) (by show w3.heap.size < W3.heap.size; have := HS3.out; omega)).trans HX3.out
          have ha : aOf objs0 3 = nd := by unfold aOf; rw [if_pos rfl]; exact HND.out
          rw [ha]
          clear ha
          go_wp2
          go_ret
          exact ⟨rfl, HB.out.trans (HBq.out.mono HB.out.size)⟩
    · have HC := Lib.hid hc
      have cly : ∀ W, Below w.heap.size w W → Calls Tryz.prog 13 #[.slice p objs0.length c] W fun e w' => e = .returned (.tuple #[.agg #[.int .i64 0, .slice none 0 0], .int .i64 (linkOut objs0).2]) ∧ Below W.heap.size W w' := fun W hW => (cl W hW).mono fun e w' hr => by
        obtain ⟨hb, hr⟩ := hr
        rcases hr with ⟨-, -, h1⟩ | ⟨h0, -⟩
        · exact ⟨h1, hb⟩
        · exact absurd h0 HC.out
      have hne : ((linkOut objs0).2 != 0) = true := by simpa using hc
      clear cl hc HC
      generalize (linkOut objs0).2 = code at *
      go_enter Tryz.func8, Tryz.ntmps8
      go_wp2_with (first
        | (go_at_call 10; with_reducible refine (KW.awake_ _).mono ?_; rintro e w1 ⟨rfl, hb1⟩; have HB1 := Lib.hid hb1; clear hb1)
        | (go_at_call 11; (with_reducible refine (RsF.fewO_ HB1.out.size (ObjsAt.same HO.out (Same.of HB1.out (Nat.le_refl _))) HW.out HM.out).mono ?_); rintro e w2 ⟨rfl, hb2⟩; rw [HF.out]; have HB2 := Lib.hid (HB1.out.trans (hb2.mono HB1.out.size)); clear hb2)
        | (go_at_call 13; (with_reducible refine (cly _ HB2.out).mono ?_); rintro e w3 ⟨rfl, hb3⟩; have HB3 := Lib.hid (HB2.out.trans (hb3.mono HB2.out.size)); clear hb3 cly))
      go_ret
      exact ⟨rfl, HB3.out.alloc HB3.out.size _⟩

set_option maxRecDepth 100000 in
theorem lifted (os : Os) (started : os.Started) (H : Type) (enc : TypeId × Value → H) :
    ReturnsInHanded {} Tryz.checked os 8 .any (Rows.linkWordsSpec.pre6 enc Tryz.prog Tryz.f8 Rows.linkWordsRow.domain false) (Rows.linkWordsSpec.post enc Tryz.prog Tryz.f8 false true false false) := by
  refine returnsInHanded_of_change (C := Tryz.checked) own started (by kernel_rfl) Tryz.func8
    (ChangeSpec.witness6 (enc := enc) (C := Tryz.checked) false ⟨#[], #[.slice none 0 0], []⟩ 8 (by kernel_rfl) (by kernel_rfl) (by kernel_rfl) (by kernel_rfl)) ?_
  intro W base args ds gs before hval0 hW hcnd _
  have hval : ∀ (j : Nat) t v, Tryz.f8.params[j]? = some t → args[j]? = some v → Value.okWide Tryz.prog W .any base t v := hval0
  have hW' := hW
  obtain ⟨p, q, hA0, hV, rfl, hfz, hnd⟩ := hW
  have hA : DataW.TrodAll enc Tryz.prog W 0 (fun _ => true) true Tryz.f8.params.toList args.toList ds p := hA0
  rw [Tryz.params8] at hA hval
  obtain ⟨v0, vs0, d0, ds0, p0, q0, hargs, rfl, rfl, h0, r0⟩ := trodAll_cons hA
  obtain ⟨rfl, rfl, rfl⟩ := trodAll_nil r0
  obtain rfl : args = #[v0] := by cases args; simp_all
  obtain ⟨rfl, rfl⟩ := trodVars_none hV
  obtain ⟨objs0, ha0, hw0⟩ := RsO.open_objs (hval 0 22 v0 rfl rfl) h0
  clear hA0 hval0
  simp only [List.append_nil] at hW'
  refine (walk v0 objs0 W ha0 hw0).mono fun e W' ⟨he, hg⟩ => ?_
  subst he
  exact ⟨_, rfl, _, _, _, [], _, _, hW', (trodAll_cons_mk (shut_bool Tryz.underlying4 _) trodAll_mk0), (trodAll_cons_mk (OB.shut_any (by kernel_rfl) (by kernel_rfl) (by decide) h0 hg) trodAll_mk0), rfl, hg.frame _, fun h => by cases h⟩

theorem over : Rows.linkWordsRow.holds Tryz.pinned (OpenSpec.ofChange Rows.linkWordsSpec) :=
  OpenClaim.holds_of_wide 8 Tryz.f8 rfl rfl rfl rfl rfl rfl rfl ⟨rfl, rfl, rfl, rfl, rfl⟩ rfl rfl rfl rfl rfl (by kernel_rfl) Tryz.func8 (by kernel_rfl)
    (of_decide_eq_true (by kernel_rfl)) (by unfold Func.isWrapper; first | (rw [if_pos (by decide +kernel)]; kernel_rfl) | (rw [if_neg (by decide +kernel)]; exact ⟨rfl, rfl⟩))
    (fun os started H enc _ => lifted os started H enc)

/-- The statement. -/
theorem proved : Rows.LinkWordsSaid :=
  over
end Go.Proofs.YtlmblfkcmhgdaaaGreat.linkWords
