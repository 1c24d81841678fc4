/-
  Of any objects the law ResolveMain returns true: what defines main, or what is wrong, and the names that nobody defines, are the document's.
  Conditions: none beyond those of the given statement.
-/
import Derived.Test.YtieehjkmfmkfjaaRows
import Derived.Test.YtieehjkmfmkfjaaRefAll
import Derived.Test.YtieehjkmfmkfjaaResK
import Derived.Test.YtieehjkmfmkfjaaResA
import Derived.Test.YtieehjkmfmkfjaaResO
import Derived.Laws.StructEq
import Derived.BigQuiet
import Derived.BigRegion
import Derived.WalkKit
import Derived.ProofKit
import Derived.OpenShut
namespace Go.Proofs.Ytieehjkmfmkfjaa.resolveMain
open Go.ChangeShapes Go.WideShapes Go.ChangeAt Go.RowKit
set_option linter.unusedVariables false
set_option linter.unusedSimpArgs false

theorem own : ownKnob Try.prog.godebug = none := by kernel_rfl
open OO OJ RsM RsF RsB RsT RsD RsQ RsY RsJ RsK RsZ RsV XR XV XW XN XP XQ
theorem small_names {objs : List ObjV} (h : fewO objs = true) : ∀ o ∈ objs, ∀ s ∈ o.ss, s.name.size ≤ 1000000 := fun o ho s hs => by
  have := (OE.few_lim ((fewO_lim h).2 o ho)).2.2.2.2 s hs
  omega
theorem small_ss {objs : List ObjV} (h : fewO objs = true) : ∀ o ∈ objs, o.ss.length ≤ 100000 := fun o ho => by
  have := (OE.few_lim ((fewO_lim h).2 o ho)).2.2.1
  omega
theorem dn {B : Nat} {a w : World} {q : Nat} (h : Below B a w) : Below B a (w.drewN q) := ⟨h.os, h.tape, h.output, h.size, h.block⟩
theorem two_at {w1 W : World} {a b : Value} {T : TypeId} (hb : Below (w1.alloc (.cells #[a, b] T)).heap.size (w1.alloc (.cells #[a, b] T)) W) : W.cell? ⟨w1.heap.size, 0, none⟩ = some a ∧ W.cell? ⟨w1.heap.size, 1, none⟩ = some b := by
  have h : W.heap[w1.heap.size]? = some (.cells #[a, b] T (0, 0)) := (hb.block _ (by simp)).trans (heap_alloc_new w1 _)
  exact ⟨Lib.cell_of_heap h 0, Lib.cell_of_heap h 1⟩

set_option maxRecDepth 100000 in
set_option maxHeartbeats 8000000 in
theorem walk (v0 : Value) (objs0 : List OO.ObjV) (w : World) (ha0 : RsM.ObjsAt w.heap.size w v0 objs0) (hw0 : ∀ o ∈ objs0, o.Wf) :
    Calls Try.prog 4 #[v0] w fun e w' => e = .returned (.bool true) ∧ Below w.heap.size w w' := by
  have HO := Lib.hid ha0
  have HW := Lib.hid hw0
  have HM := Lib.hid (OB.Sl_len ha0)
  obtain ⟨p, c, rfl, -⟩ := ha0
  clear hw0
  cases hf : RsF.fewO objs0 with
  | false =>
    have HF := Lib.hid hf
    clear hf
    go_enter Try.func4, Try.ntmps4
    go_wp2_with (first
      | (go_at_call 10; (first
          | (with_reducible refine (RsA.awake_ _).mono ?_; rintro e w3 ⟨rfl, hb3⟩; have HB3 := Lib.hid (HB2.out.trans (hb3.mono HB2.out.size)); clear hb3)
          | (with_reducible refine (RsA.awake_ _).mono ?_; rintro e w1 ⟨rfl, hb1⟩; have HB1 := Lib.hid hb1; clear hb1)))
      | (go_at_call 11; (with_reducible refine (RsF.fewO_ HB1.out.size (ObjsAt.same HO.out (Same.of HB1.out (Nat.le_refl _))) HW.out HM.out).mono ?_); rintro e w2 ⟨rfl, hb2⟩; have HB2 := Lib.hid (HB1.out.trans (hb2.mono HB1.out.size)); rw [HF.out]; clear hb2))
    go_ret
    exact ⟨rfl, HB3.out⟩
  | true =>
    have HF := Lib.hid hf
    obtain ⟨hm12, hms, hN⟩ := few_flat hf
    have HSN := Lib.hid (small_names hf)
    have HSS := Lib.hid (small_ss hf)
    have HMS := Lib.hid hms
    have hmM : objs0.length ≤ 100000 := by omega
    clear hf hms hm12
    go_enter Try.func4, Try.ntmps4
    go_upto_region 3 with (first
      | (go_at_call 10; with_reducible refine (RsA.awake_ _).mono ?_; rintro e w1 ⟨rfl, hb1⟩; have HB1 := Lib.hid hb1; clear hb1)
      | (go_at_call 11; (with_reducible refine (RsF.fewO_ HB1.out.size (ObjsAt.same HO.out (Same.of HB1.out (Nat.le_refl _))) HW.out HM.out).mono ?_); rintro e w2 ⟨rfl, hb2⟩; have HB2 := Lib.hid (HB1.out.trans (hb2.mono HB1.out.size)); rw [HF.out]; clear hb2))
    have hs2 := HB2.out.size
    have cm := Main_ (w := w2) (n₀ := w.heap.size) hs2 (ObjsAt.same HO.out (Same.of HB2.out (Nat.le_refl _))) HW.out hmM HMS.out hN
    have crm := fun (W : World) (h : Below w.heap.size w W) => rmain_ (w := W) (n₀ := w.heap.size) h.size (ObjsAt.same HO.out (Same.of h (Nat.le_refl _))) HW.out hmM HSS.out
    have cn := fun (W : World) (h : Below w.heap.size w W) => Needs_ (w := W) (n₀ := w.heap.size) h.size (ObjsAt.same HO.out (Same.of h (Nat.le_refl _))) HW.out hmM HMS.out hN HSN.out
    have crn := fun (W : World) (h : Below w.heap.size w W) => rneeds_ (w := W) (n₀ := w.heap.size) h.size (ObjsAt.same HO.out (Same.of h (Nat.le_refl _))) HW.out hmM HSS.out hN
    obtain ⟨mo, hmo⟩ : ∃ mo, mo = mainOut objs0 := ⟨_, rfl⟩
    rw [← hmo] at cm crm
    obtain ⟨ma, mb, mc⟩ := mo
    simp only at cm crm
    clear hmo HB1
    go_upto_region 4 with (go_at_call 17; (with_reducible refine cm.mono ?_); rintro e w3 ⟨rfl, hb3⟩; have HB3 := Lib.hid (HB2.out.trans (hb3.mono hs2)); clear hb3 cm)
    have h4 := HB3.out.alloc HB3.out.size (.cells #[.int .i64 ma, .int .i64 mb] TT)
    have cr4 := crm _ h4
    have H4 := Lib.hid h4
    clear crm h4
    go_upto_region 5 with (go_at_call 18; (with_reducible refine cr4.mono ?_); rintro e w5 ⟨rfl, hb5⟩; have HB5 := Lib.hid hb5; have HX5 := Lib.hid (H4.out.trans (hb5.mono H4.out.size)); clear hb5 cr4)
    have h6 := HX5.out.alloc HX5.out.size (.cells #[.int .i64 ma, .int .i64 mb] TTR)
    have cn6 := cn _ h6
    unfold NRes at cn6
    have H6 := Lib.hid h6
    clear cn h6
    go_upto_region 6 with (first
      | (go_at_call 19; (with_reducible refine cn6.mono ?_); rintro e w7 ⟨p7, c7, rfl, hs7, hb7⟩; have HS7 := Lib.hid hs7; have HB7 := Lib.hid hb7; have HX7 := Lib.hid (H6.out.trans (hb7.mono H6.out.size)); have cr7 := crn _ HX7.out; unfold NRes at cr7; clear hs7 hb7 cn6)
      | (go_at_call 20; (with_reducible refine cr7.mono ?_); rintro e w8 ⟨p8, c8, rfl, hs8, hb8⟩; have HS8 := Lib.hid hs8; have HB8 := Lib.hid hb8; clear hs8 hb8 cr7))
    have b5 := HB5.out.alloc HB5.out.size (.cells #[.int .i64 ma, .int .i64 mb] TTR)
    have b8 := HB7.out.trans (HB8.out.mono HB7.out.size)
    obtain ⟨t0, t1⟩ := two_at (b5.trans (b8.mono b5.size))
    obtain ⟨u0, u1⟩ := two_at b8
    have HX8 := Lib.hid (HX7.out.trans (HB8.out.mono HX7.out.size))
    have HR7 := Lib.hid (strs_below HS7.out HB8.out)
    clear b5 b8 HB5 HB7 HB8 H4 H6 HX5 HX7 HB2 HB3 HS7 hs2
    generalize needsL objs0 = K at *
    go_wp2_with fail
    obtain ⟨x7, y7, hv7, hh7⟩ := HR7.out
    cases hv7
    obtain ⟨x8, y8, hv8, hh8⟩ := HS8.out
    cases hv8
    have HH7 := Lib.hid hh7
    have HH8 := Lib.hid hh8
    clear hh7 hh8 t0 t1 u0 u1 HR7 HS8
    go_loopw [49] (fun i wr => ∃ k : Nat, k ≤ K.length ∧ i = .int .i64 k ∧ Hid (Below w8.heap.size w8 wr)) (fun i _ => K.length - (intOf i).toNat)
    case atStart => exact ⟨0, Nat.zero_le _, rfl, Lib.hid (Below.refl _ _)⟩
    case round =>
      obtain ⟨k, hk, rfl, HBL⟩ := hrel
      by_cases hlt : k < K.length
      · obtain ⟨ba, oa, rfl, hba, m1, m2, hca⟩ := HH7.out (by omega)
        have hKm : K.length ≤ 9223372036854775807 := by unfold maxLen at m2; omega
        clear m1 m2
        obtain ⟨bb, ob, rfl, hbb, -, -, hcb⟩ := HH8.out (by omega)
        have g1 : wr.cell? ⟨ba, oa + k, none⟩ = some (.string (bsv K[k])) := (HBL.out.cell (p := ⟨ba, oa + k, none⟩) hba).trans (hca k _ (List.getElem?_eq_getElem hlt))
        have g2 : wr.cell? ⟨bb, ob + k, none⟩ = some (.string (bsv K[k])) := (HBL.out.cell (p := ⟨bb, ob + k, none⟩) hbb).trans (hcb k _ (List.getElem?_eq_getElem hlt))
        have hk1 : (0 : Int) ≤ (k : Int) := by omega
        clear hca hcb
        generalize bsv K[k] = X at *
        go_wp2_with fail
        go_quiet (fail)
        go_wp2_with fail
        go_roundw
        case rel => exact ⟨k + 1, by omega, by go_num, Lib.hid (dn HBL.out)⟩
        case measure => simp [intOf]; omega
      · obtain rfl : k = K.length := by omega
        go_wp2
        go_ret
        exact ⟨rfl, HX8.out.trans (HBL.out.mono HX8.out.size)⟩

set_option maxRecDepth 100000 in
theorem lifted (os : Os) (started : os.Started) (H : Type) (enc : TypeId × Value → H) :
    ReturnsInHanded {} Try.checked os 4 .any (Rows.resolveMainSpec.pre6 enc Try.prog Try.f4 Rows.resolveMainRow.domain false) (Rows.resolveMainSpec.post enc Try.prog Try.f4 false true false false) := by
  refine returnsInHanded_of_change (C := Try.checked) own started (by kernel_rfl) Try.func4
    (ChangeSpec.witness6 (enc := enc) (C := Try.checked) false ⟨#[], #[.slice none 0 0], []⟩ 8 (by kernel_rfl) (by kernel_rfl) (by kernel_rfl) (by kernel_rfl)) ?_
  intro W base args ds gs before hval0 hW hcnd _
  have hval : ∀ (j : Nat) t v, Try.f4.params[j]? = some t → args[j]? = some v → Value.okWide Try.prog W .any base t v := hval0
  have hW' := hW
  obtain ⟨p, q, hA0, hV, rfl, hfz, hnd⟩ := hW
  have hA : DataW.TrodAll enc Try.prog W 0 (fun _ => true) true Try.f4.params.toList args.toList ds p := hA0
  rw [Try.params4] at hA hval
  obtain ⟨v0, vs0, d0, ds0, p0, q0, hargs, rfl, rfl, h0, r0⟩ := trodAll_cons hA
  obtain ⟨rfl, rfl, rfl⟩ := trodAll_nil r0
  obtain rfl : args = #[v0] := by cases args; simp_all
  obtain ⟨rfl, rfl⟩ := trodVars_none hV
  obtain ⟨objs0, ha0, hw0⟩ := RsO.open_objs (hval 0 22 v0 rfl rfl) h0
  clear hA0 hval0
  simp only [List.append_nil] at hW'
  refine (walk v0 objs0 W ha0 hw0).mono fun e W' ⟨he, hg⟩ => ?_
  subst he
  exact ⟨_, rfl, _, _, _, [], _, _, hW', (trodAll_cons_mk (shut_bool Try.underlying4 _) trodAll_mk0), (trodAll_cons_mk (OB.shut_any (by kernel_rfl) (by kernel_rfl) (by decide) h0 hg) trodAll_mk0), rfl, hg.frame _, fun h => by cases h⟩

theorem over : Rows.resolveMainRow.holds Try.pinned (OpenSpec.ofChange Rows.resolveMainSpec) :=
  OpenClaim.holds_of_wide 4 Try.f4 rfl rfl rfl rfl rfl rfl rfl ⟨rfl, rfl, rfl, rfl, rfl⟩ rfl rfl rfl rfl rfl (by kernel_rfl) Try.func4 (by kernel_rfl)
    (of_decide_eq_true (by kernel_rfl)) (by unfold Func.isWrapper; first | (rw [if_pos (by decide +kernel)]; kernel_rfl) | (rw [if_neg (by decide +kernel)]; exact ⟨rfl, rfl⟩))
    (fun os started H enc _ => lifted os started H enc)

/-- The statement. -/
theorem proved : Rows.ResolveMainSaid :=
  over
end Go.Proofs.Ytieehjkmfmkfjaa.resolveMain
