/-
  Of any sizes the law LayoutPlaces returns true: objects of any sizes stand where the document says, or are too many bytes.
  Conditions: none beyond those of the given statement.
-/
import Derived.Test.YtaocclgnpphjfaaRows
import Derived.Test.YtaocclgnpphjfaaLayW
import Derived.Laws.StructEq
import Derived.BigQuiet
import Derived.WalkKit
import Derived.ProofKit
import Derived.OpenShut
namespace Go.Proofs.Ytaocclgnpphjfaa.layoutPlaces
open Go.ChangeShapes Go.WideShapes Go.ChangeAt Go.RowKit
set_option linter.unusedVariables false
set_option linter.unusedSimpArgs false

theorem own : ownKnob Try.prog.godebug = none := by kernel_rfl
open LM OO LL LS
theorem dn {B : Nat} {a w : World} {q : Nat} (h : Below B a w) : Below B a (w.drewN q) := ⟨h.os, h.tape, h.output, h.size, h.block⟩

set_option maxRecDepth 100000 in
set_option maxHeartbeats 8000000 in
theorem walk (v0 : Value) (l0 : LM.Sz) (w : World) (ha0 : LS.SzAt w.heap.size w v0 l0) (hs0 : LS.Sm l0) :
    Calls Try.prog 8 #[v0] w fun e w' => e = .returned (.bool true) ∧ Below w.heap.size w w' := by
  have HO := Lib.hid ha0
  have HS := Lib.hid hs0
  obtain ⟨p, c, rfl, hsl⟩ := ha0
  clear hsl
  by_cases hlen : 12 < l0.length
  · clear HO
    go_enter Try.func8, Try.ntmps8
    go_wp2_with (go_at_call 24; (first
      | (with_reducible refine (LA.awake_ _).mono ?_; rintro e w3 ⟨rfl, hb3⟩; have HB3 := Lib.hid (HB1.out.trans (hb3.mono HB1.out.size)); clear hb3)
      | (with_reducible refine (LA.awake_ _).mono ?_; rintro e w1 ⟨rfl, hb1⟩; have HB1 := Lib.hid hb1; clear hb1)))
    go_ret
    exact ⟨rfl, HB3.out⟩
  · have hle : l0.length ≤ 12 := by omega
    cases hok : ok l0 with
    | true =>
      have hd := ok_lim hok
      go_enter Try.func8, Try.ntmps8
      go_wp2_with (first
        | (go_at_call 24; with_reducible refine (LA.awake_ _).mono ?_; rintro e w1 ⟨rfl, hb1⟩; have HB1 := Lib.hid hb1; clear hb1)
        | (go_at_call 25; (with_reducible refine (LO.objects_ (n₀ := w.heap.size) HB1.out.size (SzAt.below HO.out HB1.out) HS.out (by omega)).mono ?_); rintro e w2 ⟨q, cq, rfl, ho2, hb2⟩; have HO2 := Lib.hid ho2; have HB2 := Lib.hid (HB1.out.trans (hb2.mono HB1.out.size)); clear ho2 hb2)
        | (go_at_call 26; (with_reducible refine (Layout_yes hok (Nat.le_refl _) HO2.out (by omega) (big HS.out)).mono ?_); rintro e w3 ⟨p3, c3, rfl, hp3, hb3⟩; have HP3 := Lib.hid hp3; have HC3 := Lib.hid hb3; have HB3 := Lib.hid (HB2.out.trans (hb3.mono HB2.out.size)); clear hp3 hb3)
        | (go_at_call 27; (with_reducible refine (LW.Layout_yes hok HC3.out.size (HO2.out.below HC3.out) (by omega) HS.out).mono ?_); rintro e w4 ⟨p4, c4, rfl, hp4, hb4⟩; have HP4 := Lib.hid hp4; have HC4 := Lib.hid hb4; have HB4 := Lib.hid (HB3.out.trans (hb4.mono HB3.out.size)); clear hp4 hb4))
      go_loopw [59] (fun i wr => ∃ k : Nat, k ≤ l0.length ∧ i = .int .i64 k ∧ Hid (Below w4.heap.size w4 wr)) (fun i _ => l0.length - (intOf i).toNat)
      case atStart => exact ⟨0, Nat.zero_le _, rfl, Lib.hid (Below.refl _ _)⟩
      case round =>
        obtain ⟨k, hk, rfl, HBL⟩ := hrel
        by_cases hlt : k < l0.length
        · obtain ⟨p', c', e, hh⟩ := HP3.out
          cases e
          obtain ⟨b, o, rfl, hb, -, -, ha⟩ := hh (by omega)
          obtain ⟨q', d', e, hh2⟩ := HP4.out
          cases e
          obtain ⟨g, s, rfl, hg, -, -, hx⟩ := hh2 (by omega)
          have hbd := HC4.out.size
          have a0 := (HBL.out.cell (p := ⟨b, o + k * 2, none⟩) (by show b < w4.heap.size; omega)).trans ((HC4.out.cell (p := ⟨b, o + k * 2, none⟩) hb).trans (ha k hlt).1)
          have a1 := (HBL.out.cell (p := ⟨b, o + k * 2 + 1, none⟩) (by show b < w4.heap.size; omega)).trans ((HC4.out.cell (p := ⟨b, o + k * 2 + 1, none⟩) hb).trans (ha k hlt).2)
          have b0 := (HBL.out.cell (p := ⟨g, s + k * 2, none⟩) hg).trans (hx k hlt).1
          have b1 := (HBL.out.cell (p := ⟨g, s + k * 2 + 1, none⟩) hg).trans (hx k hlt).2
          generalize textAt l0 k = t at *
          generalize dataAt l0 k = d1 at *
          clear ha hh hh2 hx hbd
          go_upto_region 11 with fail
          go_quiet (fail)
          go_wp2
          exact ⟨⟨k + 1, by omega, by go_num, Lib.hid (dn HBL.out)⟩, by simp [intOf]; omega⟩
        · obtain rfl : k = l0.length := by omega
          go_wp2
          go_ret
          exact ⟨rfl, HB4.out.trans (HBL.out.mono HB4.out.size)⟩
    | false =>
      go_enter Try.func8, Try.ntmps8
      go_wp2_with (first
        | (go_at_call 24; with_reducible refine (LA.awake_ _).mono ?_; rintro e w1 ⟨rfl, hb1⟩; have HB1 := Lib.hid hb1; clear hb1)
        | (go_at_call 25; (with_reducible refine (LO.objects_ (n₀ := w.heap.size) HB1.out.size (SzAt.below HO.out HB1.out) HS.out (by omega)).mono ?_); rintro e w2 ⟨q, cq, rfl, ho2, hb2⟩; have HO2 := Lib.hid ho2; have HB2 := Lib.hid (HB1.out.trans (hb2.mono HB1.out.size)); clear ho2 hb2)
        | (go_at_call 26; (with_reducible refine (Layout_no hok (Nat.le_refl _) HO2.out (by omega) (big HS.out)).mono ?_); rintro e w3 ⟨rfl, hb3⟩; have HC3 := Lib.hid hb3; have HB3 := Lib.hid (HB2.out.trans (hb3.mono HB2.out.size)); clear hb3)
        | (go_at_call 27; (with_reducible refine (LW.Layout_no hok HC3.out.size (HO2.out.below HC3.out) (by omega) HS.out).mono ?_); rintro e w4 ⟨rfl, hb4⟩; have HC4 := Lib.hid hb4; have HB4 := Lib.hid (HB3.out.trans (hb4.mono HB3.out.size)); clear hb4))
      go_loopw [59] (fun i wr => i = .int .i64 0 ∧ Hid (Below w4.heap.size w4 wr)) (fun i _ => 0)
      case atStart => exact ⟨rfl, Lib.hid (Below.refl _ _)⟩
      case round =>
        obtain ⟨rfl, HBL⟩ := hrel
        go_wp2
        go_ret
        exact ⟨rfl, HB4.out.trans (HBL.out.mono HB4.out.size)⟩

set_option maxRecDepth 100000 in
theorem lifted (os : Os) (started : os.Started) (H : Type) (enc : TypeId × Value → H) :
    ReturnsInHanded {} Try.checked os 8 .any (Rows.layoutPlacesSpec.pre6 enc Try.prog Try.f8 Rows.layoutPlacesRow.domain false) (Rows.layoutPlacesSpec.post enc Try.prog Try.f8 false true false false) := by
  refine returnsInHanded_of_change (C := Try.checked) own started (by kernel_rfl) Try.func8
    (ChangeSpec.witness6 (enc := enc) (C := Try.checked) false ⟨#[], #[.slice none 0 0], []⟩ 8 (by kernel_rfl) (by kernel_rfl) (by kernel_rfl) (by kernel_rfl)) ?_
  intro W base args ds gs before hval0 hW hcnd _
  have hval : ∀ (j : Nat) t v, Try.f8.params[j]? = some t → args[j]? = some v → Value.okWide Try.prog W .any base t v := hval0
  have hW' := hW
  obtain ⟨p, q, hA0, hV, rfl, hfz, hnd⟩ := hW
  have hA : DataW.TrodAll enc Try.prog W 0 (fun _ => true) true Try.f8.params.toList args.toList ds p := hA0
  rw [Try.params8] at hA hval
  obtain ⟨v0, vs0, d0, ds0, p0, q0, hargs, rfl, rfl, h0, r0⟩ := trodAll_cons hA
  obtain ⟨rfl, rfl, rfl⟩ := trodAll_nil r0
  obtain rfl : args = #[v0] := by cases args; simp_all
  obtain ⟨rfl, rfl⟩ := trodVars_none hV
  obtain ⟨l0, ha0, hs0⟩ := LS.open_sizes (hval 0 55 v0 rfl rfl) h0
  clear hA0 hval0
  simp only [List.append_nil] at hW'
  refine (walk v0 l0 W ha0 hs0).mono fun e W' ⟨he, hg⟩ => ?_
  subst he
  exact ⟨_, rfl, _, _, _, [], _, _, hW', (trodAll_cons_mk (shut_bool Try.underlying4 _) trodAll_mk0), (trodAll_cons_mk (OB.shut_any (by kernel_rfl) (by kernel_rfl) (by decide) h0 hg) trodAll_mk0), rfl, hg.frame _, fun h => by cases h⟩

theorem over : Rows.layoutPlacesRow.holds Try.pinned (OpenSpec.ofChange Rows.layoutPlacesSpec) :=
  OpenClaim.holds_of_wide 8 Try.f8 rfl rfl rfl rfl rfl rfl rfl ⟨rfl, rfl, rfl, rfl, rfl⟩ rfl rfl rfl rfl rfl (by kernel_rfl) Try.func8 (by kernel_rfl)
    (of_decide_eq_true (by kernel_rfl)) (by unfold Func.isWrapper; first | (rw [if_pos (by decide +kernel)]; kernel_rfl) | (rw [if_neg (by decide +kernel)]; exact ⟨rfl, rfl⟩))
    (fun os started H enc _ => lifted os started H enc)

/-- The statement. -/
theorem proved : Rows.LayoutPlacesSaid :=
  over
end Go.Proofs.Ytaocclgnpphjfaa.layoutPlaces
