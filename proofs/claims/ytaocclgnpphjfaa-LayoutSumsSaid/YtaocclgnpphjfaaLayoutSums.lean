/-
  Of any sizes the law LayoutSums returns true: an image has as many bytes as the start, all words and all data, and at most seven more.
  Conditions: none beyond those of the given statement.
-/
import Derived.Test.YtaocclgnpphjfaaRows
import Derived.Test.YtaocclgnpphjfaaLayA
import Derived.Test.YtaocclgnpphjfaaObjB
import Derived.WalkKit
import Derived.ProofKit
import Derived.OpenShut
namespace Go.Proofs.Ytaocclgnpphjfaa.layoutSums
open Go.ChangeShapes Go.WideShapes Go.ChangeAt Go.RowKit
set_option linter.unusedVariables false
set_option linter.unusedSimpArgs false

theorem own : ownKnob Try.prog.godebug = none := by kernel_rfl
open LM OO LL LS

set_option maxRecDepth 100000 in
set_option maxHeartbeats 8000000 in
theorem walk (v0 : Value) (l0 : LM.Sz) (w : World) (ha0 : LS.SzAt w.heap.size w v0 l0) (hs0 : LS.Sm l0) :
    Calls Try.prog 12 #[v0] w fun e w' => e = .returned (.bool true) ∧ Below w.heap.size w w' := by
  have HO := Lib.hid ha0
  have HS := Lib.hid hs0
  obtain ⟨p, c, rfl, hsl⟩ := ha0
  have HX := Lib.hid hsl
  clear hsl
  by_cases hlen : 12 < l0.length
  · clear HO HX
    go_enter Try.func12, Try.ntmps12
    go_wp2_with (go_at_call 24; (first
      | (with_reducible refine (LA.awake_ _).mono ?_; rintro e w3 ⟨rfl, hb3⟩; have HB3 := Lib.hid (HB1.out.trans (hb3.mono HB1.out.size)); clear hb3)
      | (with_reducible refine (LA.awake_ _).mono ?_; rintro e w1 ⟨rfl, hb1⟩; have HB1 := Lib.hid hb1; clear hb1)))
    go_ret
    exact ⟨rfl, HB3.out⟩
  · have hle : l0.length ≤ 12 := by omega
    go_enter Try.func12, Try.ntmps12
    go_wp2_with (go_at_call 24; with_reducible refine (LA.awake_ _).mono ?_; rintro e w1 ⟨rfl, hb1⟩; have HB1 := Lib.hid hb1; clear hb1)
    go_loopw [3, 19] (fun s i wr => ∃ k : Nat, k ≤ l0.length ∧ i = .int .i64 k ∧ s = .int .i64 (sumAt l0 k : Nat) ∧ Hid (Below w.heap.size w wr)) (fun _ i _ => l0.length - (intOf i).toNat)
    case atStart => exact ⟨0, Nat.zero_le _, rfl, rfl, HB1⟩
    case round =>
      obtain ⟨k, hk, rfl, rfl, HBL⟩ := hrel
      have hbd := sumAt_bd HS.out hle k
      by_cases hlt : k < l0.length
      · obtain ⟨b, o, rfl, hb, -, -, hall⟩ := HX.out (by omega)
        obtain ⟨e0, e1⟩ := hall k _ (List.getElem?_eq_getElem hlt)
        have k0 := (HBL.out.cell (p := ⟨b, o + k * 2, none⟩) hb).trans e0
        have k1 := (HBL.out.cell (p := ⟨b, o + k * 2 + 1, none⟩) hb).trans e1
        obtain ⟨hx1, hx2⟩ := HS.out _ (List.getElem_mem hlt)
        have hs := sumAt_succ hlt
        have hb2 := HBL.out.alloc HBL.out.size (.cells #[.int .u16 (l0[k].1 : Int), .int .u16 (l0[k].2 : Int)] 75)
        have HB2 := Lib.hid hb2
        clear hall e0 e1 hb2
        generalize l0[k] = x at *
        obtain ⟨x1, x2⟩ := x
        simp only at hx1 hx2 k0 k1 hs HB2
        go_wp2
        exact ⟨⟨k + 1, by omega, by go_num, by rw [hs]; push_cast; rfl, HB2⟩, by simp [intOf]; omega⟩
      · obtain rfl : k = l0.length := by omega
        obtain ⟨he1, he2⟩ := sumAt_end l0
        have hbz := HBL.out.size
        have co := LO.objects_ (w := wr) hbz (SzAt.below HO.out HBL.out) HS.out (by omega)
        cases hok : ok l0 with
        | true =>
          have hd := ok_lim hok
          go_wp2_with (first
            | (go_at_call 25; (with_reducible refine co.mono ?_); rintro e w2 ⟨q, cq, rfl, ho2, hb2⟩; have HO2 := Lib.hid ho2; have HB2 := Lib.hid (HBL.out.trans (hb2.mono hbz)); clear ho2 hb2)
            | (go_at_call 26; (with_reducible refine (Layout_yes hok (Nat.le_refl _) HO2.out (by omega) (big HS.out)).mono ?_); rintro e w3 ⟨p3, c3, rfl, -, hb3⟩; have HB3 := Lib.hid (HB2.out.trans (hb3.mono HB2.out.size)); clear hb3))
          go_ret
          exact ⟨by congr 2; simp; omega, HB3.out⟩
        | false =>
          have hd := not_ok hok
          go_wp2_with (first
            | (go_at_call 25; (with_reducible refine co.mono ?_); rintro e w2 ⟨q, cq, rfl, ho2, hb2⟩; have HO2 := Lib.hid ho2; have HB2 := Lib.hid (HBL.out.trans (hb2.mono hbz)); clear ho2 hb2)
            | (go_at_call 26; (with_reducible refine (Layout_no hok (Nat.le_refl _) HO2.out (by omega) (big HS.out)).mono ?_); rintro e w3 ⟨rfl, hb3⟩; have HB3 := Lib.hid (HB2.out.trans (hb3.mono HB2.out.size)); clear hb3))
          go_ret
          exact ⟨by congr 2; simp; omega, HB3.out⟩

set_option maxRecDepth 100000 in
theorem lifted (os : Os) (started : os.Started) (H : Type) (enc : TypeId × Value → H) :
    ReturnsInHanded {} Try.checked os 12 .any (Rows.layoutSumsSpec.pre6 enc Try.prog Try.f12 Rows.layoutSumsRow.domain false) (Rows.layoutSumsSpec.post enc Try.prog Try.f12 false true false false) := by
  refine returnsInHanded_of_change (C := Try.checked) own started (by kernel_rfl) Try.func12
    (ChangeSpec.witness6 (enc := enc) (C := Try.checked) false ⟨#[], #[.slice none 0 0], []⟩ 8 (by kernel_rfl) (by kernel_rfl) (by kernel_rfl) (by kernel_rfl)) ?_
  intro W base args ds gs before hval0 hW hcnd _
  have hval : ∀ (j : Nat) t v, Try.f12.params[j]? = some t → args[j]? = some v → Value.okWide Try.prog W .any base t v := hval0
  have hW' := hW
  obtain ⟨p, q, hA0, hV, rfl, hfz, hnd⟩ := hW
  have hA : DataW.TrodAll enc Try.prog W 0 (fun _ => true) true Try.f12.params.toList args.toList ds p := hA0
  rw [Try.params12] at hA hval
  obtain ⟨v0, vs0, d0, ds0, p0, q0, hargs, rfl, rfl, h0, r0⟩ := trodAll_cons hA
  obtain ⟨rfl, rfl, rfl⟩ := trodAll_nil r0
  obtain rfl : args = #[v0] := by cases args; simp_all
  obtain ⟨rfl, rfl⟩ := trodVars_none hV
  obtain ⟨l0, ha0, hs0⟩ := LS.open_sizes (hval 0 55 v0 rfl rfl) h0
  clear hA0 hval0
  simp only [List.append_nil] at hW'
  refine (walk v0 l0 W ha0 hs0).mono fun e W' ⟨he, hg⟩ => ?_
  subst he
  exact ⟨_, rfl, _, _, _, [], _, _, hW', (trodAll_cons_mk (shut_bool Try.underlying4 _) trodAll_mk0), (trodAll_cons_mk (OB.shut_any (by kernel_rfl) (by kernel_rfl) (by decide) h0 hg) trodAll_mk0), rfl, hg.frame _, fun h => by cases h⟩

theorem over : Rows.layoutSumsRow.holds Try.pinned (OpenSpec.ofChange Rows.layoutSumsSpec) :=
  OpenClaim.holds_of_wide 12 Try.f12 rfl rfl rfl rfl rfl rfl rfl ⟨rfl, rfl, rfl, rfl, rfl⟩ rfl rfl rfl rfl rfl (by kernel_rfl) Try.func12 (by kernel_rfl)
    (of_decide_eq_true (by kernel_rfl)) (by unfold Func.isWrapper; first | (rw [if_pos (by decide +kernel)]; kernel_rfl) | (rw [if_neg (by decide +kernel)]; exact ⟨rfl, rfl⟩))
    (fun os started H enc _ => lifted os started H enc)

/-- The statement. -/
theorem proved : Rows.LayoutSumsSaid :=
  over
end Go.Proofs.Ytaocclgnpphjfaa.layoutSums
