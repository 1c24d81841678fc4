/-
  Of every word and every number the law WordShifts returns true: moving left is a product with a power of two, right a quotient; signed it is the one that rounds down.
  Conditions: none beyond those of the given statement.
-/
import Derived.Test.YtdnddgfnpefklaaRows
import Derived.Test.YtdnddgfnpefklaaWordR
import Derived.Test.YtdnddgfnpefklaaWordF
import Derived.Test.YtdnddgfnpefklaaWordN
import Derived.WalkKit
import Derived.ProofKit
import Derived.OpenShut
namespace Go.Proofs.Ytdnddgfnpefklaa.wordShifts
open Go.ChangeShapes Go.WideShapes Go.ChangeAt Go.RowKit
set_option linter.unusedVariables false      -- a walk need not use every 'w<i>' (that an integer argument fits its kind)

theorem own : ownKnob Try.prog.godebug = none := by kernel_rfl

/-! ### STEP 1: THE WALK: the Go text returns true. 'Grown w w'': the world has at most new blocks (Derived/RowKit3.lean). Part the cases AHEAD of 'go_enter' where a test parts the walk; take each callee by a contract of your own. -/
theorem walk (a0 : Int) (a1 : Int) (w0 : (Lit.int .u32 a0).wf = true) (w1 : (Lit.int .i64 a1).wf = true) (w : World) :
    Calls Try.prog 10 #[.int .u32 a0, .int .i64 a1] w fun e w' => e = .returned (.bool true) ∧ Grown w w' := by
  have ha : WM.Ok a0 := bounds_u32 w0
  obtain ⟨k, hk⟩ : ∃ k, (IntKind.u64.wrap a1).tmod 31 % 4294967296 = k := ⟨_, rfl⟩
  have hu : 0 ≤ IntKind.u64.wrap a1 := wrap_u64_nonneg a1
  have ht : (IntKind.u64.wrap a1).tmod 31 = IntKind.u64.wrap a1 % 31 := Int.tmod_eq_emod_of_nonneg hu
  have k0 : 0 ≤ k := by omega
  have k1 : k ≤ 30 := by omega
  clear hu ht
  have p1 := WM.pow_pos32 k.toNat
  have p2 : (2 : Int) ^ k.toNat ≤ 1073741824 := by
    have h : (2 : Nat) ^ k.toNat ≤ 2 ^ 30 := Nat.pow_le_pow_right (by omega) (by omega)
    have h2 : ((2 ^ k.toNat : Nat) : Int) ≤ ((2 ^ 30 : Nat) : Int) := Int.ofNat_le.mpr h
    simpa using h2
  have hkk : WM.Ok k := ⟨k0, by omega⟩
  have hpp : WM.Ok (2 ^ k.toNat) := ⟨by omega, by omega⟩
  have c1 := fun w => WL.do_ 3 1 k rfl ⟨by omega, by omega⟩ hkk w
  have c2 := fun w => WL.do_ 8 a0 k rfl ha hkk w
  have c3 := fun w => WL.do_ 3 a0 k rfl ha hkk w
  have c4 := fun w => WL.do_ 11 a0 (2 ^ k.toNat) rfl ha hpp w
  have c5 := fun w => WL.do_ 7 a0 k rfl ha hkk w
  have c6 := fun w => WL.do_ 15 a0 (2 ^ k.toNat) rfl ha hpp w
  have o8 := WM.val_ok 8 a0 k ha hkk
  have c7 := fun w => WC.signed (WM.val 8 a0 k) o8 w
  have c8 := fun w => WC.signed a0 ha w
  rw [WM.shl_one k k0 (by omega)] at c1
  rw [WM.shl_mul a0 k k0 (by omega)] at c3
  rw [WM.shr_div a0 k k0 (by omega)] at c5
  rw [WM.sra_bd a0 k k0 (by omega)] at c7
  have f1 := (WM.floor_bd (wrap32 a0) (2 ^ k.toNat) p1).1
  have f2 := (WM.floor_bd (wrap32 a0) (2 ^ k.toNat) p1).2
  have f3 := WM.wrap32_bd a0
  generalize WM.val 8 a0 k = s at *
  generalize WM.val 11 a0 (2 ^ k.toNat) = m at *
  generalize WM.val 15 a0 (2 ^ k.toNat) = d at *
  generalize wrap32 a0 / 2 ^ k.toNat = y at *
  generalize wrap32 a0 = x at *
  obtain ⟨ha1, ha2⟩ := ha
  clear o8 hkk hpp
  go_enter Try.func10, Try.ntmps10
  go_wp2_with (first
      | (go_at_call 11; refine (WL.awake _).mono ?_; rintro e w' ⟨rfl, rfl⟩)
      | (go_at_call 20; (first | (with_reducible refine (c1 _).mono ?_) | (with_reducible refine (c2 _).mono ?_) | (with_reducible refine (c3 _).mono ?_) | (with_reducible refine (c4 _).mono ?_) | (with_reducible refine (c5 _).mono ?_) | (with_reducible refine (c6 _).mono ?_)); rintro e w' ⟨rfl, rfl⟩)
      | (go_at_call 14; (first | (with_reducible refine (c7 _).mono ?_) | (with_reducible refine (c8 _).mono ?_)); rintro e w' ⟨rfl, rfl⟩))
  go_ret
  exact ⟨rfl, Grown.refl _⟩

/-! ### THE ROW's STEP: WRITTEN OUT: LEAVE IT -/
set_option maxRecDepth 100000 in
theorem lifted (os : Os) (started : os.Started) (H : Type) (enc : TypeId × Value → H) :
    ReturnsInHanded {} Try.checked os 10 .any (Rows.wordShiftsSpec.pre6 enc Try.prog Try.f10 Rows.wordShiftsRow.domain false) (Rows.wordShiftsSpec.post enc Try.prog Try.f10 false true false false) := by
  refine returnsInHanded_of_change (C := Try.checked) own started (by kernel_rfl) Try.func10
    (ChangeSpec.witness6 (enc := enc) (C := Try.checked) false ⟨#[], #[.int .u32 0, .int .i64 0], []⟩ 8 (by kernel_rfl) (by kernel_rfl) (by kernel_rfl) (by kernel_rfl)) ?_
  intro W base args ds gs before hval0 hW hcnd _
  have hval : ∀ (j : Nat) t v, Try.f10.params[j]? = some t → args[j]? = some v → Value.okWide Try.prog W .any base t v := hval0
  have hW' := hW
  obtain ⟨p, q, hA0, hV, rfl, hfz, hnd⟩ := hW
  have hA : DataW.TrodAll enc Try.prog W 0 (fun _ => true) true Try.f10.params.toList args.toList ds p := hA0
  rw [Try.params10] at hA hval
  obtain ⟨v0, vs0, d0, ds0, p0, q0, hargs, rfl, rfl, h0, r0⟩ := trodAll_cons hA
  obtain ⟨v1, vs1, d1, ds1, p1, q1, rfl, rfl, rfl, h1, r1⟩ := trodAll_cons r0
  obtain ⟨rfl, rfl, rfl⟩ := trodAll_nil r1
  obtain rfl : args = #[v0, v1] := by cases args; simp_all
  obtain ⟨rfl, rfl⟩ := trodVars_none hV
  obtain ⟨a0, rfl, rfl, rfl, w0⟩ := open_int Try.underlying22 (hval 0 22 v0 rfl rfl) h0
  obtain ⟨a1, rfl, rfl, rfl, w1⟩ := open_int Try.underlying3 (hval 1 3 v1 rfl rfl) h1
  clear hA0 hval0
  simp only [List.append_nil] at hW'
  refine (walk a0 a1 w0 w1 W).mono fun e W' ⟨he, hg⟩ => ?_
  subst he
  exact ⟨_, rfl, post_of_same (pa := []) (pv := []) hW' (fun _ _ _ => (trodAll_cons_mk (shut_bool Try.underlying4 _) trodAll_mk0)) (fun sp _ => (trodAll_cons_mk (shut_int Try.underlying22 w0) (trodAll_cons_mk (shut_int Try.underlying3 w1) trodAll_mk0))) (fun _ _ => rfl) rfl
    (hg.frame _) hg.2.1 (ok_one (by kernel_rfl) rfl (okWide_bool_mk Try.underlying4 _))⟩

theorem over : Rows.wordShiftsRow.holds Try.pinned (OpenSpec.ofChange Rows.wordShiftsSpec) :=
  OpenClaim.holds_of_wide 10 Try.f10 rfl rfl rfl rfl rfl rfl rfl ⟨rfl, rfl, rfl, rfl, rfl⟩ rfl rfl rfl rfl rfl (by kernel_rfl) Try.func10 (by kernel_rfl)
    (of_decide_eq_true (by kernel_rfl)) (by unfold Func.isWrapper; first | (rw [if_pos (by decide +kernel)]; kernel_rfl) | (rw [if_neg (by decide +kernel)]; exact ⟨rfl, rfl⟩))
    (fun os started H enc _ => lifted os started H enc)

/-- ████ THE STATEMENT ████ -/
theorem proved : Rows.WordShiftsSaid :=
  over
end Go.Proofs.Ytdnddgfnpefklaa.wordShifts
