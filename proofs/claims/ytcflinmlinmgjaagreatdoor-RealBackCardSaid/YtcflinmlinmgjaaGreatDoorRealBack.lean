/-
  Of any real's bits and any word the law RealBack returns true: each word is its real's word, the digits of any bits are read back, the other sign's other sign is the one.
  Conditions: none beyond those of the given statement (the row lists Go's own variables as their text lays them).
-/
import Derived.Test.YtcflinmlinmgjaaGreatDoorRows
import Derived.Test.YtcflinmlinmgjaaGreatDoorCards
import Derived.Test.YtcflinmlinmgjaaGreatDoorTie
import Derived.Test.YtcflinmlinmgjaaGreatDoorRealL
import Derived.Test.YtcflinmlinmgjaaGreatDoorRealU
import Derived.WalkKit
import Derived.ProofKit
import Derived.OpenShut
import Derived.LaidMore
import Derived.Lay
import Derived.SevenTiedAt
import Derived.Stop.Joined
namespace Go.Proofs.YtcflinmlinmgjaaGreatDoor.realBack
open Go.ChangeShapes Go.WideShapes Go.ChangeAt Go.RowKit
set_option linter.unusedVariables false

theorem own : ownKnob Tryz.prog.godebug = none := by kernel_rfl
open RM RC RL RH
set_option maxRecDepth 100000 in
set_option maxHeartbeats 4000000 in
theorem way (a : Nat) (ha : W a) (v : Int) (hv : 0 ≤ v ∧ v ≤ 4294967295) (w : World) (hl : Laid3 w) :
    Calls Tryz.prog 6 #[.int .u64 (a : Int), .int .u32 v] w fun e w' => e = .returned (.bool true) ∧ Below w.heap.size w w' := by
  have hz := cell_in hl.2
  have c1 : Calls Tryz.prog 18 #[.int .u64 (a : Int)] w fun e w' => e = .returned (.string ⟨(RX.hexL 16 (canon a)).toArray⟩) ∧ Below w.heap.size w w' := hex a ha w ⟨hz, hl.2⟩
  have c2 : ∀ w1, Below w.heap.size w w1 → Calls Tryz.prog 24 #[.string ⟨(RX.hexL 16 (canon a)).toArray⟩] w1 fun e w' => e = .returned (.tuple #[.int .u64 (canon a : Nat), .int .i64 0]) ∧ Below w1.heap.size w1 w' := fun w1 hb =>
    RU.unhex (canon a) (W_canon ha) (canon_canon a) w1 ⟨Nat.lt_of_lt_of_le hz hb.size, (hl.below hb (Nat.le_refl _)).2⟩
  have e1 : toWord (ofInt (wrap32 v)) = v := by
    rw [toWord_ofInt (by simp only [wrap32]; omega) (by simp only [wrap32]; omega)]
    simp only [wrap32]; omega
  have c3 : ∀ w, Calls Tryz.prog 16 #[.int .u64 (ofInt (wrap32 v) : Nat)] w fun e w' => e = .returned (.int .u32 v) ∧ w' = w := fun w => by
    have h := toWord_ (ofInt (wrap32 v)) w
    rw [e1] at h
    exact h
  have c4 : ∀ w, Calls Tryz.prog 14 #[.int .u64 (fneg a : Nat)] w fun e w' => e = .returned (.int .u64 (canon a : Nat)) ∧ w' = w := fun w => by
    have h := neg_ (fneg a) (W_fneg a) w
    rw [fneg_fneg ha] at h
    exact h
  have c5 : ∀ w, Calls Tryz.prog 12 #[.int .u64 (canon a : Nat)] w fun e w' => e = .returned (.int .u64 (canon a : Nat)) ∧ w' = w := fun w => by
    have h := canon_ (canon a) w
    rw [canon_canon a] at h
    exact h
  clear e1
  generalize hS : (⟨(RX.hexL 16 (canon a)).toArray⟩ : ByteArray) = S at *
  generalize hx : (canon a : Nat) = x at *
  have c6 : ∀ w, Calls Tryz.prog 12 #[.int .u64 (a : Int)] w fun e w' => e = .returned (.int .u64 (x : Int)) ∧ w' = w := fun w => by
    rw [← hx]; exact canon_ a w
  have c7 := fun w => ofInt_ v w
  generalize ofInt (wrap32 v) = f at *
  have c8 := fun w => neg_ a ha w
  generalize fneg a = g at *
  clear hS hx
  go_enter Tryz.func6, Tryz.ntmps6
  go_wp2_with (first
    | (go_at_call 18; refine c1.mono ?_; rintro e w1 ⟨rfl, hb1⟩)
    | (go_at_call 24; refine (c2 _ hb1).mono ?_; rintro e w2 ⟨rfl, hb2⟩)
    | (go_at_call 7; refine (RA.awake _ ((hl.below hb1 (Nat.le_refl _)).below hb2 (Nat.le_refl _)).1.1 ((hl.below hb1 (Nat.le_refl _)).below hb2 (Nat.le_refl _)).1.2).mono ?_; rintro e w3 ⟨rfl, k0, rfl⟩)
    | (go_at_call 20; with_reducible refine (c7 _).mono ?_; rintro e w' ⟨rfl, rfl⟩)
    | (go_at_call 16; with_reducible refine (c3 _).mono ?_; rintro e w' ⟨rfl, rfl⟩)
    | (go_at_call 14; (first | with_reducible refine (c8 _).mono ?_ | with_reducible refine (c4 _).mono ?_); rintro e w' ⟨rfl, rfl⟩)
    | (go_at_call 12; (first | with_reducible refine (c6 _).mono ?_ | with_reducible refine (c5 _).mono ?_); rintro e w' ⟨rfl, rfl⟩))
  go_ret
  exact ⟨rfl, belowDraws (hb1.trans (hb2.mono hb1.size)) _⟩

theorem walk (a0 : Int) (w0 : (Lit.int .u64 a0).wf = true) (a1 : Int) (w1 : (Lit.int .u32 a1).wf = true) (w : World) (hl : RL.Laid3 w) :
    Calls Tryz.prog 6 #[.int .u64 a0, .int .u32 a1] w fun e w' => e = .returned (.bool true) ∧ Below w.heap.size w w' := by
  have b := bounds_u64 w0
  obtain ⟨a, rfl⟩ : ∃ a : Nat, a0 = a := ⟨a0.toNat, by omega⟩
  exact way a (by unfold W; omega) a1 (bounds_u32 w1) w hl

set_option maxRecDepth 100000 in
theorem lifted (os : Os) (started : os.Started) (H : Type) (enc : TypeId × Value → H) :
    ReturnsInHanded {} Tryz.checked os 6 .any (fun w args => (Rows.realBackSpec.pre enc Tryz.prog Tryz.f6 Rows.realBackRow.domain false w args ∧ laidMetH Tryz.prog Rows.realBackRow.laid w) ∧ sizedMet enc Tryz.prog Tryz.f6 (OpenSpec.ofChange Rows.realBackSpec) false w args)
      (Rows.realBackSpec.post enc Tryz.prog Tryz.f6 false true false false) := by
  refine returnsInHanded_of_change_and (C := Tryz.checked) (X := fun w _ => laidMetH Tryz.prog Rows.realBackRow.laid w) (fun _ _ _ hh h => h.of_heap hh) own started (by kernel_rfl) Tryz.func6
    (ChangeSpec.witness_shaped (enc := enc) (C := Tryz.checked) (os := os) (X := fun w _ => laidMetH Tryz.prog Rows.realBackRow.laid w) false (World.laidAll Tryz.prog os Rows.realBackRow.laid) #[.int .u64 0, .int .u32 0] 8 (World.laidAll_os _ _ _)
      (World.shaped_of_ZipB (by kernel_rfl) (by kernel_rfl)) (by kernel_rfl) (by kernel_rfl) (by kernel_rfl)
      (by rw [MakeChecks.laidMetH_plain _ _ _ (by kernel_rfl)]; exact laidMet_laidAll _ (by kernel_rfl) (by kernel_rfl))) ?_
  intro W base args ds gs before hval0 hW hcnd hroom hL _
  have hval : ∀ (j : Nat) t v, Tryz.f6.params[j]? = some t → args[j]? = some v → Value.okWide Tryz.prog W .any base t v := hval0
  have hW' := hW
  obtain ⟨p, q, hA0, hV, rfl, hfz, hnd⟩ := hW
  have hA : DataW.TrodAll enc Tryz.prog W 0 (fun _ => true) true Tryz.f6.params.toList args.toList ds p := hA0
  rw [Tryz.params6] at hA hval
  obtain ⟨v0, vs0, d0, ds0, p0, q0, hargs, rfl, rfl, h0, r0⟩ := trodAll_cons hA
  obtain ⟨v1, vs1, d1, ds1, p1, q1, rfl, rfl, rfl, h1, r1⟩ := trodAll_cons r0
  obtain ⟨rfl, rfl, rfl⟩ := trodAll_nil r1
  obtain rfl : args = #[v0, v1] := by cases args; simp_all
  obtain ⟨rfl, rfl⟩ := trodVars_none hV
  obtain ⟨a0, rfl, rfl, rfl, w0⟩ := open_int Tryz.underlying22 (hval 0 22 v0 rfl rfl) h0
  obtain ⟨a1, rfl, rfl, rfl, w1⟩ := open_int Tryz.underlying29 (hval 1 29 v1 rfl rfl) h1
  clear hA0 hval0
  rw [MakeChecks.laidMetH_plain _ _ _ (by kernel_rfl)] at hL
  have hl : RL.Laid3 W := ⟨⟨RL.info_cell (Lib.laidMet.reads hL (.tail _ (.tail _ (.tail _ (.head _))))), RL.optimize_cell (Lib.laidMet.reads hL (.tail _ (.tail _ (.tail _ (.tail _ (.head _))))))⟩, RL.bits_cell (Lib.laidMet.reads hL (.tail _ (.head _)))⟩
  simp only [List.append_nil] at hW'
  refine (walk a0 w0 a1 w1 W hl).mono fun e W' ⟨he, hg⟩ => ?_
  subst he
  exact ⟨_, rfl, _, _, _, [], [], [], hW', (trodAll_cons_mk (shut_bool Tryz.underlying4 _) trodAll_mk0), (trodAll_cons_mk (shut_int Tryz.underlying22 w0) (trodAll_cons_mk (shut_int Tryz.underlying29 w1) trodAll_mk0)), rfl, hg.frame _, fun h => by cases h⟩

theorem over : Rows.realBackRow.holds Tryz.pinned (OpenSpec.ofChange Rows.realBackSpec) :=
  OpenClaim.holds_of_wide 6 Tryz.f6 rfl rfl rfl rfl rfl rfl rfl ⟨rfl, rfl, rfl, rfl, rfl⟩ rfl rfl rfl rfl rfl (by kernel_rfl) Tryz.func6 (by kernel_rfl)
    (of_decide_eq_true (by kernel_rfl)) (by unfold Func.isWrapper; first | (rw [if_pos (by decide +kernel)]; kernel_rfl) | (rw [if_neg (by decide +kernel)]; exact ⟨rfl, rfl⟩))
    (fun os started H enc _ => lifted os started H enc)

/-- The card. -/
theorem proved : Rows.RealBackCardSaid :=
  Claim7.holds_tied_plain_at .later [] [.data, .data, .widerDeep, .widerDeep, .data, .data, .data, .data, .data, .sentinel, .sentinel, .pinned, .pinned] true (true, "20455c707bb1581de71c2053012b9cb0079a9c7b211c4d4b122532e36428cf3c") true over (fun _ h => by cases h) (by kernel_rfl) (fun _ h => by cases h) realBack_row_tie rfl ⟨rfl, rfl⟩ (by kernel_rfl) rfl
    (fun f fn hf hfn => by
      obtain rfl : f = 6 := Option.some.inj ((show Tryz.prog.funcNamed "solder/solderlaw02.RealBack" = some 6 by kernel_rfl).symm.trans hf) |>.symm
      obtain rfl : fn = Tryz.f6 := (Option.some.inj (Tryz.func6.symm.trans hfn)).symm
      exact ⟨by kernel_rfl, fun j t ht => by
        rw [Tryz.params6] at ht
        have hm : t ∈ [22, 29] := by simpa using Array.mem_of_getElem? ht
        have hall : ([22, 29].all fun u => !Tryz.prog.wantsStandIn u) = true := by kernel_rfl
        exact (show Tryz.prog.wantsStandIn t = false by simpa using List.all_eq_true.1 hall t hm)⟩)
    (by kernel_rfl)
end Go.Proofs.YtcflinmlinmgjaaGreatDoor.realBack
