/-
  Of any real's bits and any word the law RealTurns returns true: the canonical bits, the other sign, the word, the digits, and the real of a word are the document's.
  Conditions: none beyond those of the given statement (the row lists Go's own variables as their text lays them).
-/
import Derived.Test.YtcchmnilcmnajaaGreatDoorRows
import Derived.Test.YtcchmnilcmnajaaGreatDoorCards
import Derived.Test.YtcchmnilcmnajaaGreatDoorTie
import Derived.Test.YtcchmnilcmnajaaGreatDoorRealL
import Derived.Test.YtcchmnilcmnajaaGreatDoorRealH
import Derived.Test.YtcchmnilcmnajaaGreatDoorRealE
import Derived.Test.YtcchmnilcmnajaaGreatDoorRealF
import Derived.BigGuardPart
import Derived.WalkKit
import Derived.ProofKit
import Derived.OpenShut
import Derived.LaidMore
import Derived.Lay
import Derived.SevenTiedAt
import Derived.Stop.Joined
namespace Go.Proofs.YtcchmnilcmnajaaGreatDoor.realTurns
open Go.ChangeShapes Go.WideShapes Go.ChangeAt Go.RowKit
set_option linter.unusedVariables false

theorem own : ownKnob Tryz.prog.godebug = none := by kernel_rfl
open RM RC RL RH
theorem bdN {w : World} {W : World} (h : Below w.heap.size w W) (k : Nat) : Below w.heap.size w (W.drewN k) := ⟨h.os, h.tape, h.output, h.size, h.block⟩
theorem left {F : FuncId} {args : Array Value} {w : World} {v : Value} (h : Calls Tryz.prog F args w fun e w' => e = .returned v ∧ w' = w) : Calls Tryz.prog F args w fun e w' => e = .returned v ∧ w = w' :=
  h.mono fun _ _ ⟨h1, h2⟩ => ⟨h1, h2.symm⟩
set_option maxRecDepth 100000 in
set_option maxHeartbeats 4000000 in
theorem way (a : Nat) (ha : W a) (v : Int) (hv : 0 ≤ v ∧ v ≤ 4294967295) (w : World) (hl : Laid3 w) :
    Calls Tryz.prog 4 #[.int .u64 (a : Int), .int .u32 v] w fun e w' => e = .returned (.bool true) ∧ Below w.heap.size w w' := by
  have hz := cell_in hl.2
  have c0 := RA.awake w hl.1.1 hl.1.2
  have c1 := fun w => left (canon_ a w)
  have c2 := fun w => RB.canon_ a ha w
  have c3 := fun w => left (neg_ a ha w)
  have c4 := fun w => RB.neg_ a ha w
  have c5 := fun w => left (toWord_ a w)
  have c6 := fun w => RF.toInt_ a ha w
  have c7 : ∀ k, Calls Tryz.prog 17 #[.int .u64 (a : Int)] (w.drewN k) fun e w' => e = .returned (.string ⟨(RX.hexL 16 (canon a)).toArray⟩) ∧ Below (w.drewN k).heap.size (w.drewN k) w' := fun k => hex a ha (w.drewN k) ⟨hz, hl.2⟩
  have c8 := fun w => RE.hex a ha w
  have c9 := fun w => left (ofInt_ v w)
  have c10 := fun w => RF.ofInt_ v hv.1 (by omega) w
  have hS : (⟨(RX.hexL 16 (canon a)).toArray⟩ : ByteArray).size = 16 := by
    show (RX.hexL 16 (canon a)).toArray.size = 16
    rw [List.size_toArray, RX.hexL_length]
  have HS := Lib.hid hS
  clear hS
  generalize (⟨(RX.hexL 16 (canon a)).toArray⟩ : ByteArray) = S at *
  generalize (canon a : Nat) = x1 at *
  generalize (fneg a : Nat) = x2 at *
  generalize toWord a = x3 at *
  generalize ofInt (wrap32 v) = x4 at *
  clear hl hz ha
  go_enter Tryz.func4, Tryz.ntmps4
  go_wp2_with (first
    | (go_at_call 6; refine c0.mono ?_; rintro e w' ⟨rfl, k0, rfl⟩)
    | ((with_reducible refine (c1 _).mono ?_); rintro e w' ⟨rfl, rfl⟩)
    | ((with_reducible refine (c2 _).mono ?_); rintro e w' ⟨rfl, rfl⟩)
    | ((with_reducible refine (c3 _).mono ?_); rintro e w' ⟨rfl, rfl⟩)
    | ((with_reducible refine (c4 _).mono ?_); rintro e w' ⟨rfl, rfl⟩)
    | ((with_reducible refine (c5 _).mono ?_); rintro e w' ⟨rfl, rfl⟩)
    | ((with_reducible refine (c6 _).mono ?_); rintro e w' ⟨rfl, rfl⟩)
    | ((with_reducible refine (c7 _).mono ?_); rintro e w2 ⟨rfl, hb2⟩)
    | ((with_reducible refine (c8 _).mono ?_); rintro e w' ⟨rfl, rfl⟩)
    | ((with_reducible refine (c9 _).mono ?_); rintro e w' ⟨rfl, rfl⟩)
    | ((with_reducible refine (c10 _).mono ?_); rintro e w3 ⟨rfl, hb3⟩))
  go_ret
  have B0 := bdN (Below.refl w.heap.size w) k0
  have B2 := B0.trans (hb2.mono B0.size)
  exact ⟨rfl, B2.trans (hb3.mono B2.size)⟩

theorem walk (a0 : Int) (w0 : (Lit.int .u64 a0).wf = true) (a1 : Int) (w1 : (Lit.int .u32 a1).wf = true) (w : World) (hl : RL.Laid3 w) :
    Calls Tryz.prog 4 #[.int .u64 a0, .int .u32 a1] w fun e w' => e = .returned (.bool true) ∧ Below w.heap.size w w' := by
  have b := bounds_u64 w0
  obtain ⟨a, rfl⟩ : ∃ a : Nat, a0 = a := ⟨a0.toNat, by omega⟩
  exact way a (by unfold W; omega) a1 (bounds_u32 w1) w hl

set_option maxRecDepth 100000 in
theorem lifted (os : Os) (started : os.Started) (H : Type) (enc : TypeId × Value → H) :
    ReturnsInHanded {} Tryz.checked os 4 .any (fun w args => (Rows.realTurnsSpec.pre enc Tryz.prog Tryz.f4 Rows.realTurnsRow.domain false w args ∧ laidMetH Tryz.prog Rows.realTurnsRow.laid w) ∧ sizedMet enc Tryz.prog Tryz.f4 (OpenSpec.ofChange Rows.realTurnsSpec) false w args)
      (Rows.realTurnsSpec.post enc Tryz.prog Tryz.f4 false true false false) := by
  refine returnsInHanded_of_change_and (C := Tryz.checked) (X := fun w _ => laidMetH Tryz.prog Rows.realTurnsRow.laid w) (fun _ _ _ hh h => h.of_heap hh) own started (by kernel_rfl) Tryz.func4
    (ChangeSpec.witness_shaped (enc := enc) (C := Tryz.checked) (os := os) (X := fun w _ => laidMetH Tryz.prog Rows.realTurnsRow.laid w) false (World.laidAll Tryz.prog os Rows.realTurnsRow.laid) #[.int .u64 0, .int .u32 0] 8 (World.laidAll_os _ _ _)
      (World.shaped_of_ZipB (by kernel_rfl) (by kernel_rfl)) (by kernel_rfl) (by kernel_rfl) (by kernel_rfl)
      (by rw [MakeChecks.laidMetH_plain _ _ _ (by kernel_rfl)]; exact laidMet_laidAll _ (by kernel_rfl) (by kernel_rfl))) ?_
  intro W base args ds gs before hval0 hW hcnd hroom hL _
  have hval : ∀ (j : Nat) t v, Tryz.f4.params[j]? = some t → args[j]? = some v → Value.okWide Tryz.prog W .any base t v := hval0
  have hW' := hW
  obtain ⟨p, q, hA0, hV, rfl, hfz, hnd⟩ := hW
  have hA : DataW.TrodAll enc Tryz.prog W 0 (fun _ => true) true Tryz.f4.params.toList args.toList ds p := hA0
  rw [Tryz.params4] at hA hval
  obtain ⟨v0, vs0, d0, ds0, p0, q0, hargs, rfl, rfl, h0, r0⟩ := trodAll_cons hA
  obtain ⟨v1, vs1, d1, ds1, p1, q1, rfl, rfl, rfl, h1, r1⟩ := trodAll_cons r0
  obtain ⟨rfl, rfl, rfl⟩ := trodAll_nil r1
  obtain rfl : args = #[v0, v1] := by cases args; simp_all
  obtain ⟨rfl, rfl⟩ := trodVars_none hV
  obtain ⟨a0, rfl, rfl, rfl, w0⟩ := open_int Tryz.underlying22 (hval 0 22 v0 rfl rfl) h0
  obtain ⟨a1, rfl, rfl, rfl, w1⟩ := open_int Tryz.underlying29 (hval 1 29 v1 rfl rfl) h1
  clear hA0 hval0
  rw [MakeChecks.laidMetH_plain _ _ _ (by kernel_rfl)] at hL
  have hl : RL.Laid3 W := ⟨⟨RL.info_cell (Lib.laidMet.reads hL (.tail _ (.tail _ (.tail _ (.head _))))), RL.optimize_cell (Lib.laidMet.reads hL (.tail _ (.tail _ (.tail _ (.tail _ (.head _))))))⟩, RL.bits_cell (Lib.laidMet.reads hL (.tail _ (.head _)))⟩
  simp only [List.append_nil] at hW'
  refine (walk a0 w0 a1 w1 W hl).mono fun e W' ⟨he, hg⟩ => ?_
  subst he
  exact ⟨_, rfl, _, _, _, [], [], [], hW', (trodAll_cons_mk (shut_bool Tryz.underlying4 _) trodAll_mk0), (trodAll_cons_mk (shut_int Tryz.underlying22 w0) (trodAll_cons_mk (shut_int Tryz.underlying29 w1) trodAll_mk0)), rfl, hg.frame _, fun h => by cases h⟩

theorem over : Rows.realTurnsRow.holds Tryz.pinned (OpenSpec.ofChange Rows.realTurnsSpec) :=
  OpenClaim.holds_of_wide 4 Tryz.f4 rfl rfl rfl rfl rfl rfl rfl ⟨rfl, rfl, rfl, rfl, rfl⟩ rfl rfl rfl rfl rfl (by kernel_rfl) Tryz.func4 (by kernel_rfl)
    (of_decide_eq_true (by kernel_rfl)) (by unfold Func.isWrapper; first | (rw [if_pos (by decide +kernel)]; kernel_rfl) | (rw [if_neg (by decide +kernel)]; exact ⟨rfl, rfl⟩))
    (fun os started H enc _ => lifted os started H enc)

/-- The card. -/
theorem proved : Rows.RealTurnsCardSaid :=
  Claim7.holds_tied_plain_at .later [] [.data, .data, .widerDeep, .widerDeep, .data, .data, .data, .data, .data, .sentinel, .sentinel, .pinned, .pinned] true (true, "01abfeb0e52faa038933b8f31f3e1164ba7de8296b81a0b834ef216a41847b10") true over (fun _ h => by cases h) (by kernel_rfl) (fun _ h => by cases h) realTurns_row_tie rfl ⟨rfl, rfl⟩ (by kernel_rfl) rfl
    (fun f fn hf hfn => by
      obtain rfl : f = 4 := Option.some.inj ((show Tryz.prog.funcNamed "solder/solderlaw02.RealTurns" = some 4 by kernel_rfl).symm.trans hf) |>.symm
      obtain rfl : fn = Tryz.f4 := (Option.some.inj (Tryz.func4.symm.trans hfn)).symm
      exact ⟨by kernel_rfl, fun j t ht => by
        rw [Tryz.params4] at ht
        have hm : t ∈ [22, 29] := by simpa using Array.mem_of_getElem? ht
        have hall : ([22, 29].all fun u => !Tryz.prog.wantsStandIn u) = true := by kernel_rfl
        exact (show Tryz.prog.wantsStandIn t = false by simpa using List.all_eq_true.1 hall t hm)⟩)
    (by kernel_rfl)
end Go.Proofs.YtcchmnilcmnajaaGreatDoor.realTurns
