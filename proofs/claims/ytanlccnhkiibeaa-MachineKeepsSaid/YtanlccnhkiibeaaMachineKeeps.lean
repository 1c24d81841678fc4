/-
  For every word and every place the law MachineKeeps returns true: what is stored is what is loaded.
  Conditions: none beyond those of the given statement.
-/
import Derived.Test.YtanlccnhkiibeaaRows
import Derived.Test.YtanlccnhkiibeaaMachX
import Derived.Test.YtanlccnhkiibeaaMachO
import Derived.Laws.StructEq
import Derived.BigGuardPart
import Derived.Deep.DeepCutAuto
import Derived.WalkKit
import Derived.ProofKit
import Derived.OpenShut
namespace Go.Proofs.Ytanlccnhkiibeaa.machineKeeps
open Go.ChangeShapes Go.WideShapes Go.ChangeAt Go.RowKit
set_option linter.unusedVariables false
set_option linter.unusedSimpArgs false

theorem own : ownKnob Try.prog.godebug = none := by kernel_rfl
open MM MC MB MP MQ MK MR MX
def kcells (off : Int) : Array Value := #[.int .i64 18, .int .i64 17, .int .i64 0, .int .i64 0, .int .i64 2, .int .i64 42, .int .i64 0, .int .i64 0, .int .i64 0, .int .i64 0, .int .i64 31, .int .i64 0, .int .i64 2, .int .i64 10, .int .i64 off, .int .i64 29, .int .i64 5, .int .i64 2, .int .i64 0, .int .i64 off, .int .i64 28, .int .i64 6, .int .i64 2, .int .i64 0, .int .i64 off, .int .i64 27, .int .i64 7, .int .i64 2, .int .i64 0, .int .i64 off, .int .i64 55, .int .i64 1, .int .i64 10, .int .i64 0, .int .i64 0, .int .i64 44, .int .i64 0, .int .i64 2, .int .i64 1, .int .i64 off, .int .i64 43, .int .i64 2, .int .i64 2, .int .i64 0, .int .i64 off, .int .i64 30, .int .i64 0, .int .i64 2, .int .i64 6, .int .i64 (off + 1), .int .i64 28, .int .i64 8, .int .i64 2, .int .i64 0, .int .i64 (off + 1)]
theorem is_keep (w : World) (off : Int) : Is (w.alloc (.cells (kcells off) 54)) (.slice (some ⟨w.heap.size, 0, none⟩) 11 11) (keepL off) := by
  have hg := heap_alloc_new w (.cells (kcells off) 54)
  refine ⟨w.heap.size, 11, rfl, by simp, fun k a b c d e hk => ?_⟩
  have c := fun j => cell_of_row _ w.heap.size j _ _ _ hg
  match k, hk with
  | 0, hk => cases hk; exact ⟨c 0, c 1, c 2, c 3, c 4⟩
  | 1, hk => cases hk; exact ⟨c 5, c 6, c 7, c 8, c 9⟩
  | 2, hk => cases hk; exact ⟨c 10, c 11, c 12, c 13, c 14⟩
  | 3, hk => cases hk; exact ⟨c 15, c 16, c 17, c 18, c 19⟩
  | 4, hk => cases hk; exact ⟨c 20, c 21, c 22, c 23, c 24⟩
  | 5, hk => cases hk; exact ⟨c 25, c 26, c 27, c 28, c 29⟩
  | 6, hk => cases hk; exact ⟨c 30, c 31, c 32, c 33, c 34⟩
  | 7, hk => cases hk; exact ⟨c 35, c 36, c 37, c 38, c 39⟩
  | 8, hk => cases hk; exact ⟨c 40, c 41, c 42, c 43, c 44⟩
  | 9, hk => cases hk; exact ⟨c 45, c 46, c 47, c 48, c 49⟩
  | 10, hk => cases hk; exact ⟨c 50, c 51, c 52, c 53, c 54⟩
  | (k + 11), hk => simp [keepL] at hk
theorem run_at {w w1 w2 w3 w4 : World} {o : Obj} {b bm : Nat} {x off : Int} {T : Rn} (hx : 0 ≤ x ∧ x ≤ 4294967295) (H0 : Below w.heap.size w w1) (H1 : Below (w1.alloc o).heap.size (w1.alloc o) w2) (H2 : Below w2.heap.size w2 w3) (H3 : Below w3.heap.size w3 w4) (hb : w3.heap.size ≤ b) (hbm : w3.heap.size ≤ bm)
    (A : At w4 b bm 304 (MW.loaded (fb ((keepL off).map wordOf)) 44 (MW.up 44) 304 0)) (hT : MM.run 304 11 (MW.loaded (fb ((keepL off).map wordOf)) 44 (MW.up 44) 304 0) [x] = T) (hn : T.n = 11) :
    Below w.heap.size w w4 ∧ Calls Try.prog 10 #[.pointer (some ⟨b, 0, none⟩), .slice (some ⟨w4.heap.size, 0, none⟩) 1 1, .int .i64 11] (w4.alloc (.cells #[.int .u32 x] 32)) (MV.RunPost b bm 304 (w4.alloc (.cells #[.int .u32 x] 32)) T) := by
  have s0 := H0.size
  have s1 := H1.size
  simp only [World.size_alloc] at s1
  have s2 := H2.size
  have s3 := H3.size
  have hbl : Below w.heap.size w w4 := ((H0.alloc s0 _).trans (H1.mono (by simp only [World.size_alloc]; omega))).trans ((H2.mono (by omega)).trans (H3.mono (by omega)))
  have l1 := lt_of_get A.head
  have l2 := lt_of_get A.mem
  have hg := heap_alloc_new w4 (.cells #[.int .u32 x] 32)
  have I : MD.Inp (w4.alloc (.cells #[.int .u32 x] 32)) (w4.alloc (.cells #[.int .u32 x] 32)).heap.size b bm (.slice (some ⟨w4.heap.size, 0, none⟩) 1 1) [x] := by
    refine ⟨.inr ⟨w4.heap.size, 0, 1, rfl, Nat.le_refl 1, by unfold maxLen; omega, by simp, by omega, by omega, fun j y hj => ?_⟩⟩
    match j, hj with
    | 0, hj => cases hj; exact cell_of_row _ w4.heap.size 0 _ _ _ hg
    | j + 1, hj => simp at hj
  have AA := A.kept (w' := w4.alloc (.cells #[.int .u32 x] 32)) (Below.heap_alloc _ _ _ l1) (Below.heap_alloc _ _ _ l2)
  have hF := fine_loaded (fb_bd ((keepL off).map wordOf)) 44 304 (MW.up 44) 0 (by decide) (by omega) (by omega)
  refine ⟨hbl, ?_⟩
  exact MV.run_ AA I hF (fun y hy => by rw [List.mem_singleton.1 hy]; exact hx) (by omega) 11 (by omega) T hT (by omega)
/-- what the machine is asked, in a world with one block more -/
theorem asks {w : World} {b bm N : Nat} {s : St} {x5 x6 x7 x8 : Int} (A : At w b bm N s) (h5 : s.x 5 = x5) (h6 : s.x 6 = x6) (h7 : s.x 7 = x7) (h8 : s.x 8 = x8) (hf : s.f 2 = s.f 1) :
    (∀ o, Calls Try.prog 13 #[.pointer (some ⟨b, 0, none⟩), .int .i64 5] (w.alloc o) fun e w' => e = .returned (.int .u32 x5) ∧ w.alloc o = w') ∧
    (∀ o, Calls Try.prog 13 #[.pointer (some ⟨b, 0, none⟩), .int .i64 6] (w.alloc o) fun e w' => e = .returned (.int .u32 x6) ∧ w.alloc o = w') ∧
    (∀ o, Calls Try.prog 13 #[.pointer (some ⟨b, 0, none⟩), .int .i64 7] (w.alloc o) fun e w' => e = .returned (.int .u32 x7) ∧ w.alloc o = w') ∧
    (∀ o, Calls Try.prog 13 #[.pointer (some ⟨b, 0, none⟩), .int .i64 8] (w.alloc o) fun e w' => e = .returned (.int .u32 x8) ∧ w.alloc o = w') ∧
    (∀ o, Calls Try.prog 21 #[.pointer (some ⟨b, 0, none⟩), .int .i64 2] (w.alloc o) fun e w' => e = .returned (.int .u64 (s.f 1 : Nat)) ∧ w.alloc o = w') ∧
    (∀ o, Calls Try.prog 21 #[.pointer (some ⟨b, 0, none⟩), .int .i64 1] (w.alloc o) fun e w' => e = .returned (.int .u64 (s.f 1 : Nat)) ∧ w.alloc o = w') := by
  subst h5 h6 h7 h8
  have l1 := lt_of_get A.head
  have l2 := lt_of_get A.mem
  have AA := fun o => A.kept (w' := w.alloc o) (Below.heap_alloc _ _ _ l1) (Below.heap_alloc _ _ _ l2)
  refine ⟨fun o => word_ (AA o) 5 (by omega), fun o => word_ (AA o) 6 (by omega), fun o => word_ (AA o) 7 (by omega), fun o => word_ (AA o) 8 (by omega), fun o => ?_, fun o => real_ (AA o) 1 (by omega)⟩
  have h := real_ (AA o) 2 (by omega)
  rw [hf] at h
  exact h
theorem low8 (x : Int) (h : 0 ≤ x ∧ x ≤ 4294967295) : bits .and .u32 x 255 = x % 256 := CX.and_mask x 8 ⟨h.1, by omega⟩ (by omega)
theorem ext8 (x : Int) (h : 0 ≤ x ∧ x ≤ 4294967295) : WM.ext (x % 256) 8 = wrap32 (IntKind.i8.wrap x) % 4294967296 := by
  have e : IntKind.i8.wrap x = (x + 128) % 256 - 128 := by simp [IntKind.wrap, IntKind.bits, IntKind.signed]; split <;> omega
  rw [e]
  unfold WM.ext wrap32
  simp only [show (8 : Int).toNat = 8 from rfl, show (8 : Nat) - 1 = 7 from rfl, show (2 : Int) ^ 7 = 128 from rfl, show (2 : Int) ^ 8 = 256 from rfl]
  split <;> omega

set_option maxRecDepth 100000 in
set_option maxHeartbeats 8000000 in
theorem walk (a0 : Int) (wa0 : (Lit.int .u32 a0).wf = true) (a1 : Int) (wa1 : (Lit.int .u8 a1).wf = true) (w : World) :
    Calls Try.prog 6 #[.int .u32 a0, .int .u8 a1] w fun e w' => e = .returned (.bool true) ∧ Below w.heap.size w w' := by
  have hx := bounds_u32 wa0
  have hy := bounds_u8 wa1
  have hw8 := low8 a0 hx
  have he8 := ext8 a0 hx
  go_enter Try.func6, Try.ntmps6
  go_upto_region 3 with (go_at_call 8; refine (awake_ _).mono ?_; rintro e w1 ⟨rfl, hb0⟩)
  go_cut [5] from 12 (fun s5 wx => wx = w1 ∧ ∃ k : Nat, k < 30 ∧ s5 = .int .i64 (-8 * ((k : Int) + 1)))
  case first =>
    go_wp2
    go_meet
    exact ⟨rfl, (a1 % 30).toNat, by omega, by rw [show (((a1 % 30).toNat : Nat) : Int) = a1 % 30 by omega]⟩
  case rest =>
    obtain ⟨rfl, k, hk, rfl⟩ := hcut
    obtain ⟨off, hoff⟩ : ∃ off : Int, off = -8 * ((k : Int) + 1) := ⟨_, rfl⟩
    have hob : -240 ≤ off ∧ off ≤ -8 := by omega
    obtain ⟨T, hT, t1, t2, t3, t4, t5, t6⟩ := keep_run k hk a0 hx (MW.loaded (fb ((keepL (-8 * ((k : Int) + 1))).map wordOf)) 44 (MW.up 44) 304 0) ⟨code_loaded (keepL _) _ _ _, rfl, rfl, rfl⟩ rfl
    have hG := keep_good k hk
    rw [← hoff] at hT hG ⊢
    have cI := fun w => is_keep w off
    have cw := fun w => words_ _ _ (keepL off) (by show 11 ≤ 100000; omega) (cI w) hG
    have HT := Lib.hid hT
    have HT1 := Lib.hid t1
    have HT2 := Lib.hid t2
    have HT3 := Lib.hid t3
    have HT4 := Lib.hid t4
    have HT5 := Lib.hid t5
    have HT6 := Lib.hid t6
    have H0 := Lib.hid hb0
    clear hT t1 t2 t3 t4 t5 t6 cI hG hoff hb0
    have hl1 : ((keepL off).map wordOf).length ≤ 100000 := by show 11 ≤ 100000; omega
    have hl2 : (keepL off).map wordOf ≠ [] := by simp [keepL]
    have hl3 : 4 * ((keepL off).map wordOf).length = 44 := rfl
    unfold kcells at cw
    go_wp2_with (first
      | (go_at_call 20; (with_reducible refine (cw _).mono ?_); rintro e w2 ⟨v1, rfl, ho1, hb1⟩; have HWS := Lib.hid (ws_of ho1); have H1 := Lib.hid hb1; clear ho1 hb1)
      | (go_at_call 18; (with_reducible refine (bytes_ _ v1 _ hl1 HWS.out).mono ?_); rintro e w3 ⟨v2, rfl, ho2, hb2⟩; obtain ⟨g, cap, rfl, hg, hcell⟩ := image_of ho2 hl2 44 hl3; have HC := Lib.hid hcell; have H2 := Lib.hid hb2; clear ho2 hb2 hcell)
      | (go_at_call 9; (with_reducible refine (MW.load_ok 0 (by omega) g 0 44 cap 256 (by omega) (by omega) (by decide) 304 (by decide) _ _ hg HC.out).mono ?_); rintro e w4 ⟨b, bm, rfl, A, hb, hbm, hb3⟩; obtain ⟨hbl, cg⟩ := run_at hx H0.out H1.out H2.out hb3 hb hbm A HT.out HT1.out; have hs4 := hbl.size; have H3 := Lib.hid hbl; clear A hb3 hbl)
      | (go_at_call 10; (with_reducible refine cg.mono ?_); rintro e w5 ⟨p5, l5, c5, he, R⟩; rw [HT1.out] at he; subst he; obtain ⟨c5, c6, c7, c8, c2, c1⟩ := asks R.at_ HT2.out HT3.out HT4.out HT5.out HT6.out; have HR := Lib.hid R; clear R cg)
      | (go_at_call 13; (with_reducible refine (c5 _).mono ?_); rintro e w' ⟨rfl, rfl⟩)
      | (go_at_call 13; (with_reducible refine (c6 _).mono ?_); rintro e w' ⟨rfl, rfl⟩)
      | (go_at_call 13; (with_reducible refine (c7 _).mono ?_); rintro e w' ⟨rfl, rfl⟩)
      | (go_at_call 13; (with_reducible refine (c8 _).mono ?_); rintro e w' ⟨rfl, rfl⟩)
      | (go_at_call 21; (with_reducible refine (c2 _).mono ?_); rintro e w' ⟨rfl, rfl⟩)
      | (go_at_call 21; (with_reducible refine (c1 _).mono ?_); rintro e w' ⟨rfl, rfl⟩))
    go_ret
    refine ⟨rfl, ?_⟩
    have hs5 := HR.out.own.size
    simp only [World.size_alloc] at hs5
    have l1 := H3.out.size
    have hbx : w.heap.size ≤ b ∧ w.heap.size ≤ bm := by
      have s0 := H0.out.size
      have s1 := H1.out.size
      simp only [World.size_alloc] at s1
      have s2 := H2.out.size
      omega
    exact (((H3.out.alloc l1 _).trans (HR.out.own.below (by simp only [World.size_alloc]; omega) hbx.1 hbx.2)).alloc (by omega) _)

set_option maxRecDepth 100000 in
theorem lifted (os : Os) (started : os.Started) (H : Type) (enc : TypeId × Value → H) :
    ReturnsInHanded {} Try.checked os 6 .any (Rows.machineKeepsSpec.pre6 enc Try.prog Try.f6 Rows.machineKeepsRow.domain false) (Rows.machineKeepsSpec.post enc Try.prog Try.f6 false true false false) := by
  refine returnsInHanded_of_change (C := Try.checked) own started (by kernel_rfl) Try.func6
    (ChangeSpec.witness6 (enc := enc) (C := Try.checked) false ⟨#[], #[.int .u32 0, .int .u8 0], []⟩ 8 (by kernel_rfl) (by kernel_rfl) (by kernel_rfl) (by kernel_rfl)) ?_
  intro W base args ds gs before hval0 hW hcnd _
  have hval : ∀ (j : Nat) t v, Try.f6.params[j]? = some t → args[j]? = some v → Value.okWide Try.prog W .any base t v := hval0
  have hW' := hW
  obtain ⟨p, q, hA0, hV, rfl, hfz, hnd⟩ := hW
  have hA : DataW.TrodAll enc Try.prog W 0 (fun _ => true) true Try.f6.params.toList args.toList ds p := hA0
  rw [Try.params6] at hA hval
  obtain ⟨v0, vs0, d0, ds0, p0, q0, hargs, rfl, rfl, h0, r0⟩ := trodAll_cons hA
  obtain ⟨v1, vs1, d1, ds1, p1, q1, rfl, rfl, rfl, h1, r1⟩ := trodAll_cons r0
  obtain ⟨rfl, rfl, rfl⟩ := trodAll_nil r1
  obtain rfl : args = #[v0, v1] := by cases args; simp_all
  obtain ⟨rfl, rfl⟩ := trodVars_none hV
  obtain ⟨a0, rfl, rfl, rfl, wa0⟩ := open_int Try.underlying32 (hval 0 32 v0 rfl rfl) h0
  obtain ⟨a1, rfl, rfl, rfl, wa1⟩ := open_int Try.underlying5 (hval 1 5 v1 rfl rfl) h1
  clear hA0 hval0
  simp only [List.append_nil] at hW'
  refine (walk a0 wa0 a1 wa1 W ).mono fun e W' ⟨he, hg⟩ => ?_
  subst he
  exact ⟨_, rfl, _, _, _, [], [], [], hW', (trodAll_cons_mk (shut_bool Try.underlying4 _) trodAll_mk0), (trodAll_cons_mk (shut_int Try.underlying32 wa0) (trodAll_cons_mk (shut_int Try.underlying5 wa1) trodAll_mk0)), rfl, hg.frame _, fun h => by cases h⟩

theorem over : Rows.machineKeepsRow.holds Try.pinned (OpenSpec.ofChange Rows.machineKeepsSpec) :=
  OpenClaim.holds_of_wide 6 Try.f6 rfl rfl rfl rfl rfl rfl rfl ⟨rfl, rfl, rfl, rfl, rfl⟩ rfl rfl rfl rfl rfl (by kernel_rfl) Try.func6 (by kernel_rfl)
    (of_decide_eq_true (by kernel_rfl)) (by unfold Func.isWrapper; first | (rw [if_pos (by decide +kernel)]; kernel_rfl) | (rw [if_neg (by decide +kernel)]; exact ⟨rfl, rfl⟩))
    (fun os started H enc _ => lifted os started H enc)

/-- The statement. -/
theorem proved : Rows.MachineKeepsSaid :=
  over
end Go.Proofs.Ytanlccnhkiibeaa.machineKeeps
