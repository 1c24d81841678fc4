/-
  Of every image and every number of bytes of stack the law MachineLoads returns true: an image is loaded as the document says, or refused as it says.
  Conditions: none beyond those of the given statement.
-/
import Derived.Test.YtanlccnhkiibeaaRows
import Derived.Test.YtanlccnhkiibeaaMachL
import Derived.Test.YtanlccnhkiibeaaMachK
import Derived.Deep.DeepCutAuto
import Derived.WalkKit
import Derived.ProofKit
import Derived.OpenShut
namespace Go.Proofs.Ytanlccnhkiibeaa.machineLoads
open Go.ChangeShapes Go.WideShapes Go.ChangeAt Go.RowKit
set_option linter.unusedVariables false
set_option linter.unusedSimpArgs false

theorem own : ownKnob Try.prog.godebug = none := by kernel_rfl
open MM MC MB MP MK MR MW ML MLb MLd
theorem beg_bd {xs : List Int} (h : ∀ x ∈ xs, (Lit.int .u8 x).wf = true) : ∀ k, 0 ≤ xs.getD k 0 ∧ xs.getD k 0 ≤ 255 := getD_bd (fun x hx => bounds_u8 (h x hx))
theorem room (n : Nat) (s : Int) (h : n ≤ 3000) (h0 : 0 ≤ s) (h1 : s + up n ≤ 2097152) : ∃ N : Nat, up (up n + s) = (N : Int) ∧ N ≤ 2097152 ∧ 0 ≤ up n ∧ up n ≤ 4294967295 := by
  refine ⟨(up (up n + s)).toNat, ?_⟩
  unfold up at *
  omega
theorem too_much (n : Nat) (s : Int) (h0 : 0 ≤ s) (h1 : 2097152 < s + up n) : 2097152 < up (up n + s) := by
  unfold up at *
  omega
theorem up_bd (n : Nat) : (n : Int) ≤ up n := by
  unfold up
  omega
theorem put_row {w : World} {B g n cap : Nat} {ys : List Int} (h : w.ownsRow B 5 1 (.slice (some ⟨g, 0, none⟩) n cap) n (u8s ys)) (k : Nat) (z : Int) : (w.setCell ⟨g, k, none⟩ (.int .u8 z)).ownsRow B 5 1 (.slice (some ⟨g, 0, none⟩) n cap) n (u8s (ys.set k z)) := by
  have e : u8s (ys.set k z) = (u8s ys).set k (.int .u8 z) := by simp [u8s, List.map_set]
  rw [e]
  exact (h.stored k (.int .u8 z)).1
theorem grown_put {w w' : World} {g n cap : Nat} (h : w.grownBy w' (Value.slice (some ⟨g, 0, none⟩) n cap).ownBlock) (k : Nat) (z : Value) : w.grownBy (w'.setCell ⟨g, k, none⟩ z) (Value.slice (some ⟨g, 0, none⟩) n cap).ownBlock :=
  ⟨h.os, h.tape, h.output, by simp only [World.size_setCell]; exact h.size, fun j hj hne => (heap_setCell_other w' ⟨g, k, none⟩ j z (fun e => hne (by rw [e]; rfl))).trans (h.block j hj hne)⟩
theorem boxed_lt {w w' : World} {o : Obj} (h : Below (w.alloc o).heap.size (w.alloc o) w') : w.heap.size < w'.heap.size := by
  have := h.size
  simp only [World.size_alloc] at this
  omega
theorem boxed_at {w w' : World} {o : Obj} (h : Below (w.alloc o).heap.size (w.alloc o) w') : w'.heap[w.heap.size]? = some o := (h.block w.heap.size (by simp)).trans (heap_alloc_new w o)
theorem boxed_below {w w' : World} {o : Obj} (h : Below (w.alloc o).heap.size (w.alloc o) w') : Below w.heap.size w w' := ((Below.refl _ _).alloc (Nat.le_refl _) _).trans (h.mono (by simp))

set_option maxRecDepth 100000 in
set_option maxHeartbeats 8000000 in
theorem walk (e0 : Int) (we0 : (Lit.int .i64 e0).wf = true) (v0 : Value) (xs0 : List Int) (a1 : Int) (wa1 : (Lit.int .i64 a1).wf = true) (w : World) (ha0 : MO.Arg .u8 w v0 xs0) (hx0 : ∀ x ∈ xs0, (Lit.int .u8 x).wf = true) :
    Calls Try.prog 4 #[.agg #[.int .i64 e0, v0], .int .i64 a1] w fun e w' => e = .returned (.bool true) ∧ Below w.heap.size w w' := by
  have hst := bounds_i64 wa1
  have hen := bounds_i64 we0
  have hB := beg_bd hx0
  obtain ⟨p0, c0, rfl, -⟩ := id ha0
  have HA := Lib.hid ha0
  clear ha0 hx0
  by_cases hl : xs0.length ≤ 3000
  case neg =>
    clear hB
    go_enter Try.func4, Try.ntmps4
    go_wp2_with (first
      | (go_at_call 8; (with_reducible refine (awake_ w1).mono ?_); rintro e w2 ⟨rfl, hb1⟩; have H2 := Lib.hid hb1; clear hb1)
      | (go_at_call 8; go_loud ((with_reducible refine (awake_ _).mono ?_); rintro e w1 ⟨rfl, hb0⟩; have lt1 := boxed_lt hb0; have hbx := boxed_at hb0; have k0 := cell_of_row _ w.heap.size 0 _ _ _ hbx; have k1 := cell_of_row _ w.heap.size 1 _ _ _ hbx; have H1 := Lib.hid (boxed_below hb0); have HBX := Lib.hid hbx; clear hb0 hbx)))
    go_ret
    exact ⟨rfl, H1.out.trans (H2.out.mono H1.out.size)⟩
  case pos =>
    by_cases hok : (0 ≤ a1 ∧ a1 + up xs0.length ≤ 2097152) ∧ (0 ≤ e0 ∧ e0 ≤ 4294967295)
    case pos =>
      obtain ⟨N, hN, hN1, hN2, hN3⟩ := room xs0.length a1 hl hok.1.1 hok.1.2
      obtain ⟨s0, hs0'⟩ : ∃ s0, s0 = loaded (fun k => xs0.getD k 0) xs0.length (up xs0.length) N e0 := ⟨_, rfl⟩
      have hF : Fine s0 := by rw [hs0']; exact fine_loaded hB _ _ _ _ ⟨hN2, hN3⟩ hN1 hok.2
      have HX := Lib.hid hF.x
      have cr : ∀ wx, At8 wx p0 xs0.length (fun k => xs0.getD k 0) → Calls Try.prog 15 #[.agg #[.int .i64 e0, .slice p0 xs0.length c0], .int .i64 a1] wx fun e1 w' => ∃ bm, e1 = .returned (.tuple #[.agg (rcells bm N s0 0), .bool true]) ∧ Mem w' bm N s0 ∧ wx.heap.size ≤ bm ∧ Below wx.heap.size wx w' := fun wx h => by
        rw [hs0']
        exact rload_ok e0 hok.2 p0 xs0.length c0 a1 (by omega) hok.1.1 hok.1.2 N hN _ wx h
      have cl : ∀ wx v, MO.Arg .u8 wx v xs0 → Calls Try.prog 9 #[.agg #[.int .i64 e0, v], .int .i64 a1] wx fun e1 w' => ∃ b bm, e1 = .returned (.tuple #[.pointer (some ⟨b, 0, none⟩), .int .i64 0]) ∧ At w' b bm N s0 ∧ wx.heap.size ≤ b ∧ wx.heap.size ≤ bm ∧ Below wx.heap.size wx w' := fun wx v h => by
        rw [hs0']
        exact MCn.load_arg h (Below.refl _ _) (by omega) e0 hok.2 a1 hok.1.1 hok.1.2 N hN
      have hat : At8 w p0 xs0.length (fun k => xs0.getD k 0) := by
        obtain ⟨p, c, hv, h⟩ := at8_of_arg HA.out
        cases hv
        exact h
      have HAT := Lib.hid hat
      have HCR := Lib.hid cr
      have HCL := Lib.hid cl
      clear hs0' hF hB hat cr cl hN hN2 hN3 hok
      go_enter Try.func4, Try.ntmps4
      go_upto_region 3 with (go_at_call 8; go_loud ((with_reducible refine (awake_ _).mono ?_); rintro e w1 ⟨rfl, hb0⟩; have lt1 := boxed_lt hb0; have hbx := boxed_at hb0; have k0 := cell_of_row _ w.heap.size 0 _ _ _ hbx; have k1 := cell_of_row _ w.heap.size 1 _ _ _ hbx; have H1 := Lib.hid (boxed_below hb0); have HBX := Lib.hid hbx; clear hb0 hbx))
      go_upto_region 4 with (at_builtin; refine wpList_append_arg8 _ rfl _ _ rfl w1.heap.size (.slice (some ⟨w1.heap.size, 0, none⟩) 0 0) 0 [] rfl (World.ownsRow_lit (base := w1.heap.size) (e := 5) (size := 1) w1 #[] 0 (Nat.le_refl _) (Nat.zero_le _) rfl) _ xs0 rfl (arg_below HA.out (H1.out.alloc H1.out.size _)) (by omega) (by simp) ?_; intro p5 l5 c5 w2 ho2 hg2 hat2; have HO2' := Lib.hid ho2; have HG2 := Lib.hid hg2; clear ho2 hg2 hat2)
      have ho2' : w2.ownsRow w1.heap.size 5 1 (.slice p5 l5 c5) xs0.length (u8s xs0) := by simpa only [Nat.zero_add, List.nil_append] using HO2'.out
      have hb2 : Below w1.heap.size w1 w2 := ((Below.refl _ _).alloc (Nat.le_refl _) _).grown HG2.out (by simp) (fun g hg => by cases hg; exact Nat.le_refl _)
      have hs2 := hb2.size
      have lt2 : w.heap.size < w2.heap.size := by omega
      have m0 := (hb2.cell (p := ⟨w.heap.size, 0, none⟩) (by show w.heap.size < _; omega)).trans k0
      have m1 := (hb2.cell (p := ⟨w.heap.size, 1, none⟩) (by show w.heap.size < _; omega)).trans k1
      obtain rfl : l5 = xs0.length := by
        obtain ⟨p, c, hv, -⟩ := arg_of_row ho2'
        cases hv
        rfl
      have HO2 := Lib.hid ho2'
      have HB2 := Lib.hid hb2
      clear ho2' hb2 HO2' HG2
      have cl2 := HCL.out _ _ (arg_of_row HO2.out)
      go_upto_region 5 with (go_at_call 9; (with_reducible refine cl2.mono ?_); rintro e w3 ⟨b, bm, rfl, A, q1, q2, hb3⟩; have HA3 := Lib.hid A; have H3 := Lib.hid hb3; clear A hb3 cl2)
      have hs3 := H3.out.size
      have lt3 : w.heap.size < w3.heap.size := by omega
      have m0' := (H3.out.cell (p := ⟨w.heap.size, 0, none⟩) (by show w.heap.size < _; omega)).trans m0
      have m1' := (H3.out.cell (p := ⟨w.heap.size, 1, none⟩) (by show w.heap.size < _; omega)).trans m1
      have hb3 := (H1.out.trans (HB2.out.mono (by omega))).trans (H3.out.mono (by omega))
      have cr3 := HCR.out w3 (HAT.out.below hb3)
      have HB3 := Lib.hid hb3
      clear hb3 m0 m1 k0 k1
      go_wp2_with (first
        | (go_at_call 15; (with_reducible refine cr3.mono ?_); rintro e w4 ⟨bm2, rfl, hm4, q4, hb4⟩; have HM4 := Lib.hid hm4; have HB4 := Lib.hid hb4; have HZ := Lib.hid (heap_alloc_new w4 (.cells Try.zeroCells47 47)); clear hm4 hb4)
        | ((with_reducible refine store_m rfl (.tmp 8) (.tmp 37) rfl w4.heap.size ?xb bm2 N s0 0 ?xc _ HZ.out rzero_size ?_); (case xb => simp [go_sem]); (case xc => simp [go_sem])))
      have hs4 := HB4.out.size
      have h3b := lt_of_get HA3.out.head
      have h3m := lt_of_get HA3.out.mem
      have h4m := lt_of_get HM4.out
      have hb5 : Below w4.heap.size w4 ((w4.alloc (.cells Try.zeroCells47 47)).setRow w4.heap.size (rcells bm2 N s0 0)) := below_setRow ((Below.refl _ _).alloc (Nat.le_refl _) _) (Nat.le_refl _) _
      have hbx5 := setRow_heap _ w4.heap.size _ (rcells bm2 N s0 0) _ _ HZ.out
      have HW5 := Lib.hid (MCr.row_kept (w' := (w4.alloc (.cells Try.zeroCells47 47)).setRow w4.heap.size (rcells bm2 N s0 0)) HO2.out (fun k _ hk => (hb5.block k (by omega)).trans ((HB4.out.block k (by omega)).trans (H3.out.block k hk))))
      have HA5 := Lib.hid (HA3.out.kept (w' := (w4.alloc (.cells Try.zeroCells47 47)).setRow w4.heap.size (rcells bm2 N s0 0)) ((hb5.block b (by omega)).trans (HB4.out.block b h3b)) ((hb5.block bm (by omega)).trans (HB4.out.block bm h3m)))
      have HM5 := Lib.hid ((hb5.block bm2 h4m).trans HM4.out)
      have HB5 := Lib.hid ((HB3.out.trans (HB4.out.mono (by omega))).trans (hb5.mono (by omega)))
      have HBX5 := Lib.hid hbx5
      have hs5 := hb5.size
      have hl54 := lt_of_get hbx5
      clear hb5 hbx5 HZ
      generalize (w4.alloc (.cells Try.zeroCells47 47)).setRow w4.heap.size (rcells bm2 N s0 0) = w5 at *
      have hl5 : b < w5.heap.size := by omega
      have hl5m : bm < w5.heap.size := by omega
      have hl52 : bm2 < w5.heap.size := by omega
      go_loopw [60] (fun s60 wr => ∃ (k : Nat) (ys : List Int), k ≤ xs0.length ∧ s60 = .int .i64 k ∧ ys.length = xs0.length ∧ wr.ownsRow w1.heap.size 5 1 (.slice p5 xs0.length c5) xs0.length (u8s ys) ∧ w5.grownBy wr (Value.slice p5 xs0.length c5).ownBlock) (fun i _ => xs0.length - (intOf i).toNat)
      case atStart => exact ⟨0, xs0, Nat.zero_le _, rfl, rfl, HW5.out, rfl, rfl, rfl, Nat.le_refl _, fun _ _ _ => rfl⟩
      case round =>
        obtain ⟨k, ys, hk, rfl, hyl, hrow, hgr⟩ := hrel
        have HR := Lib.hid hrow
        have HG := Lib.hid hgr
        have HY := Lib.hid hyl
        clear hrow hgr hyl
        by_cases hlt : k < xs0.length
        · obtain ⟨g, cap, hv, hb, hg⟩ := HR.out.form (by omega)
          cases hv
          obtain ⟨y, hy⟩ : ∃ y, ys[k]? = some y := ⟨ys[k]'(by rw [HY.out]; exact hlt), List.getElem?_eq_getElem _⟩
          have n1 : wr.cell? ⟨g, k, none⟩ = some (.int .u8 y) := by
            rw [HR.out.cellAt k (by omega)]
            simp [u8s, hy]
          have n2 := HR.out.frozenAt k
          have n3 : (0 : Int) ≤ (k : Int) := by omega
          have n4 : (k : Int) < (xs0.length : Int) := by omega
          clear hy
          go_wp2
          exact ⟨⟨k + 1, ys.set k _, by omega, by go_num, by rw [List.length_set]; exact HY.out, put_row HR.out k _, grown_put HG.out k _⟩, by simp [intOf]; omega⟩
        · have hkn : k = xs0.length := by omega
          subst hkn
          have hne : ∀ j, w2.heap.size ≤ j → some j ≠ (Value.slice p5 xs0.length c5).ownBlock := fun j hj e => by
            have := (HO2.out.lt j e.symm).2
            omega
          have A6 := HA5.out.kept (w' := wr) (HG.out.block b hl5 (hne b q1)) (HG.out.block bm hl5m (hne bm q2))
          have M6 : Mem wr bm2 N s0 := (HG.out.block bm2 hl52 (hne bm2 (by omega))).trans HM5.out
          have HBX6 := Lib.hid ((HG.out.block w4.heap.size hl54 (hne _ (by omega))).trans HBX5.out)
          have ct := tells_ A6 bm2 0 M6 hN1 HX.out
          have HF := Lib.hid ((HB5.out.grown HG.out (by omega) (fun g hg => by have := (HO2.out.lt g hg).1; omega)) : Below w.heap.size w wr)
          clear A6 M6
          go_wp2_with (first
            | (go_at_call 16; (with_reducible refine ct.mono ?_); rintro e w7 ⟨rfl, hb7⟩; have HB7 := Lib.hid hb7; clear hb7)
            | ((with_reducible refine load_mg ?yw (.tmp 8) rfl w4.heap.size ?ya bm2 N s0 0 HBX6.out ?_); (case yw => first | rfl | simp [Region.wanted, yielded]); (case ya => simp [go_sem])))
          go_ret
          exact ⟨rfl, HF.out.trans (HB7.out.mono HF.out.size)⟩
    case neg =>
      have hu := up_bd xs0.length
      have cl : ∀ wx p c, Calls Try.prog 9 #[.agg #[.int .i64 e0, .slice p xs0.length c], .int .i64 a1] wx (MZ.Refused wx) := fun wx p c => by
        by_cases h1 : a1 < 0 ∨ 2097152 - up xs0.length < a1
        · exact MZ.load_stack e0 p xs0.length c a1 (by omega) h1 wa1 wx
        · exact MZ.load_entry e0 p xs0.length c a1 (by omega) (by omega) (by omega) (by omega) wx
      have cr : ∀ wx, Calls Try.prog 15 #[.agg #[.int .i64 e0, .slice p0 xs0.length c0], .int .i64 a1] wx (Refuses wx) := fun wx => by
        refine rload_no e0 p0 xs0.length c0 a1 (by omega) ?_ wx
        by_cases h1 : a1 < 0
        · exact .inl h1
        · by_cases h2 : 2097152 < a1 + up xs0.length
          · exact .inr (.inr (.inr (.inr (too_much _ _ (by omega) h2))))
          · omega
      have HCR := Lib.hid cr
      have HCL := Lib.hid cl
      clear hB hok cr cl hu
      go_enter Try.func4, Try.ntmps4
      go_upto_region 3 with (go_at_call 8; go_loud ((with_reducible refine (awake_ _).mono ?_); rintro e w1 ⟨rfl, hb0⟩; have lt1 := boxed_lt hb0; have hbx := boxed_at hb0; have k0 := cell_of_row _ w.heap.size 0 _ _ _ hbx; have k1 := cell_of_row _ w.heap.size 1 _ _ _ hbx; have H1 := Lib.hid (boxed_below hb0); have HBX := Lib.hid hbx; clear hb0 hbx))
      go_upto_region 4 with (at_builtin; refine wpList_append_arg8 _ rfl _ _ rfl w1.heap.size (.slice (some ⟨w1.heap.size, 0, none⟩) 0 0) 0 [] rfl (World.ownsRow_lit (base := w1.heap.size) (e := 5) (size := 1) w1 #[] 0 (Nat.le_refl _) (Nat.zero_le _) rfl) _ xs0 rfl (arg_below HA.out (H1.out.alloc H1.out.size _)) (by omega) (by simp) ?_; intro p5 l5 c5 w2 ho2 hg2 hat2; have HO2' := Lib.hid ho2; have HG2 := Lib.hid hg2; clear ho2 hg2 hat2)
      have ho2' : w2.ownsRow w1.heap.size 5 1 (.slice p5 l5 c5) xs0.length (u8s xs0) := by simpa only [Nat.zero_add, List.nil_append] using HO2'.out
      have hb2 : Below w1.heap.size w1 w2 := ((Below.refl _ _).alloc (Nat.le_refl _) _).grown HG2.out (by simp) (fun g hg => by cases hg; exact Nat.le_refl _)
      have hs2 := hb2.size
      have lt2 : w.heap.size < w2.heap.size := by omega
      have m0 := (hb2.cell (p := ⟨w.heap.size, 0, none⟩) (by show w.heap.size < _; omega)).trans k0
      have m1 := (hb2.cell (p := ⟨w.heap.size, 1, none⟩) (by show w.heap.size < _; omega)).trans k1
      obtain rfl : l5 = xs0.length := by
        obtain ⟨p, c, hv, -⟩ := arg_of_row ho2'
        cases hv
        rfl
      have HO2 := Lib.hid ho2'
      have HB2 := Lib.hid hb2
      clear ho2' hb2 HO2' HG2
      have cl2 := HCL.out w2 p5 c5
      go_upto_region 5 with (go_at_call 9; (with_reducible refine cl2.mono ?_); rintro e w3 ⟨rfl, hb3⟩; have H3 := Lib.hid hb3; clear hb3 cl2)
      have hs3 := H3.out.size
      have lt3 : w.heap.size < w3.heap.size := by omega
      have m0' := (H3.out.cell (p := ⟨w.heap.size, 0, none⟩) (by show w.heap.size < _; omega)).trans m0
      have m1' := (H3.out.cell (p := ⟨w.heap.size, 1, none⟩) (by show w.heap.size < _; omega)).trans m1
      have hb3 := (H1.out.trans (HB2.out.mono (by omega))).trans (H3.out.mono (by omega))
      have cr3 := HCR.out w3
      have HB3 := Lib.hid hb3
      clear hb3 m0 m1 k0 k1
      go_wp2_with (first
        | (go_at_call 15; (with_reducible refine cr3.mono ?_); rintro e w4 ⟨rfl, hb4⟩; have HB4 := Lib.hid hb4; have HZ := Lib.hid (heap_alloc_new w4 (.cells Try.zeroCells47 47)); clear hb4)
        | ((with_reducible refine store_z rfl (.tmp 8) (.tmp 37) rfl w4.heap.size ?xb ?xc _ HZ.out rzero_size ?_); (case xb => simp [go_sem]); (case xc => simp [go_sem])))
      have hs4 := HB4.out.size
      have hb5 : Below w4.heap.size w4 ((w4.alloc (.cells Try.zeroCells47 47)).setRow w4.heap.size Try.zeroCells47) := below_setRow ((Below.refl _ _).alloc (Nat.le_refl _) _) (Nat.le_refl _) _
      have HW5 := Lib.hid (MCr.row_kept (w' := (w4.alloc (.cells Try.zeroCells47 47)).setRow w4.heap.size Try.zeroCells47) HO2.out (fun k _ hk => (hb5.block k (by omega)).trans ((HB4.out.block k (by omega)).trans (H3.out.block k hk))))
      have HB5 := Lib.hid ((HB3.out.trans (HB4.out.mono (by omega))).trans (hb5.mono (by omega)))
      have hs5 := hb5.size
      clear hb5 HZ
      generalize (w4.alloc (.cells Try.zeroCells47 47)).setRow w4.heap.size Try.zeroCells47 = w5 at *
      go_loopw [60] (fun s60 wr => ∃ (k : Nat) (ys : List Int), k ≤ xs0.length ∧ s60 = .int .i64 k ∧ ys.length = xs0.length ∧ wr.ownsRow w1.heap.size 5 1 (.slice p5 xs0.length c5) xs0.length (u8s ys) ∧ w5.grownBy wr (Value.slice p5 xs0.length c5).ownBlock) (fun i _ => xs0.length - (intOf i).toNat)
      case atStart => exact ⟨0, xs0, Nat.zero_le _, rfl, rfl, HW5.out, rfl, rfl, rfl, Nat.le_refl _, fun _ _ _ => rfl⟩
      case round =>
        obtain ⟨k, ys, hk, rfl, hyl, hrow, hgr⟩ := hrel
        have HR := Lib.hid hrow
        have HG := Lib.hid hgr
        have HY := Lib.hid hyl
        clear hrow hgr hyl
        by_cases hlt : k < xs0.length
        · obtain ⟨g, cap, hv, hb, hg⟩ := HR.out.form (by omega)
          cases hv
          obtain ⟨y, hy⟩ : ∃ y, ys[k]? = some y := ⟨ys[k]'(by rw [HY.out]; exact hlt), List.getElem?_eq_getElem _⟩
          have n1 : wr.cell? ⟨g, k, none⟩ = some (.int .u8 y) := by
            rw [HR.out.cellAt k (by omega)]
            simp [u8s, hy]
          have n2 := HR.out.frozenAt k
          have n3 : (0 : Int) ≤ (k : Int) := by omega
          have n4 : (k : Int) < (xs0.length : Int) := by omega
          clear hy
          go_wp2
          exact ⟨⟨k + 1, ys.set k _, by omega, by go_num, by rw [List.length_set]; exact HY.out, put_row HR.out k _, grown_put HG.out k _⟩, by simp [intOf]; omega⟩
        · have hkn : k = xs0.length := by omega
          subst hkn
          have HF := Lib.hid ((HB5.out.grown HG.out (by omega) (fun g hg => by have := (HO2.out.lt g hg).1; omega)) : Below w.heap.size w wr)
          go_wp2
          go_ret
          exact ⟨rfl, HF.out⟩

set_option maxRecDepth 100000 in
theorem lifted (os : Os) (started : os.Started) (H : Type) (enc : TypeId × Value → H) :
    ReturnsInHanded {} Try.checked os 4 .any (Rows.machineLoadsSpec.pre6 enc Try.prog Try.f4 Rows.machineLoadsRow.domain false) (Rows.machineLoadsSpec.post enc Try.prog Try.f4 false true false false) := by
  refine returnsInHanded_of_change (C := Try.checked) own started (by kernel_rfl) Try.func4
    (ChangeSpec.witness6 (enc := enc) (C := Try.checked) false ⟨#[], #[.agg #[.int .i64 0, .slice none 0 0], .int .i64 0], []⟩ 8 (by kernel_rfl) (by kernel_rfl) (by kernel_rfl) (by kernel_rfl)) ?_
  intro W base args ds gs before hval0 hW hcnd _
  have hval : ∀ (j : Nat) t v, Try.f4.params[j]? = some t → args[j]? = some v → Value.okWide Try.prog W .any base t v := hval0
  have hW' := hW
  obtain ⟨p, q, hA0, hV, rfl, hfz, hnd⟩ := hW
  have hA : DataW.TrodAll enc Try.prog W 0 (fun _ => true) true Try.f4.params.toList args.toList ds p := hA0
  rw [Try.params4] at hA hval
  obtain ⟨v0, vs0, d0, ds0, p0, q0, hargs, rfl, rfl, h0, r0⟩ := trodAll_cons hA
  obtain ⟨v1, vs1, d1, ds1, p1, q1, rfl, rfl, rfl, h1, r1⟩ := trodAll_cons r0
  obtain ⟨rfl, rfl, rfl⟩ := trodAll_nil r1
  obtain rfl : args = #[v0, v1] := by cases args; simp_all
  obtain ⟨rfl, rfl⟩ := trodVars_none hV
  obtain ⟨e0, b0, xs0, rfl, we0, ha0, hx0, sh0⟩ := MLc.open_image (hval 0 31 v0 rfl rfl) h0
  obtain ⟨a1, rfl, rfl, rfl, wa1⟩ := open_int Try.underlying3 (hval 1 3 v1 rfl rfl) h1
  clear hA0 hval0
  simp only [List.append_nil] at hW'
  refine (walk e0 we0 b0 xs0 a1 wa1 W ha0 hx0).mono fun e W' ⟨he, hg⟩ => ?_
  subst he
  exact ⟨_, rfl, _, _, _, [], _, _, hW', (trodAll_cons_mk (shut_bool Try.underlying4 _) trodAll_mk0), (trodAll_cons_mk (sh0 _ _ (fun b hb => decide_eq_true hb) hg) (trodAll_cons_mk (shut_int Try.underlying3 wa1) trodAll_mk0)), rfl, hg.frame _, fun h => by cases h⟩

theorem over : Rows.machineLoadsRow.holds Try.pinned (OpenSpec.ofChange Rows.machineLoadsSpec) :=
  OpenClaim.holds_of_wide 4 Try.f4 rfl rfl rfl rfl rfl rfl rfl ⟨rfl, rfl, rfl, rfl, rfl⟩ rfl rfl rfl rfl rfl (by kernel_rfl) Try.func4 (by kernel_rfl)
    (of_decide_eq_true (by kernel_rfl)) (by unfold Func.isWrapper; first | (rw [if_pos (by decide +kernel)]; kernel_rfl) | (rw [if_neg (by decide +kernel)]; exact ⟨rfl, rfl⟩))
    (fun os started H enc _ => lifted os started H enc)

/-- The statement. -/
theorem proved : Rows.MachineLoadsSaid :=
  over
end Go.Proofs.Ytanlccnhkiibeaa.machineLoads
