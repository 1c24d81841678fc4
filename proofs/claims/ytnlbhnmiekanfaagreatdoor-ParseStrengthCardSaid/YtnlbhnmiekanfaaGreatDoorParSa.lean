/-
  The law ParseStrength, walked. Condition: Go's own variables lie.
-/
import Derived.Test.YtnlbhnmiekanfaaGreatDoorParSm
import Derived.Great.Walk
import Derived.Deep.CutRange
namespace Go.Proofs.YtnlbhnmiekanfaaGreatDoor
open Go.RowKit Go.Deep Go.Great
set_option linter.unusedVariables false
set_option linter.unusedSimpArgs false
namespace PaC
open Pa Lx
attribute [local go_sem] fld0 fld1 fld2
/-- the law's two tables, as cells -/
def rowS : Array Value := (sgL.map fun b => Value.string ⟨b.toArray⟩).toArray
def rowN : Array Value := (stL.map fun (n : Nat) => Value.int .i64 (n : Int)).toArray
def zS : Array Value := Array.replicate 18 (.string ⟨#[]⟩)
def zN : Array Value := Array.replicate 18 (.int .i64 0)
theorem wf_u8 {a : Int} (h : (Lit.int .u8 a).wf = true) : 0 ≤ a ∧ a ≤ 255 := by
  simp [Lit.wf] at h
  have h1 : IntKind.u8.min = 0 := rfl
  have h2 : IntKind.u8.max = 255 := rfl
  omega
def sPost (i j : Nat) (w : World) (e : Ending) (w' : World) : Prop := ∃ g o cc g2 o2 c2 g4 o4 c4 op nm o1 o3 nu bi ty pl n1 n2, e = .returned (.tuple #[.agg #[.slice (some ⟨g, o, none⟩) 1 cc], .int .i64 0, .int .i64 0]) ∧ Below w.heap.size w w' ∧
      (∀ W, Below w'.heap.size w' W → RdS g o g2 o2 c2 g4 o4 c4 op nm o1 o3 nu bi ty pl n1 n2 W) ∧ (stg i < stg j → op = sg i ∧ n1 = 1 ∧ o3 = sg j) ∧ (¬ stg i < stg j → op = sg j ∧ n2 = 3 ∧ o1 = sg i)
theorem cell_of_row {w : World} {b : Nat} {cs : Array Value} {t : TypeId} {fr : Nat × Nat} (h : w.heap[b]? = some (.cells cs t fr)) {i : Nat} : w.cell? ⟨b, i, none⟩ = cs[i]? := by
  unfold World.cell?
  rw [show w.heap[(⟨b, i, none⟩ : Addr).block]? = _ from h]
  rfl
theorem rowS_at (i : Nat) (h : i < 18) : rowS[i]? = some (.string ⟨(sg i).toArray⟩) := by
  unfold rowS sg
  rw [List.getElem?_toArray, List.getElem?_map, List.getD_eq_getElem?_getD, List.getElem?_eq_getElem (show i < sgL.length from h)]
  rfl
theorem rowN_at (i : Nat) (h : i < 18) : rowN[i]? = some (.int .i64 (stg i : Nat)) := by
  unfold rowN stg
  rw [List.getElem?_toArray, List.getElem?_map, List.getD_eq_getElem?_getD, List.getElem?_eq_getElem (show i < stL.length from h)]
  rfl
theorem text_eq (i j : Nat) : ((((⟨#[105, 110, 116, 32, 118, 61, 49]⟩ : ByteArray) ++ (⟨(sg i).toArray⟩ : ByteArray)) ++ (⟨#[50]⟩ : ByteArray)) ++ (⟨(sg j).toArray⟩ : ByteArray)) ++ (⟨#[51, 59]⟩ : ByteArray) = ⟨(sText i j).toArray⟩ := by
  apply ByteArray.ext
  unfold sText
  simp
theorem RdS.off {g o g2 o2 c2 g4 o4 c4 : Nat} {op nm o1 o3 : Bs} {nu bi ty pl n1 n2 : Int} {W W' : World} {B : Nat} {v : Value} {t : TypeId} {f : Nat × Nat} (h : RdS g o g2 o2 c2 g4 o4 c4 op nm o1 o3 nu bi ty pl n1 n2 W') (hB : W'.heap[B]? = some (.cells #[v] t f)) (hW : ∀ b, b ≠ B → W.heap[b]? = W'.heap[b]?) :
    RdS g o g2 o2 c2 g4 o4 c4 op nm o1 o3 nu bi ty pl n1 n2 W := by
  obtain ⟨h1, h2, h3, h4, h5, h6⟩ := h
  have no : ∀ (k : Nat) (u : Value), W'.cell? ⟨B, k + 1, none⟩ = some u → False := fun k u hk => by
    rw [cell_of_row hB] at hk; simp at hk
  have n1 : g ≠ B := fun e => by subst e; exact no (o + 5) _ h1
  have n2 : g2 ≠ B := fun e => by subst e; exact no o2 _ (h2 1 _ rfl)
  have n4 : g4 ≠ B := fun e => by subst e; exact no o4 _ h3
  exact ⟨cell_same (hW g n1) h1, fun j v hv => cell_same (hW g2 n2) (h2 j v hv), cell_same (hW g4 n4) h3, cell_same (hW g4 n4) h4, cell_same (hW g4 n4) h5, cell_same (hW g4 n4) h6⟩
/-- behind the call of Parse -/
def SMid (i j : Nat) (w3 : World) (B : Nat) (wx : World) : Prop := Below w3.heap.size w3 wx ∧ ∃ g o cc g2 o2 c2 g4 o4 c4 op nm o1 o3 nu bi ty pl n1 n2, wx.heap[B]? = some (.cells #[.slice (some ⟨g, o, none⟩) 1 cc] TMo (0, 0)) ∧
      (∀ W, Below wx.heap.size wx W → RdS g o g2 o2 c2 g4 o4 c4 op nm o1 o3 nu bi ty pl n1 n2 W) ∧ (stg i < stg j → op = sg i ∧ n1 = 1 ∧ o3 = sg j) ∧ (¬ stg i < stg j → op = sg j ∧ n2 = 3 ∧ o1 = sg i)
theorem mid_late {i j : Nat} {w3 w4 : World} {g o cc g2 o2 c2 g4 o4 c4 : Nat} {op nm o1 o3 : Bs} {nu bi ty pl n1 n2 : Int} (hb : Below w3.heap.size w3 w4) (hr : ∀ W, Below w4.heap.size w4 W → RdS g o g2 o2 c2 g4 o4 c4 op nm o1 o3 nu bi ty pl n1 n2 W)
    (hx : stg i < stg j → op = sg i ∧ n1 = 1 ∧ o3 = sg j) (hy : ¬ stg i < stg j → op = sg j ∧ n2 = 3 ∧ o1 = sg i) : SMid i j w3 w4.heap.size (w4.alloc (.cells #[.slice (some ⟨g, o, none⟩) 1 cc] TMo)) :=
  ⟨hb.alloc hb.size _, g, o, cc, g2, o2, c2, g4, o4, c4, op, nm, o1, o3, nu, bi, ty, pl, n1, n2, heap_alloc_new w4 _, fun W hW => hr W (((Below.refl _ _).alloc (Nat.le_refl _) _).trans (hW.mono (by simp))), hx, hy⟩
theorem mid_soon {i j : Nat} {w3 w4 : World} {B : Nat} {g o cc g2 o2 c2 g4 o4 c4 : Nat} {op nm o1 o3 : Bs} {nu bi ty pl n1 n2 : Int} (hb : Below w3.heap.size w3 w4) (hB : w3.heap.size ≤ B) (hBl : w4.heap[B]? = some (.cells #[.slice none 0 0] TMo (0, 0))) (hr : ∀ W, Below w4.heap.size w4 W → RdS g o g2 o2 c2 g4 o4 c4 op nm o1 o3 nu bi ty pl n1 n2 W)
    (hx : stg i < stg j → op = sg i ∧ n1 = 1 ∧ o3 = sg j) (hy : ¬ stg i < stg j → op = sg j ∧ n2 = 3 ∧ o1 = sg i) : SMid i j w3 B (w4.setCell ⟨B, 0, none⟩ (.slice (some ⟨g, o, none⟩) 1 cc)) := by
  have h1 := heap_setCell_same w4 B 0 _ _ (.slice (some ⟨g, o, none⟩) 1 cc) hBl
  refine ⟨hb.setCell (p := ⟨B, 0, none⟩) hB _, g, o, cc, g2, o2, c2, g4, o4, c4, op, nm, o1, o3, nu, bi, ty, pl, n1, n2, h1, fun W hW => ?_, hx, hy⟩
  have hlt : B < (w4.setCell ⟨B, 0, none⟩ (.slice (some ⟨g, o, none⟩) 1 cc)).heap.size := (Array.getElem?_eq_some_iff.1 h1).1
  have h2 := (hW.block B hlt).trans h1
  have h3 := setRow_heap W B _ #[.slice none 0 0] _ _ h2
  have hsz : (w4.setCell ⟨B, 0, none⟩ (.slice (some ⟨g, o, none⟩) 1 cc)).heap.size = w4.heap.size := by simp [World.setCell]
  refine (hr (W.setRow B #[.slice none 0 0]) ⟨hW.os, hW.tape, hW.output, by rw [setRow_size]; have := hW.size; omega, fun k hk => ?_⟩).off h3 fun b hb => (setRow_other W B b _ hb).symm
  by_cases e : k = B
  · subst e; rw [h3, hBl]
  · rw [setRow_other W B k _ e, hW.block k (by omega)]
    exact Below.heap_setCell _ _ _ _ e
theorem below_draws2 {B : Nat} {a w : World} (h : Below B a w) (n : Nat) : Below B a (w.drewN n) := ⟨h.os, h.tape, h.output, h.size, h.block⟩
theorem below_row {B g : Nat} {w0 w : World} (h : Below B w0 w) (hg : B ≤ g) (cs : Array Value) : Below B w0 (w.setRow g cs) :=
  ⟨h.os, h.tape, h.output, by rw [setRow_size]; exact h.size, fun k hk => (setRow_other _ _ _ _ (by omega)).trans (h.block k hk)⟩
set_option maxRecDepth 100000 in
set_option maxHeartbeats 8000000 in
theorem strength_ (a b : Int) (wa : (Lit.int .u8 a).wf = true) (wb : (Lit.int .u8 b).wf = true) (w : World) (hB : LxC.Base w.heap.size w) : Calls Tryz.prog 3 #[.int .u8 a, .int .u8 b] w fun e w' => e = .returned (.bool true) ∧ Below w.heap.size w w' := by
  have c1 := awake_ w hB
  have HB := Lib.hid hB
  clear hB
  go_enter Tryz.func3, Tryz.ntmps3
  go_upto_region 3 with (go_at_call 7; (with_reducible refine c1.mono ?_); rintro e w1 ⟨rfl, hb1⟩; have HB1 := Lib.hid hb1; clear hb1 c1)
  refine wp_region_lit ?_
  refine wpList_runTo rfl _ rfl (.agg rowS) w1 (by kernel_rfl) ?_
  refine wpList_allocTo rfl _ rfl (.pointer (some ⟨w1.heap.size, 0, none⟩)) (.cells zS 23) (by kernel_rfl) ?_
  refine wpList_store_row rfl 23 (.tmp 5) (.tmp 15) rfl w1.heap.size rowS (by rfl) (by rfl) 23 zS (heap_alloc_new w1 _) (by kernel_rfl) (by decide) (by kernel_rfl) ?_
  have s1 := setRow_heap (w1.alloc (.cells zS 23)) w1.heap.size zS rowS 23 (0, 0) (heap_alloc_new w1 _)
  have b1 : Below w1.heap.size w1 ((w1.alloc (.cells zS 23)).setRow w1.heap.size rowS) := below_row ((Below.refl _ _).alloc (Nat.le_refl _) _) (Nat.le_refl _) _
  have z1 : ((w1.alloc (.cells zS 23)).setRow w1.heap.size rowS).heap.size = w1.heap.size + 1 := by rw [setRow_size, World.size_alloc]
  generalize (w1.alloc (.cells zS 23)).setRow w1.heap.size rowS = w2 at *
  go_upto_region 4 with (fail)
  refine wp_region_lit ?_
  refine wpList_runTo rfl _ rfl (.agg rowN) w2 (by kernel_rfl) ?_
  refine wpList_allocTo rfl _ rfl (.pointer (some ⟨w2.heap.size, 0, none⟩)) (.cells zN 24) (by kernel_rfl) ?_
  refine wpList_store_row rfl 24 (.tmp 6) (.tmp 16) rfl w2.heap.size rowN (by rfl) (by rfl) 24 zN (heap_alloc_new w2 _) (by kernel_rfl) (by decide) (by kernel_rfl) ?_
  have s2 := setRow_heap (w2.alloc (.cells zN 24)) w2.heap.size zN rowN 24 (0, 0) (heap_alloc_new w2 _)
  have b2 : Below w2.heap.size w2 ((w2.alloc (.cells zN 24)).setRow w2.heap.size rowN) := below_row ((Below.refl _ _).alloc (Nat.le_refl _) _) (Nat.le_refl _) _
  generalize (w2.alloc (.cells zN 24)).setRow w2.heap.size rowN = w3 at *
  have b3 : Below w1.heap.size w1 w3 := b1.trans (b2.mono b1.size)
  have s3 := (b2.block w1.heap.size (by omega)).trans s1
  obtain ⟨T, hT⟩ : ∃ T, T = w1.heap.size := ⟨_, rfl⟩
  obtain ⟨U, hU⟩ : ∃ U, U = w2.heap.size := ⟨_, rfl⟩
  rw [← hT] at s3 ⊢
  rw [← hU] at s2 ⊢
  have HB3 := Lib.hid (HB1.out.trans (b3.mono HB1.out.size))
  clear s1 b1 z1 b2 b3 hT hU
  obtain ⟨i, hi, hia⟩ : ∃ i : Nat, i < 18 ∧ a.tmod 18 = (i : Int) := by
    have h := wf_u8 wa
    exact ⟨(a % 18).toNat, by omega, by rw [Int.tmod_eq_emod_of_nonneg h.1]; omega⟩
  obtain ⟨j, hj, hjb⟩ : ∃ j : Nat, j < 18 ∧ b.tmod 18 = (j : Int) := by
    have h := wf_u8 wb
    exact ⟨(b % 18).toNat, by omega, by rw [Int.tmod_eq_emod_of_nonneg h.1]; omega⟩
  go_upto_region 6 with (fail)
  have cp : ∀ W, Below w3.heap.size w3 W → Calls Tryz.prog 8 #[.string ⟨(sText i j).toArray⟩] W (sPost i j W) := fun W hW => sParse i j hi hj W (HB.out.later (HB3.out.trans (hW.mono HB3.out.size)) (Nat.le_trans HB3.out.size hW.size) (Nat.le_refl _))
  have hTl : T < w3.heap.size := (Array.getElem?_eq_some_iff.1 s3).1
  have hUl : U < w3.heap.size := (Array.getElem?_eq_some_iff.1 s2).1
  have KC := Lib.hid (fun (W' : World) (hb : Below w3.heap.size w3 W') => (⟨by rw [cell_of_row ((hb.block _ hTl).trans s3)]; exact rowS_at i hi, by rw [cell_of_row ((hb.block _ hTl).trans s3)]; exact rowS_at j hj⟩ : W'.cell? ⟨T, i, none⟩ = some (.string ⟨(sg i).toArray⟩) ∧ W'.cell? ⟨T, j, none⟩ = some (.string ⟨(sg j).toArray⟩)))
  rw [← text_eq] at cp
  obtain ⟨SI, hSI⟩ : ∃ SI : ByteArray, SI = ⟨(sg i).toArray⟩ := ⟨_, rfl⟩
  obtain ⟨SJ, hSJ⟩ : ∃ SJ : ByteArray, SJ = ⟨(sg j).toArray⟩ := ⟨_, rfl⟩
  rw [← hSI, ← hSJ] at cp KC
  have hzi : SI.size ≤ 2 := by rw [hSI]; exact sg_len _ (sg_mem i hi)
  have hzj : SJ.size ≤ 2 := by rw [hSJ]; exact sg_len _ (sg_mem j hj)
  have hz1 : ¬ (9223372036854775807 < 7 + SI.size) := by omega
  have hz2 : ¬ (9223372036854775807 < 7 + SI.size + 1) := by omega
  have hz3 : ¬ (9223372036854775807 < 7 + SI.size + 1 + SJ.size) := by omega
  have hz4 : ¬ (9223372036854775807 < 7 + SI.size + 1 + SJ.size + 2) := by omega
  have HCP := Lib.hid cp
  have HSI := Lib.hid hSI
  have HSJ := Lib.hid hSJ
  have hi0 : (0 : Int) ≤ (i : Int) := by omega
  have hi1 : (i : Int) < 18 := by omega
  have hj0 : (0 : Int) ≤ (j : Int) := by omega
  have hj1 : (j : Int) < 18 := by omega
  clear cp hSI hSJ
  go_cut [9, 10, 11] from 21 to 35 (fun s9 s10 s11 wx => ∃ B : Nat, s9 = .pointer (some ⟨B, 0, none⟩) ∧ s10 = .int .i64 0 ∧ s11 = .int .i64 0 ∧ SMid i j w3 B wx)
  case first =>
    go_region_held3 (fun W' => W'.cell? ⟨T, i, none⟩ = some (.string SI) ∧ W'.cell? ⟨T, j, none⟩ = some (.string SJ)) (first | exact KC.out _ (Below.refl _ _) | exact KC.out _ (Below.refl _ _).drew | exact KC.out _ HB4.out | exact KC.out _ (HB4.out.alloc HB4.out.size _) | exact KC.out _ ((Below.refl _ _).drew.alloc (Nat.le_refl _) _) | exact KC.out _ ((HB4.out.alloc HB4.out.size _).setCell (Nat.le_trans HB4.out.size (Nat.le_refl _)) _) | exact KC.out _ (HB4.out.setCell (p := ⟨w3.heap.size, 0, none⟩) (Nat.le_refl _) _) | go_keep)
      ((go_at_call 8; first
        | ((with_reducible refine (HCP.out _ (Below.refl w3.heap.size w3).drew).mono ?_); rintro e w4 ⟨g, o, cc, g2, o2, c2, g4, o4, c4, op, nm, o1, o3, nu, bi, ty, pl, n1, n2, rfl, hb, hr, hx, hy⟩; have HB4 : Hid (Below w3.heap.size w3 w4) := Lib.hid ((Below.refl w3.heap.size w3).drew.trans (show Below w3.heap.size w3.drew w4 from hb)); have HR := Lib.hid hr; have HX := Lib.hid hx; have HY := Lib.hid hy; clear hb hr hx hy)
        | ((with_reducible refine (HCP.out _ (((Below.refl w3.heap.size w3).alloc (Nat.le_refl _) (.cells #[.slice none 0 0] 27))).drew).mono ?_); rintro e w4 ⟨g, o, cc, g2, o2, c2, g4, o4, c4, op, nm, o1, o3, nu, bi, ty, pl, n1, n2, rfl, hb, hr, hx, hy⟩; have HB4 : Hid (Below w3.heap.size w3 w4) := Lib.hid (((Below.refl w3.heap.size w3).alloc (Nat.le_refl _) (.cells #[.slice none 0 0] 27)).drew.trans (hb.mono (by simp))); have y := (hb.block w3.heap.size (by simp)).trans (heap_alloc_new w3 (.cells #[.slice none 0 0] 27)); have y0 := Lib.cell_of_heap y 0; have y1 := Lib.frozen_of_heap y 0; have HY4 := Lib.hid y; have HR := Lib.hid hr; have HX := Lib.hid hx; have HY := Lib.hid hy; clear hb hr hx hy y)))
    all_goals go_wp2_with fail
    all_goals go_meet
    all_goals first
      | exact ⟨_, rfl, rfl, rfl, mid_late HB4.out HR.out HX.out HY.out⟩
      | exact ⟨_, rfl, rfl, rfl, mid_soon HB4.out (Nat.le_refl _) HY4.out HR.out HX.out HY.out⟩
  case rest =>
    obtain ⟨B, rfl, rfl, rfl, hbm, g, o, cc, g2, o2, c2, g4, o4, c4, op, nm, o1, o3, nu, bi, ty, pl, n1, n2, hm, hr, hx, hy⟩ := hcut
    have UC := Lib.hid (fun (W' : World) (hb : Below w3.heap.size w3 W') => (⟨by rw [cell_of_row ((hb.block _ hUl).trans s2)]; exact rowN_at i hi, by rw [cell_of_row ((hb.block _ hUl).trans s2)]; exact rowN_at j hj⟩ : W'.cell? ⟨U, i, none⟩ = some (.int .i64 (stg i : Nat)) ∧ W'.cell? ⟨U, j, none⟩ = some (.int .i64 (stg j : Nat))))
    have m0 := Lib.cell_of_heap hm 0
    have hmm := Lib.hid hm
    obtain ⟨SO, hSO⟩ : ∃ SO : ByteArray, SO = ⟨op.toArray⟩ := ⟨_, rfl⟩
    obtain ⟨S1, hS1⟩ : ∃ S1 : ByteArray, S1 = ⟨o1.toArray⟩ := ⟨_, rfl⟩
    obtain ⟨S3, hS3⟩ : ∃ S3 : ByteArray, S3 = ⟨o3.toArray⟩ := ⟨_, rfl⟩
    obtain ⟨SN, hSN⟩ : ∃ SN : ByteArray, SN = ⟨nm.toArray⟩ := ⟨_, rfl⟩
    unfold RdS at hr
    rw [← hSO, ← hS1, ← hS3, ← hSN] at hr
    have r := hr wc (Below.refl _ _)
    obtain ⟨r1, r2, -⟩ := r
    have R2 := Lib.hid r2
    have HR := Lib.hid hr
    have HX := Lib.hid hx
    have HY := Lib.hid hy
    have HBM := Lib.hid hbm
    have HO := Lib.hid (⟨hSO, hS1, hS3⟩ : SO = ⟨op.toArray⟩ ∧ S1 = ⟨o1.toArray⟩ ∧ S3 = ⟨o3.toArray⟩)
    clear hr hx hy hbm hm r2 hSO hS1 hS3 hSN hz1 hz2 hz3 hz4
    go_upto_region 12 with ((with_reducible refine wpList_load_mid rfl TE (.tmp 58) rfl g2 o2 ?xa [.int .i64 5, .string SO, .string SN, .int .u32 nu, .int .u64 bi, .slice (some ⟨g4, o4, none⟩) 2 c4, .int .i64 ty, .int .i64 pl] _ R2.out Tryz.underlying41 rfl (by kernel_rfl) ?_); (case xa => simp [go_sem]))
    have hm5 : Below wc.heap.size wc (wc.alloc (.cells (ex8 5 SO SN nu bi (.slice (some ⟨g4, o4, none⟩) 2 c4) ty pl) TE)) := (Below.refl _ _).alloc (Nat.le_refl _) _
    have d5 := heap_alloc_new wc (.cells (ex8 5 SO SN nu bi (.slice (some ⟨g4, o4, none⟩) 2 c4) ty pl) TE)
    obtain ⟨-, -, q3, q4, q5, q6⟩ := HR.out _ hm5
    obtain ⟨u0, u1⟩ := UC.out _ (HBM.out.trans (hm5.mono HBM.out.size))
    obtain ⟨t0, t1⟩ := KC.out _ (HBM.out.trans (hm5.mono HBM.out.size))
    have HM5 := Lib.hid (HBM.out.trans (hm5.mono HBM.out.size))
    have hD : wc.heap.size < (wc.alloc (.cells (ex8 5 SO SN nu bi (.slice (some ⟨g4, o4, none⟩) 2 c4) ty pl) TE)).heap.size := by simp
    generalize (wc.alloc (.cells (ex8 5 SO SN nu bi (.slice (some ⟨g4, o4, none⟩) 2 c4) ty pl) TE)) = w5 at *
    obtain ⟨D, hD⟩ : ∃ D, D = wc.heap.size := ⟨_, rfl⟩
    rw [← hD] at d5 ⊢
    have x1 : w5.cell? ⟨D, 1, none⟩ = some (.string SO) := Lib.cell_of_heap d5 1
    have x5 : w5.cell? ⟨D, 5, none⟩ = some (.slice (some ⟨g4, o4, none⟩) 2 c4) := Lib.cell_of_heap d5 5
    have HXX := HX.out
    have HYY := HY.out
    generalize stg i = si at *
    generalize stg j = sj at *
    by_cases hlt : si < sj
    · obtain ⟨e1, rfl, e3⟩ := HXX hlt
      obtain rfl : SI = SO := HSI.out.trans ((congrArg (fun l : Bs => ByteArray.mk l.toArray) e1).symm.trans HO.out.1.symm)
      obtain rfl : SJ = S3 := HSJ.out.trans ((congrArg (fun l : Bs => ByteArray.mk l.toArray) e3).symm.trans HO.out.2.2.symm)
      have G1 : decide ((sj : Int) > (si : Int)) = true := by rw [decide_eq_true_eq]; omega
      have G2 : decide ((si : Int) < (sj : Int)) = true := by rw [decide_eq_true_eq]; omega
      have G3 : decide (si < sj) = true := by rw [decide_eq_true_eq]; exact hlt
      clear HXX HYY e1 e3 hm5 hD d5 HR m0 r1
      go_quiet (fail)
      go_wp2
      obtain ⟨w6, hw6⟩ : ∃ w6, w6 = w5.drewN nq := ⟨_, rfl⟩
      rw [← hw6]
      have HM6 := Lib.hid (show Below w.heap.size w w6 by rw [hw6]; exact below_draws2 (HB3.out.trans (HM5.out.mono HB3.out.size)) _)
      have e6 : ∀ p, w6.cell? p = w5.cell? p := fun p => by rw [hw6]; rfl
      rw [← e6] at x1 x5 q3 q4 q5 q6 t0 t1
      clear hw6 e6 u0 u1
      go_quiet (fail)
      go_wp2
      go_ret
      exact ⟨rfl, below_draws2 HM6.out _⟩
    · obtain ⟨e1, rfl, e3⟩ := HYY hlt
      obtain rfl : SJ = SO := HSJ.out.trans ((congrArg (fun l : Bs => ByteArray.mk l.toArray) e1).symm.trans HO.out.1.symm)
      obtain rfl : SI = S1 := HSI.out.trans ((congrArg (fun l : Bs => ByteArray.mk l.toArray) e3).symm.trans HO.out.2.1.symm)
      have G1 : decide ((sj : Int) > (si : Int)) = false := by rw [decide_eq_false_iff_not]; omega
      have G2 : decide ((si : Int) < (sj : Int)) = false := by rw [decide_eq_false_iff_not]; omega
      have G3 : decide (si < sj) = false := by rw [decide_eq_false_iff_not]; exact hlt
      clear HXX HYY e1 e3 hm5 hD d5 HR m0 r1
      go_quiet (fail)
      go_wp2
      obtain ⟨w6, hw6⟩ : ∃ w6, w6 = w5.drewN nq := ⟨_, rfl⟩
      rw [← hw6]
      have HM6 := Lib.hid (show Below w.heap.size w w6 by rw [hw6]; exact below_draws2 (HB3.out.trans (HM5.out.mono HB3.out.size)) _)
      have e6 : ∀ p, w6.cell? p = w5.cell? p := fun p => by rw [hw6]; rfl
      rw [← e6] at x1 x5 q3 q4 q5 q6 t0 t1
      clear hw6 e6 u0 u1
      go_quiet (fail)
      go_wp2
      go_ret
      exact ⟨rfl, below_draws2 HM6.out _⟩
end PaC
end Go.Proofs.YtnlbhnmiekanfaaGreatDoor
