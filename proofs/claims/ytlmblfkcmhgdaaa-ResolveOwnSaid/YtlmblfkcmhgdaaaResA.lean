/-
  The statements' fixed fact: a contract. Condition: none.
-/
import Derived.Test.YtlmblfkcmhgdaaaResY
namespace Go.Proofs.Ytlmblfkcmhgdaaa
open Go.RowKit Go.Maps Go.WideMaps
set_option linter.unusedVariables false
set_option linter.unusedSimpArgs false
namespace RsA
open OO OJ RsM RsI RsP RsR RsD RsS RsT RsN RsV RsY OCk
open OI hiding Mid Did
def aO : ObjV := ⟨[19], [], [⟨mainB, 1, 0, 0, true⟩], []⟩
theorem aO_none2 : noneFrom [aO, aO] 0 = -1 := by decide +kernel
theorem aO_again : againL (flat [aO, aO]) = [⟨1, 0, ⟨mainB, 1, 0, 0, true⟩⟩] := by kernel_rfl
theorem aO_main : mainOut [aO] = (0, 0, 0) := by decide +kernel
theorem aO_out {W : World} {tv : Value} {i k c : Int} (h : Out [aO, aO] W tv i k c) : i = 1 ∧ k = 0 ∧ c = 4 := by
  unfold Out at h
  rw [aO_none2, if_neg (by omega), aO_again] at h
  exact ⟨h.2.1, h.2.2.1, h.2.2.2⟩
theorem aO_wf : aO.Wf := by
  refine ⟨?_, ?_, ?_, ?_⟩
  · intro x hx
    simp [aO] at hx
    subst hx; omega
  · intro x hx
    simp [aO] at hx
  · intro s hs
    simp [aO] at hs
    subst hs
    exact ⟨by decide, by unfold I64; decide, by unfold I64; decide, by unfold I64; decide⟩
  · intro r hr
    simp [aO] at hr
theorem obj_at {W : World} {A B n₀ : Nat} {T1 T2 : TypeId} (a : W.heap[A]? = some (.cells #[.int .u32 19] T1 (0, 0))) (b : W.heap[B]? = some (.cells #[.string mainB, .int .i64 1, .int .i64 0, .int .i64 0, .bool true] T2 (0, 0))) (hA : A < n₀) (hB : B < n₀) :
    ObjAt n₀ W (.slice (some ⟨A, 0, none⟩) 1 1) (.slice none 0 0) (.slice (some ⟨B, 0, none⟩) 1 1) (.slice none 0 0) aO := by
  refine ⟨⟨_, _, rfl, fun _ => ⟨A, 0, rfl, hA, Nat.le_refl _, by decide, fun j x hj => ?_⟩⟩, ⟨_, _, rfl, fun h => absurd h (by decide)⟩, ⟨_, _, rfl, fun _ => ⟨B, 0, rfl, hB, Nat.le_refl _, by decide, fun j s hj => ?_⟩⟩, ⟨_, _, rfl, fun h => absurd h (by decide)⟩⟩
  · match j, hj with
    | 0, hj =>
      cases hj
      rw [Lib.cell_of_heap a]; rfl
    | j + 1, hj => simp [aO] at hj
  · match j, hj with
    | 0, hj =>
      cases hj
      exact ⟨by rw [Lib.cell_of_heap b]; rfl, by rw [Lib.cell_of_heap b]; rfl, by rw [Lib.cell_of_heap b]; rfl, by rw [Lib.cell_of_heap b]; rfl, by rw [Lib.cell_of_heap b]; rfl⟩
    | j + 1, hj => simp [aO] at hj
theorem objs_two {W : World} {D n₀ : Nat} {T : TypeId} {v0 v1 v2 v3 : Value} {x : ObjV} (d : W.heap[D]? = some (.cells #[v0, v1, v2, v3, v0, v1, v2, v3] T (0, 0))) (hD : D < n₀) (ho : ObjAt n₀ W v0 v1 v2 v3 x) : ObjsAt n₀ W (.slice (some ⟨D, 0, none⟩) 2 2) [x, x] := by
  refine ⟨_, _, rfl, fun _ => ⟨D, 0, rfl, hD, Nat.le_refl _, by decide, fun i y hi => ?_⟩⟩
  match i, hi with
  | 0, hi =>
    cases hi
    exact ⟨v0, v1, v2, v3, by rw [Lib.cell_of_heap d]; rfl, by rw [Lib.cell_of_heap d]; rfl, by rw [Lib.cell_of_heap d]; rfl, by rw [Lib.cell_of_heap d]; rfl, ho⟩
  | 1, hi =>
    cases hi
    exact ⟨v0, v1, v2, v3, by rw [Lib.cell_of_heap d]; rfl, by rw [Lib.cell_of_heap d]; rfl, by rw [Lib.cell_of_heap d]; rfl, by rw [Lib.cell_of_heap d]; rfl, ho⟩
  | j + 2, hi => simp at hi
theorem objs_one {W : World} {D n₀ : Nat} {T : TypeId} {v0 v1 v2 v3 : Value} {x : ObjV} (d : W.heap[D]? = some (.cells #[v0, v1, v2, v3] T (0, 0))) (hD : D < n₀) (ho : ObjAt n₀ W v0 v1 v2 v3 x) : ObjsAt n₀ W (.slice (some ⟨D, 0, none⟩) 1 1) [x] := by
  refine ⟨_, _, rfl, fun _ => ⟨D, 0, rfl, hD, Nat.le_refl _, by decide, fun i y hi => ?_⟩⟩
  match i, hi with
  | 0, hi =>
    cases hi
    exact ⟨v0, v1, v2, v3, by rw [Lib.cell_of_heap d]; rfl, by rw [Lib.cell_of_heap d]; rfl, by rw [Lib.cell_of_heap d]; rfl, by rw [Lib.cell_of_heap d]; rfl, ho⟩
  | j + 1, hi => simp at hi
set_option maxRecDepth 100000 in
set_option maxHeartbeats 4000000 in
theorem awake_ (w : World) : Calls Try.prog 4 #[] w fun e w' => e = .returned (.bool true) ∧ Below w.heap.size w w' := by
  obtain ⟨w4, hw4⟩ : ∃ w4, w4 = (((w.alloc (.cells #[.int .u32 19] 25)).alloc (.cells #[.string { data := #[109, 97, 105, 110] }, .int .i64 1, .int .i64 0, .int .i64 0, .bool true] 34)).alloc (.cells #[.slice (some ⟨w.heap.size, 0, none⟩) 1 1, .slice none 0 0, .slice (some ⟨w.heap.size + 1, 0, none⟩) 1 1, .slice none 0 0] 31)).alloc
    (.cells #[.slice (some ⟨w.heap.size, 0, none⟩) 1 1, .slice none 0 0, .slice (some ⟨w.heap.size + 1, 0, none⟩) 1 1, .slice none 0 0, .slice (some ⟨w.heap.size, 0, none⟩) 1 1, .slice none 0 0, .slice (some ⟨w.heap.size + 1, 0, none⟩) 1 1, .slice none 0 0] 31) := ⟨_, rfl⟩
  have hsz : w4.heap.size = w.heap.size + 4 := by rw [hw4]; simp
  have hb4 : Below w.heap.size w w4 := by
    rw [hw4]
    exact ((((Below.refl _ _).alloc (Nat.le_refl _) _).alloc (by simp only [World.size_alloc]; omega) _).alloc (by simp only [World.size_alloc]; omega) _).alloc (by simp only [World.size_alloc]; omega) _
  have xA : w4.heap[w.heap.size]? = some (.cells #[.int .u32 19] 25 (0, 0)) := by
    rw [hw4, Lib.alloc_old _ _ _ (by simp only [World.size_alloc]; omega), Lib.alloc_old _ _ _ (by simp only [World.size_alloc]; omega), Lib.alloc_old _ _ _ (by simp only [World.size_alloc]; omega)]
    exact heap_alloc_new w _
  have xB : w4.heap[w.heap.size + 1]? = some (.cells #[.string mainB, .int .i64 1, .int .i64 0, .int .i64 0, .bool true] 34 (0, 0)) := by
    rw [hw4, Lib.alloc_old _ _ _ (by simp only [World.size_alloc]; omega), Lib.alloc_old _ _ _ (by simp only [World.size_alloc]; omega)]
    have := heap_alloc_new (w.alloc (.cells #[.int .u32 19] 25)) (.cells #[.string mainB, .int .i64 1, .int .i64 0, .int .i64 0, .bool true] 34)
    rwa [World.size_alloc] at this
  have xC : w4.heap[w.heap.size + 2]? = some (.cells #[.slice (some ⟨w.heap.size, 0, none⟩) 1 1, .slice none 0 0, .slice (some ⟨w.heap.size + 1, 0, none⟩) 1 1, .slice none 0 0] 31 (0, 0)) := by
    rw [hw4, Lib.alloc_old _ _ _ (by simp only [World.size_alloc]; omega)]
    have := heap_alloc_new ((w.alloc (.cells #[.int .u32 19] 25)).alloc (.cells #[.string { data := #[109, 97, 105, 110] }, .int .i64 1, .int .i64 0, .int .i64 0, .bool true] 34)) (.cells #[.slice (some ⟨w.heap.size, 0, none⟩) 1 1, .slice none 0 0, .slice (some ⟨w.heap.size + 1, 0, none⟩) 1 1, .slice none 0 0] 31)
    simpa [World.size_alloc] using this
  have xD : w4.heap[w.heap.size + 1 + 1 + 1]? = some (.cells #[.slice (some ⟨w.heap.size, 0, none⟩) 1 1, .slice none 0 0, .slice (some ⟨w.heap.size + 1, 0, none⟩) 1 1, .slice none 0 0, .slice (some ⟨w.heap.size, 0, none⟩) 1 1, .slice none 0 0, .slice (some ⟨w.heap.size + 1, 0, none⟩) 1 1, .slice none 0 0] 31 (0, 0)) := by
    rw [hw4]
    have := heap_alloc_new (((w.alloc (.cells #[.int .u32 19] 25)).alloc (.cells #[.string { data := #[109, 97, 105, 110] }, .int .i64 1, .int .i64 0, .int .i64 0, .bool true] 34)).alloc (.cells #[.slice (some ⟨w.heap.size, 0, none⟩) 1 1, .slice none 0 0, .slice (some ⟨w.heap.size + 1, 0, none⟩) 1 1, .slice none 0 0] 31)) (.cells #[.slice (some ⟨w.heap.size, 0, none⟩) 1 1, .slice none 0 0, .slice (some ⟨w.heap.size + 1, 0, none⟩) 1 1, .slice none 0 0, .slice (some ⟨w.heap.size, 0, none⟩) 1 1, .slice none 0 0, .slice (some ⟨w.heap.size + 1, 0, none⟩) 1 1, .slice none 0 0] 31)
    simpa [World.size_alloc] using this
  have hO4 := obj_at xA xB (n₀ := w4.heap.size) (by omega) (by omega)
  have cr := resolve_ (w := w4) (Nat.le_refl _) (objs_two xD (by omega) hO4) (by simp; exact aO_wf) (by simp) (by intro o ho; simp at ho; subst ho; decide) (by decide +kernel)
  have HB4 := Lib.hid hb4
  have XA := Lib.hid xA
  have XB := Lib.hid xB
  have XC := Lib.hid xC
  rw [hw4] at cr
  clear hb4 xA xB xC xD hO4
  go_enter Try.func4, Try.ntmps4
  go_upto_region 3 with (go_at_call 6; (with_reducible refine cr.mono ?_); rintro e w1 ⟨tv, i, k, c, rfl, hO, hb1⟩; obtain ⟨rfl, rfl, rfl⟩ := aO_out hO; rw [← hw4] at hb1; have HB1 := Lib.hid hb1; clear hb1 cr hO)
  clear hw4
  have h1z := HB1.out.size
  have yA := (Lib.alloc_old w1 (.cells #[.int .i64 1, .int .i64 0] TT) _ (by omega)).trans ((HB1.out.block _ (by omega)).trans XA.out)
  have yB := (Lib.alloc_old w1 (.cells #[.int .i64 1, .int .i64 0] TT) _ (by omega)).trans ((HB1.out.block _ (by omega)).trans XB.out)
  have yC := (Lib.alloc_old w1 (.cells #[.int .i64 1, .int .i64 0] TT) _ (by omega)).trans ((HB1.out.block _ (by omega)).trans XC.out)
  have yT := heap_alloc_new w1 (.cells #[.int .i64 1, .int .i64 0] TT)
  have hbw : Below w.heap.size w (w1.alloc (.cells #[.int .i64 1, .int .i64 0] TT)) := (HB4.out.trans (HB1.out.mono (by omega))).alloc (by omega) _
  have hs2 : w1.heap.size + 1 ≤ (w1.alloc (.cells #[.int .i64 1, .int .i64 0] TT)).heap.size := by simp
  clear XA XB XC HB1 HB4
  generalize w1.alloc (.cells #[.int .i64 1, .int .i64 0] TT) = w2 at *
  have zA := (Lib.alloc_old w2 (.cells #[.slice (some ⟨w.heap.size, 0, none⟩) 1 1, .slice none 0 0, .slice (some ⟨w.heap.size + 1, 0, none⟩) 1 1, .slice none 0 0] 31) _ (by omega)).trans yA
  have zB := (Lib.alloc_old w2 (.cells #[.slice (some ⟨w.heap.size, 0, none⟩) 1 1, .slice none 0 0, .slice (some ⟨w.heap.size + 1, 0, none⟩) 1 1, .slice none 0 0] 31) _ (by omega)).trans yB
  have zT := (Lib.alloc_old w2 (.cells #[.slice (some ⟨w.heap.size, 0, none⟩) 1 1, .slice none 0 0, .slice (some ⟨w.heap.size + 1, 0, none⟩) 1 1, .slice none 0 0] 31) _ (by omega)).trans yT
  have zD := heap_alloc_new w2 (.cells #[.slice (some ⟨w.heap.size, 0, none⟩) 1 1, .slice none 0 0, .slice (some ⟨w.heap.size + 1, 0, none⟩) 1 1, .slice none 0 0] 31)
  have hs3 : (w2.alloc (.cells #[.slice (some ⟨w.heap.size, 0, none⟩) 1 1, .slice none 0 0, .slice (some ⟨w.heap.size + 1, 0, none⟩) 1 1, .slice none 0 0] 31)).heap.size = w2.heap.size + 1 := World.size_alloc _ _
  have cm := Main_ (w := w2.alloc (.cells #[.slice (some ⟨w.heap.size, 0, none⟩) 1 1, .slice none 0 0, .slice (some ⟨w.heap.size + 1, 0, none⟩) 1 1, .slice none 0 0] 31)) (Nat.le_refl _) (objs_one zD (by omega) (obj_at zA zB (by omega) (by omega))) (by simp; exact aO_wf) (by simp) (by intro o ho; simp at ho; subst ho; decide) (by decide +kernel)
  rw [aO_main] at cm
  have k0 := Lib.cell_of_heap yC 0
  have k1 := Lib.cell_of_heap yC 1
  have k2 := Lib.cell_of_heap yC 2
  have k3 := Lib.cell_of_heap yC 3
  simp only [List.getElem?_toArray, List.getElem?_cons_zero, List.getElem?_cons_succ] at k0 k1 k2 k3
  have ZT := Lib.hid zT
  have HBW := Lib.hid hbw
  clear yA yB yC yT zA zB zT zD hbw
  go_upto_region 4 with (go_at_call 7; (with_reducible refine cm.mono ?_); rintro e w5 ⟨rfl, hb5⟩; have HB5 := Lib.hid hb5; clear hb5 cm)
  have h5z := HB5.out.size
  have y1 := (Lib.alloc_old w5 (.cells #[.int .i64 0, .int .i64 0] TT) _ (by omega)).trans ((HB5.out.block _ (by omega)).trans ZT.out)
  have y2 := heap_alloc_new w5 (.cells #[.int .i64 0, .int .i64 0] TT)
  have hbel : Below w.heap.size w (w5.alloc (.cells #[.int .i64 0, .int .i64 0] TT)) := ((HBW.out.alloc (by omega) _).trans (HB5.out.mono (by omega))).alloc (by omega) _
  have u0 := Lib.cell_of_heap y1 0
  have u1 := Lib.cell_of_heap y1 1
  have u2 := Lib.cell_of_heap y2 0
  have u3 := Lib.cell_of_heap y2 1
  simp only [List.getElem?_toArray, List.getElem?_cons_zero, List.getElem?_cons_succ] at u0 u1 u2 u3
  have HBEL := Lib.hid hbel
  clear y1 y2 hbel k0 k1 k2 k3
  generalize w5.alloc (.cells #[.int .i64 0, .int .i64 0] TT) = w6 at *
  go_wp2
  go_ret
  exact ⟨rfl, HBEL.out⟩
end RsA
end Go.Proofs.Ytlmblfkcmhgdaaa
