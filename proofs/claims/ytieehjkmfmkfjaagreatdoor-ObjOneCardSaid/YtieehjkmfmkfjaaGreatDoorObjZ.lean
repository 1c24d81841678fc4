/-
  Objects compared: the program's Same: a contract. No condition but that the objects lie in memory.
-/
import Derived.Test.YtieehjkmfmkfjaaGreatDoorObjX
namespace Go.Proofs.YtieehjkmfmkfjaaGreatDoor
open Go.RowKit
set_option linter.unusedVariables false
set_option linter.unusedSimpArgs false
namespace OZ
open OO OJ OL OX
abbrev TO : TypeId := 27
def sameO (a b : ObjV) : Bool := same intB a.ws b.ws && (same intB a.ds b.ds && (same symB a.ss b.ss && same relB a.rs b.rs))
theorem sameO_refl (a : ObjV) : sameO a a = true := by
  unfold sameO
  rw [same_refl intB_refl, same_refl intB_refl, same_refl symB_refl, same_refl relB_refl]
  rfl
theorem below_of {w W : World} (h : ∃ q, W = w.drewN q) : Below w.heap.size w W := Quiet.below h
set_option maxRecDepth 100000 in
set_option maxHeartbeats 8000000 in
theorem Same_ {n₀ : Nat} {w : World} {a0 a1 a2 a3 b0 b1 b2 b3 : Value} {a b : ObjV} (hn : n₀ ≤ w.heap.size) (ha : ObjAt n₀ w a0 a1 a2 a3 a) (hb : ObjAt n₀ w b0 b1 b2 b3 b) :
    Calls Tryz.prog 17 #[.agg #[a0, a1, a2, a3], .agg #[b0, b1, b2, b3]] w fun e w' => e = .returned (.bool (sameO a b)) ∧ Below w.heap.size w w' := by
  have hB : Below w.heap.size w ((w.alloc (.cells #[a0, a1, a2, a3] TO)).alloc (.cells #[b0, b1, b2, b3] TO)) := ((Below.refl _ _).alloc (Nat.le_refl _) _).alloc (by simp) _
  have h1 : ((w.alloc (.cells #[a0, a1, a2, a3] TO)).alloc (.cells #[b0, b1, b2, b3] TO)).heap[w.heap.size]? = some (.cells #[a0, a1, a2, a3] TO (0, 0)) := (Lib.alloc_old _ _ _ (by simp)).trans (heap_alloc_new w _)
  have h2 : ((w.alloc (.cells #[a0, a1, a2, a3] TO)).alloc (.cells #[b0, b1, b2, b3] TO)).heap[w.heap.size + 1]? = some (.cells #[b0, b1, b2, b3] TO (0, 0)) := by
    have := heap_alloc_new (w.alloc (.cells #[a0, a1, a2, a3] TO)) (.cells #[b0, b1, b2, b3] TO)
    rwa [World.size_alloc] at this
  have hA := Lib.hid (ha.below (hB.mono hn))
  have hBb := Lib.hid (hb.below (hB.mono hn))
  have hBB := Lib.hid hB
  obtain ⟨p0, q0, rfl, -⟩ := ha.ws
  obtain ⟨p1, q1, rfl, -⟩ := ha.ds
  obtain ⟨p2, q2, rfl, -⟩ := ha.ss
  obtain ⟨p3, q3, rfl, -⟩ := ha.rs
  obtain ⟨s0, t0, rfl, -⟩ := hb.ws
  obtain ⟨s1, t1, rfl, -⟩ := hb.ds
  obtain ⟨s2, t2, rfl, -⟩ := hb.ss
  obtain ⟨s3, t3, rfl, -⟩ := hb.rs
  have k0 := fun (W : World) (hA : ObjAt n₀ W (.slice p0 a.ws.length q0) (.slice p1 a.ds.length q1) (.slice p2 a.ss.length q2) (.slice p3 a.rs.length q3) a) (hB : ObjAt n₀ W (.slice s0 b.ws.length t0) (.slice s1 b.ds.length t1) (.slice s2 b.ss.length t2) (.slice s3 b.rs.length t3) b) => eq_words hA.ws hB.ws
  have k1 := fun (W : World) (hA : ObjAt n₀ W (.slice p0 a.ws.length q0) (.slice p1 a.ds.length q1) (.slice p2 a.ss.length q2) (.slice p3 a.rs.length q3) a) (hB : ObjAt n₀ W (.slice s0 b.ws.length t0) (.slice s1 b.ds.length t1) (.slice s2 b.ss.length t2) (.slice s3 b.rs.length t3) b) => eq_bytes hA.ds hB.ds
  have k2 := fun (W : World) (hA : ObjAt n₀ W (.slice p0 a.ws.length q0) (.slice p1 a.ds.length q1) (.slice p2 a.ss.length q2) (.slice p3 a.rs.length q3) a) (hB : ObjAt n₀ W (.slice s0 b.ws.length t0) (.slice s1 b.ds.length t1) (.slice s2 b.ss.length t2) (.slice s3 b.rs.length t3) b) => eq_syms hA.ss hB.ss
  have k3 := fun (W : World) (hA : ObjAt n₀ W (.slice p0 a.ws.length q0) (.slice p1 a.ds.length q1) (.slice p2 a.ss.length q2) (.slice p3 a.rs.length q3) a) (hB : ObjAt n₀ W (.slice s0 b.ws.length t0) (.slice s1 b.ds.length t1) (.slice s2 b.ss.length t2) (.slice s3 b.rs.length t3) b) => eq_rels hA.rs hB.rs
  clear ha hb
  unfold sameO
  generalize same intB a.ws b.ws = x0 at *
  generalize same intB a.ds b.ds = x1 at *
  generalize same symB a.ss b.ss = x2 at *
  generalize same relB a.rs b.rs = x3 at *
  cases x0 <;> cases x1 <;> cases x2 <;> cases x3
  all_goals
    go_enter Tryz.func17, Tryz.ntmps17
    go_upto_region 1 with (fail)
    generalize (w.alloc (.cells #[.slice p0 a.ws.length q0, .slice p1 a.ds.length q1, .slice p2 a.ss.length q2, .slice p3 a.rs.length q3] TO)).alloc (.cells #[.slice s0 b.ws.length t0, .slice s1 b.ds.length t1, .slice s2 b.ss.length t2, .slice s3 b.rs.length t3] TO) = W at *
    have ba := fun q => hA.out.below (w' := W.drewN q) ⟨rfl, rfl, rfl, Nat.le_refl _, fun _ _ => rfl⟩
    have bb := fun q => hBb.out.below (w' := W.drewN q) ⟨rfl, rfl, rfl, Nat.le_refl _, fun _ _ => rfl⟩
    have l0 := k0 W hA.out hBb.out
    have l1 := fun q => k1 _ (ba q) (bb q)
    have l2 := fun q => k2 _ (ba q) (bb q)
    have l3 := fun q => k3 _ (ba q) (bb q)
    have f0 : W.cell? ⟨w.heap.size, 0, none⟩ = some (.slice p0 a.ws.length q0) := Lib.cell_of_heap h1 0
    have f1 : W.cell? ⟨w.heap.size, 1, none⟩ = some (.slice p1 a.ds.length q1) := Lib.cell_of_heap h1 1
    have f2 : W.cell? ⟨w.heap.size, 2, none⟩ = some (.slice p2 a.ss.length q2) := Lib.cell_of_heap h1 2
    have f3 : W.cell? ⟨w.heap.size, 3, none⟩ = some (.slice p3 a.rs.length q3) := Lib.cell_of_heap h1 3
    have g0 : W.cell? ⟨w.heap.size + 1, 0, none⟩ = some (.slice s0 b.ws.length t0) := Lib.cell_of_heap h2 0
    have g1 : W.cell? ⟨w.heap.size + 1, 1, none⟩ = some (.slice s1 b.ds.length t1) := Lib.cell_of_heap h2 1
    have g2 : W.cell? ⟨w.heap.size + 1, 2, none⟩ = some (.slice s2 b.ss.length t2) := Lib.cell_of_heap h2 2
    have g3 : W.cell? ⟨w.heap.size + 1, 3, none⟩ = some (.slice s3 b.rs.length t3) := Lib.cell_of_heap h2 3
    clear k0 k1 k2 k3 ba bb h1 h2 hB
    go_wp2_with (first
      | (go_at_call 34; (with_reducible refine l0.mono ?_); rintro e w1 ⟨rfl, m0, rfl⟩)
      | (go_at_call 35; (with_reducible refine (l1 _).mono ?_); rintro e w1 ⟨rfl, m1, rfl⟩)
      | (go_at_call 36; (with_reducible refine (l2 _).mono ?_); rintro e w1 ⟨rfl, m2, rfl⟩)
      | (go_at_call 37; (with_reducible refine (l3 _).mono ?_); rintro e w1 ⟨rfl, m3, rfl⟩))
    go_ret
    exact ⟨rfl, hBB.out.trans ⟨rfl, rfl, rfl, Nat.le_refl _, fun _ _ => rfl⟩⟩
end OZ
end Go.Proofs.YtieehjkmfmkfjaaGreatDoor
