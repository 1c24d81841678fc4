/-
  The statements' Few over objects: a contract. Condition: the objects lie in memory.
-/
import Derived.Test.YtlmblfkcmhgdaaaResS
import Derived.Test.YtlmblfkcmhgdaaaObjE
namespace Go.Proofs.Ytlmblfkcmhgdaaa
open Go.RowKit Go.Maps Go.WideMaps
set_option linter.unusedVariables false
set_option linter.unusedSimpArgs false
namespace RsF
open OO OJ RsM RsI RsP RsD RsS OCk
def fewO (objs : List ObjV) : Bool := decide (objs.length ≤ 12) && objs.all OE.few
theorem all_step (l : List ObjV) (k : Nat) (h : k < l.length) : (l.drop k).all OE.few = (OE.few l[k] && (l.drop (k + 1)).all OE.few) := by
  rw [List.drop_eq_getElem_cons h]; rfl
theorem fewO_lim {objs : List ObjV} (h : fewO objs = true) : objs.length ≤ 12 ∧ ∀ o ∈ objs, OE.few o = true := by
  unfold fewO at h
  simp only [Bool.and_eq_true, decide_eq_true_eq, List.all_eq_true] at h
  exact h
set_option maxRecDepth 100000 in
set_option maxHeartbeats 4000000 in
theorem fewO_ {w : World} {n₀ : Nat} {v : Value} {objs : List ObjV} (hn : n₀ ≤ w.heap.size) (ho : ObjsAt n₀ w v objs) (hw : ∀ o ∈ objs, o.Wf) (hm : objs.length ≤ maxLen) :
    Calls Try.prog 5 #[v] w fun e w' => e = .returned (.bool (fewO objs)) ∧ Below w.heap.size w w' := by
  obtain ⟨p, c, rfl, hsl⟩ := ho
  have HO := Lib.hid hsl
  have HW := Lib.hid hw
  unfold maxLen at hm
  clear hsl hw
  by_cases hb : 12 < objs.length
  · rw [show fewO objs = false by unfold fewO; rw [decide_eq_false (by omega)]; rfl]
    clear HO HW
    go_enter Try.func5, Try.ntmps5
    go_wp2
    go_ret
    exact ⟨rfl, Below.refl _ _⟩
  · rw [show fewO objs = objs.all OE.few by unfold fewO; rw [decide_eq_true (by omega)]; rfl]
    go_enter Try.func5, Try.ntmps5
    go_wp2
    go_loopw [10] (fun i wr => ∃ k : Nat, k ≤ objs.length ∧ i = .int .i64 k ∧ Hid (objs.all OE.few = (objs.drop k).all OE.few) ∧ Below w.heap.size w wr) (fun i _ => objs.length - (intOf i).toNat)
    case atStart => exact ⟨0, Nat.zero_le _, rfl, Lib.hid (by rw [List.drop_zero]), Below.refl _ _⟩
    case round =>
      obtain ⟨k, hk, rfl, HQ, hbl⟩ := hrel
      have HB := Lib.hid hbl
      by_cases hlt : k < objs.length
      · obtain ⟨b, o, rfl, hb', -, -, hall⟩ := HO.out (by omega)
        obtain ⟨v0, v1, v2, v3, k0, k1, k2, k3, hoa⟩ := (hall k _ (List.getElem?_eq_getElem hlt)).same (Same.of hbl hn) hb'
        have HS := Lib.hid (all_step objs k hlt)
        have hwf := HW.out _ (List.getElem_mem hlt)
        have hA : Below wr.heap.size wr (wr.alloc (.cells #[v0, v1, v2, v3] 31)) := (Below.refl _ _).alloc (Nat.le_refl _) _
        have cn := OE.few_ (w := wr.alloc (.cells #[v0, v1, v2, v3] 31)) (n₀ := n₀) (by simp only [World.size_alloc]; have := hbl.size; omega) (hoa.below (hA.mono (Nat.le_trans hn hbl.size))) (fun s hs => (hwf.ss s hs).name) (OB.lens hoa)
        obtain ⟨p0, q0, rfl, -⟩ := hoa.ws
        obtain ⟨p1, q1, rfl, -⟩ := hoa.ds
        obtain ⟨p2, q2, rfl, -⟩ := hoa.ss
        obtain ⟨p3, q3, rfl, -⟩ := hoa.rs
        clear hall hbl hwf hA
        generalize OE.few objs[k] = cb at *
        clear hoa
        cases cb
        · go_wp2_with (go_at_call 8; (with_reducible refine cn.mono ?_); rintro e w1 ⟨rfl, hb1⟩; have H1 := Lib.hid hb1; clear hb1)
          go_ret
          exact ⟨ret_bool (by rw [HQ.out, HS.out]; rfl), (HB.out.alloc HB.out.size _).trans (H1.out.mono (by simp only [World.size_alloc]; have := HB.out.size; omega))⟩
        · go_wp2_with (go_at_call 8; (with_reducible refine cn.mono ?_); rintro e w1 ⟨rfl, hb1⟩; have H1 := Lib.hid hb1; clear hb1)
          exact ⟨⟨k + 1, by omega, by go_num, Lib.hid (by rw [HQ.out, HS.out]; rfl), (HB.out.alloc HB.out.size _).trans (H1.out.mono (by simp only [World.size_alloc]; have := HB.out.size; omega))⟩, by simp [intOf]; omega⟩
      · obtain rfl : k = objs.length := by omega
        go_wp2
        go_ret
        exact ⟨ret_bool (by rw [HQ.out, List.drop_length]; rfl), HB.out⟩
end RsF
end Go.Proofs.Ytlmblfkcmhgdaaa
