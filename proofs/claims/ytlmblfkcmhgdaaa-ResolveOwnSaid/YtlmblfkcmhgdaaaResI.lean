/-
  The iterator over all symbols of the objects: what it hands over, at every loop body that keeps what lay there. Condition: the objects lie below what the caller made.
-/
import Derived.Test.YtlmblfkcmhgdaaaResM
import Derived.RangeFuncNested
import Derived.RangeFuncBound
import Derived.RangeFuncCalls
import Derived.RangeFuncLeaves
import Derived.Shelf.RegionOpen
import Derived.OwnWalkIn
import Derived.TacticsInMore
import Derived.LoopNIn
import Derived.LoopIn
import Derived.Deep.QuietTactic
import Derived.BigQuiet
namespace Go.Proofs.Ytlmblfkcmhgdaaa
open Go.RowKit
set_option linter.unusedVariables false
set_option linter.unusedSimpArgs false
namespace RsI
open OO OJ RsM
attribute [local go_sem] Oper.semAt_some
abbrev symA (s : SymV) : Value := .agg #[.string s.name, .int .i64 s.sect, .int .i64 s.val, .int .i64 s.frame, .bool s.glob]
abbrev entA (x : Ent) : Value := .agg #[.int .i64 (x.i : Int), .int .i64 (x.k : Int)]
/-- what a round keeps: what the caller had, and the iterator's box -/
structure Kp (n₀ Bs : Nat) (W W' : World) : Prop where
  s : Same n₀ W W'
  b : W'.heap[Bs]? = W.heap[Bs]?
  z : W.heap.size ≤ W'.heap.size
theorem Kp.refl (n₀ Bs : Nat) (W : World) : Kp n₀ Bs W W := ⟨Same.refl _ _, rfl, Nat.le_refl _⟩
theorem Kp.trans {n₀ Bs : Nat} {U V W : World} (h : Kp n₀ Bs U V) (k : Kp n₀ Bs V W) : Kp n₀ Bs U W := ⟨h.s.trans k.s, k.b.trans h.b, Nat.le_trans h.z k.z⟩
theorem Kp.put {n₀ Bs : Nat} (W : World) (l : Nat) (o : Obj) (h1 : n₀ ≤ l) (h2 : l ≠ Bs) : Kp n₀ Bs W (W.putObj l o) :=
  ⟨fun k hk => Array.getElem?_setIfInBounds_ne (by omega), Array.getElem?_setIfInBounds_ne h2, by simp [World.putObj]⟩
theorem Kp.of {n₀ Bs n : Nat} {W W' : World} (h : Below n W W') (h1 : n₀ ≤ n) (h2 : Bs < n) : Kp n₀ Bs W W' := ⟨Same.of h h1, h.block _ h2, h.size⟩
theorem abide_alloc {β : Type} {B : Nat} {J : β → World → Prop} (h : AbidesFrom B J) (s : β) (W : World) (o : Obj) (hJ : J s W) : J s (W.alloc o) :=
  h s W (W.alloc o) none hJ (World.grownBy_alloc W o none) (fun _ e => by cases e)
set_option maxRecDepth 100000 in
set_option maxHeartbeats 8000000 in
theorem iter1 (n : Nat) (hn : 1 ≤ n) (l Bs n₀ : Nat) (v : Value) (objs : List ObjV) (hm : objs.length ≤ maxLen) (hms : ∀ o ∈ objs, o.ss.length ≤ maxLen) (J Jx : List (Fin (flat objs).length) → World → Prop)
    (hY : ∀ pre x W, J pre W → pre.length < (flat objs).length → YieldAt Fence.wide (n - 1) Try.prog l #[entA (flat objs)[x.1], symA (flat objs)[x.1].s] W fun e W' =>
      (e = .returned (.bool true) ∧ J (pre ++ [x]) W' ∧ Kp n₀ Bs W W') ∨ (e = .returned (.bool false) ∧ Jx (pre ++ [x]) W'))
    (W : World) (hBs : W.cell? ⟨Bs, 0, none⟩ = some v) (hBn : Bs < W.heap.size) (hn0 : n₀ ≤ W.heap.size) (ho : ObjsAt n₀ W v objs) (hJa : ∀ pre W o, J pre W → J pre (W.alloc o)) (h0 : J [] W) :
    CallsIn Fence.wide n Try.prog 15 #[.func (.yield l) #[] #[], .pointer (some ⟨Bs, 0, none⟩)] W fun e W' => (∃ v, e = .returned v) ∧
      ((∃ ys, ys = List.finRange (flat objs).length ∧ J ys W') ∨ (∃ pre, (∃ k, ∃ h : k ≤ (flat objs).length, pre = upto (flat objs).length k h) ∧ Jx pre W')) := by
  obtain ⟨p, c, rfl, hsl⟩ := ho
  have HO := Lib.hid hsl
  have HM := Lib.hid hms
  unfold maxLen at hm
  clear hsl hms
  refine callsIn_of_wp Try.func15 rfl trivial ?_ rfl
  simp only [Try.ntmps15, List.size_toArray, List.length_cons, List.length_nil, Nat.reduceAdd, Nat.reduceSub, Array.replicate_succ, Array.replicate_zero, List.push_toArray, List.append_toArray, List.nil_append, List.cons_append]
  gi_wp2
  gi_loopw [8] (fun i wr => ∃ i' : Nat, ∃ h : i' ≤ objs.length, i = .int .i64 (i' : Int) ∧ (∃ hp : pos objs i' 0 ≤ (flat objs).length, J (upto (flat objs).length (pos objs i' 0) hp) wr) ∧ Kp n₀ Bs W wr)
    (fun i _ => objs.length - (intOf i).toNat)
  case atStart => exact ⟨0, Nat.zero_le _, rfl, ⟨by rw [pos_zero]; exact Nat.zero_le _, by rw [upto_eq _ _ (pos_zero objs)]; exact h0⟩, Kp.refl _ _ _⟩
  case round =>
    obtain ⟨i, hi, rfl, ⟨hp, hJs⟩, hK⟩ := hrel
    have hws := hK.z
    have c1 : wr.cell? ⟨Bs, 0, none⟩ = some (.slice p objs.length c) := (cell_same hK.b 0).trans hBs
    have HJ := Lib.hid hJs
    have HK := Lib.hid hK
    clear hJs hK
    by_cases hlt : i < objs.length
    · obtain ⟨b, o, rfl, hb, -, -, hall⟩ := HO.out (by omega)
      obtain ⟨v0, v1, v2, v3, -, -, k2', -, hoa⟩ := hall i _ (List.getElem?_eq_getElem hlt)
      have k2 := (cell_same (HK.out.s b hb) _).trans k2'
      obtain ⟨ps, cs, rfl, hss⟩ := hoa.ss
      have hml := HM.out _ (List.getElem_mem hlt)
      unfold maxLen at hml
      have HSS := Lib.hid hss
      have HG := Lib.hid (fun k (hk : k < objs[i].ss.length) => flat_get hlt hk)
      have HE := Lib.hid (show pos objs (i + 1) 0 = pos objs i objs[i].ss.length by rw [pos_succ, ssAt_eq hlt])
      clear hall hoa hss k2'
      generalize objs[i].ss = ss at *
      obtain ⟨wo, rfl⟩ : ∃ wo : World, wo = wr := ⟨_, rfl⟩
      gi_wp2
      gi_loopw [17] (fun i' wr => ∃ k : Nat, ∃ h : k ≤ ss.length, i' = .int .i64 (k : Int) ∧ (∃ hp : pos objs i k ≤ (flat objs).length, J (upto (flat objs).length (pos objs i k) hp) wr) ∧ Kp n₀ Bs W wr)
        (fun i' _ => ss.length - (intOf i').toNat)
      case atStart => exact ⟨0, Nat.zero_le _, rfl, ⟨hp, HJ.out⟩, HK.out⟩
      case round =>
        clear k2 c1 HJ HK hws
        obtain ⟨k, hk, rfl, ⟨hp', hJs⟩, hK⟩ := hrel
        have hws := hK.z
        have HJ := Lib.hid hJs
        have HK := Lib.hid hK
        clear hJs hK
        by_cases hkl : k < ss.length
        · obtain ⟨xb, xo, rfl, hxb, -, -, hrow⟩ := HSS.out (by omega)
          obtain ⟨s0, s1, s2, s3, s4⟩ := sym_same (hrow k _ (List.getElem?_eq_getElem hkl)) HK.out.s hxb
          obtain ⟨hpl, hge⟩ := HG.out k hkl
          obtain ⟨fn, tmps, assign, body, hy, hR⟩ := hY _ ⟨pos objs i k, hpl⟩ (wr.alloc (.cells #[.string ss[k].name, .int .i64 ss[k].sect, .int .i64 ss[k].val, .int .i64 ss[k].frame, .bool ss[k].glob] 34)) (hJa _ _ _ HJ.out) (by rw [upto_length]; exact hpl)
          simp only [hge] at hy
          have HR := Lib.hid hR
          have HPL := Lib.hid hpl
          clear hrow hge hR
          generalize ss[k] = x at *
          gi_wp2
          refine HR.out.mono ?_
          rintro e W3 (⟨rfl, hJ3, hk3⟩ | ⟨rfl, hJx3⟩)
          · have HJ3 := Lib.hid hJ3
            have HK3 := Lib.hid hk3
            clear hJ3 hk3
            gi_wp2
            go_roundw
            case rel => exact ⟨k + 1, by omega, by go_num, ⟨hpl, by show J (upto (flat objs).length (pos objs i k + 1) hpl) W3; rw [upto_succ _ _ hpl]; exact HJ3.out⟩, HK.out.trans ((Kp.of ((Below.refl _ _).alloc (Nat.le_refl _) _) (by omega) (by omega)).trans HK3.out)⟩
            case measure => simp [intOf]; omega
          · have HJx := Lib.hid hJx3
            clear hJx3
            gi_wp2
            refine bodyPost_ret (results_none rfl _ _ _) rfl ?_
            exact ⟨⟨_, rfl⟩, .inr ⟨_, ⟨pos objs i k + 1, hpl, (upto_succ _ _ hpl).symm⟩, HJx.out⟩⟩
        · obtain rfl : k = ss.length := by omega
          gi_wp2
          go_roundw
          case rel => exact ⟨i + 1, by omega, by go_num, ⟨by rw [HE.out]; exact hp', by rw [upto_eq _ _ HE.out]; exact HJ.out⟩, HK.out⟩
          case measure => simp [intOf]; omega
    · obtain rfl : i = objs.length := by omega
      gi_wp2
      go_end0
      exact ⟨⟨_, rfl⟩, .inl ⟨_, (upto_eq _ _ (pos_end objs)).trans (upto_all _), HJ.out⟩⟩
/-- the iterator, to every loop body -/
theorem iter_ (n : Nat) (hn : 1 ≤ n) (Bs n₀ : Nat) (v : Value) (objs : List ObjV) (hm : objs.length ≤ maxLen) (hms : ∀ o ∈ objs, o.ss.length ≤ maxLen) (w : World) (hBs : Bs < w.heap.size) (hn0 : n₀ ≤ w.heap.size)
    (hc : w.cell? ⟨Bs, 0, none⟩ = some v) (ho : ObjsAt n₀ w v objs) :
    SeqStopsK Fence.wide n Try.prog 15 #[.pointer (some ⟨Bs, 0, none⟩)] (fun x : Fin (flat objs).length => #[entA (flat objs)[x.1], symA (flat objs)[x.1].s]) (Kp n₀ Bs) (fun ys => ys = List.finRange (flat objs).length) (fun pre => ∃ k, ∃ h : k ≤ (flat objs).length, pre = upto (flat objs).length k h) (flat objs).length w := fun l J Jx W hW hJ hJx hY h0 => by
  have e1 := (hW.cell (p := ⟨Bs, 0, none⟩) hBs).trans hc
  refine (iter1 n hn l Bs n₀ v objs hm hms J Jx hY W e1 (Nat.lt_of_lt_of_le hBs hW.size) (Nat.le_trans hn0 hW.size) (ho.same (Same.of hW hn0)) (fun pre W o h => abide_alloc hJ pre W o h) h0).mono ?_
  rintro e W' ⟨he, ⟨ys, rfl, hj⟩ | ⟨pre, ⟨k, hk, rfl⟩, hj⟩⟩
  · exact ⟨he, .inl ⟨_, rfl, hj⟩⟩
  · exact ⟨he, .inr ⟨_, ⟨k, hk, rfl⟩, hj⟩⟩
set_option maxRecDepth 100000 in
set_option maxHeartbeats 1000000 in
theorem symbols_ (p : Option Addr) (n c : Nat) (w : World) :
    Calls Try.prog 12 #[.slice p n c] w fun e w' => e = .returned (.func (.func 15) #[] #[.pointer (some ⟨w.heap.size, 0, none⟩)]) ∧ w' = w.alloc (.cells #[.slice p n c] 22) := by
  have hmf : ∀ (fn : Fn) (first cap : Array Value) (w : World), (Instr.makeFunc fn first cap).run Try.prog w = .ok (.func fn first cap) w := fun _ _ _ _ => rfl
  go_enter Try.func12, Try.ntmps12
  go_wp2
  go_ret
  exact ⟨rfl, rfl⟩
end RsI
end Go.Proofs.Ytlmblfkcmhgdaaa
