/-
  slices.Chunk of bytes, eight at a time: what its iterator hands over, at every loop body that keeps what lay there. Condition: there are eight times as many bytes as pieces.
-/
import Derived.Test.YtieehjkmfmkfjaaGreatDoorObjL
import Derived.Test.YtieehjkmfmkfjaaGreatDoorObjJ
import Derived.RangeFuncNested
import Derived.RangeFuncBound
import Derived.RangeFuncCalls
import Derived.RangeFuncLeaves
import Derived.Shelf.RegionOpen
import Derived.OwnWalkIn
import Derived.TacticsInMore
import Derived.LoopNIn
import Derived.LoopIn
import Derived.Deep.QuietTactic
import Derived.BigQuiet
namespace Go.Proofs.YtieehjkmfmkfjaaGreatDoor
open Go.RowKit
set_option linter.unusedVariables false
set_option linter.unusedSimpArgs false
namespace OC
open OJ
attribute [local go_sem] Oper.semAt_some
def piece (b o : Nat) (k : Nat) : Value := .slice (some ⟨b, o + 8 * k, none⟩) 8 8
/-- the first k numbers below m -/
def upto (m k : Nat) (h : k ≤ m) : List (Fin m) := (List.finRange m).take k
theorem upto_succ (m k : Nat) (h : k < m) : upto m (k + 1) h = upto m k (Nat.le_of_lt h) ++ [⟨k, h⟩] := by
  unfold upto
  rw [List.take_succ_eq_append_getElem (by simpa using h)]
  simp
theorem upto_length (m k : Nat) (h : k ≤ m) : (upto m k h).length = k := by simp [upto, h]
theorem upto_all (m : Nat) : upto m m (Nat.le_refl _) = List.finRange m := by
  unfold upto
  rw [List.take_of_length_le (by simp)]
/-- what a round keeps: the two blocks that the iterator reads -/
def Kp (Bs Bn : Nat) (W W' : World) : Prop := ∀ k, k = Bs ∨ k = Bn → W'.heap[k]? = W.heap[k]?
theorem Kp.refl (Bs Bn : Nat) (W : World) : Kp Bs Bn W W := fun _ _ => rfl
theorem Kp.trans {Bs Bn : Nat} {U V W : World} (h : Kp Bs Bn U V) (k : Kp Bs Bn V W) : Kp Bs Bn U W := fun i hi => (k i hi).trans (h i hi)
theorem Kp.cell {Bs Bn : Nat} {W W' : World} (h : Kp Bs Bn W W') {k : Nat} (hk : k = Bs ∨ k = Bn) (o : Nat) : W'.cell? ⟨k, o, none⟩ = W.cell? ⟨k, o, none⟩ := by
  unfold World.cell?
  rw [show W'.heap[(⟨k, o, none⟩ : Addr).block]? = W.heap[(⟨k, o, none⟩ : Addr).block]? from h k hk]
theorem Kp.put {Bs Bn : Nat} (W : World) (l : Nat) (o : Obj) (h1 : l ≠ Bs) (h2 : l ≠ Bn) : Kp Bs Bn W (W.putObj l o) := by
  rintro k (rfl | rfl)
  · exact Array.getElem?_setIfInBounds_ne h1
  · exact Array.getElem?_setIfInBounds_ne h2
set_option maxRecDepth 100000 in
set_option maxHeartbeats 4000000 in
theorem chunk1 (n : Nat) (hn : 1 ≤ n) (l Bs Bn b off m cap : Nat) (hm : 8 * m ≤ 1048576) (hcap : 8 * m ≤ cap) (hcm : cap ≤ maxLen) (J Jx : List (Fin m) → World → Prop)
    (hY : ∀ pre x W, J pre W → pre.length < m → YieldAt Fence.wide (n - 1) Tryz.prog l #[piece b off x.1] W fun e W' =>
      (e = .returned (.bool true) ∧ J (pre ++ [x]) W' ∧ Kp Bs Bn W W') ∨ (e = .returned (.bool false) ∧ Jx (pre ++ [x]) W'))
    (W : World) (hBs : W.cell? ⟨Bs, 0, none⟩ = some (.slice (some ⟨b, off, none⟩) (8 * m) cap)) (hBn : W.cell? ⟨Bn, 0, none⟩ = some (.int .i64 8)) (hJd : ∀ pre W q, J pre W → J pre (W.drewN q)) (h0 : J [] W) :
    CallsIn Fence.wide n Tryz.prog 66 #[.func (.yield l) #[] #[], .pointer (some ⟨Bs, 0, none⟩), .pointer (some ⟨Bn, 0, none⟩)] W fun e W' => (∃ v, e = .returned v) ∧
      ((∃ ys, ys = List.finRange m ∧ J ys W') ∨ (∃ pre, (∃ k, ∃ h : k ≤ m, pre = upto m k h) ∧ Jx pre W')) := by
  refine callsIn_of_wp Tryz.func66 rfl trivial ?_ rfl
  simp only [Tryz.ntmps66, List.size_toArray, List.length_cons, List.length_nil, Nat.reduceAdd, Nat.reduceSub, Array.replicate_succ, Array.replicate_zero, List.push_toArray, List.append_toArray, List.nil_append, List.cons_append]
  gi_wp2
  gi_loopw [4] (fun i wr => ∃ k : Nat, ∃ h : k ≤ m, i = .int .i64 (8 * (k : Int)) ∧ J (upto m k h) wr ∧ Kp Bs Bn W wr)
    (fun i _ => 8 * m - (intOf i).toNat)
  case atStart => exact ⟨0, Nat.zero_le _, rfl, h0, Kp.refl _ _ _⟩
  case round =>
    obtain ⟨k, hk, rfl, hJs, hnx⟩ := hrel
    have c1 : wr.cell? ⟨Bs, 0, none⟩ = some (.slice (some ⟨b, off, none⟩) (8 * m) cap) := (hnx.cell (.inl rfl) 0).trans hBs
    have c2 : wr.cell? ⟨Bn, 0, none⟩ = some (.int .i64 8) := (hnx.cell (.inr rfl) 0).trans hBn
    by_cases hlt : k < m
    · gi_wp2
      refine wpIn_wide.2 ?_
      go_quiet (fail)
      have hJq := hJd _ _ nq hJs
      have hbq : Kp Bs Bn W (wr.drewN nq) := hnx
      have d1 : (wr.drewN nq).cell? ⟨Bs, 0, none⟩ = some (.slice (some ⟨b, off, none⟩) (8 * m) cap) := c1
      have d2 : (wr.drewN nq).cell? ⟨Bn, 0, none⟩ = some (.int .i64 8) := c2
      obtain ⟨fn, tmps, assign, body, hy, hR⟩ := hY _ ⟨k, hlt⟩ _ hJq (by rw [upto_length]; exact hlt)
      rw [show (min 8 ((8 * m - 8 * k : Nat) : Int)) = 8 by omega]
      generalize wr.drewN nq = wq at *
      unfold piece at hy
      dsimp only at hy
      gi_wp2
      refine hR.mono ?_
      rintro e W3 (⟨rfl, hJ3, hk3⟩ | ⟨rfl, hJx3⟩)
      · have c3 : W3.cell? ⟨Bn, 0, none⟩ = some (.int .i64 8) := (hk3.cell (.inr rfl) 0).trans d2
        gi_wp2
        go_roundw
        case rel => exact ⟨k + 1, by omega, by congr 1 <;> omega, by rw [upto_succ _ _ hlt]; exact hJ3, hbq.trans hk3⟩
        case measure => simp [intOf]; omega
      · gi_wp2
        refine bodyPost_ret (results_none rfl _ _ _) rfl ?_
        exact ⟨⟨_, rfl⟩, .inr ⟨_, ⟨k + 1, by omega, (upto_succ _ _ hlt).symm⟩, hJx3⟩⟩
    · obtain rfl : k = m := by omega
      gi_wp2
      go_end0
      exact ⟨⟨_, rfl⟩, .inl ⟨_, upto_all _, hJs⟩⟩
set_option maxRecDepth 100000 in
set_option maxHeartbeats 1000000 in
theorem chunk0 (n : Nat) (l Bs Bn : Nat) (J : List (Fin 0) → World → Prop) (W : World) (p : Option Addr) (cap : Nat) (hBs : W.cell? ⟨Bs, 0, none⟩ = some (.slice p 0 cap)) (h0 : J [] W) :
    CallsIn Fence.wide n Tryz.prog 66 #[.func (.yield l) #[] #[], .pointer (some ⟨Bs, 0, none⟩), .pointer (some ⟨Bn, 0, none⟩)] W fun e W' => (∃ v, e = .returned v) ∧ J [] W' := by
  refine callsIn_of_wp Tryz.func66 rfl trivial ?_ rfl
  simp only [Tryz.ntmps66, List.size_toArray, List.length_cons, List.length_nil, Nat.reduceAdd, Nat.reduceSub, Array.replicate_succ, Array.replicate_zero, List.push_toArray, List.append_toArray, List.nil_append, List.cons_append]
  gi_wp2
  gi_loopw [4] (fun i wr => i = .int .i64 0 ∧ J [] wr ∧ wr = W) (fun _ _ => 0)
  case atStart => exact ⟨rfl, h0, rfl⟩
  case round =>
    obtain ⟨rfl, hJs, rfl⟩ := hrel
    gi_wp2
    go_end0
    exact ⟨⟨_, rfl⟩, hJs⟩
/-- the bytes that are cut into pieces: in a block, or none -/
def Cut (w : World) (n₀ : Nat) (v : Value) (m : Nat) (xs : List Int) : Prop :=
  xs.length = 8 * m ∧ (∃ p c, v = .slice p (8 * m) c) ∧ (0 < m → ∃ b o c, v = .slice (some ⟨b, o, none⟩) (8 * m) c ∧ b < n₀ ∧ 8 * m ≤ c ∧ c ≤ maxLen ∧ Row .u8 w b o xs)
/-- where the pieces lie -/
def at_ (v : Value) : Nat × Nat := match v with | .slice (some a) _ _ => (a.block, a.off) | _ => (0, 0)
theorem abide_drewN {β : Type} {B : Nat} {J : β → World → Prop} (h : AbidesFrom B J) (s : β) (W : World) (q : Nat) (hJ : J s W) : J s (W.drewN q) :=
  h s W (W.drewN q) none hJ ⟨rfl, rfl, rfl, Nat.le_refl _, fun _ _ _ => rfl⟩ (fun _ e => by cases e)
theorem chunk_stops (n : Nat) (hn : 1 ≤ n) (Bs Bn n₀ m : Nat) (v : Value) (xs : List Int) (hm : 8 * m ≤ 1048576) (w : World) (hBs : Bs < w.heap.size) (hBn : Bn < w.heap.size)
    (hc : w.cell? ⟨Bs, 0, none⟩ = some v) (hc2 : w.cell? ⟨Bn, 0, none⟩ = some (.int .i64 8)) (hI : Cut w n₀ v m xs) :
    SeqStopsK Fence.wide n Tryz.prog 66 #[.pointer (some ⟨Bs, 0, none⟩), .pointer (some ⟨Bn, 0, none⟩)] (fun x : Fin m => #[piece (at_ v).1 (at_ v).2 x.1]) (Kp Bs Bn) (fun ys => ys = List.finRange m) (fun _ => True) m w := fun l J Jx W hW hJ hJx hY h0 => by
  have e1 := (hW.cell (p := ⟨Bs, 0, none⟩) hBs).trans hc
  have e2 := (hW.cell (p := ⟨Bn, 0, none⟩) hBn).trans hc2
  obtain ⟨hl, ⟨p, c, rfl⟩, hr⟩ := hI
  by_cases h : 0 < m
  · obtain ⟨b, o, c', hv, hbn, h1, h2, h3⟩ := hr h
    cases hv
    refine (chunk1 n hn l Bs Bn b o m c hm h1 h2 J Jx hY W e1 e2 (fun pre W q h => abide_drewN hJ pre W q h) h0).mono ?_
    rintro e W' ⟨he, ⟨ys, rfl, hj⟩ | ⟨pre, ⟨k, hk, rfl⟩, hj⟩⟩
    · exact ⟨he, .inl ⟨_, rfl, hj⟩⟩
    · exact ⟨he, .inr ⟨_, trivial, hj⟩⟩
  · obtain rfl : m = 0 := by omega
    exact (chunk0 n l Bs Bn J W p c e1 h0).mono fun e W' ⟨he, hj⟩ => ⟨he, .inl ⟨_, rfl, hj⟩⟩
set_option maxRecDepth 100000 in
set_option maxHeartbeats 1000000 in
theorem chunk_ (p : Option Addr) (n c : Nat) (w : World) :
    Calls Tryz.prog 47 #[.slice p n c, .int .i64 8] w fun e w' => e = .returned (.func (.func 66) #[] #[.pointer (some ⟨w.heap.size, 0, none⟩), .pointer (some ⟨w.heap.size + 1, 0, none⟩)]) ∧ w' = (w.alloc (.cells #[.slice p n c] 23)).alloc (.cells #[.int .i64 8] 3) := by
  go_enter Tryz.func47, Tryz.ntmps47
  go_wp2
  go_ret
  exact ⟨rfl, rfl⟩
end OC
end Go.Proofs.YtieehjkmfmkfjaaGreatDoor
