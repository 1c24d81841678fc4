/-
  What package code's fields, holds and signed answer, each a contract. Conditions: a use has fifteen cells; its step is from 0 to 2, its least and most lie within 2^21.
-/
import Derived.Test.YtieehjkmfmkfjaaCodeC
import Derived.BigGuardPart
import Derived.RegionTactic
import Derived.BigRegion
namespace Go.Proofs.Ytieehjkmfmkfjaa
open Go.RowKit
set_option linter.unusedVariables false
set_option linter.unusedSimpArgs false
namespace CG
open CC
theorem newAt (w : World) (o : Obj) (i : Nat) (hi : i = w.heap.size) : (w.alloc o).heap[i]? = some o := by
  subst hi
  show (w.heap.push o)[w.heap.size]? = some o
  simp
theorem size15 (cs : Array Value) (h : cs.size = 15) : (Try.prog.info? 115).map (·.size) = some cs.size := by
  have h2 : (Try.prog.info? 115).map (·.size) = some 15 := by kernel_rfl
  rw [h]; exact h2
section
variable {ops : Array Oper} {rest : List Oper} {o : Oper} {a : Act} {w : World} {Q : Exit → Act → World → Prop}
theorem load15 (hgd : o.guard = none) (x : Operand) (ho : o.op = .load 115 x) (g : Nat) (cs : Array Value) (h : cs.size = 15) (hx : a.eval x = .pointer (some ⟨g, 0, none⟩)) (hg : w.heap[g]? = some (.cells cs 115 (0, 0)))
    (hK : wpList Try.prog ops Q rest (a.put o.dst (.agg cs)) w) : wpList Try.prog ops Q (o :: rest) a w :=
  wpList_load_row hgd 115 x ho g hx 115 cs (0, 0) _ hg Try.underlying115 rfl (size15 cs h) hK
end
theorem is' (cs : Array Value) (s : Int) (hs : cs[2]? = some (.int .i64 s)) (w : World) : Calls Try.prog 90 #[.agg cs] w fun e w' => e = .returned (.bool (s != 0)) ∧ w' = w.alloc (.cells cs 115) := by
  go_enter Try.func90, Try.ntmps90
  go_wp2
  go_ret
  exact ⟨rfl, rfl⟩
/-- of a use: does n hold? -/
def holds (l m s n : Int) : Bool := s != 0 && (decide (l ≤ n) && (decide (n ≤ m) && n.tmod s == 0))
/-- what bits mean -/
def signed (l m s n : Int) : Int := if m < n then n - (m + s - l) else n
theorem ret_bool {a b : Bool} (h : a = b) : Ending.returned (.bool a) = .returned (.bool b) := by rw [h]
theorem b2 (w : World) (o o' : Obj) : Below w.heap.size w ((w.alloc o).alloc o') := ((Below.refl _ _).alloc (Nat.le_refl _) _).alloc (by simp) _
theorem holds_ (cs : Array Value) (hc : cs.size = 15) (l m s n : Int) (h0 : cs[0]? = some (.int .i64 l)) (h1 : cs[1]? = some (.int .i64 m)) (h2 : cs[2]? = some (.int .i64 s)) (hs : s = 0 ∨ s = 1 ∨ s = 2) (w : World) :
    Calls Try.prog 70 #[.agg cs, .int .i64 n] w fun e w' => e = .returned (.bool (holds l m s n)) ∧ w' = (w.alloc (.cells cs 115)).alloc (.cells cs 115) := by
  have HC := Lib.hid hc
  clear hc
  by_cases c0 : s = 0
  · subst c0
    clear hs
    have i := fun w => is' cs 0 h2 w
    go_enter Try.func70, Try.ntmps70
    go_wp2_with (first
      | ((with_reducible refine load15 rfl (.tmp 2) rfl w.heap.size cs HC.out ?xa ?xb ?_); (case xa => simp [go_sem]); (case xb => exact newAt _ _ _ rfl))
      | (go_at_call 90; refine (i _).mono ?_; rintro e w' ⟨rfl, rfl⟩))
    go_ret
    exact ⟨rfl, rfl⟩
  · have hp : 0 < s := by omega
    have i := fun w => is' cs s h2 w
    rw [show (s != 0) = true by simp [c0]] at i
    by_cases c1 : l ≤ n
    · by_cases c2 : n ≤ m
      · have H := Lib.hid (show holds l m s n = (n.tmod s == 0) by simp [holds, c0, c1, c2])
        go_enter Try.func70, Try.ntmps70
        go_wp2_with (first
          | ((with_reducible refine load15 rfl (.tmp 2) rfl w.heap.size cs HC.out ?ya ?yb ?_); (case ya => simp [go_sem]); (case yb => exact newAt _ _ _ rfl))
          | (go_at_call 90; refine (i _).mono ?_; rintro e w' ⟨rfl, rfl⟩))
        go_ret
        exact ⟨ret_bool H.out.symm, rfl⟩
      · have H := Lib.hid (show holds l m s n = false by simp [holds, c0, c1, c2])
        have d : decide (n ≤ m) = false := by simpa using c2
        go_enter Try.func70, Try.ntmps70
        go_wp2_with (first
          | ((with_reducible refine load15 rfl (.tmp 2) rfl w.heap.size cs HC.out ?za ?zb ?_); (case za => simp [go_sem]); (case zb => exact newAt _ _ _ rfl))
          | (go_at_call 90; refine (i _).mono ?_; rintro e w' ⟨rfl, rfl⟩))
        go_ret
        exact ⟨ret_bool H.out.symm, rfl⟩
    · have H := Lib.hid (show holds l m s n = false by simp [holds, c0, c1])
      have d : decide (l ≤ n) = false := by simpa using c1
      go_enter Try.func70, Try.ntmps70
      go_wp2_with (first
        | ((with_reducible refine load15 rfl (.tmp 2) rfl w.heap.size cs HC.out ?ua ?ub ?_); (case ua => simp [go_sem]); (case ub => exact newAt _ _ _ rfl))
        | (go_at_call 90; refine (i _).mono ?_; rintro e w' ⟨rfl, rfl⟩))
      go_ret
      exact ⟨ret_bool H.out.symm, rfl⟩
theorem signed_ (cs : Array Value) (l m s n : Int) (h0 : cs[0]? = some (.int .i64 l)) (h1 : cs[1]? = some (.int .i64 m)) (h2 : cs[2]? = some (.int .i64 s)) (hs : 0 ≤ s ∧ s ≤ 2) (hl : -2097152 ≤ l ∧ l ≤ 0) (hm : 0 ≤ m ∧ m ≤ 2097152) (hn : 0 ≤ n ∧ n ≤ 4294967296) (w : World) :
    Calls Try.prog 92 #[.agg cs, .int .i64 n] w fun e w' => e = .returned (.int .i64 (signed l m s n)) ∧ Below w.heap.size w w' := by
  by_cases c : m < n
  · have e := Lib.hid (show signed l m s n = n - (m + s - l) by rw [signed, if_pos c])
    go_enter Try.func92, Try.ntmps92
    go_wp2
    go_ret
    exact ⟨ret_int e.out.symm, (Below.refl _ _).alloc (Nat.le_refl _) _⟩
  · have e := Lib.hid (show signed l m s n = n by rw [signed, if_neg c])
    go_enter Try.func92, Try.ntmps92
    go_wp2
    go_ret
    exact ⟨ret_int e.out.symm, (Below.refl _ _).alloc (Nat.le_refl _) _⟩
theorem signed' (cs : Array Value) (l m s n : Int) (h0 : cs[0]? = some (.int .i64 l)) (h1 : cs[1]? = some (.int .i64 m)) (h2 : cs[2]? = some (.int .i64 s)) (hs : 0 ≤ s ∧ s ≤ 2) (hl : -2097152 ≤ l ∧ l ≤ 0) (hm : 0 ≤ m ∧ m ≤ 2097152) (hn : 0 ≤ n ∧ n ≤ 4294967296) (w : World) :
    Calls Try.prog 92 #[.agg cs, .int .i64 n] w fun e w' => e = .returned (.int .i64 (signed l m s n)) ∧ w' = w.alloc (.cells cs 115) := by
  by_cases c : m < n
  · have e := Lib.hid (show signed l m s n = n - (m + s - l) by rw [signed, if_pos c])
    go_enter Try.func92, Try.ntmps92
    go_wp2
    go_ret
    exact ⟨ret_int e.out.symm, rfl⟩
  · have e := Lib.hid (show signed l m s n = n by rw [signed, if_neg c])
    go_enter Try.func92, Try.ntmps92
    go_wp2
    go_ret
    exact ⟨ret_int e.out.symm, rfl⟩
/-- the pointers to an instruction's parts -/
theorem fields_ (b : Nat) (w : World) :
    Calls Try.prog 89 #[.pointer (some ⟨b, 0, none⟩)] w fun e w' => e = .returned (.agg #[.pointer (some ⟨b, 1, none⟩), .pointer (some ⟨b, 2, none⟩), .pointer (some ⟨b, 3, none⟩), .pointer (some ⟨b, 4, none⟩)]) ∧ Below w.heap.size w w' := by
  go_enter Try.func89, Try.ntmps89
  go_wp2
  go_region
  go_wp2
  exact bodyPost_ret (v := .agg #[.pointer (some ⟨b, 1, none⟩), .pointer (some ⟨b, 2, none⟩), .pointer (some ⟨b, 3, none⟩), .pointer (some ⟨b, 4, none⟩)]) (by simp [results, Try.results89, go_sem]) rfl ⟨rfl, ((Below.refl _ _).alloc (Nat.le_refl _) _).drew⟩
end CG
end Go.Proofs.Ytieehjkmfmkfjaa
