/-
  What package code's fields, holds and signed answer, each a contract. Conditions: a use has fifteen cells; its step is from 0 to 2, its least and most lie within 2^21.
-/
import Derived.Test.YtlmblfkcmhgdaaaCodeC
import Derived.BigGuardPart
import Derived.RegionTactic
import Derived.BigRegion
namespace Go.Proofs.Ytlmblfkcmhgdaaa
open Go.RowKit
set_option linter.unusedVariables false
set_option linter.unusedSimpArgs false
namespace CG
open CC
theorem newAt (w : World) (o : Obj) (i : Nat) (hi : i = w.heap.size) : (w.alloc o).heap[i]? = some o := by
  subst hi
  show (w.heap.push o)[w.heap.size]? = some o
  simp
theorem size15 (cs : Array Value) (h : cs.size = 15) : (Try.prog.info? 90).map (·.size) = some cs.size := by
  have h2 : (Try.prog.info? 90).map (·.size) = some 15 := by kernel_rfl
  rw [h]; exact h2
section
variable {ops : Array Oper} {rest : List Oper} {o : Oper} {a : Act} {w : World} {Q : Exit → Act → World → Prop}
theorem load15 (hgd : o.guard = none) (x : Operand) (ho : o.op = .load 90 x) (g : Nat) (cs : Array Value) (h : cs.size = 15) (hx : a.eval x = .pointer (some ⟨g, 0, none⟩)) (hg : w.heap[g]? = some (.cells cs 90 (0, 0)))
    (hK : wpList Try.prog ops Q rest (a.put o.dst (.agg cs)) w) : wpList Try.prog ops Q (o :: rest) a w :=
  wpList_load_row hgd 90 x ho g hx 90 cs (0, 0) _ hg Try.underlying90 rfl (size15 cs h) hK
end
/-- of a use: does n hold? -/
def holds (l m s n : Int) : Bool := s != 0 && (decide (l ≤ n) && (decide (n ≤ m) && n.tmod s == 0))
/-- what bits mean -/
def signed (l m s n : Int) : Int := if m < n then n - (m + s - l) else n
theorem ret_bool {a b : Bool} (h : a = b) : Ending.returned (.bool a) = .returned (.bool b) := by rw [h]
theorem b2 (w : World) (o o' : Obj) : Below w.heap.size w ((w.alloc o).alloc o') := ((Below.refl _ _).alloc (Nat.le_refl _) _).alloc (by simp) _
theorem signed_ (cs : Array Value) (l m s n : Int) (h0 : cs[0]? = some (.int .i64 l)) (h1 : cs[1]? = some (.int .i64 m)) (h2 : cs[2]? = some (.int .i64 s)) (hs : 0 ≤ s ∧ s ≤ 2) (hl : -2097152 ≤ l ∧ l ≤ 0) (hm : 0 ≤ m ∧ m ≤ 2097152) (hn : 0 ≤ n ∧ n ≤ 4294967296) (w : World) :
    Calls Try.prog 38 #[.agg cs, .int .i64 n] w fun e w' => e = .returned (.int .i64 (signed l m s n)) ∧ Below w.heap.size w w' := by
  by_cases c : m < n
  · have e := Lib.hid (show signed l m s n = n - (m + s - l) by rw [signed, if_pos c])
    go_enter Try.func38, Try.ntmps38
    go_wp2
    go_ret
    exact ⟨ret_int e.out.symm, (Below.refl _ _).alloc (Nat.le_refl _) _⟩
  · have e := Lib.hid (show signed l m s n = n by rw [signed, if_neg c])
    go_enter Try.func38, Try.ntmps38
    go_wp2
    go_ret
    exact ⟨ret_int e.out.symm, (Below.refl _ _).alloc (Nat.le_refl _) _⟩
theorem signed' (cs : Array Value) (l m s n : Int) (h0 : cs[0]? = some (.int .i64 l)) (h1 : cs[1]? = some (.int .i64 m)) (h2 : cs[2]? = some (.int .i64 s)) (hs : 0 ≤ s ∧ s ≤ 2) (hl : -2097152 ≤ l ∧ l ≤ 0) (hm : 0 ≤ m ∧ m ≤ 2097152) (hn : 0 ≤ n ∧ n ≤ 4294967296) (w : World) :
    Calls Try.prog 38 #[.agg cs, .int .i64 n] w fun e w' => e = .returned (.int .i64 (signed l m s n)) ∧ w' = w.alloc (.cells cs 90) := by
  by_cases c : m < n
  · have e := Lib.hid (show signed l m s n = n - (m + s - l) by rw [signed, if_pos c])
    go_enter Try.func38, Try.ntmps38
    go_wp2
    go_ret
    exact ⟨ret_int e.out.symm, rfl⟩
  · have e := Lib.hid (show signed l m s n = n by rw [signed, if_neg c])
    go_enter Try.func38, Try.ntmps38
    go_wp2
    go_ret
    exact ⟨ret_int e.out.symm, rfl⟩
/-- the pointers to an instruction's parts -/
theorem fields_ (b : Nat) (w : World) :
    Calls Try.prog 37 #[.pointer (some ⟨b, 0, none⟩)] w fun e w' => e = .returned (.agg #[.pointer (some ⟨b, 1, none⟩), .pointer (some ⟨b, 2, none⟩), .pointer (some ⟨b, 3, none⟩), .pointer (some ⟨b, 4, none⟩)]) ∧ Below w.heap.size w w' := by
  go_enter Try.func37, Try.ntmps37
  go_wp2
  go_region
  go_wp2
  exact bodyPost_ret (v := .agg #[.pointer (some ⟨b, 1, none⟩), .pointer (some ⟨b, 2, none⟩), .pointer (some ⟨b, 3, none⟩), .pointer (some ⟨b, 4, none⟩)]) (by simp [results, Try.results37, go_sem]) rfl ⟨rfl, ((Below.refl _ _).alloc (Nat.le_refl _) _).drew⟩
end CG
end Go.Proofs.Ytlmblfkcmhgdaaa
