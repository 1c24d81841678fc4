/-
  The program's joined: the number that at most eight bytes make, the highest first: a contract. Condition: they are bytes, and lie in one block.
-/
import Derived.Test.YtieehjkmfmkfjaaGreatDoorObjR
import Derived.WalkKit
import Derived.Lib.Hide
import Derived.Laws.BitsAllLaws
import Derived.IntWalk
namespace Go.Proofs.YtieehjkmfmkfjaaGreatDoor
open Go.RowKit
set_option linter.unusedVariables false
set_option linter.unusedSimpArgs false
namespace OJ
def numB (l : List Int) : Nat := l.foldl (fun n b => n * 256 + b.toNat) 0
theorem numB_snoc (l : List Int) (k : Nat) (h : k < l.length) : numB (l.take (k + 1)) = numB (l.take k) * 256 + l[k].toNat := by
  unfold numB
  rw [List.take_succ_eq_append_getElem h, List.foldl_append]
  rfl
theorem numB_lt (l : List Int) (h : Bytes l) : ∀ k, k ≤ l.length → numB (l.take k) < 256 ^ k := by
  intro k
  induction k with
  | zero => intro _; simp [numB]
  | succ k ih =>
    intro hk
    have h1 := ih (by omega)
    have h2 := h l[k] (List.getElem_mem (by omega))
    rw [numB_snoc l k (by omega), Nat.pow_succ]
    omega
set_option maxRecDepth 100000 in
set_option maxHeartbeats 4000000 in
theorem joined_ (w : World) (b o c : Nat) (xs : List Int) (hb : Bytes xs) (hl : xs.length ≤ 8) (hr : Row .u8 w b o xs) :
    Calls Tryz.prog 48 #[.slice (some ⟨b, o, none⟩) xs.length c] w fun e w' => e = .returned (.int .u64 (numB xs : Nat)) ∧ w = w' := by
  have HR := Lib.hid hr
  have HB := Lib.hid hb
  clear hr hb
  go_enter Tryz.func48, Tryz.ntmps48
  go_wp2
  go_loop [3, 8] (fun n i => ∃ k : Nat, k ≤ xs.length ∧ i = .int .i64 k ∧ n = .int .u64 (numB (xs.take k) : Nat)) (fun _ i => xs.length - (intOf i).toNat)
  case atStart => exact ⟨0, Nat.zero_le _, rfl, rfl⟩
  case round =>
    obtain ⟨k, hk, rfl, rfl⟩ := hrel
    by_cases hlt : k < xs.length
    · have hc := HR.out k _ (List.getElem?_eq_getElem hlt)
      have hx := HB.out xs[k] (List.getElem_mem hlt)
      have h1 := numB_lt xs HB.out k hk
      have hp : 256 ^ k ≤ 256 ^ 7 := Nat.pow_le_pow_right (by omega) (by omega)
      have HS := Lib.hid (numB_snoc xs k hlt)
      generalize numB (xs.take k) = n at *
      generalize xs[k] = x at *
      have hn : n < 72057594037927936 := Nat.lt_of_lt_of_le h1 hp
      clear h1 hp
      obtain ⟨x, rfl⟩ : ∃ y : Nat, x = y := ⟨x.toNat, by omega⟩
      go_wp2
      refine ⟨⟨k + 1, by omega, by go_num, ?_⟩, by simp [intOf]; omega⟩
      rw [HS.out]
      have e : bits .or .u64 ((n : Int) * 256) (x : Int) = ((n * 256 + x : Nat) : Int) := by
        rw [show (n : Int) * 256 = ((n * 256 : Nat) : Int) by omega, u64_or_nat _ _ (by omega) (by omega)]
        have h8 : x < 2 ^ 8 := by show x < 256; omega
        have := Nat.two_pow_add_eq_or_of_lt h8 n
        rw [show n * 256 = 2 ^ 8 * n by omega, ← this]
      rw [e]
      congr 1
    · obtain rfl : k = xs.length := by omega
      go_wp2
      go_ret
      exact ⟨rfl, rfl⟩
theorem joined8 (w : World) (b o : Nat) (xs : List Int) (hb : Bytes xs) (hl : xs.length = 8) (hr : Row .u8 w b o xs) :
    Calls Tryz.prog 48 #[.slice (some ⟨b, o, none⟩) 8 8] w fun e w' => e = .returned (.int .u64 (numB xs : Nat)) ∧ w = w' := by
  have := joined_ w b o 8 xs hb (by omega) hr
  rwa [hl] at this
end OJ
end Go.Proofs.YtieehjkmfmkfjaaGreatDoor
