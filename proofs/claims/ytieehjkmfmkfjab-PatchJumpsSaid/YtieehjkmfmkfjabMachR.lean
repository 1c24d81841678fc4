/-
  The machine's Word, Real, Place and Bytes: each a contract; and a program's stores and loads in the plain machine. No condition but those that are written at each.
-/
import Derived.Test.YtieehjkmfmkfjabMachQ
namespace Go.Proofs.Ytieehjkmfmkfjab
open Go.RowKit
set_option linter.unusedVariables false
set_option linter.unusedSimpArgs false
namespace MR
open MM MC MB MP MQ
section
variable {w : World} {b bm N : Nat} {s : St}
theorem word_ (A : At w b bm N s) (r : Nat) (hr : r < 32) : Calls Try.prog 17 #[.pointer (some ⟨b, 0, none⟩), .int .i64 r] w fun e w' => e = .returned (.int .u32 (s.x r)) ∧ w = w' := by
  have x1 := A.cx hr
  rw [Nat.add_comm] at x1
  have x2 := A.cx hr
  clear A
  go_enter Try.func17, Try.ntmps17
  go_wp2
  go_ret
  exact ⟨rfl, rfl⟩
theorem place_ (A : At w b bm N s) : Calls Try.prog 18 #[.pointer (some ⟨b, 0, none⟩)] w fun e w' => e = .returned (.int .u32 s.pc) ∧ w = w' := by
  have x1 := A.cpc
  clear A
  go_enter Try.func18, Try.ntmps18
  go_wp2
  go_ret
  exact ⟨rfl, rfl⟩
end
/-! ### stores and loads, plain -/
theorem num_lay (g : Nat → Int) (a : Nat) (v : Int) : ∀ n m, n ≤ m → num (lay g a m v) a n = v % 256 ^ n
  | 0, m, h => by simp [num]
  | n + 1, m, h => by
    unfold num
    rw [num_lay g a v n m (by omega)]
    have e : lay g a m v (a + n) = v / 256 ^ n % 256 := by
      unfold lay
      rw [if_pos ⟨by omega, by omega⟩, show a + n - a = n by omega]
    rw [e, Int.pow_succ]
    have hp : (0 : Int) < 256 ^ n := Int.pow_pos (by decide)
    generalize (256 : Int) ^ n = p at *
    have a1 := Int.emod_add_mul_ediv v p
    have a2 : 0 ≤ v % p ∧ v % p < p := ⟨Int.emod_nonneg _ (by omega), Int.emod_lt_of_pos _ hp⟩
    generalize v / p = q at *
    generalize v % p = r at *
    have a3 : q = q % 256 + 256 * (q / 256) := by omega
    have a4 : 0 ≤ q % 256 ∧ q % 256 ≤ 255 := by omega
    generalize q % 256 = d at *
    generalize q / 256 = u at *
    have a5 : v = (r + d * p) + (p * 256) * u := by rw [← a1, a3, Int.mul_add, Int.mul_assoc, Int.mul_comm d p, Int.add_assoc]
    have a6 : 0 ≤ d * p := Int.mul_nonneg a4.1 (by omega)
    have a7 : d * p ≤ 255 * p := Int.mul_le_mul_of_nonneg_right a4.2 (by omega)
    rw [a5, Int.add_mul_emod_self_left, Int.emod_eq_of_lt (by omega) (by omega)]
theorem _root_.Go.Proofs.Ytieehjkmfmkfjab.MQ.Ready.lay {l : List Ins} {s : St} {j j' : Nat} {pc : Int} (h : Ready l s j) (a n : Nat) (v : Int) (ha : 4 * l.length ≤ a) (hp : pc = ((4 * j' : Nat) : Int)) : Ready l (setpc { s with mem := lay s.mem a n v } pc) j' := by
  refine ⟨fun k hk => ?_, h.zero, h.go, hp⟩
  show MM.lay s.mem a n v k = _
  unfold MM.lay
  rw [if_neg (by omega)]
  exact h.code k hk
theorem _root_.Go.Proofs.Ytieehjkmfmkfjab.MQ.Ready.setf {l : List Ins} {s : St} {j j' : Nat} {rd pc : Int} {v : Nat} (h : Ready l s j) (hp : pc = ((4 * j' : Nat) : Int)) : Ready l (setpc (setf s rd v) pc) j' := ⟨h.code, h.zero, h.go, hp⟩
end MR
end Go.Proofs.Ytieehjkmfmkfjab
