/-
  The machine in memory, and what its small functions answer, each a contract. No condition but those that are written at each.
-/
import Derived.Test.YtieehjkmfmkfjabRows
import Derived.Test.YtieehjkmfmkfjabMachM
import Derived.ProofKit
import Derived.OpenShut
import Derived.WalkKit
import Derived.WalkLawsBesides
import Derived.WalkSpells
import Derived.Outline
import Derived.Below
import Derived.Laws.Rows
import Derived.Laws.Tables
import Derived.Laws.AppendOwn
import Derived.Deep.MidRow
import Derived.Deep.Draws
import Derived.Deep.QuietTactic
import Derived.BigQuiet
import Derived.Lib.Hide
namespace Go.Proofs.Ytieehjkmfmkfjab
open Go.RowKit
set_option linter.unusedVariables false
set_option linter.unusedSimpArgs false
namespace MC
open MM
theorem ret_int {k : IntKind} {a b : Int} (h : a = b) : Ending.returned (.int k a) = .returned (.int k b) := by rw [h]
theorem ret_slice {p : Option Addr} {a b c : Nat} (h : a = b) : Ending.returned (.slice p a c) = .returned (.slice p b c) := by rw [h]
/-! ### rows of cells -/
def row (n : Nat) (g : Nat → Value) : Array Value := ((List.range n).map g).toArray
theorem row_size (n : Nat) (g : Nat → Value) : (row n g).size = n := by simp [row]
theorem row_get {n i : Nat} (g : Nat → Value) (h : i < n) : (row n g)[i]? = some (g i) := by simp [row, h]
theorem row_ext {n : Nat} {g g' : Nat → Value} (h : ∀ i, i < n → g i = g' i) : row n g = row n g' := by
  unfold row
  congr 1
  exact List.map_congr_left fun i hi => h i (List.mem_range.1 hi)
theorem row_set {n i : Nat} (g : Nat → Value) (v : Value) (h : i < n) : (row n g).setIfInBounds i v = row n (upd g i v) := by
  apply Array.ext
  · simp [row]
  · intro j h1 h2
    simp [row] at h2
    rw [Array.getElem_setIfInBounds]
    · by_cases e : i = j
      · subst e; simp [row, upd]
      · rw [if_neg e]; simp [row, upd]; intro e'; exact absurd e'.symm e
    · simp [row]; omega
def cellAt (bm N : Nat) (s : St) (j : Nat) : Value :=
  if j = 0 then .slice (some ⟨bm, 0, none⟩) N N
  else if j ≤ 32 then .int .u32 (s.x (j - 1))
  else if j ≤ 64 then .int .u64 (s.f (j - 33) : Nat)
  else if j = 65 then .int .u32 s.pc
  else if j = 66 then .int .i64 s.state else undef
/-- the machine's own cells -/
def cells (bm N : Nat) (s : St) : Array Value := row 67 (cellAt bm N s)
/-- the memory's cells -/
def bytes (N : Nat) (s : St) : Array Value := row N fun k => .int .u8 (s.mem k)
theorem cell_0 (bm N : Nat) (s : St) : (cells bm N s)[0]? = some (.slice (some ⟨bm, 0, none⟩) N N) := row_get _ (by omega)
theorem cell_x (bm N : Nat) (s : St) {i : Nat} (h : i < 32) : (cells bm N s)[1 + i]? = some (.int .u32 (s.x i)) := by
  unfold cells
  rw [row_get _ (by omega)]; unfold cellAt
  rw [if_neg (by omega), if_pos (by omega), show 1 + i - 1 = i by omega]
theorem cell_f (bm N : Nat) (s : St) {i : Nat} (h : i < 32) : (cells bm N s)[33 + i]? = some (.int .u64 (s.f i : Nat)) := by
  unfold cells
  rw [row_get _ (by omega)]; unfold cellAt
  rw [if_neg (by omega), if_neg (by omega), if_pos (by omega), show 33 + i - 33 = i by omega]
theorem cell_pc (bm N : Nat) (s : St) : (cells bm N s)[65]? = some (.int .u32 s.pc) := row_get _ (by omega)
theorem cell_state (bm N : Nat) (s : St) : (cells bm N s)[66]? = some (.int .i64 s.state) := row_get _ (by omega)
theorem set_x (bm N : Nat) (s : St) {i : Nat} (h : i < 32) (v : Int) : (cells bm N s).setIfInBounds (1 + i) (.int .u32 v) = cells bm N { s with x := upd s.x i v } := by
  unfold cells
  rw [row_set _ _ (by omega)]
  refine row_ext fun j hj => ?_
  unfold upd cellAt
  by_cases e : j = 1 + i
  · rw [if_pos e, if_neg (by omega), if_pos (by omega)]; simp only; rw [if_pos (by omega)]
  · rw [if_neg e]
    by_cases h0 : j = 0
    · rw [if_pos h0, if_pos h0]
    · rw [if_neg h0, if_neg h0]
      by_cases h1 : j ≤ 32
      · rw [if_pos h1, if_pos h1]; simp only; rw [if_neg (by omega)]
      · rw [if_neg h1, if_neg h1]
theorem set_f (bm N : Nat) (s : St) {i : Nat} (h : i < 32) (v : Nat) : (cells bm N s).setIfInBounds (33 + i) (.int .u64 (v : Nat)) = cells bm N { s with f := upd s.f i v } := by
  unfold cells
  rw [row_set _ _ (by omega)]
  refine row_ext fun j hj => ?_
  unfold upd cellAt
  by_cases e : j = 33 + i
  · rw [if_pos e, if_neg (by omega), if_neg (by omega), if_pos (by omega)]; simp only; rw [if_pos (by omega)]
  · rw [if_neg e]
    by_cases h0 : j = 0
    · rw [if_pos h0, if_pos h0]
    · rw [if_neg h0, if_neg h0]
      by_cases h1 : j ≤ 32
      · rw [if_pos h1, if_pos h1]
      · rw [if_neg h1, if_neg h1]
        by_cases h2 : j ≤ 64
        · rw [if_pos h2, if_pos h2]; simp only; rw [if_neg (by omega)]
        · rw [if_neg h2, if_neg h2]
theorem set_pc (bm N : Nat) (s : St) (v : Int) : (cells bm N s).setIfInBounds 65 (.int .u32 v) = cells bm N (setpc s v) := by
  unfold cells
  rw [row_set _ _ (by omega)]
  refine row_ext fun j hj => ?_
  unfold upd cellAt setpc
  by_cases e : j = 65
  · subst e; rfl
  · rw [if_neg e]; simp only [e, if_false]
theorem set_state (bm N : Nat) (s : St) (v : Int) : (cells bm N s).setIfInBounds 66 (.int .i64 v) = cells bm N (setst s v) := by
  unfold cells
  rw [row_set _ _ (by omega)]
  refine row_ext fun j hj => ?_
  unfold upd cellAt setst
  by_cases e : j = 66
  · subst e; rfl
  · rw [if_neg e]; simp only [e, if_false]
theorem byte_at {N i : Nat} (s : St) (h : i < N) : (bytes N s)[i]? = some (.int .u8 (s.mem i)) := row_get _ h
/-! ### the machine in memory -/
structure At (w : World) (b bm N : Nat) (s : St) : Prop where
  head : w.heap[b]? = some (.cells (cells bm N s) 81 (0, 0))
  mem : w.heap[bm]? = some (.cells (bytes N s) 5 (0, 0))
  ne : b ≠ bm
/-- of the blocks that there were all but b and bm are as they were below B -/
structure Own (B b bm : Nat) (w w' : World) : Prop where
  os : w'.os = w.os
  tape : w'.tape = w.tape
  output : w'.output = w.output
  size : w.heap.size ≤ w'.heap.size
  block : ∀ k, k < B → k ≠ b → k ≠ bm → w'.heap[k]? = w.heap[k]?
theorem Own.refl (B b bm : Nat) (w : World) : Own B b bm w w := ⟨rfl, rfl, rfl, Nat.le_refl _, fun _ _ _ _ => rfl⟩
theorem Own.trans {B b bm : Nat} {u v w : World} (h : Own B b bm u v) (k : Own B b bm v w) : Own B b bm u w :=
  ⟨k.os.trans h.os, k.tape.trans h.tape, k.output.trans h.output, Nat.le_trans h.size k.size, fun i hi h1 h2 => (k.block i hi h1 h2).trans (h.block i hi h1 h2)⟩
theorem Own.of_below {B b bm : Nat} {w w' : World} (h : Below w.heap.size w w') (hB : B ≤ w.heap.size) : Own B b bm w w' := ⟨h.os, h.tape, h.output, h.size, fun k hk _ _ => h.block k (by omega)⟩
theorem Own.below {B B' b bm : Nat} {w w' : World} (h : Own B b bm w w') (h1 : B' ≤ B) (h2 : B' ≤ b) (h3 : B' ≤ bm) : Below B' w w' := ⟨h.os, h.tape, h.output, h.size, fun k hk => h.block k (by omega) (by omega) (by omega)⟩
theorem lt_of_get {w : World} {b : Nat} {o : Obj} (h : w.heap[b]? = some o) : b < w.heap.size := (Array.getElem?_eq_some_iff.1 h).1
theorem At.c0 {w : World} {b bm N : Nat} {s : St} (h : At w b bm N s) : w.cell? ⟨b, 0, none⟩ = some (.slice (some ⟨bm, 0, none⟩) N N) := (cell_of_row w b 0 _ _ _ h.head).trans (cell_0 _ _ _)
theorem At.cx {w : World} {b bm N : Nat} {s : St} (h : At w b bm N s) {i : Nat} (hi : i < 32) : w.cell? ⟨b, 1 + i, none⟩ = some (.int .u32 (s.x i)) := (cell_of_row w b _ _ _ _ h.head).trans (cell_x _ _ _ hi)
theorem At.cf {w : World} {b bm N : Nat} {s : St} (h : At w b bm N s) {i : Nat} (hi : i < 32) : w.cell? ⟨b, 33 + i, none⟩ = some (.int .u64 (s.f i : Nat)) := (cell_of_row w b _ _ _ _ h.head).trans (cell_f _ _ _ hi)
theorem At.cpc {w : World} {b bm N : Nat} {s : St} (h : At w b bm N s) : w.cell? ⟨b, 65, none⟩ = some (.int .u32 s.pc) := (cell_of_row w b _ _ _ _ h.head).trans (cell_pc _ _ _)
theorem At.cst {w : World} {b bm N : Nat} {s : St} (h : At w b bm N s) : w.cell? ⟨b, 66, none⟩ = some (.int .i64 s.state) := (cell_of_row w b _ _ _ _ h.head).trans (cell_state _ _ _)
theorem At.cm {w : World} {b bm N : Nat} {s : St} (h : At w b bm N s) {i : Nat} (hi : i < N) : w.cell? ⟨bm, i, none⟩ = some (.int .u8 (s.mem i)) := (cell_of_row w bm _ _ _ _ h.mem).trans (byte_at s hi)
theorem At.fb {w : World} {b bm N : Nat} {s : St} (h : At w b bm N s) (j : Nat) : w.frozen? ⟨b, j, none⟩ = false := frozen_of_row w b j _ _ h.head
theorem At.fm {w : World} {b bm N : Nat} {s : St} (h : At w b bm N s) (j : Nat) : w.frozen? ⟨bm, j, none⟩ = false := frozen_of_row w bm j _ _ h.mem
theorem At.kept {w w' : World} {b bm N : Nat} {s : St} (h : At w b bm N s) (h1 : w'.heap[b]? = w.heap[b]?) (h2 : w'.heap[bm]? = w.heap[bm]?) : At w' b bm N s := ⟨h1.trans h.head, h2.trans h.mem, h.ne⟩
theorem At.set {w : World} {b bm N : Nat} {s s' : St} (h : At w b bm N s) (j : Nat) (v : Value) (hc : (cells bm N s).setIfInBounds j v = cells bm N s') (hm : s'.mem = s.mem) : At (w.setCell ⟨b, j, none⟩ v) b bm N s' :=
  ⟨by rw [heap_setCell_same w b j _ _ v h.head, hc], by rw [heap_setCell_other w ⟨b, j, none⟩ bm v (fun e => h.ne e.symm), h.mem]; unfold bytes; rw [hm], h.ne⟩
theorem Own.set {B b bm : Nat} (w : World) (j : Nat) (v : Value) : Own B b bm w (w.setCell ⟨b, j, none⟩ v) :=
  ⟨rfl, rfl, rfl, by simp [World.setCell], fun k _ hk _ => heap_setCell_other w ⟨b, j, none⟩ k v hk⟩
theorem mod_eq (a n : Int) (h0 : 0 ≤ a) : a.tmod n = a % n := Int.tmod_eq_emod_of_nonneg h0
set_option maxHeartbeats 400000 in
theorem bytes_yes (br b bm N : Nat) (hN : N ≤ 2097152) (a n : Int) (ha : 0 ≤ a ∧ a ≤ 4294967295) (hn : 1 ≤ n ∧ n ≤ 8) (hf : fit N a n = true) (w : World) (h1 : w.cell? ⟨br, 0, none⟩ = some (.pointer (some ⟨b, 0, none⟩))) (h2 : w.cell? ⟨b, 0, none⟩ = some (.slice (some ⟨bm, 0, none⟩) N N)) :
    Calls Try.prog 52 #[.pointer (some ⟨br, 0, none⟩), .int .u32 a, .int .i64 n] w fun e w' => e = .returned (.slice (some ⟨bm, a.toNat, none⟩) n.toNat (N - a.toNat)) ∧ w = w' := by
  have hf' : a % n = 0 ∧ a + n ≤ N := by simpa [fit] using hf
  obtain ⟨f1, f2⟩ := hf'
  have f1' : (a % n != 0) = false := by simp [f1]
  have f3 := Lib.hid f1
  clear f1 hf
  go_enter Try.func52, Try.ntmps52
  go_wp2
  go_ret
  exact ⟨ret_slice (by omega), rfl⟩
set_option maxHeartbeats 400000 in
/-- a place that isn't there: what is thrown -/
theorem bytes_no (br b bm N : Nat) (hN : N ≤ 2097152) (a n : Int) (ha : 0 ≤ a ∧ a ≤ 4294967295) (hn : 1 ≤ n ∧ n ≤ 8) (hf : fit N a n = false) (w : World) (h1 : w.cell? ⟨br, 0, none⟩ = some (.pointer (some ⟨b, 0, none⟩))) (h2 : w.cell? ⟨b, 0, none⟩ = some (.slice (some ⟨bm, 0, none⟩) N N)) :
    Calls Try.prog 52 #[.pointer (some ⟨br, 0, none⟩), .int .u32 a, .int .i64 n] w fun e w' => e = .panicked [{ v := .iface 97 (.int .i64 3), recovered := false }] ∧ w = w' := by
  have hf' : ¬ (a % n = 0 ∧ a + n ≤ N) := by simpa [fit] using hf
  clear hf
  by_cases f1 : a % n = 0
  · have f1' : (a % n != 0) = false := by simp [f1]
    have f2 : (N : Int) < a + n := by omega
    clear f1 hf'
    go_enter Try.func52, Try.ntmps52
    go_wp2
    exact ⟨rfl, rfl, rfl⟩
  · have f1' : (a % n != 0) = true := by simp [f1]
    clear f1 hf'
    go_enter Try.func52, Try.ntmps52
    go_wp2
    exact ⟨rfl, rfl, rfl⟩
/-! ### numbers of bytes -/
theorem u64_mod (n : Int) : IntKind.u64.wrap n = n % 18446744073709551616 := by simp [IntKind.wrap, IntKind.bits, IntKind.signed]
theorem u64_or_nat (a b : Nat) (ha : a < 18446744073709551616) (hb : b < 18446744073709551616) : bits .or .u64 (a : Int) (b : Int) = ((a ||| b : Nat) : Int) := by
  have e : ∀ c : Nat, c < 18446744073709551616 → (BitVec.ofInt 64 (c : Int)).toNat = c := by
    intro c hc
    rw [BitVec.toNat_ofInt]
    omega
  show IntKind.u64.wrap ((BitVec.ofInt 64 (a : Int) ||| BitVec.ofInt 64 (b : Int)).toNat : Int) = _
  rw [BitVec.toNat_or, e a ha, e b hb]
  have h : a ||| b < 2 ^ 64 := Nat.or_lt_two_pow ha hb
  have h' : a ||| b < 18446744073709551616 := h
  rw [u64_mod]
  omega
theorem pow256 (k : Nat) : (256 : Nat) ^ k = 2 ^ (8 * k) := by rw [Nat.pow_mul]
theorem or_num {k : Nat} (hk : k ≤ 7) (p b : Nat) (hp : p < 256 ^ k) (hb : b ≤ 255) : bits .or .u64 (p : Int) ((b * 256 ^ k : Nat) : Int) = ((p + b * 256 ^ k : Nat) : Int) := by
  have h1 : (256 : Nat) ^ k ≤ 256 ^ 7 := Nat.pow_le_pow_right (by omega) hk
  have h2 : b * 256 ^ k ≤ 255 * 256 ^ 7 := Nat.mul_le_mul hb h1
  have h3 := Nat.two_pow_add_eq_or_of_lt (i := 8 * k) (b := p) (by rw [← pow256]; exact hp) b
  rw [u64_or_nat p _ (by omega) (by omega), Nat.or_comm, Nat.mul_comm b, pow256, ← h3, Nat.add_comm]
theorem num_or (g : Nat → Int) (h : ∀ k, 0 ≤ g k ∧ g k ≤ 255) (a k : Nat) (hk : k ≤ 7) : bits .or .u64 (num g a k) (IntKind.u64.wrap (g (a + k) * 2 ^ (8 * k))) = num g a (k + 1) := by
  have hb := num_bd g h a k
  have hg := h (a + k)
  show _ = num g a k + g (a + k) * 256 ^ k
  generalize num g a k = p at *
  generalize g (a + k) = b at *
  obtain ⟨P, rfl⟩ : ∃ P : Nat, p = P := ⟨p.toNat, by omega⟩
  obtain ⟨B, rfl⟩ : ∃ B : Nat, b = B := ⟨b.toNat, by omega⟩
  have hp : P < 256 ^ k := by
    have h3 : (P : Int) < ((256 ^ k : Nat) : Int) := by rw [Int.natCast_pow]; exact hb.2
    exact Int.ofNat_lt.1 h3
  have hB' : B ≤ 255 := by omega
  have e1 : ((2 : Int) ^ (8 * k)) = ((256 ^ k : Nat) : Int) := by rw [pow256, Int.natCast_pow]; rfl
  have h1 : (256 : Nat) ^ k ≤ 256 ^ 7 := Nat.pow_le_pow_right (by omega) hk
  have h2 : B * 256 ^ k ≤ 255 * 256 ^ 7 := Nat.mul_le_mul hB' h1
  have hn := or_num hk P B hp hB'
  have e2 : IntKind.u64.wrap ((B : Int) * 2 ^ (8 * k)) = ((B * 256 ^ k : Nat) : Int) := by
    rw [u64_mod, e1, ← Int.natCast_mul]
    omega
  rw [e2, hn, Int.natCast_add, Int.natCast_mul, Int.natCast_pow]
  rfl
set_option maxHeartbeats 400000 in
theorem number_ (bm a n c : Nat) (g : Nat → Int) (hg : ∀ k, 0 ≤ g k ∧ g k ≤ 255) (hn : n ≤ 8) (w : World) (hc : ∀ k, k < n → w.cell? ⟨bm, a + k, none⟩ = some (.int .u8 (g (a + k)))) :
    Calls Try.prog 51 #[.slice (some ⟨bm, a, none⟩) n c] w fun e w' => e = .returned (.int .u64 (num g a n)) ∧ w = w' := by
  have HC := Lib.hid hc
  clear hc
  go_enter Try.func51, Try.ntmps51
  go_wp2
  go_loop [3, 8] (fun v i => ∃ k : Nat, k ≤ n ∧ i = .int .i64 k ∧ v = .int .u64 (num g a k)) (fun _ i => n - (intOf i).toNat)
  case atStart => exact ⟨0, Nat.zero_le _, rfl, rfl⟩
  case round =>
    obtain ⟨k, hk, rfl, rfl⟩ := hrel
    by_cases hlt : k < n
    · have hcell := HC.out k hlt
      have hb := hg (a + k)
      have HN := Lib.hid (num_or g hg a k (by omega))
      go_wp2
      go_round
      case rel => exact ⟨k + 1, by omega, by go_num, by rw [HN.out]⟩
      case measure => simp [intOf]; omega
    · have : k = n := by omega
      subst this
      go_wp2
      go_ret
      exact ⟨rfl, rfl⟩
end MC
end Go.Proofs.Ytieehjkmfmkfjab
