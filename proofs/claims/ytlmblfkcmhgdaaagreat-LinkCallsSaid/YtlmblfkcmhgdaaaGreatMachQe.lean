/-
  What is written into the machine's memory, and an ECALL: each a contract. No condition but those that are written at each.
-/
import Derived.Test.YtlmblfkcmhgdaaaGreatMachQa
import Derived.Deep.RegionHeld3
import Derived.Deep.AppendLies
import Derived.Deep.RegionLaw
import Derived.Deep.DrawnRows
namespace Go.Proofs.YtlmblfkcmhgdaaaGreat
open Go.RowKit
set_option linter.unusedVariables false
set_option linter.unusedSimpArgs false
namespace ME
attribute [local go_sem ↓] Go.wp_at_zero Go.wp_at_succ
open MM MC MD
theorem set_mem (N : Nat) (s : St) {i : Nat} (h : i < N) (v : Int) : (MC.bytes N s).setIfInBounds i (.int .u8 v) = MC.bytes N { s with mem := upd s.mem i v } := by
  unfold MC.bytes
  rw [row_set _ _ h]
  refine row_ext fun j hj => ?_
  unfold upd
  by_cases e : j = i
  · rw [if_pos e]; simp [e]
  · rw [if_neg e]; simp [e]
theorem cells_mem (bm N : Nat) (s : St) (g : Nat → Int) : cells bm N { s with mem := g } = cells bm N s := rfl
section
variable {B br bk b bm N : Nat} {sd : List (Nat × Obj)} {w w' : World} {s s' : St} {vi ve : Value} {inp : List Int} {out : List Ev} {n c : Nat}
theorem Lives.setMem (L : Lives B br bk b bm N sd w s vi ve inp out n c) (j : Nat) (hj : j < N) (v : Int) : Lives B br bk b bm N sd (w.setCell ⟨bm, j, none⟩ (.int .u8 v)) { s with mem := upd s.mem j v } vi ve inp out n c := by
  have hp := L.pl
  have hne := L.at_.ne
  have ho : ∀ k, k ≠ bm → (w.setCell ⟨bm, j, none⟩ (.int .u8 v)).heap[k]? = w.heap[k]? := fun k hk => heap_setCell_other w ⟨bm, j, none⟩ k _ hk
  refine ⟨⟨(ho b hne).trans (by rw [cells_mem]; exact L.at_.head), by rw [heap_setCell_same w bm j _ _ _ L.at_.mem, set_mem N s hj], hne⟩, (ho br (by omega)).trans L.run, L.inp.kept fun k _ _ hk => ho k hk, ownsRow_same L.ev fun k hk => ho k (by omega), L.known.same (ho bk (by omega)), by simp only [World.size_setCell]; exact L.big, hp, fun p h => ⟨(ho _ (L.side p h).2.2.1).trans (L.side p h).1, (L.side p h).2⟩⟩
theorem Own.setMem (j : Nat) (v : Value) : Own B b bm w (w.setCell ⟨bm, j, none⟩ v) :=
  ⟨rfl, rfl, rfl, by simp [World.setCell], fun k _ _ hk => heap_setCell_other w ⟨bm, j, none⟩ k v hk⟩
end
theorem lay_zero (g : Nat → Int) (a : Nat) (v : Int) : lay g a 0 v = g := by
  funext k; unfold lay; rw [if_neg (by omega)]
theorem lay_succ (g : Nat → Int) (a k : Nat) (v : Int) : upd (lay g a k v) (a + k) (v / 256 ^ k % 256) = lay g a (k + 1) v := by
  funext j
  unfold upd lay
  by_cases h : j = a + k
  · subst h; rw [if_pos rfl, if_pos (by omega), show a + k - a = k by omega]
  · rw [if_neg h]
    by_cases h2 : a ≤ j ∧ j < a + k
    · rw [if_pos h2, if_pos (by omega)]
    · rw [if_neg h2, if_neg (by omega)]
theorem shr_lay (v : Int) (k : Nat) : v / 2 ^ (8 * k) % 256 = v / 256 ^ k % 256 := by rw [Int.pow_mul]; rfl
set_option maxHeartbeats 400000 in
theorem lay_ {B br bk b bm N : Nat} {sd : List (Nat × Obj)} {w : World} {s : St} {vi ve : Value} {inp : List Int} {out : List Ev} {n c : Nat} (L : Lives B br bk b bm N sd w s vi ve inp out n c) (a m cc : Nat) (hm : m ≤ 8) (ha : a + m ≤ N) (v : Int) (hv : 0 ≤ v ∧ v < 18446744073709551616) :
    Calls Tryz.prog 129 #[.slice (some ⟨bm, a, none⟩) m cc, .int .u64 v] w fun e w' => e = .returned (.tuple #[]) ∧ Lives B br bk b bm N sd w' { s with mem := lay s.mem a m v } vi ve inp out n c ∧ Own B b bm w w' := by
  have HL := Lib.hid L
  clear L
  go_enter Tryz.func129, Tryz.ntmps129
  go_wp2
  go_loopw [7] (fun i wr => ∃ k : Nat, k ≤ m ∧ i = .int .i64 k ∧ Lives B br bk b bm N sd wr { s with mem := lay s.mem a k v } vi ve inp out n c ∧ Own B b bm w wr) (fun i _ => m - (intOf i).toNat)
  case atStart => exact ⟨0, Nat.zero_le _, rfl, by rw [lay_zero]; exact HL.out, Own.refl _ _ _ _⟩
  case round =>
    obtain ⟨k, hk, rfl, L1, O1⟩ := hrel
    by_cases hlt : k < m
    · have hcell := L1.at_.cm (i := a + k) (by omega)
      have hfz := L1.at_.fm (a + k)
      have H1 := Lib.hid L1
      clear L1
      go_wp2
      refine ⟨⟨k + 1, by omega, by go_num, ?_, O1.trans (Own.setMem _ _)⟩, by simp [intOf]; omega⟩
      rw [shr_lay]
      have H2 := Lives.setMem H1.out (a + k) (by omega) (v / 256 ^ k % 256)
      simp only [lay_succ] at H2
      exact H2
    · have : k = m := by omega
      subst this
      go_wp2
      go_end0
      exact ⟨rfl, L1, O1⟩
/-! ### an ECALL -/
section
variable {B br bk b bm N : Nat} {sd : List (Nat × Obj)} {w w' : World} {s s' : St} {vi ve : Value} {inp : List Int} {out : List Ev} {n c : Nat}
theorem call_3 (L : Lives B br bk b bm N sd w s vi ve inp out n c) (h : s.x 17 = 3) :
    Calls Tryz.prog 112 #[.pointer (some ⟨br, 0, none⟩)] w fun e w' => e = .returned (.tuple #[]) ∧ Lives B br bk b bm N sd w' (setst s 1) vi ve inp out n c ∧ Own B b bm w w' := by
  have h0 := L.r0
  have h1 : w.cell? ⟨b, 18, none⟩ = some (.int .u32 3) := by rw [← h]; exact L.at_.cx (i := 17) (by omega)
  have h2 := L.at_.cst
  have h3 := L.at_.fb 66
  clear h
  have HL := Lib.hid L
  clear L
  go_enter Tryz.func112, Tryz.ntmps112
  go_wp2
  go_end0
  exact ⟨rfl, HL.out.set 66 _ (set_state _ _ _ _) rfl, Own.set _ _ _⟩
end
end ME
end Go.Proofs.YtlmblfkcmhgdaaaGreat
