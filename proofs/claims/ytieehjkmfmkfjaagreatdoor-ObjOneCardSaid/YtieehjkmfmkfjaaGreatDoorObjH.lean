/-
  What strconv.FormatUint at base 16 answers: a contract. Conditions: bits lie from 0 to below 2^64; Go's table of bits holds what its text lays.
-/
import Derived.Test.YtieehjkmfmkfjaaGreatDoorProg
import Derived.WalkKit
import Derived.LoopTactic
import Derived.Below
import Derived.LoopN
import Derived.Test.YtieehjkmfmkfjaaGreatDoorRealX
import Derived.Lib.Hide
import Derived.Laws.BitsAllLaws
import Derived.Laws.Rows
import Derived.Laws.OwnMore
import Derived.OwnWalk
import Derived.Laws.BytesString
import Derived.Laws.Cells
namespace Go.Proofs.YtieehjkmfmkfjaaGreatDoor
open Go.RowKit
set_option linter.unusedVariables false
namespace RH
def CellsAt (w : World) (g : Nat) (t : TypeId) (cs : Array Value) : Prop := w.heap[g]? = some (.cells cs t (0, 0))
section
variable {w w' : World} {g : Nat} {t : TypeId} {cs : Array Value}
theorem CellsAt.cell (h : CellsAt w g t cs) (i : Nat) : w.cell? ⟨g, i, none⟩ = cs[i]? := cell_of_row w g i cs t (0, 0) h
theorem CellsAt.frozen (h : CellsAt w g t cs) (i : Nat) : w.frozen? ⟨g, i, none⟩ = false := by
  unfold CellsAt at h
  simp [World.frozen?, h]
theorem CellsAt.new (w : World) (t : TypeId) (cs : Array Value) : CellsAt (w.alloc (.cells cs t)) w.heap.size t cs := heap_alloc_new w _
theorem CellsAt.set_ (h : CellsAt w g t cs) (i : Nat) (u : Value) : CellsAt (w.setCell ⟨g, i, none⟩ u) g t (cs.setIfInBounds i u) := by
  unfold CellsAt at h ⊢
  simp [World.setCell, Array.getElem?_modify, h]
end
/-- digits' bytes from a place to the end -/
def Tail (cs : Array Value) (m : Nat) (l : List UInt8) : Prop := cs.size = 65 ∧ m + l.length = 65 ∧ ∀ j (c : UInt8), l[j]? = some c → cs[m + j]? = some (.int .u8 (c.toNat : Int))
theorem Tail.push {cs : Array Value} {m : Nat} {l : List UInt8} (h : Tail cs (m + 1) l) (c : UInt8) : Tail (cs.setIfInBounds m (.int .u8 (c.toNat : Int))) m (c :: l) := by
  obtain ⟨h1, h2, h3⟩ := h
  refine ⟨by simpa using h1, by simp; omega, fun j d hd => ?_⟩
  cases j with
  | zero =>
    simp only [List.getElem?_cons_zero, Option.some.injEq] at hd
    subst hd
    rw [Nat.add_zero, Array.getElem?_setIfInBounds_self_of_lt (by omega)]
  | succ j =>
    rw [List.getElem?_cons_succ] at hd
    rw [Array.getElem?_setIfInBounds_ne (by omega), show m + (j + 1) = m + 1 + j by omega]
    exact h3 j d hd
theorem tz64 (w : World) (hdb : w.cell? ⟨5, 15, none⟩ = some (.int .u8 4)) : Calls Tryz.prog 136 #[.int .u64 16] w fun e w' => e = .returned (.int .i64 4) ∧ w' = w := by
  have e1 : IntKind.u64.wrap (bits .and .u64 16 (IntKind.u64.wrap (-16)) * 285870213051353865) / 288230376151711744 = 15 := by kernel_rfl
  go_enter Tryz.func136, Tryz.ntmps136
  go_wp2
  go_ret
  exact ⟨rfl, rfl⟩
theorem tz (w : World) (hdb : w.cell? ⟨5, 15, none⟩ = some (.int .u8 4)) : Calls Tryz.prog 120 #[.int .u64 16] w fun e w' => e = .returned (.int .i64 4) ∧ w' = w := by
  go_enter Tryz.func120, Tryz.ntmps120
  go_wp2_with (go_at_call 136; refine (tz64 _ hdb).mono ?_; rintro e w' ⟨rfl, rfl⟩)
  go_ret
  exact ⟨rfl, rfl⟩
theorem pow2 (w : World) : Calls Tryz.prog 119 #[.int .i64 16] w fun e w' => e = .returned (.bool true) ∧ w' = w := by
  have e1 : bits .and .i64 16 15 = 0 := by kernel_rfl
  go_enter Tryz.func119, Tryz.ntmps119
  go_wp2
  go_ret
  exact ⟨rfl, rfl⟩

def C36 : ByteArray := ⟨(48 :: 49 :: 50 :: 51 :: 52 :: 53 :: 54 :: 55 :: 56 :: 57 :: 97 :: 98 :: 99 :: 100 :: 101 :: 102 :: 103 :: 104 :: 105 :: 106 :: 107 :: 108 :: 109 :: 110 :: 111 :: 112 :: 113 :: 114 :: 115 :: 116 :: 117 :: 118 :: 119 :: 120 :: 121 :: 122 :: []).toArray⟩
theorem dig_eq (s : ByteArray) (d : Nat) (h : d < 16) (h' : d < s.size) (hs : s = C36) : s[d] = RX.dg d := by
  subst hs
  have e : ∀ d : Nat, d < 16 → C36.data[d]? = some (RX.dg d) := by decide +kernel
  exact (Array.getElem?_eq_some_iff.1 (e d h)).2
theorem Tail.push' {cs : Array Value} {m k u : Nat} (s : ByteArray) (d : Nat) (h' : d < s.size) (hs : s = C36) (h : Tail cs (m + 1) (RX.hexL k u)) (hd : d < 16) (he : RX.dg d :: RX.hexL k u = RX.hexL (k + 1) u) :
    Tail (cs.setIfInBounds m (.int .u8 ((s[d]).toNat : Int))) m (RX.hexL (k + 1) u) := by
  rw [dig_eq s d hd h' hs, ← he]
  exact h.push _
theorem add_plain (b o j : Nat) : (⟨b, o, none⟩ : Addr).add j = ⟨b, o + j, none⟩ := by
  unfold Addr.add
  split
  · rename_i h; subst h; rfl
  · rfl
theorem fold_push : ∀ (l : List UInt8) (s : ByteArray), (l.map fun c => (c.toNat : Int)).foldl (fun r n => r.push (UInt8.ofNat n.toNat)) s = ⟨(s.data.toList ++ l).toArray⟩
  | [], s => by simp
  | c :: l, s => by
    rw [List.map_cons, List.foldl_cons, fold_push l]
    congr 1
    simp [ByteArray.push]
theorem conv_tail {W : World} {g q : Nat} {cs : Array Value} {l : List UInt8} (hb : CellsAt W g 164 cs) (ht : Tail cs q l) :
    (convert 23 9 (.slice (some ⟨g, q, none⟩) (65 - q) (65 - q))).run Tryz.prog W = .ok (.string ⟨l.toArray⟩) W := by
  rw [run_convert_bytes_string W _ _ 5 _ _ _ Tryz.underlying23 Tryz.underlying5 Tryz.underlying9]
  have hlen : 65 - q = ((l.map fun c => (c.toNat : Int)).map (Value.int .u8)).length := by
    have := ht.2.1
    simp; omega
  have hload : (loadCells ⟨g, q, none⟩ (65 - q)).run Tryz.prog W = .ok ((l.map fun c => (c.toNat : Int)).map (Value.int .u8)).toArray W := by
    rw [hlen]
    refine run_loadCells_list W ⟨g, q, none⟩ _ (fun j v hv => ?_)
    rw [add_plain, hb.cell]
    rw [List.map_map, List.getElem?_map] at hv
    obtain ⟨c, hc, rfl⟩ := Option.map_eq_some_iff.1 hv
    exact ht.2.2 j c hc
  rw [run_bytesToString W _ _ _ _ hload, fold_push]
  rfl
theorem and15 (v : Nat) (h : v < 18446744073709551616) : bits .and .u64 (v : Int) 15 = ((v % 16 : Nat) : Int) := by
  have e := u64_and_nat v 15 h (by omega)
  rw [nat_mask4] at e
  exact e
/-- no digit of these k is a nought ahead -/
def Least (u k : Nat) : Prop := k = 1 ∨ 16 ^ (k - 1) ≤ u
def Had (u k : Nat) : Prop := k = 0 ∨ 16 ^ k ≤ u
theorem Had.least {u k : Nat} (h : Had u k) : Least u (k + 1) := by
  rcases h with rfl | h
  · exact .inl rfl
  · exact .inr h
theorem Least.le {u k m : Nat} (h : Least u k) (hu : u < 16 ^ m) (hm : 1 ≤ m) : k ≤ m := by
  rcases h with rfl | h
  · exact hm
  · rcases Nat.lt_or_ge m k with c | c
    · exfalso
      have : 16 ^ m ≤ 16 ^ (k - 1) := Nat.pow_le_pow_right (by omega) (by omega)
      omega
    · exact c
set_option maxRecDepth 100000 in
set_option maxHeartbeats 4000000 in
theorem fbits (u : Nat) (hu : u < 18446744073709551616) (w : World) (hlt : 5 < w.heap.size) (hdb : w.cell? ⟨5, 15, none⟩ = some (.int .u8 4)) :
    Calls Tryz.prog 97 #[.slice none 0 0, .int .u64 (u : Int), .int .i64 16, .bool false, .bool false] w fun e w' => ∃ k, 1 ≤ k ∧ k ≤ 16 ∧ u < 16 ^ k ∧ Least u k ∧ e = .returned (.tuple #[.slice none 0 0, .string ⟨(RX.hexL k u).toArray⟩]) ∧ Below w.heap.size w w' := by
  have hdb' : ∀ o, (w.alloc o).cell? ⟨5, 15, none⟩ = some (.int .u8 4) := fun o => (World.cell?_alloc_lt w o _ hlt).trans hdb
  go_enter Tryz.func97, Tryz.ntmps97
  go_wp2_with (first
    | (go_at_call 119; refine (pow2 _).mono ?_; rintro e w' ⟨rfl, rfl⟩)
    | (go_at_call 120; refine (tz _ (hdb' _)).mono ?_; rintro e w' ⟨rfl, rfl⟩))
  go_loopw [1, 13] (fun x i w' => ∃ m k : Nat, m + k = 65 ∧ k ≤ 15 ∧ x = .int .u64 ((u / 16 ^ k : Nat) : Int) ∧ i = .int .i64 (m : Int) ∧ Had u k ∧ ∃ cs, CellsAt w' w.heap.size 164 cs ∧ Tail cs m (RX.hexL k u) ∧ Below w.heap.size w w') (fun _ i _ => (intOf i).toNat)
  case atStart =>
    refine ⟨65, 0, rfl, by omega, by simp, rfl, .inl rfl, Tryz.zeroCells164, CellsAt.new _ _ _, ⟨by rfl, by simp [RX.hexL], fun j c h => by simp [RX.hexL] at h⟩, (Below.refl _ _).alloc (Nat.le_refl _) _⟩
  case round =>
    obtain ⟨m, k, hmk, hk, rfl, rfl, hhad, cs, hblk, htail, hbel⟩ := hrel
    have HH := Lib.hid hhad
    clear hhad
    have hm1 : 50 ≤ m := by omega
    have hm2 : m ≤ 65 := by omega
    have hvb : u / 16 ^ k < 18446744073709551616 := Nat.lt_of_le_of_lt (Nat.div_le_self _ _) hu
    have hand := and15 (u / 16 ^ k) hvb
    have hnext : u / 16 ^ k / 16 = u / 16 ^ (k + 1) := by rw [Nat.div_div_eq_div_mul, ← Nat.pow_succ]
    have Hn := Lib.hid hnext
    have Hm := Lib.hid hmk
    clear hnext hmk
    generalize hv : u / 16 ^ k = v at *
    have Hv := Lib.hid hv
    clear hv
    obtain ⟨q, rfl⟩ : ∃ q, m = q + 1 := ⟨m - 1, by omega⟩
    have hc := hblk.cell q
    obtain ⟨old, hold⟩ : ∃ old, cs[q]? = some old := ⟨cs[q]'(by have := htail.1; omega), Array.getElem?_eq_getElem _⟩
    rw [hold] at hc
    have hf := hblk.frozen q
    have hmod : v % 16 < 16 := Nat.mod_lt _ (by omega)
    have hlist : RX.dg (v % 16) :: RX.hexL k u = RX.hexL (k + 1) u := by
      rw [Nat.add_comm k 1, RX.hexL_add, Hv.out]; rfl
    have Hl := Lib.hid hlist
    clear hlist
    by_cases h16 : 16 ≤ v
    · have hk2 : k + 1 ≤ 15 := by
        rcases Nat.lt_or_ge k 15 with c | c
        · omega
        · exfalso
          have : k = 15 := by omega
          subst this
          have := Hv.out
          omega
      have HH2 : Hid (Had u (k + 1)) := Lib.hid (.inr (by
        rw [← Hv.out] at h16
        rw [Nat.pow_succ, Nat.mul_comm]
        exact (Nat.le_div_iff_mul_le (Nat.pow_pos (by omega))).1 h16))
      go_wp2
      exact ⟨⟨q, k + 1, by have := Hm.out; omega, hk2, by rw [← Hn.out]; first | rfl | (congr 1), rfl, HH2.out, _, hblk.set_ q _, Tail.push' _ _ _ (by decide +kernel) htail hmod Hl.out, hbel.setCell (Nat.le_refl _) _⟩, by simp [intOf]⟩
    · have hv16 : v < 16 := by omega
      have hlt' : ¬ (16 ≤ (v : Int)) := by omega
      have hqi : (q : Int) ≤ 65 := by omega
      have hq65 : ¬ (65 = q) := by omega
      have Hvm := Lib.hid (Nat.mod_eq_of_lt hv16)
      clear hmod hand
      go_wp2
      rw [conv_tail (hblk.set_ q _) (Tail.push' _ _ _ (by decide +kernel) htail hv16 (by rw [← Hl.out, Hvm.out]))]
      go_wp2
      go_ret2
      refine ⟨k + 1, by omega, by omega, ?_, HH.out.least, ?_, hbel.setCell (Nat.le_refl _) _⟩
      · have e := Hv.out
        rw [Nat.pow_succ, Nat.mul_comm]
        exact (Nat.div_lt_iff_lt_mul (Nat.pow_pos (by omega))).1 (by rw [e]; exact hv16)
      · rfl
/-- what Hex's calls ask of the world -/
def Tab (w : World) : Prop := 5 < w.heap.size ∧ w.cell? ⟨5, 15, none⟩ = some (.int .u8 4)
def HexOf (u : Nat) (w : World) (e : Ending) (w' : World) : Prop := ∃ s : ByteArray, e = .returned (.string s) ∧ 1 ≤ s.size ∧ s.size ≤ 16 ∧ u < 16 ^ s.size ∧ Least u s.size ∧ s.data.toList = RX.hexL s.size u ∧ Below w.heap.size w w'
theorem fmtI (u : Nat) (hu : u < 18446744073709551616) (w : World) (ht : Tab w) :
    Calls Tryz.prog 78 #[.int .u64 (u : Int), .int .i64 16] w (HexOf u w) := by
  go_enter Tryz.func78, Tryz.ntmps78
  go_wp2_with (go_at_call 97; refine (fbits u hu _ ht.1 ht.2).mono ?_; rintro e w' ⟨k, k1, k2, k3, kl, rfl, hb⟩; have KL := Lib.hid kl; clear kl)
  go_ret
  have e : (⟨(RX.hexL k u).toArray⟩ : ByteArray).size = k := RX.hexL_length k u
  exact ⟨_, rfl, by rw [e]; exact k1, by rw [e]; exact k2, by rw [e]; exact k3, by rw [e]; exact KL.out, by rw [e], hb⟩
theorem fmt (u : Nat) (hu : u < 18446744073709551616) (w : World) (ht : Tab w) :
    Calls Tryz.prog 64 #[.int .u64 (u : Int), .int .i64 16] w (HexOf u w) := by
  go_enter Tryz.func64, Tryz.ntmps64
  go_wp2_with (go_at_call 78; refine (fmtI u hu _ ht).mono ?_; rintro e w' ⟨s, rfl, k1, k2, k3, kl, k4, hb⟩; have K4 := Lib.hid k4; have KL := Lib.hid kl; clear k4 kl)
  go_ret
  exact ⟨s, rfl, k1, k2, k3, KL.out, K4.out, hb⟩
end RH
end Go.Proofs.YtieehjkmfmkfjaaGreatDoor
