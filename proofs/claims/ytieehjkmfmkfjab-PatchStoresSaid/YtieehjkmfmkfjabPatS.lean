/-
  Bytes of the machine's memory, copied, and made a string: contracts; what a stored word's bytes are. No condition but those that are written at each.
-/
import Derived.Test.YtieehjkmfmkfjabPatL
import Derived.Deep.AppendLies
import Derived.Laws.OwnMore
import Derived.Laws.BytesString
import Derived.Maps.AppendAt
namespace Go.Proofs.Ytieehjkmfmkfjab
open Go.RowKit
set_option linter.unusedVariables false
set_option linter.unusedSimpArgs false
namespace PS
open MM MC MB MP MQ
/-- the memory's bytes from a on -/
def part (g : Nat → Int) (a n : Nat) : List Int := (List.range n).map fun k => g (a + k)
theorem part_get (g : Nat → Int) (a n j : Nat) (u : Value) (h : (u8s (part g a n))[j]? = some u) : j < n ∧ u = .int .u8 (g (a + j)) := by
  unfold u8s part at h
  rw [List.map_map, List.getElem?_map] at h
  by_cases hj : j < n
  · rw [List.getElem?_range hj] at h; exact ⟨hj, (Option.some.inj h).symm⟩
  · rw [List.getElem?_eq_none (by simpa using hj)] at h; cases h
set_option maxRecDepth 100000 in
set_option maxHeartbeats 2000000 in
theorem clone_ (w : World) (bm a n c N : Nat) (g : Nat → Int) (hn : 0 < n) (hN : n ≤ 2097152) (hbm : bm < w.heap.size) (hc : ∀ k, k < n → w.cell? ⟨bm, a + k, none⟩ = some (.int .u8 (g (a + k)))) :
    Calls Try.prog 36 #[.slice (some ⟨bm, a, none⟩) n c] w fun e w' => ∃ gb cap, e = .returned (.slice (some ⟨gb, 0, none⟩) n cap) ∧ w'.ownsRow w.heap.size 5 1 (.slice (some ⟨gb, 0, none⟩) n cap) n (u8s (part g a n)) ∧ Below w.heap.size w w' := by
  obtain ⟨i0, hi, hz0, hz1, hz2⟩ := info_parts u8_info
  have hw0 := World.ownsRow_lit (base := w.heap.size) (e := 5) (size := 1) w #[] 0 (Nat.le_refl _) (Nat.zero_le _) rfl
  have hl : (u8s (part g a n)).length = n * 1 := by simp [u8s, part]
  have hnews : ∀ j u, (u8s (part g a n))[j]? = some u → (w.alloc (.cells #[] 5)).cell? ((⟨bm, a, none⟩ : Addr).add j) = some u := fun j u h => by
    obtain ⟨hj, rfl⟩ := part_get g a n j u h
    rw [Addr.add_mid]
    exact (World.cell?_alloc_lt (w := w) (a := ⟨bm, a + j, none⟩) (o := .cells #[] 5) hbm).trans (hc j hj)
  have h1 : ∀ u ∈ u8s (part g a n), u.oneCell' = true := fun u hu => by
    obtain ⟨x, _, rfl⟩ := List.mem_map.1 hu
    rfl
  have HL := Lib.hid hl
  have HW := Lib.hid hnews
  have H1 := Lib.hid h1
  have HO := Lib.hid hw0
  clear hl hnews h1 hc hw0
  have hq : ∀ w, (binOp .eql 36 (.slice (some ⟨bm, a, none⟩) n c) (.slice none 0 0)).run Try.prog w = .ok (.bool false) w := fun w => by first | rfl | kernel_rfl
  go_enter Try.func36, Try.ntmps36
  go_wp2_with (at_builtin; refine wpList_append_lies _ rfl _ _ 36 rfl w.heap.size 5 i0 (.int .u8 0) 1 1 Try.underlying36 hi hz0 hz1 hz2 rfl (by decide) _ _ _ rfl HO.out ⟨bm, a, none⟩ n c _ rfl HL.out HW.out H1.out hn (by unfold maxLen; omega) (by omega) (by simp only [World.size_alloc]; omega) (w.heap.size + 1) (by simp only [World.size_alloc]) ?_; intro gg cap w3 hown3 hgrow3 hat3 hlt3; have HO3 := Lib.hid hown3; have HG := Lib.hid hgrow3; clear hown3 hgrow3 hat3)
  go_ret
  have ho := HO3.out
  simp only [Nat.zero_add, List.nil_append] at ho
  exact ⟨gg, cap, rfl, ho, ((Below.refl _ _).alloc (Nat.le_refl _) _).grown HG.out (by simp only [World.size_alloc]; omega) (fun g hg => (HO.out.lt g hg).1)⟩
set_option maxRecDepth 100000 in
set_option maxHeartbeats 2000000 in
/-- Bytes, inside -/
theorem bytes_in {w : World} {b bm N : Nat} {s : St} (A : At w b bm N s) (hN : N ≤ 2097152) (a n : Nat) (hn : 0 < n) (h : a + n ≤ N) :
    Calls Try.prog 20 #[.pointer (some ⟨b, 0, none⟩), .int .i64 a, .int .i64 n] w fun e w' => ∃ gb cap, e = .returned (.tuple #[.slice (some ⟨gb, 0, none⟩) n cap, .int .i64 0]) ∧ w'.ownsRow w.heap.size 5 1 (.slice (some ⟨gb, 0, none⟩) n cap) n (u8s (part s.mem a n)) ∧ Below w.heap.size w w' := by
  have x0 := A.c0
  have hbm := lt_of_get A.mem
  have cc := fun c => clone_ w bm a n c N s.mem hn (by omega) hbm (fun k hk => A.cm (by omega))
  clear A
  go_enter Try.func20, Try.ntmps20
  go_wp2_with (go_at_call 36; (with_reducible refine (cc _).mono ?_); rintro e w1 ⟨gb, cap, rfl, ho, hb⟩; have HO := Lib.hid ho; have HB := Lib.hid hb; clear ho hb)
  go_ret2
  exact ⟨gb, cap, rfl, HO.out, HB.out⟩
/-- the string of bytes -/
def strOf (xs : List Int) : ByteArray := xs.foldl (fun r n => r.push (UInt8.ofNat n.toNat)) ByteArray.empty
theorem conv_row {W : World} {B g n cap : Nat} {xs : List Int} (h : W.ownsRow B 5 1 (.slice (some ⟨g, 0, none⟩) n cap) n (u8s xs)) :
    (convert 36 9 (.slice (some ⟨g, 0, none⟩) n cap)).run Try.prog W = .ok (.string (strOf xs)) W := by
  rw [run_convert_bytes_string W _ _ 5 _ _ _ Try.underlying36 Try.underlying5 Try.underlying9]
  have hlen : n = (xs.map (Value.int .u8)).length := by have := h.1; simpa [u8s] using this.symm
  have hload : (loadCells ⟨g, 0, none⟩ n).run Try.prog W = .ok (xs.map (Value.int .u8)).toArray W := by
    rw [hlen]
    exact run_loadCells_list W ⟨g, 0, none⟩ _ (fun j v hv => h.cells (g := g) rfl j v hv)
  rw [run_bytesToString W _ _ _ _ hload]
  rfl
/-- the bytes of a word that was stored -/
theorem part_lay (g : Nat → Int) (a : Nat) (w : Int) : part (lay g a 4 w) a 4 = bts [w] := by
  have h : ∀ k, k < 4 → lay g a 4 w (a + k) = w / 256 ^ k % 256 := fun k hk => by
    unfold lay
    rw [if_pos (by omega), show a + k - a = k by omega]
  have e : part (lay g a 4 w) a 4 = [lay g a 4 w (a + 0), lay g a 4 w (a + 1), lay g a 4 w (a + 2), lay g a 4 w (a + 3)] := rfl
  rw [e, h 0 (by omega), h 1 (by omega), h 2 (by omega), h 3 (by omega)]
  simp [bts, bs]
theorem grown_of (w w' : World) (h : Below w.heap.size w w') : w.grownBy w' none := ⟨h.os, h.tape, h.output, h.size, fun i hi _ => h.block i hi⟩
theorem own_up {w w' : World} {base n size : Nat} {e : TypeId} {v : Value} {xs : List Value} (h : w.ownsRow base e size v n xs) (hb : Below w.heap.size w w') : w'.ownsRow base e size v n xs :=
  h.kept (grown_of _ _ hb) (by cases e : v.ownBlock <;> simp)
end PS
end Go.Proofs.Ytieehjkmfmkfjab
