/-
  Bytes of the machine's memory, copied: a contract. No condition but those that are written at each.
-/
import Derived.Test.YtanlccnhkiibeaaMachZ
import Derived.Deep.AppendLies
import Derived.Laws.OwnMore
namespace Go.Proofs.Ytanlccnhkiibeaa
open Go.RowKit
set_option linter.unusedVariables false
set_option linter.unusedSimpArgs false
namespace MCl
open MM MC MB MP MQ
/-- the memory's bytes from a on -/
def part (g : Nat → Int) (a n : Nat) : List Int := (List.range n).map fun k => g (a + k)
theorem part_get (g : Nat → Int) (a n j : Nat) (u : Value) (h : (u8s (part g a n))[j]? = some u) : j < n ∧ u = .int .u8 (g (a + j)) := by
  unfold u8s part at h
  rw [List.map_map, List.getElem?_map] at h
  by_cases hj : j < n
  · rw [List.getElem?_range hj] at h; exact ⟨hj, (Option.some.inj h).symm⟩
  · rw [List.getElem?_eq_none (by simpa using hj)] at h; cases h
set_option maxRecDepth 100000 in
set_option maxHeartbeats 2000000 in
theorem clone_ (w : World) (bm a n c N : Nat) (g : Nat → Int) (hn : 0 < n) (hN : n ≤ 2097152) (hbm : bm < w.heap.size) (hc : ∀ k, k < n → w.cell? ⟨bm, a + k, none⟩ = some (.int .u8 (g (a + k)))) :
    Calls Try.prog 25 #[.slice (some ⟨bm, a, none⟩) n c] w fun e w' => ∃ gb cap, e = .returned (.slice (some ⟨gb, 0, none⟩) n cap) ∧ w'.ownsRow w.heap.size 5 1 (.slice (some ⟨gb, 0, none⟩) n cap) n (u8s (part g a n)) ∧ Below w.heap.size w w' := by
  obtain ⟨i0, hi, hz0, hz1, hz2⟩ := info_parts u8_info
  have hw0 := World.ownsRow_lit (base := w.heap.size) (e := 5) (size := 1) w #[] 0 (Nat.le_refl _) (Nat.zero_le _) rfl
  have hl : (u8s (part g a n)).length = n * 1 := by simp [u8s, part]
  have hnews : ∀ j u, (u8s (part g a n))[j]? = some u → (w.alloc (.cells #[] 5)).cell? ((⟨bm, a, none⟩ : Addr).add j) = some u := fun j u h => by
    obtain ⟨hj, rfl⟩ := part_get g a n j u h
    rw [Addr.add_mid]
    exact (World.cell?_alloc_lt (w := w) (a := ⟨bm, a + j, none⟩) (o := .cells #[] 5) hbm).trans (hc j hj)
  have h1 : ∀ u ∈ u8s (part g a n), u.oneCell' = true := fun u hu => by
    obtain ⟨x, _, rfl⟩ := List.mem_map.1 hu
    rfl
  have HL := Lib.hid hl
  have HW := Lib.hid hnews
  have H1 := Lib.hid h1
  have HO := Lib.hid hw0
  clear hl hnews h1 hc hw0
  have hq : ∀ w, (binOp .eql 22 (.slice (some ⟨bm, a, none⟩) n c) (.slice none 0 0)).run Try.prog w = .ok (.bool false) w := fun w => by first | rfl | kernel_rfl
  go_enter Try.func25, Try.ntmps25
  go_wp2_with (at_builtin; refine wpList_append_lies _ rfl _ _ 22 rfl w.heap.size 5 i0 (.int .u8 0) 1 1 Try.underlying22 hi hz0 hz1 hz2 rfl (by decide) _ _ _ rfl HO.out ⟨bm, a, none⟩ n c _ rfl HL.out HW.out H1.out hn (by unfold maxLen; omega) (by omega) (by simp only [World.size_alloc]; omega) (w.heap.size + 1) (by simp only [World.size_alloc]) ?_; intro gg cap w3 hown3 hgrow3 hat3 hlt3; have HO3 := Lib.hid hown3; have HG := Lib.hid hgrow3; clear hown3 hgrow3 hat3)
  go_ret
  have ho := HO3.out
  simp only [Nat.zero_add, List.nil_append] at ho
  exact ⟨gg, cap, rfl, ho, ((Below.refl _ _).alloc (Nat.le_refl _) _).grown HG.out (by simp only [World.size_alloc]; omega) (fun g hg => (HO.out.lt g hg).1)⟩
set_option maxRecDepth 100000 in
set_option maxHeartbeats 2000000 in
/-- Bytes, inside -/
theorem bytes_in {w : World} {b bm N : Nat} {s : St} (A : At w b bm N s) (hN : N ≤ 2097152) (a n : Nat) (hn : 0 < n) (h : a + n ≤ N) :
    Calls Try.prog 11 #[.pointer (some ⟨b, 0, none⟩), .int .i64 a, .int .i64 n] w fun e w' => ∃ gb cap, e = .returned (.tuple #[.slice (some ⟨gb, 0, none⟩) n cap, .int .i64 0]) ∧ w'.ownsRow w.heap.size 5 1 (.slice (some ⟨gb, 0, none⟩) n cap) n (u8s (part s.mem a n)) ∧ Below w.heap.size w w' := by
  have x0 := A.c0
  have hbm := lt_of_get A.mem
  have cc := fun c => clone_ w bm a n c N s.mem hn (by omega) hbm (fun k hk => A.cm (by omega))
  clear A
  go_enter Try.func11, Try.ntmps11
  go_wp2_with (go_at_call 25; (with_reducible refine (cc _).mono ?_); rintro e w1 ⟨gb, cap, rfl, ho, hb⟩; have HO := Lib.hid ho; have HB := Lib.hid hb; clear ho hb)
  go_ret2
  exact ⟨gb, cap, rfl, HO.out, HB.out⟩
end MCl
end Go.Proofs.Ytanlccnhkiibeaa
