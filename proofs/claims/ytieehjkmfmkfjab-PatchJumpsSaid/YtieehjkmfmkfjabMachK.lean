/-
  The statements' own fixed fact, a contract; and how a program is laid, loaded and run. No condition.
-/
import Derived.Test.YtieehjkmfmkfjabMachP
namespace Go.Proofs.Ytieehjkmfmkfjab
open Go.RowKit
set_option linter.unusedVariables false
set_option linter.unusedSimpArgs false
namespace MK
attribute [local go_sem ↓] Go.wp_at_zero Go.wp_at_succ
open MM MC MB MP
theorem bts_bd (xs : List Int) : ∀ x ∈ bts xs, 0 ≤ x ∧ x ≤ 255 := by
  intro x hx
  obtain ⟨l, hl, hxl⟩ := List.mem_flatten.1 hx
  obtain ⟨y, _, rfl⟩ := List.mem_map.1 hl
  simp only [bs, List.mem_cons, List.not_mem_nil, or_false] at hxl
  rcases hxl with rfl | rfl | rfl | rfl <;> omega
theorem getD_bd {l : List Int} (h : ∀ x ∈ l, 0 ≤ x ∧ x ≤ 255) (k : Nat) : 0 ≤ l.getD k 0 ∧ l.getD k 0 ≤ 255 := by
  rw [List.getD_eq_getElem?_getD]
  cases e : l[k]? with
  | none => simp
  | some x => exact h x (List.mem_of_getElem? e)
theorem fine_loaded {f : Nat → Int} (hf : ∀ k, 0 ≤ f k ∧ f k ≤ 255) (n N : Nat) (u e : Int) (hu : 0 ≤ u ∧ u ≤ 4294967295) (hN : N ≤ 2097152) (he : 0 ≤ e ∧ e ≤ 4294967295) : Fine (MW.loaded f n u N e) := by
  have e1 : ∀ k, (MW.loaded f n u N e).mem k = if k < n then f k else 0 := fun _ => rfl
  have e2 : ∀ k, (MW.loaded f n u N e).x k = if k = 27 then u else if k = 2 then (N : Int) else 0 := fun _ => rfl
  refine ⟨fun k => ?_, fun k => ?_, fun k => ?_, he, rfl⟩
  · rw [e1]; split
    · exact hf k
    · omega
  · rw [e2]; split
    · exact hu
    · split <;> omega
  · show RM.W 0; unfold RM.W; omega
theorem fb_bd (xs : List Int) (k : Nat) : 0 ≤ fb xs k ∧ fb xs k ≤ 255 := getD_bd (bts_bd xs) k
theorem ws_of {w : World} {B : Nat} {v : Value} {xs : List Int} (h : w.ownsRow B 22 1 v (u32s xs).length (u32s xs)) : Ws w v xs := by
  have hl : (u32s xs).length = xs.length := by simp [u32s]
  rcases h.2 with ⟨rfl, h0⟩ | ⟨g, cap, cur, rfl, hb, hg, hn, hc, hs, ht⟩
  · left
    refine ⟨List.eq_nil_of_length_eq_zero (by omega), none, 0, rfl⟩
  · right
    rw [hl]
    refine ⟨g, 0, cap, rfl, lt_of_get hg, fun j x hj => ?_⟩
    rw [Nat.zero_add]
    have h2 := (h.cells (g := g) rfl) j (.int .u32 x) (by simp [u32s, hj])
    rwa [show (⟨g, 0, none⟩ : Addr).add j = ⟨g, j, none⟩ by unfold Addr.add; split <;> simp_all] at h2
/-- bytes that were made, as an image asks for them -/
theorem image_of {w : World} {B : Nat} {v : Value} {xs : List Int} (h : w.ownsRow B 5 1 v (u8s (bts xs)).length (u8s (bts xs))) (h0 : xs ≠ []) (n : Nat) (hn : 4 * xs.length = n) :
    ∃ g cap, v = .slice (some ⟨g, 0, none⟩) n cap ∧ g < w.heap.size ∧ ∀ k, k < n → w.cell? ⟨g, 0 + k, none⟩ = some (.int .u8 (fb xs k)) := by
  subst hn
  have hl : (u8s (bts xs)).length = 4 * xs.length := by simp [u8s, bts_len]
  have hp : 0 < xs.length := List.length_pos_iff.2 h0
  rcases h.2 with ⟨rfl, h1⟩ | ⟨g, cap, cur, rfl, hb, hg, hn, hc, hs, ht⟩
  · omega
  · rw [hl]
    refine ⟨g, cap, rfl, lt_of_get hg, fun k hk => ?_⟩
    rw [Nat.zero_add]
    have hx : (bts xs)[k]? = some (fb xs k) := by
      unfold fb
      rw [List.getD_eq_getElem?_getD, List.getElem?_eq_getElem (by rw [bts_len]; exact hk)]; rfl
    have h2 := (h.cells (g := g) rfl) k (.int .u8 (fb xs k)) (by simp [u8s, hx])
    rwa [show (⟨g, 0, none⟩ : Addr).add k = ⟨g, k, none⟩ by unfold Addr.add; split <;> simp_all] at h2
/-- no input -/
theorem inp_nil (w : World) (B b bm : Nat) : MD.Inp w B b bm (.slice none 0 0) [] := ⟨.inl ⟨rfl, _, _, rfl⟩⟩
theorem is_awake (w : World) : Is (w.alloc (.cells #[.int .i64 18, .int .i64 17, .int .i64 0, .int .i64 0, .int .i64 3, .int .i64 42, .int .i64 0, .int .i64 0, .int .i64 0, .int .i64 0] 31)) (.slice (some ⟨w.heap.size, 0, none⟩) 2 2) awakeL := by
  have hg := heap_alloc_new w (.cells #[.int .i64 18, .int .i64 17, .int .i64 0, .int .i64 0, .int .i64 3, .int .i64 42, .int .i64 0, .int .i64 0, .int .i64 0, .int .i64 0] 31)
  refine ⟨w.heap.size, 2, rfl, by simp, fun k a b c d e hk => ?_⟩
  have c := fun j => cell_of_row _ w.heap.size j _ _ _ hg
  match k, hk with
  | 0, hk => cases hk; exact ⟨c 0, c 1, c 2, c 3, c 4⟩
  | 1, hk => cases hk; exact ⟨c 5, c 6, c 7, c 8, c 9⟩
  | (k + 2), hk => simp [awakeL] at hk
end MK
end Go.Proofs.Ytieehjkmfmkfjab
