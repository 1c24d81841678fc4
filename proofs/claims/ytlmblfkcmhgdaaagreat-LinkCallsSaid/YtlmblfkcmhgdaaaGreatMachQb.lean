/-
  What the statements' own Words and Bytes answer: each a contract. No condition but those that are written at each.
  Programs in the machine's memory, plainly: what a step does whose instruction is known. No condition but those that are written at each.
  The statements' own fixed fact, a contract; and how a program is laid, loaded and run. No condition.
  A slice of words or of bytes that came in as an argument: opened, and shut again behind every call that made blocks of its own alone. No condition but those that are written at each.
-/
import Derived.Test.YtlmblfkcmhgdaaaGreatMachQa
import Derived.Test.YtlmblfkcmhgdaaaGreatCodeQb
import Derived.Deep.AppendLies
import Derived.Test.YtlmblfkcmhgdaaaGreatMachQs
import Derived.Test.YtlmblfkcmhgdaaaGreatCodeQd
import Derived.OpenShut
import Derived.Deep.Slices
namespace Go.Proofs.YtlmblfkcmhgdaaaGreat
open Go.RowKit
set_option linter.unusedVariables false
set_option linter.unusedSimpArgs false
namespace MB
open MM MC
/-- a slice of words in memory -/
def Ws (w : World) (v : Value) (xs : List Int) : Prop :=
  (xs = [] ∧ ∃ p c, v = .slice p 0 c) ∨ ∃ g o c, v = .slice (some ⟨g, o, none⟩) xs.length c ∧ g < w.heap.size ∧ ∀ j x, xs[j]? = some x → w.cell? ⟨g, o + j, none⟩ = some (.int .u32 x)
def bs (x : Int) : List Int := [x % 256, x / 256 % 256, x / 65536 % 256, x / 16777216 % 256]
def bts (xs : List Int) : List Int := (xs.map bs).flatten
theorem bts_len (xs : List Int) : (bts xs).length = 4 * xs.length := by
  induction xs with
  | nil => rfl
  | cons x xs ih =>
    have e : bts (x :: xs) = bs x ++ bts xs := rfl
    rw [e, List.length_append, ih]
    show 4 + _ = _
    simp only [List.length_cons]; omega
theorem bts_snoc (xs : List Int) (x : Int) : bts (xs ++ [x]) = bts xs ++ bs x := by simp [bts]
def u8s (l : List Int) : List Value := l.map (Value.int .u8)
def u32s (l : List Int) : List Value := l.map (Value.int .u32)
theorem u8_info : (Tryz.prog.info? 5).map (fun i => (i.zero, i.size, i.bytes)) = some (some (.int .u8 0), 1, 1) := by kernel_rfl
theorem u32_info : (Tryz.prog.info? 46).map (fun i => (i.zero, i.size, i.bytes)) = some (some (.int .u32 0), 1, 4) := by kernel_rfl
/-- a slice that the call made -/
def Made (B : Nat) (e : TypeId) (xs : List Value) (w0 : World) (r : Ending) (w : World) : Prop := ∃ v, r = .returned v ∧ w.ownsRow B e 1 v xs.length xs ∧ Below B w0 w
theorem take_one {xs : List Int} {k : Nat} {x : Int} (h : xs[k]? = some x) : xs.take (k + 1) = xs.take k ++ [x] := by
  rw [List.take_add_one, h]; rfl
set_option maxRecDepth 100000 in
set_option maxHeartbeats 2000000 in
theorem bytes_ (w : World) (v : Value) (xs : List Int) (hx : xs.length ≤ 100000) (hv : Ws w v xs) :
    Calls Tryz.prog 22 #[v] w (Made w.heap.size 5 (u8s (bts xs)) w) := by
  obtain ⟨i0, hi, hz0, hz1, hz2⟩ := info_parts u8_info
  have hform : ∃ p c, v = .slice p xs.length c ∧ (∀ wr : World, Below w.heap.size w wr → ∀ k x, xs[k]? = some x → ∃ g o, p = some ⟨g, o, none⟩ ∧ wr.cell? ⟨g, o + k, none⟩ = some (.int .u32 x)) := by
    rcases hv with ⟨rfl, p, c, rfl⟩ | ⟨g, o, c, rfl, hg, hc⟩
    · exact ⟨p, c, rfl, fun _ _ k x h => by simp at h⟩
    · exact ⟨_, c, rfl, fun wr hb k x h => ⟨g, o, rfl, (hb.cell (p := ⟨g, o + k, none⟩) hg).trans (hc k x h)⟩⟩
  obtain ⟨p, c, rfl, hcell⟩ := hform
  have HC := Lib.hid hcell
  have HX := Lib.hid hx
  clear hcell hv
  generalize hn : xs.length = n at *
  have HN := Lib.hid hn
  clear hn
  go_enter Tryz.func22, Tryz.ntmps22
  go_wp2
  go_loopw [3, 8] (fun s3 i wr => ∃ k : Nat, k ≤ n ∧ i = .int .i64 k ∧ wr.ownsRow w.heap.size 5 1 s3 (4 * k) (u8s (bts (xs.take k))) ∧ Below w.heap.size w wr) (fun _ i _ => n - (intOf i).toNat)
  case atStart => exact ⟨0, Nat.zero_le _, rfl, World.ownsRow_nil _ _ _ _, Below.refl _ _⟩
  case round =>
    rename_i s3 _
    obtain ⟨k, hk, rfl, hown, hbel⟩ := hrel
    by_cases hlt : k < n
    · obtain ⟨x, hx1⟩ : ∃ x, xs[k]? = some x := by
        rw [← HN.out] at hlt
        exact ⟨xs[k], List.getElem?_eq_getElem hlt⟩
      obtain ⟨g, o, rfl, hcell⟩ := HC.out wr hbel k x hx1
      have HT := Lib.hid (take_one hx1)
      clear hx1
      have hsz := hbel.size
      go_wp2_with (at_builtin; refine wpList_append_lies _ rfl _ _ 26 rfl w.heap.size 5 i0 (.int .u8 0) 1 1 Tryz.underlying26 hi hz0 hz1 hz2 rfl (by decide) _ _ _ rfl (hown.alloc _) ⟨wr.heap.size, 0, none⟩ 4 4 [.int .u8 (x % 256), .int .u8 (x / 256 % 256), .int .u8 (x / 65536 % 256), .int .u8 (x / 16777216 % 256)] rfl rfl (World.news_of_block (cs := #[.int .u8 (x % 256), .int .u8 (x / 256 % 256), .int .u8 (x / 65536 % 256), .int .u8 (x / 16777216 % 256)]) (t := 5) (fr := (0, 0)) (heap_alloc_new wr _)) (by simp [Value.oneCell']) (by decide) (by unfold maxLen; omega) (by omega) (by simp only [World.size_alloc]; omega) (wr.heap.size + 1) (by simp only [World.size_alloc]) ?_; intro gg cap w1 hown1 hgrow1 hat1 hlt1; have HO := Lib.hid hown1; have HG := Lib.hid hgrow1; clear hown1 hgrow1 hat1)
      refine ⟨⟨k + 1, by omega, by go_num, ?_, ?_⟩, by simp [intOf]; omega⟩
      · rw [HT.out, bts_snoc]
        have e : u8s (bts (xs.take k) ++ bs x) = u8s (bts (xs.take k)) ++ [.int .u8 (x % 256), .int .u8 (x / 256 % 256), .int .u8 (x / 65536 % 256), .int .u8 (x / 16777216 % 256)] := by simp [u8s, bs]
        rw [e, show 4 * (k + 1) = 4 * k + 4 by omega]
        exact HO.out
      · exact (hbel.alloc hbel.size _).grown HG.out (by simp only [World.size_alloc]; omega) (fun g hg => (hown.lt g hg).1)
    · have hkn : k = n := by omega
      subst hkn
      go_wp2
      go_ret
      refine ⟨_, rfl, ?_, hbel⟩
      have h2 := bts_len xs
      rw [HN.out] at h2
      rw [List.take_of_length_le (Nat.le_of_eq HN.out)] at hown
      rw [show (u8s (bts xs)).length = 4 * k by simp [u8s, h2]]
      exact hown
/-! ### the words of instructions -/
abbrev Ins := Int × Int × Int × Int × Int
def wordOf (i : Ins) : Int := CE.encW i.1 i.2.1 i.2.2.1 i.2.2.2.1 i.2.2.2.2
def good (i : Ins) : Prop := CE.encE i.1 i.2.1 i.2.2.1 i.2.2.2.1 i.2.2.2.2 = 0 ∧ (Lit.int .i64 i.2.1).wf = true ∧ (Lit.int .i64 i.2.2.1).wf = true ∧ (Lit.int .i64 i.2.2.2.1).wf = true ∧ (Lit.int .i64 i.2.2.2.2).wf = true
/-- a slice of instructions in memory -/
def Is (w : World) (v : Value) (l : List Ins) : Prop :=
  ∃ g c, v = .slice (some ⟨g, 0, none⟩) l.length c ∧ g < w.heap.size ∧ ∀ (k : Nat) (a b c d e : Int), l[k]? = some (a, b, c, d, e) →
    w.cell? ⟨g, k * 5, none⟩ = some (.int .i64 a) ∧ w.cell? ⟨g, k * 5 + 1, none⟩ = some (.int .i64 b) ∧ w.cell? ⟨g, k * 5 + 2, none⟩ = some (.int .i64 c) ∧ w.cell? ⟨g, k * 5 + 3, none⟩ = some (.int .i64 d) ∧ w.cell? ⟨g, k * 5 + 4, none⟩ = some (.int .i64 e)
theorem take_map {l : List Ins} {k : Nat} {x : Ins} (h : l[k]? = some x) : (l.take (k + 1)).map wordOf = (l.take k).map wordOf ++ [wordOf x] := by
  rw [List.take_add_one, h]; simp
set_option maxRecDepth 100000 in
set_option maxHeartbeats 2000000 in
theorem words_ (w : World) (v : Value) (l : List Ins) (hx : l.length ≤ 100000) (hv : Is w v l) (hg : ∀ i ∈ l, good i) :
    Calls Tryz.prog 19 #[v] w (Made w.heap.size 46 (u32s (l.map wordOf)) w) := by
  obtain ⟨i0, hi, hz0, hz1, hz2⟩ := info_parts u32_info
  obtain ⟨g, cc, rfl, hgl, hcell⟩ := hv
  have HC := Lib.hid hcell
  have HX := Lib.hid hx
  have HGO := Lib.hid hg
  clear hcell hg
  generalize hn : l.length = n at *
  have HN := Lib.hid hn
  clear hn
  go_enter Tryz.func19, Tryz.ntmps19
  go_wp2
  go_loopw [3, 10] (fun s3 i wr => ∃ k : Nat, k ≤ n ∧ i = .int .i64 k ∧ wr.ownsRow w.heap.size 46 1 s3 k (u32s ((l.take k).map wordOf)) ∧ Below w.heap.size w wr) (fun _ i _ => n - (intOf i).toNat)
  case atStart => exact ⟨0, Nat.zero_le _, rfl, World.ownsRow_nil _ _ _ _, Below.refl _ _⟩
  case round =>
    obtain ⟨k, hk, rfl, hown, hbel⟩ := hrel
    by_cases hlt : k < n
    · obtain ⟨⟨a, b, c, d, e⟩, hx1⟩ : ∃ x, l[k]? = some x := by
        rw [← HN.out] at hlt
        exact ⟨l[k], List.getElem?_eq_getElem hlt⟩
      obtain ⟨p0, p1, p2, p3, p4⟩ := HC.out k a b c d e hx1
      have q0 := (hbel.cell (p := ⟨g, k * 5, none⟩) hgl).trans p0
      have q1 := (hbel.cell (p := ⟨g, k * 5 + 1, none⟩) hgl).trans p1
      have q2 := (hbel.cell (p := ⟨g, k * 5 + 2, none⟩) hgl).trans p2
      have q3 := (hbel.cell (p := ⟨g, k * 5 + 3, none⟩) hgl).trans p3
      have q4 := (hbel.cell (p := ⟨g, k * 5 + 4, none⟩) hgl).trans p4
      clear p0 p1 p2 p3 p4
      obtain ⟨g1, g2, g3, g4, g5⟩ := HGO.out _ (List.mem_of_getElem? hx1)
      have ce := fun w => CJ.encode_ a b c d e g2 g3 g4 g5 w
      rw [g1] at ce
      have HT := Lib.hid (take_map hx1)
      have HW := Lib.hid (show wordOf (a, b, c, d, e) = CE.encW a b c d e from rfl)
      clear hx1 g1 g2 g3 g4 g5
      generalize CE.encW a b c d e = W at *
      have hsz := hbel.size
      go_wp2_with (first
        | (go_at_call 28; (with_reducible refine (ce _).mono ?_); rintro e w1 ⟨rfl, hb1⟩; have hbl := (hbel.alloc hbel.size _).trans (hb1.mono (by simp only [World.size_alloc]; omega)); have ho1 : w1.ownsRow w.heap.size 46 1 u3 k (u32s ((l.take k).map wordOf)) := ((hown.alloc _).kept (CD.grown_of hb1) (by cases hv : u3.ownBlock <;> simp)); have hs1 := hbl.size; have HB := Lib.hid hbl; have HHO := Lib.hid ho1; have HW1 := Lib.hid hown; clear hbl ho1 hb1 hown hbel)
        | (at_builtin; refine wpList_append_lies _ rfl _ _ 25 rfl w.heap.size 46 i0 (.int .u32 0) 1 4 Tryz.underlying25 hi hz0 hz1 hz2 rfl (by decide) _ _ _ rfl (HHO.out.alloc _) ⟨w1.heap.size, 0, none⟩ 1 1 [.int .u32 W] rfl rfl (World.news_of_block (cs := #[.int .u32 W]) (t := 46) (fr := (0, 0)) (heap_alloc_new w1 _)) (by simp [Value.oneCell']) (by decide) (by unfold maxLen; omega) (by omega) (by simp only [World.size_alloc]; omega) (w1.heap.size + 1) (by simp only [World.size_alloc]) ?_; intro gg cap w3 hown3 hgrow3 hat3 hlt3; have HO := Lib.hid hown3; have HG := Lib.hid hgrow3; clear hown3 hgrow3 hat3))
      refine ⟨⟨k + 1, by omega, by go_num, ?_, ?_⟩, by simp [intOf]; omega⟩
      · rw [HT.out, HW.out]
        have e : u32s ((l.take k).map wordOf ++ [W]) = u32s ((l.take k).map wordOf) ++ [.int .u32 W] := by simp [u32s]
        rw [e]
        exact HO.out
      · exact (HB.out.alloc HB.out.size _).grown HG.out (by simp only [World.size_alloc]; omega) (fun g hg => (HW1.out.lt g hg).1)
    · have hkn : k = n := by omega
      subst hkn
      go_wp2
      go_ret
      refine ⟨_, rfl, ?_, hbel⟩
      rw [List.take_of_length_le (Nat.le_of_eq HN.out)] at hown
      rw [show (u32s (l.map wordOf)).length = k by simp [u32s, HN.out]]
      exact hown
end MB
end Go.Proofs.YtlmblfkcmhgdaaaGreat
namespace Go.Proofs.YtlmblfkcmhgdaaaGreat
open Go.RowKit
set_option linter.unusedVariables false
set_option linter.unusedSimpArgs false
namespace MP
open MM MC MB
theorem bts_get (xs : List Int) (j i : Nat) (hi : i < 4) (x : Int) (h : xs[j]? = some x) : (bts xs)[4 * j + i]? = (bs x)[i]? := by
  induction xs generalizing j with
  | nil => simp at h
  | cons y xs ih =>
    have e : bts (y :: xs) = bs y ++ bts xs := rfl
    cases j with
    | zero =>
      simp only [List.getElem?_cons_zero, Option.some.injEq] at h
      subst h
      rw [e, List.getElem?_append_left (by show _ < 4; omega)]
      simp
    | succ j =>
      rw [e, List.getElem?_append_right (by show 4 ≤ _; omega), show 4 * (j + 1) + i - (bs y).length = 4 * j + i by show _ - 4 = _; omega]
      exact ih j (by simpa using h)
/-- the bytes of words, one by one -/
def fb (xs : List Int) : Nat → Int := fun k => (bts xs).getD k 0
/-- this code stands from address 0 on -/
def Code (l : List Ins) (g : Nat → Int) : Prop := ∀ k, k < 4 * l.length → g k = fb (l.map wordOf) k
theorem code_loaded (l : List Ins) (u : Int) (N : Nat) (e : Int) : Code l (MW.loaded (fb (l.map wordOf)) (4 * l.length) u N e).mem := fun k hk => by
  show MW.bytesOf _ _ _ = _
  unfold MW.bytesOf
  rw [if_pos hk]
theorem num_four (g : Nat → Int) (a : Nat) : num g a 4 = g a + g (a + 1) * 256 + g (a + 2) * 65536 + g (a + 3) * 16777216 := by
  show ((((0 + g (a + 0) * 256 ^ 0) + g (a + 1) * 256 ^ 1) + g (a + 2) * 256 ^ 2) + g (a + 3) * 256 ^ 3) = _
  simp
theorem num_code {l : List Ins} {g : Nat → Int} (h : Code l g) {j : Nat} {i : Ins} (hj : l[j]? = some i) (hw : 0 ≤ wordOf i ∧ wordOf i < 4294967296) : num g (4 * j) 4 = wordOf i := by
  have hlt : j < l.length := (List.getElem?_eq_some_iff.1 hj).1
  have hm : (l.map wordOf)[j]? = some (wordOf i) := by rw [List.getElem?_map, hj]; rfl
  have hb : ∀ q, q < 4 → g (4 * j + q) = (bs (wordOf i)).getD q 0 := fun q hq => by
    rw [h _ (by omega)]
    unfold fb
    rw [List.getD_eq_getElem?_getD, bts_get _ j q hq _ hm, ← List.getD_eq_getElem?_getD]
  rw [num_four, show g (4 * j) = _ from hb 0 (by omega), hb 1 (by omega), hb 2 (by omega), hb 3 (by omega)]
  generalize wordOf i = x at *
  show x % 256 + x / 256 % 256 * 256 + x / 65536 % 256 * 65536 + x / 16777216 % 256 * 16777216 = x
  omega
end MP
end Go.Proofs.YtlmblfkcmhgdaaaGreat
namespace Go.Proofs.YtlmblfkcmhgdaaaGreat
open Go.RowKit
set_option linter.unusedVariables false
set_option linter.unusedSimpArgs false
namespace MK
attribute [local go_sem ↓] Go.wp_at_zero Go.wp_at_succ
open MM MC MB MP
theorem getD_bd {l : List Int} (h : ∀ x ∈ l, 0 ≤ x ∧ x ≤ 255) (k : Nat) : 0 ≤ l.getD k 0 ∧ l.getD k 0 ≤ 255 := by
  rw [List.getD_eq_getElem?_getD]
  cases e : l[k]? with
  | none => simp
  | some x => exact h x (List.mem_of_getElem? e)
theorem fine_loaded {f : Nat → Int} (hf : ∀ k, 0 ≤ f k ∧ f k ≤ 255) (n N : Nat) (u e : Int) (hu : 0 ≤ u ∧ u ≤ 4294967295) (hN : N ≤ 2097152) (he : 0 ≤ e ∧ e ≤ 4294967295) : Fine (MW.loaded f n u N e) := by
  have e1 : ∀ k, (MW.loaded f n u N e).mem k = if k < n then f k else 0 := fun _ => rfl
  have e2 : ∀ k, (MW.loaded f n u N e).x k = if k = 27 then u else if k = 2 then (N : Int) else 0 := fun _ => rfl
  refine ⟨fun k => ?_, fun k => ?_, fun k => ?_, he, rfl⟩
  · rw [e1]; split
    · exact hf k
    · omega
  · rw [e2]; split
    · exact hu
    · split <;> omega
  · show RM.W 0; unfold RM.W; omega
theorem ws_of {w : World} {B : Nat} {v : Value} {xs : List Int} (h : w.ownsRow B 46 1 v (u32s xs).length (u32s xs)) : Ws w v xs := by
  have hl : (u32s xs).length = xs.length := by simp [u32s]
  rcases h.2 with ⟨rfl, h0⟩ | ⟨g, cap, cur, rfl, hb, hg, hn, hc, hs, ht⟩
  · left
    refine ⟨List.eq_nil_of_length_eq_zero (by omega), none, 0, rfl⟩
  · right
    rw [hl]
    refine ⟨g, 0, cap, rfl, lt_of_get hg, fun j x hj => ?_⟩
    rw [Nat.zero_add]
    have h2 := (h.cells (g := g) rfl) j (.int .u32 x) (by simp [u32s, hj])
    rwa [show (⟨g, 0, none⟩ : Addr).add j = ⟨g, j, none⟩ by unfold Addr.add; split <;> simp_all] at h2
/-- bytes that were made, as an image asks for them -/
theorem image_of {w : World} {B : Nat} {v : Value} {xs : List Int} (h : w.ownsRow B 5 1 v (u8s (bts xs)).length (u8s (bts xs))) (h0 : xs ≠ []) (n : Nat) (hn : 4 * xs.length = n) :
    ∃ g cap, v = .slice (some ⟨g, 0, none⟩) n cap ∧ g < w.heap.size ∧ ∀ k, k < n → w.cell? ⟨g, 0 + k, none⟩ = some (.int .u8 (fb xs k)) := by
  subst hn
  have hl : (u8s (bts xs)).length = 4 * xs.length := by simp [u8s, bts_len]
  have hp : 0 < xs.length := List.length_pos_iff.2 h0
  rcases h.2 with ⟨rfl, h1⟩ | ⟨g, cap, cur, rfl, hb, hg, hn, hc, hs, ht⟩
  · omega
  · rw [hl]
    refine ⟨g, cap, rfl, lt_of_get hg, fun k hk => ?_⟩
    rw [Nat.zero_add]
    have hx : (bts xs)[k]? = some (fb xs k) := by
      unfold fb
      rw [List.getD_eq_getElem?_getD, List.getElem?_eq_getElem (by rw [bts_len]; exact hk)]; rfl
    have h2 := (h.cells (g := g) rfl) k (.int .u8 (fb xs k)) (by simp [u8s, hx])
    rwa [show (⟨g, 0, none⟩ : Addr).add k = ⟨g, k, none⟩ by unfold Addr.add; split <;> simp_all] at h2
/-- no input -/
theorem inp_nil (w : World) (B b bm : Nat) : MD.Inp w B b bm (.slice none 0 0) [] := ⟨.inl ⟨rfl, _, _, rfl⟩⟩
end MK
end Go.Proofs.YtlmblfkcmhgdaaaGreat
namespace Go.Proofs.YtlmblfkcmhgdaaaGreat
open Go.RowKit
set_option linter.unusedVariables false
set_option linter.unusedSimpArgs false
namespace MO
open MM MC
open Go.ChangeShapes Go.WideShapes
/-- numbers in memory, as an argument brings them -/
def Arg (k : IntKind) (w : World) (v : Value) (xs : List Int) : Prop :=
  ∃ p c, v = .slice p xs.length c ∧ (xs ≠ [] → ∃ g o, p = some ⟨g, o, none⟩ ∧ xs.length ≤ c ∧ c ≤ maxLen ∧ g < w.heap.size ∧ ∀ j x, xs[j]? = some x → w.cell? ⟨g, o + j, none⟩ = some (.int k x))
section
variable {H : Type} {enc : TypeId × Value → H}
theorem cell_lt {w : World} {g o : Nat} {v : Value} (h : w.cell? ⟨g, o, none⟩ = some v) : g < w.heap.size := World.block_lt_of_cell? w ⟨g, o, none⟩ h
set_option maxRecDepth 100000 in
theorem open_nums {t e : TypeId} {k : IntKind} (ht : Tryz.prog.underlying t = some (.slice e)) (he : Tryz.prog.underlying e = some (.int k)) (hc : Tryz.prog.cellsOf e = 1)
    {W : World} {base : Nat} {v : Value} {d : DataW H} {p : List MemPlace} (hval : Value.okWide Tryz.prog W .any base t v) (h1 : DataW.Trod enc Tryz.prog W 0 (fun _ => true) true t v d p) :
    ∃ xs : List Int, Arg k W v xs ∧ (∀ x ∈ xs, (Lit.int k x).wf = true) ∧ ∀ (W' : World) (sp : Nat → Bool), (∀ b, b < W.heap.size → sp b = true) → Below W.heap.size W W' → DataW.Trod enc Tryz.prog W' 0 sp true t v d p := by
  obtain ⟨a1, len, cap, rfl⟩ := okWide_slice ht hval
  obtain ⟨fuel, hf⟩ := h1
  rcases open_ints ht he hc hf with ⟨hcs, hx⟩ | ⟨a, len', cap', zs, hcs, _, hl, hm, hz, hx, hcell, hwz⟩
  · simp [Value.cells] at hcs
    obtain ⟨rfl, rfl, rfl⟩ := hcs
    simp only [Prod.mk.injEq] at hx
    obtain ⟨rfl, rfl⟩ := hx
    exact ⟨[], ⟨none, 0, rfl, fun h => absurd rfl h⟩, fun _ h => (by cases h), fun W' sp hsp hb => ⟨1, by simp [DataW.trod, Value.cells, ht]⟩⟩
  · simp [Value.cells] at hcs
    obtain ⟨rfl, rfl, rfl⟩ := hcs
    simp only [Prod.mk.injEq] at hx
    obtain ⟨rfl, rfl⟩ := hx
    simp only [if_true] at hz
    have hlen : (zs.take len).length = len := by simp; omega
    refine ⟨zs.take len, ⟨some a, cap, by rw [hlen], fun h0 => ?_⟩, fun x hx => hwz x (List.mem_of_mem_take hx), fun W' sp hsp hb => ⟨2, shut_ints 0 ht he hc (Nat.zero_le _) hl hm ?_ (fun i hi => ?_) hwz⟩⟩
    · have hp : 0 < zs.length := by
        rcases zs with _ | ⟨z, zs⟩
        · simp at h0
        · simp
      obtain ⟨b, off, rfl, hc2⟩ := ints_at hcell hp
      refine ⟨b, off, rfl, by omega, by omega, cell_lt (hc2 0 hp), fun j x hj => ?_⟩
      have hjl : j < len := by
        have := (List.getElem?_eq_some_iff.1 hj).1
        omega
      rw [List.getElem?_take, if_pos hjl] at hj
      rw [hc2 j (by omega), List.getD_eq_getElem?_getD, hj]; rfl
    · by_cases hp : 0 < zs.length
      · obtain ⟨b, off, rfl, hc2⟩ := ints_at hcell hp
        rw [if_pos (hsp b (cell_lt (hc2 0 hp)))]; exact hz
      · split <;> omega
    · have hp : 0 < zs.length := by omega
      obtain ⟨b, off, rfl, hc2⟩ := ints_at hcell hp
      exact (hb.cell (p := (⟨b, off, none⟩ : Addr).add i) (by rw [block_add]; exact cell_lt (hc2 0 hp))).trans (hcell i hi)
end
end MO
end Go.Proofs.YtlmblfkcmhgdaaaGreat
