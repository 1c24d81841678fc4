/-
  What the statements' own Words and Bytes answer: each a contract. No condition but those that are written at each.
-/
import Derived.Test.YtieehjkmfmkfjabMachC
import Derived.Test.YtieehjkmfmkfjabCodeJ
import Derived.Deep.AppendLies
namespace Go.Proofs.Ytieehjkmfmkfjab
open Go.RowKit
set_option linter.unusedVariables false
set_option linter.unusedSimpArgs false
namespace MB
open MM MC
/-- a slice of words in memory -/
def Ws (w : World) (v : Value) (xs : List Int) : Prop :=
  (xs = [] ∧ ∃ p c, v = .slice p 0 c) ∨ ∃ g o c, v = .slice (some ⟨g, o, none⟩) xs.length c ∧ g < w.heap.size ∧ ∀ j x, xs[j]? = some x → w.cell? ⟨g, o + j, none⟩ = some (.int .u32 x)
def bs (x : Int) : List Int := [x % 256, x / 256 % 256, x / 65536 % 256, x / 16777216 % 256]
def bts (xs : List Int) : List Int := (xs.map bs).flatten
theorem bts_len (xs : List Int) : (bts xs).length = 4 * xs.length := by
  induction xs with
  | nil => rfl
  | cons x xs ih =>
    have e : bts (x :: xs) = bs x ++ bts xs := rfl
    rw [e, List.length_append, ih]
    show 4 + _ = _
    simp only [List.length_cons]; omega
theorem bts_snoc (xs : List Int) (x : Int) : bts (xs ++ [x]) = bts xs ++ bs x := by simp [bts]
def u8s (l : List Int) : List Value := l.map (Value.int .u8)
def u32s (l : List Int) : List Value := l.map (Value.int .u32)
theorem u8_info : (Try.prog.info? 5).map (fun i => (i.zero, i.size, i.bytes)) = some (some (.int .u8 0), 1, 1) := by kernel_rfl
theorem u32_info : (Try.prog.info? 22).map (fun i => (i.zero, i.size, i.bytes)) = some (some (.int .u32 0), 1, 4) := by kernel_rfl
/-- a slice that the call made -/
def Made (B : Nat) (e : TypeId) (xs : List Value) (w0 : World) (r : Ending) (w : World) : Prop := ∃ v, r = .returned v ∧ w.ownsRow B e 1 v xs.length xs ∧ Below B w0 w
theorem take_one {xs : List Int} {k : Nat} {x : Int} (h : xs[k]? = some x) : xs.take (k + 1) = xs.take k ++ [x] := by
  rw [List.take_add_one, h]; rfl
set_option maxRecDepth 100000 in
set_option maxHeartbeats 2000000 in
theorem bytes_ (w : World) (v : Value) (xs : List Int) (hx : xs.length ≤ 100000) (hv : Ws w v xs) :
    Calls Try.prog 15 #[v] w (Made w.heap.size 5 (u8s (bts xs)) w) := by
  obtain ⟨i0, hi, hz0, hz1, hz2⟩ := info_parts u8_info
  have hform : ∃ p c, v = .slice p xs.length c ∧ (∀ wr : World, Below w.heap.size w wr → ∀ k x, xs[k]? = some x → ∃ g o, p = some ⟨g, o, none⟩ ∧ wr.cell? ⟨g, o + k, none⟩ = some (.int .u32 x)) := by
    rcases hv with ⟨rfl, p, c, rfl⟩ | ⟨g, o, c, rfl, hg, hc⟩
    · exact ⟨p, c, rfl, fun _ _ k x h => by simp at h⟩
    · exact ⟨_, c, rfl, fun wr hb k x h => ⟨g, o, rfl, (hb.cell (p := ⟨g, o + k, none⟩) hg).trans (hc k x h)⟩⟩
  obtain ⟨p, c, rfl, hcell⟩ := hform
  have HC := Lib.hid hcell
  have HX := Lib.hid hx
  clear hcell hv
  generalize hn : xs.length = n at *
  have HN := Lib.hid hn
  clear hn
  go_enter Try.func15, Try.ntmps15
  go_wp2
  go_loopw [3, 8] (fun s3 i wr => ∃ k : Nat, k ≤ n ∧ i = .int .i64 k ∧ wr.ownsRow w.heap.size 5 1 s3 (4 * k) (u8s (bts (xs.take k))) ∧ Below w.heap.size w wr) (fun _ i _ => n - (intOf i).toNat)
  case atStart => exact ⟨0, Nat.zero_le _, rfl, World.ownsRow_nil _ _ _ _, Below.refl _ _⟩
  case round =>
    rename_i s3 _
    obtain ⟨k, hk, rfl, hown, hbel⟩ := hrel
    by_cases hlt : k < n
    · obtain ⟨x, hx1⟩ : ∃ x, xs[k]? = some x := by
        rw [← HN.out] at hlt
        exact ⟨xs[k], List.getElem?_eq_getElem hlt⟩
      obtain ⟨g, o, rfl, hcell⟩ := HC.out wr hbel k x hx1
      have HT := Lib.hid (take_one hx1)
      clear hx1
      have hsz := hbel.size
      go_wp2_with (at_builtin; refine wpList_append_lies _ rfl _ _ 36 rfl w.heap.size 5 i0 (.int .u8 0) 1 1 Try.underlying36 hi hz0 hz1 hz2 rfl (by decide) _ _ _ rfl (hown.alloc _) ⟨wr.heap.size, 0, none⟩ 4 4 [.int .u8 (x % 256), .int .u8 (x / 256 % 256), .int .u8 (x / 65536 % 256), .int .u8 (x / 16777216 % 256)] rfl rfl (World.news_of_block (cs := #[.int .u8 (x % 256), .int .u8 (x / 256 % 256), .int .u8 (x / 65536 % 256), .int .u8 (x / 16777216 % 256)]) (t := 5) (fr := (0, 0)) (heap_alloc_new wr _)) (by simp [Value.oneCell']) (by decide) (by unfold maxLen; omega) (by omega) (by simp only [World.size_alloc]; omega) (wr.heap.size + 1) (by simp only [World.size_alloc]) ?_; intro gg cap w1 hown1 hgrow1 hat1 hlt1; have HO := Lib.hid hown1; have HG := Lib.hid hgrow1; clear hown1 hgrow1 hat1)
      refine ⟨⟨k + 1, by omega, by go_num, ?_, ?_⟩, by simp [intOf]; omega⟩
      · rw [HT.out, bts_snoc]
        have e : u8s (bts (xs.take k) ++ bs x) = u8s (bts (xs.take k)) ++ [.int .u8 (x % 256), .int .u8 (x / 256 % 256), .int .u8 (x / 65536 % 256), .int .u8 (x / 16777216 % 256)] := by simp [u8s, bs]
        rw [e, show 4 * (k + 1) = 4 * k + 4 by omega]
        exact HO.out
      · exact (hbel.alloc hbel.size _).grown HG.out (by simp only [World.size_alloc]; omega) (fun g hg => (hown.lt g hg).1)
    · have hkn : k = n := by omega
      subst hkn
      go_wp2
      go_ret
      refine ⟨_, rfl, ?_, hbel⟩
      have h2 := bts_len xs
      rw [HN.out] at h2
      rw [List.take_of_length_le (Nat.le_of_eq HN.out)] at hown
      rw [show (u8s (bts xs)).length = 4 * k by simp [u8s, h2]]
      exact hown
/-! ### the words of instructions -/
abbrev Ins := Int × Int × Int × Int × Int
def wordOf (i : Ins) : Int := CE.encW i.1 i.2.1 i.2.2.1 i.2.2.2.1 i.2.2.2.2
def good (i : Ins) : Prop := CE.encE i.1 i.2.1 i.2.2.1 i.2.2.2.1 i.2.2.2.2 = 0 ∧ (Lit.int .i64 i.2.1).wf = true ∧ (Lit.int .i64 i.2.2.1).wf = true ∧ (Lit.int .i64 i.2.2.2.1).wf = true ∧ (Lit.int .i64 i.2.2.2.2).wf = true
/-- a slice of instructions in memory -/
def Is (w : World) (v : Value) (l : List Ins) : Prop :=
  ∃ g c, v = .slice (some ⟨g, 0, none⟩) l.length c ∧ g < w.heap.size ∧ ∀ (k : Nat) (a b c d e : Int), l[k]? = some (a, b, c, d, e) →
    w.cell? ⟨g, k * 5, none⟩ = some (.int .i64 a) ∧ w.cell? ⟨g, k * 5 + 1, none⟩ = some (.int .i64 b) ∧ w.cell? ⟨g, k * 5 + 2, none⟩ = some (.int .i64 c) ∧ w.cell? ⟨g, k * 5 + 3, none⟩ = some (.int .i64 d) ∧ w.cell? ⟨g, k * 5 + 4, none⟩ = some (.int .i64 e)
theorem take_map {l : List Ins} {k : Nat} {x : Ins} (h : l[k]? = some x) : (l.take (k + 1)).map wordOf = (l.take k).map wordOf ++ [wordOf x] := by
  rw [List.take_add_one, h]; simp
set_option maxRecDepth 100000 in
set_option maxHeartbeats 2000000 in
theorem words_ (w : World) (v : Value) (l : List Ins) (hx : l.length ≤ 100000) (hv : Is w v l) (hg : ∀ i ∈ l, good i) :
    Calls Try.prog 19 #[v] w (Made w.heap.size 22 (u32s (l.map wordOf)) w) := by
  obtain ⟨i0, hi, hz0, hz1, hz2⟩ := info_parts u32_info
  obtain ⟨g, cc, rfl, hgl, hcell⟩ := hv
  have HC := Lib.hid hcell
  have HX := Lib.hid hx
  have HGO := Lib.hid hg
  clear hcell hg
  generalize hn : l.length = n at *
  have HN := Lib.hid hn
  clear hn
  go_enter Try.func19, Try.ntmps19
  go_wp2
  go_loopw [3, 10] (fun s3 i wr => ∃ k : Nat, k ≤ n ∧ i = .int .i64 k ∧ wr.ownsRow w.heap.size 22 1 s3 k (u32s ((l.take k).map wordOf)) ∧ Below w.heap.size w wr) (fun _ i _ => n - (intOf i).toNat)
  case atStart => exact ⟨0, Nat.zero_le _, rfl, World.ownsRow_nil _ _ _ _, Below.refl _ _⟩
  case round =>
    obtain ⟨k, hk, rfl, hown, hbel⟩ := hrel
    by_cases hlt : k < n
    · obtain ⟨⟨a, b, c, d, e⟩, hx1⟩ : ∃ x, l[k]? = some x := by
        rw [← HN.out] at hlt
        exact ⟨l[k], List.getElem?_eq_getElem hlt⟩
      obtain ⟨p0, p1, p2, p3, p4⟩ := HC.out k a b c d e hx1
      have q0 := (hbel.cell (p := ⟨g, k * 5, none⟩) hgl).trans p0
      have q1 := (hbel.cell (p := ⟨g, k * 5 + 1, none⟩) hgl).trans p1
      have q2 := (hbel.cell (p := ⟨g, k * 5 + 2, none⟩) hgl).trans p2
      have q3 := (hbel.cell (p := ⟨g, k * 5 + 3, none⟩) hgl).trans p3
      have q4 := (hbel.cell (p := ⟨g, k * 5 + 4, none⟩) hgl).trans p4
      clear p0 p1 p2 p3 p4
      obtain ⟨g1, g2, g3, g4, g5⟩ := HGO.out _ (List.mem_of_getElem? hx1)
      have ce := fun w => CJ.encode_ a b c d e g2 g3 g4 g5 w
      rw [g1] at ce
      have HT := Lib.hid (take_map hx1)
      have HW := Lib.hid (show wordOf (a, b, c, d, e) = CE.encW a b c d e from rfl)
      clear hx1 g1 g2 g3 g4 g5
      generalize CE.encW a b c d e = W at *
      have hsz := hbel.size
      go_wp2_with (first
        | (go_at_call 35; (with_reducible refine (ce _).mono ?_); rintro e w1 ⟨rfl, hb1⟩; have hbl := (hbel.alloc hbel.size _).trans (hb1.mono (by simp only [World.size_alloc]; omega)); have ho1 : w1.ownsRow w.heap.size 22 1 u3 k (u32s ((l.take k).map wordOf)) := ((hown.alloc _).kept (CD.grown_of hb1) (by cases hv : u3.ownBlock <;> simp)); have hs1 := hbl.size; have HB := Lib.hid hbl; have HHO := Lib.hid ho1; have HW1 := Lib.hid hown; clear hbl ho1 hb1 hown hbel)
        | (at_builtin; refine wpList_append_lies _ rfl _ _ 38 rfl w.heap.size 22 i0 (.int .u32 0) 1 4 Try.underlying38 hi hz0 hz1 hz2 rfl (by decide) _ _ _ rfl (HHO.out.alloc _) ⟨w1.heap.size, 0, none⟩ 1 1 [.int .u32 W] rfl rfl (World.news_of_block (cs := #[.int .u32 W]) (t := 22) (fr := (0, 0)) (heap_alloc_new w1 _)) (by simp [Value.oneCell']) (by decide) (by unfold maxLen; omega) (by omega) (by simp only [World.size_alloc]; omega) (w1.heap.size + 1) (by simp only [World.size_alloc]) ?_; intro gg cap w3 hown3 hgrow3 hat3 hlt3; have HO := Lib.hid hown3; have HG := Lib.hid hgrow3; clear hown3 hgrow3 hat3))
      refine ⟨⟨k + 1, by omega, by go_num, ?_, ?_⟩, by simp [intOf]; omega⟩
      · rw [HT.out, HW.out]
        have e : u32s ((l.take k).map wordOf ++ [W]) = u32s ((l.take k).map wordOf) ++ [.int .u32 W] := by simp [u32s]
        rw [e]
        exact HO.out
      · exact (HB.out.alloc HB.out.size _).grown HG.out (by simp only [World.size_alloc]; omega) (fun g hg => (HW1.out.lt g hg).1)
    · have hkn : k = n := by omega
      subst hkn
      go_wp2
      go_ret
      refine ⟨_, rfl, ?_, hbel⟩
      rw [List.take_of_length_le (Nat.le_of_eq HN.out)] at hown
      rw [show (u32s (l.map wordOf)).length = k by simp [u32s, HN.out]]
      exact hown
end MB
end Go.Proofs.Ytieehjkmfmkfjab
