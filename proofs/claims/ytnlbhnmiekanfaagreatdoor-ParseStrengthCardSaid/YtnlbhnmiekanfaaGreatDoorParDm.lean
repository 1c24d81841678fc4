/-
  What Parse answers of ParseDeep's texts. Condition: Go's own variables lie.
-/
import Derived.Test.YtnlbhnmiekanfaaGreatDoorParAw
import Derived.Laws.OwnMore
import Derived.Deep.OwnRows
namespace Go.Proofs.YtnlbhnmiekanfaaGreatDoor
open Go.RowKit Go.Deep
set_option linter.unusedVariables false
set_option linter.unusedSimpArgs false
namespace PaC
open Pa Lx
attribute [local go_sem] fld0 fld1 fld2
theorem rem_ (a c : Int) (hc : 0 < c ∧ c < 100000) : ∃ k : Nat, wrap64 ((IntKind.u64.wrap a).tmod c) = (k : Int) ∧ (k : Int) < c := by
  have hu0 : 0 ≤ IntKind.u64.wrap a := wrap_u64_nonneg a
  have h1 : (IntKind.u64.wrap a).tmod c = (IntKind.u64.wrap a) % c := Int.tmod_eq_emod_of_nonneg hu0
  have h2 := Int.emod_nonneg (IntKind.u64.wrap a) (show c ≠ 0 by omega)
  have h3 := Int.emod_lt_of_pos (IntKind.u64.wrap a) hc.1
  refine ⟨((IntKind.u64.wrap a) % c).toNat, ?_, by omega⟩
  rw [h1]
  unfold wrap64
  omega
/-- the law's text -/
def dText (n : Nat) (sg : Bool) : Bs :=
  [105, 110, 116, 32, 97, 61] ++ List.replicate n (if sg then 126 else 40) ++ 49 :: (if sg then [] else List.replicate n 41) ++ [59]
def dMost (sg : Bool) : Nat := if sg then 38 else 19
def dOk (n : Nat) (sg : Bool) : Bool :=
  match Pa.parse (fun _ => 0) 1000 (dText n sg) with
  | .ok _ => decide (n ≤ dMost sg)
  | .bad p c => !decide (n ≤ dMost sg) && p == 6 + dMost sg + 1 && c == 12
  | .out => false
set_option maxRecDepth 100000 in
theorem dAll : ((List.range 50).all fun i => dOk (i + 1) true && dOk (i + 1) false) = true := by kernel_rfl
theorem dOne (n : Nat) (sg : Bool) (h : 1 ≤ n) (h2 : n ≤ 50) : dOk n sg = true := by
  have := List.all_eq_true.1 dAll (n - 1) (by rw [List.mem_range]; omega)
  rw [Nat.sub_add_cancel h, Bool.and_eq_true] at this
  cases sg
  · exact this.2
  · exact this.1
theorem dNoDot (n : Nat) (sg : Bool) : ∀ b ∈ dText n sg, isB 46 b = false := by
  intro b hb
  unfold dText at hb
  simp only [List.mem_append, List.mem_cons, List.not_mem_nil, or_false] at hb
  rcases hb with ((h | h) | h | h) | h
  · rcases h with rfl | rfl | rfl | rfl | rfl | rfl <;> decide
  · rw [(List.mem_replicate.1 h).2]; cases sg <;> decide
  · subst h; decide
  · cases sg
    · rw [(List.mem_replicate.1 h).2]; decide
    · cases h
  · subst h; decide
/-- what Parse answers of it -/
theorem dParse (n : Nat) (sg : Bool) (h : 1 ≤ n) (h2 : n ≤ 50) (w : World) (hB : LxC.Base w.heap.size w) :
    Calls Tryz.prog 8 #[.string ⟨(dText n sg).toArray⟩] w fun e w' => ∃ q m cc p c, e = .returned (.tuple #[.agg #[.slice q m cc], .int .i64 p, .int .i64 c]) ∧ Below w.heap.size w w' ∧ (n ≤ dMost sg → c = 0) ∧ (¬ n ≤ dMost sg → c = 12 ∧ p = 6 + (dMost sg : Int) + 1) := by
  have hd := dOne n sg h h2
  unfold dOk at hd
  have hlen : (dText n sg).length ≤ 110 := by
    unfold dText
    cases sg <;> simp <;> omega
  have c := parse_ (fun _ => 0) 1000 (by decide) ⟨(dText n sg).toArray⟩ w (by show (dText n sg).length ≤ maxLen; unfold maxLen; omega) hB (dNoDot n sg) (by
    rw [show (ByteArray.mk (dText n sg).toArray).data.toList = dText n sg from rfl]
    intro hx
    rw [hx] at hd
    cases hd)
  rw [show (ByteArray.mk (dText n sg).toArray).data.toList = dText n sg from rfl] at c
  refine c.mono ?_
  cases hp : Pa.parse (fun _ => 0) 1000 (dText n sg) with
  | ok ds =>
    rw [hp] at hd
    rintro e w' ⟨q, m, cc, rfl, -, hb⟩
    exact ⟨_, _, _, _, _, rfl, hb, fun _ => rfl, fun hn => absurd (of_decide_eq_true hd) hn⟩
  | bad p er =>
    rw [hp] at hd
    simp only [Bool.and_eq_true, Bool.not_eq_true', decide_eq_false_iff_not, beq_iff_eq] at hd
    obtain ⟨⟨h1, h3⟩, h4⟩ := hd
    rintro e w' ⟨rfl, hb⟩
    exact ⟨_, _, _, _, _, rfl, hb, fun hn => absurd hn h1, fun _ => ⟨h4, by rw [h3]; simp⟩⟩
  | out => rw [hp] at hd; cases hd
end PaC
end Go.Proofs.YtnlbhnmiekanfaaGreatDoor
