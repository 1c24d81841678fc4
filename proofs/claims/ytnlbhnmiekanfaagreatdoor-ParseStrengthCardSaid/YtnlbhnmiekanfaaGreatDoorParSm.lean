/-
  What Parse answers of ParseStrength's texts. Condition: Go's own variables lie.
-/
import Derived.Test.YtnlbhnmiekanfaaGreatDoorParCm
namespace Go.Proofs.YtnlbhnmiekanfaaGreatDoor
open Go.RowKit Go.Deep
set_option linter.unusedVariables false
set_option linter.unusedSimpArgs false
namespace PaC
open Pa Lx
attribute [local go_sem] fld0 fld1 fld2
/-- the law's signs, and how strong each is -/
def sgL : List Bs := [[124, 124], [38, 38], [124], [94], [38], [61, 61], [33, 61], [60], [60, 61], [62], [62, 61], [60, 60], [62, 62], [43], [45], [42], [47], [37]]
def stL : List Nat := [0, 1, 2, 3, 4, 5, 5, 6, 6, 6, 6, 7, 7, 8, 8, 9, 9, 9]
def sg (i : Nat) : Bs := sgL.getD i []
def stg (i : Nat) : Nat := stL.getD i 0
/-- the law's text -/
def sText (i j : Nat) : Bs := [105, 110, 116, 32, 118, 61, 49] ++ sg i ++ [50] ++ sg j ++ [51, 59]
def sOk (i j : Nat) : Bool :=
  match Pa.parse (fun _ => 0) 1000 (sText i j) with
  | .ok [⟨_, _, _, _, _, _, [.mk k op _ _ _ [.mk _ o1 _ n1 _ _ _ _, .mk _ o2 _ n2 _ _ _ _] _ _], _, _, _, _⟩] =>
    k == 5 && (if stg i < stg j then op == sg i && n1 == 1 && o2 == sg j else op == sg j && n2 == 3 && o1 == sg i)
  | _ => false
set_option maxRecDepth 100000 in
theorem sAll : ((List.range 18).all fun i => (List.range 18).all fun j => sOk i j) = true := by kernel_rfl
theorem sOne (i j : Nat) (h : i < 18) (h2 : j < 18) : sOk i j = true :=
  List.all_eq_true.1 (List.all_eq_true.1 sAll i (by rw [List.mem_range]; omega)) j (by rw [List.mem_range]; omega)
theorem sg_dot : ∀ l ∈ sgL, ∀ b ∈ l, isB 46 b = false := by decide
theorem sg_len : ∀ l ∈ sgL, l.length ≤ 2 := by decide
theorem sg_mem (i : Nat) (h : i < 18) : sg i ∈ sgL := by
  unfold sg
  rw [List.getD_eq_getElem?_getD, List.getElem?_eq_getElem (show i < sgL.length from h)]
  exact List.getElem_mem _
theorem sText_dot (i j : Nat) (h : i < 18) (h2 : j < 18) : ∀ b ∈ sText i j, isB 46 b = false := by
  intro b hb
  unfold sText at hb
  simp only [List.mem_append] at hb
  rcases hb with (((h1 | h1) | h1) | h1) | h1
  · exact (by decide : ∀ b ∈ ([105, 110, 116, 32, 118, 61, 49] : Bs), isB 46 b = false) b h1
  · exact sg_dot _ (sg_mem i h) b h1
  · exact (by decide : ∀ b ∈ ([50] : Bs), isB 46 b = false) b h1
  · exact sg_dot _ (sg_mem j h2) b h1
  · exact (by decide : ∀ b ∈ ([51, 59] : Bs), isB 46 b = false) b h1
theorem sText_len (i j : Nat) (h : i < 18) (h2 : j < 18) : (sText i j).length ≤ 14 := by
  have h3 := sg_len _ (sg_mem i h)
  have h4 := sg_len _ (sg_mem j h2)
  unfold sText
  simp only [List.length_append, List.length_cons, List.length_nil]
  omega
/-- what the law reads of the module -/
def RdS (g o g2 o2 c2 g4 o4 c4 : Nat) (op nm o1 o3 : Bs) (nu bi ty pl n1 n2 : Int) (w : World) : Prop :=
  w.cell? ⟨g, o + 6, none⟩ = some (.slice (some ⟨g2, o2, none⟩) 1 c2) ∧
  w.rangeAt g2 o2 [.int .i64 5, .string ⟨op.toArray⟩, .string ⟨nm.toArray⟩, .int .u32 nu, .int .u64 bi, .slice (some ⟨g4, o4, none⟩) 2 c4, .int .i64 ty, .int .i64 pl] ∧
  w.cell? ⟨g4, o4 + 1, none⟩ = some (.string ⟨o1.toArray⟩) ∧ w.cell? ⟨g4, o4 + 3, none⟩ = some (.int .u32 n1) ∧ w.cell? ⟨g4, o4 + 8 + 1, none⟩ = some (.string ⟨o3.toArray⟩) ∧ w.cell? ⟨g4, o4 + 8 + 3, none⟩ = some (.int .u32 n2)
theorem sParse (i j : Nat) (h : i < 18) (h2 : j < 18) (w : World) (hB : LxC.Base w.heap.size w) :
    Calls Tryz.prog 8 #[.string ⟨(sText i j).toArray⟩] w fun e w' => ∃ g o cc g2 o2 c2 g4 o4 c4 op nm o1 o3 nu bi ty pl n1 n2, e = .returned (.tuple #[.agg #[.slice (some ⟨g, o, none⟩) 1 cc], .int .i64 0, .int .i64 0]) ∧ Below w.heap.size w w' ∧
      (∀ W, Below w'.heap.size w' W → RdS g o g2 o2 c2 g4 o4 c4 op nm o1 o3 nu bi ty pl n1 n2 W) ∧ (stg i < stg j → op = sg i ∧ n1 = 1 ∧ o3 = sg j) ∧ (¬ stg i < stg j → op = sg j ∧ n2 = 3 ∧ o1 = sg i) := by
  have hd := sOne i j h h2
  unfold sOk at hd
  have hlen := sText_len i j h h2
  have c := parse_ (fun _ => 0) 1000 (by decide) ⟨(sText i j).toArray⟩ w (by show (sText i j).length ≤ maxLen; unfold maxLen; omega) hB (sText_dot i j h h2) (by
    rw [show (ByteArray.mk (sText i j).toArray).data.toList = sText i j from rfl]
    intro hx
    rw [hx] at hd
    cases hd)
  rw [show (ByteArray.mk (sText i j).toArray).data.toList = sText i j from rfl] at c
  refine c.mono ?_
  split at hd
  · rename_i f1 f2 f3 f4 f5 f6 k op nm nu bi k1 o1 m1 n1 b1 s1 t1 p1 k2 o3 m2 n2 b2 s2 t2 p2 ty pl f7 f8 f9 f10 hp
    rw [hp]
    rw [Bool.and_eq_true, beq_iff_eq] at hd
    obtain ⟨rfl, hk⟩ := hd
    rintro e w' ⟨q, m, cc, rfl, hds, hb⟩
    obtain ⟨g, o, c1, row, e1, hdr, hr, hg⟩ := hds.one
    injection e1 with e1 e2 e3
    subst e1 e2 e3
    obtain ⟨iv, pv, bc, hi, -, -, -, rfl⟩ := hdr.row
    obtain ⟨g2, o2, c2, row2, rfl, hx, hr2, hg2⟩ := hi.one
    obtain ⟨kv, hkv, rfl⟩ := hx.row
    obtain ⟨g4, o4, c4, r1, r2, rfl, hx1, hr4, hx2, hr5, hg4⟩ := hkv.two
    obtain ⟨kv5, hk5, rfl⟩ := hx1.row
    obtain ⟨kv6, hk6, rfl⟩ := hx2.row
    refine ⟨g, o, _, g2, o2, c2, g4, o4, c4, op, nm, o1, o3, _, _, _, _, (n1 : Int), (n2 : Int), rfl, hb, fun W hW => ⟨below_range hW hg hr 6 _ rfl, below_range hW hg2 hr2, below_range hW hg4 hr4 1 _ rfl, below_range hW hg4 hr4 3 _ rfl, below_range hW hg4 hr5 1 _ rfl, below_range hW hg4 hr5 3 _ rfl⟩, fun hs => ?_, fun hs => ?_⟩
    · rw [if_pos hs] at hk
      simp only [Bool.and_eq_true, beq_iff_eq] at hk
      exact ⟨hk.1.1, by rw [hk.1.2]; rfl, hk.2⟩
    · rw [if_neg hs] at hk
      simp only [Bool.and_eq_true, beq_iff_eq] at hk
      exact ⟨hk.1.1, by rw [hk.1.2]; rfl, hk.2⟩
  · cases hd
end PaC
end Go.Proofs.YtnlbhnmiekanfaaGreatDoor
