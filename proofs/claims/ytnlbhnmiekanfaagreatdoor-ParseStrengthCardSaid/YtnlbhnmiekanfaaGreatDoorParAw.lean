/-
  Trees that are read; the law texts' fixed fact. Condition: Go's own variables lie.
-/
import Derived.Test.YtnlbhnmiekanfaaGreatDoorPxK
namespace Go.Proofs.YtnlbhnmiekanfaaGreatDoor
open Go.RowKit Go.Deep
set_option linter.unusedVariables false
set_option linter.unusedSimpArgs false
namespace PaC
open Pa Lx
attribute [local go_sem] fld0 fld1 fld2
/-- one row of a slice -/
theorem SlAt.one {α : Type} {n : Nat} {R : α → List Value → Prop} {P : Nat → Prop} {w : World} {k : α} {v : Value} (h : SlAt n R P w [k] v) : ∃ g o c row, v = .slice (Option.some ⟨g, o, Option.none⟩) 1 c ∧ R k row ∧ w.rangeAt g o row ∧ g < w.heap.size := by
  cases h with
  | some kids g o cap rows hl hne hc hm hP hg hr hk =>
    match rows, hl with
    | [row], _ => exact ⟨g, o, cap, row, rfl, hk 0 row k rfl rfl, by have := hr 0 row rfl; rwa [Nat.zero_mul, Nat.add_zero] at this, hg⟩
theorem SsAt.one {P : Nat → Prop} {w : World} {k : St} {v : Value} (h : SsAt P w [k] v) : ∃ g o c row, v = .slice (Option.some ⟨g, o, Option.none⟩) 1 c ∧ StAt P w k row ∧ w.rangeAt g o row ∧ g < w.heap.size := by
  cases h with
  | some kids g o cap rows hl hne hc hm hP hg hr hk =>
    match rows, hl with
    | [row], _ => exact ⟨g, o, cap, row, rfl, hk 0 row k rfl rfl, by have := hr 0 row rfl; rwa [Nat.zero_mul, Nat.add_zero] at this, hg⟩
theorem KsAt.one {P : Nat → Prop} {w : World} {k : Ex} {v : Value} (h : KsAt P w [k] v) : ∃ g o c row, v = .slice (Option.some ⟨g, o, Option.none⟩) 1 c ∧ ExAt P w k row ∧ w.rangeAt g o row ∧ g < w.heap.size := by
  cases h with
  | some kids g o cap rows hl hne hc hm hP hg hr hk =>
    match rows, hl with
    | [row], _ => exact ⟨g, o, cap, row, rfl, hk 0 row k rfl rfl, by have := hr 0 row rfl; rwa [Nat.zero_mul, Nat.add_zero] at this, hg⟩
theorem KsAt.two {P : Nat → Prop} {w : World} {k l : Ex} {v : Value} (h : KsAt P w [k, l] v) : ∃ g o c r1 r2, v = .slice (Option.some ⟨g, o, Option.none⟩) 2 c ∧ ExAt P w k r1 ∧ w.rangeAt g o r1 ∧ ExAt P w l r2 ∧ w.rangeAt g (o + 8) r2 ∧ g < w.heap.size := by
  cases h with
  | some kids g o cap rows hl hne hc hm hP hg hr hk =>
    match rows, hl with
    | [r1, r2], _ => exact ⟨g, o, cap, r1, r2, rfl, hk 0 r1 k rfl rfl, by have := hr 0 r1 rfl; rwa [Nat.zero_mul, Nat.add_zero] at this, hk 1 r2 l rfl rfl, by have := hr 1 r2 rfl; rwa [Nat.one_mul] at this, hg⟩
/-- an expression's cells, where they lie -/
theorem ExAt.row {P : Nat → Prop} {w : World} {kind num bits type place : Nat} {op name : Bs} {kids : List Ex} {c : List Value} (h : ExAt P w (.mk kind op name num bits kids type place) c) :
    ∃ kv, KsAt P w kids kv ∧ c = [.int .i64 (kind : Int), .string ⟨op.toArray⟩, .string ⟨name.toArray⟩, .int .u32 (num : Int), .int .u64 (bits : Int), kv, .int .i64 (type : Int), .int .i64 (place : Int)] := by
  cases h with
  | mk kind op name num bits kids type place kv h => exact ⟨kv, h, rfl⟩
theorem StAt.row {P : Nat → Prop} {w : World} {kind type len place : Nat} {name : Bs} {exprs : List Ex} {kids : List St} {c : List Value} (h : StAt P w (.mk kind exprs kids name type len place) c) :
    ∃ ev kv, KsAt P w exprs ev ∧ SsAt P w kids kv ∧ c = [.int .i64 (kind : Int), ev, kv, .string ⟨name.toArray⟩, .int .i64 (type : Int), .int .i64 (len : Int), .int .i64 (place : Int)] := by
  cases h with
  | mk kind exprs kids name type len place ev kv he hk => exact ⟨ev, kv, he, hk, rfl⟩
theorem DeAt.row {P : Nat → Prop} {w : World} {d : De} {c : List Value} (h : DeAt P w d c) : ∃ iv pv bc, KsAt P w d.inits iv ∧ PsAt P w d.params pv ∧ StAt P w d.body bc ∧ bc.length = 7 ∧
    c = [.bool d.func, .bool d.static, .bool d.extern, .string ⟨d.name.toArray⟩, .int .i64 (d.type : Int), .int .i64 (d.len : Int), iv, .bool d.has, pv] ++ bc ++ [.int .i64 (d.place : Int)] := by
  obtain ⟨iv, pv, bc, hi, hp, hb⟩ := h
  exact ⟨iv, pv, bc, hi, hp, hb, hb.seven.choose_spec.choose_spec.choose_spec.choose_spec.choose_spec.choose_spec.choose_spec.choose_spec.choose_spec.choose_spec.choose_spec.2, rfl⟩
theorem below_range {w w' : World} {b o : Nat} {cs : List Value} (hb : Below w.heap.size w w') (hg : b < w.heap.size) (h : w.rangeAt b o cs) : w'.rangeAt b o cs := fun j v hv => cell_same (hb.block b hg) (h j v hv)
/-- the document's example -/
def dEx : De := ⟨true, false, false, [109, 97, 105, 110], 1, 0, [], true, [], .mk 1 [] [.mk 4 [.mk 5 [43] [] 0 0 [.mk 1 [] [] 1 0 [] 0 20, .mk 5 [42] [] 0 0 [.mk 1 [] [] 2 0 [] 0 24, .mk 1 [] [] 3 0 [] 0 28] 0 24] 0 20] [] [] 0 0 13] [] 0 0 11, 0⟩
theorem ex1_ : Pa.parse (fun _ => 0) 100 ex1 = .ok [dEx] := by kernel_rfl
theorem ex2_ : Pa.parse (fun _ => 0) 100 ex2 = .bad 6 1 := by kernel_rfl
/-- what the fixed fact reads of the example -/
def Reads (g o g2 o2 c2 g3 o3 c3 g4 o4 c4 : Nat) (w : World) : Prop :=
  w.cell? ⟨g, o + 9 + 2, none⟩ = some (.slice (some ⟨g2, o2, none⟩) 1 c2) ∧ w.cell? ⟨g2, o2 + 1, none⟩ = some (.slice (some ⟨g3, o3, none⟩) 1 c3) ∧
  w.rangeAt g3 o3 [.int .i64 5, .string ⟨#[43]⟩, .string ⟨#[]⟩, .int .u32 0, .int .u64 0, .slice (some ⟨g4, o4, none⟩) 2 c4, .int .i64 0, .int .i64 20] ∧ w.cell? ⟨g4, o4 + 8 + 1, none⟩ = some (.string ⟨#[42]⟩)
theorem reads {P : Nat → Prop} {w : World} {q : Option Addr} {n c : Nat} (h : DsAt P w [dEx] (.slice q n c)) : ∃ g o g2 o2 c2 g3 o3 c3 g4 o4 c4, q = some ⟨g, o, none⟩ ∧ n = 1 ∧ ∀ w', Below w.heap.size w w' → Reads g o g2 o2 c2 g3 o3 c3 g4 o4 c4 w' := by
  obtain ⟨g, o, cc, row, e1, hd, hr, hg⟩ := h.one
  injection e1 with e1 e2 e3
  obtain ⟨iv, pv, bc, hi, hp, hb, hbl, rfl⟩ := hd.row
  obtain ⟨ev, kv, he, hk, rfl⟩ := (show StAt P w (.mk 1 [] [.mk 4 [.mk 5 [43] [] 0 0 [.mk 1 [] [] 1 0 [] 0 20, .mk 5 [42] [] 0 0 [.mk 1 [] [] 2 0 [] 0 24, .mk 1 [] [] 3 0 [] 0 28] 0 24] 0 20] [] [] 0 0 13] [] 0 0 11) bc from hb).row
  obtain ⟨g2, o2, c2, row2, rfl, hs, hr2, hg2⟩ := hk.one
  obtain ⟨ev2, kv2, he2, hk2, rfl⟩ := hs.row
  obtain ⟨g3, o3, c3, row3, rfl, hx, hr3, hg3⟩ := he2.one
  obtain ⟨kv3, hk3, rfl⟩ := hx.row
  obtain ⟨g4, o4, c4, r1, r2, rfl, hx1, hr4, hx2, hr5, hg4⟩ := hk3.two
  obtain ⟨kv5, hk5, rfl⟩ := hx2.row
  refine ⟨g, o, g2, o2, c2, g3, o3, c3, g4, o4, c4, e1, e2, fun w' hw => ⟨?_, ?_, ?_, ?_⟩⟩
  · have := below_range hw hg hr 11 _ rfl
    rwa [show o + 11 = o + 9 + 2 by omega] at this
  · exact below_range hw hg2 hr2 1 _ rfl
  · exact below_range hw hg3 hr3
  · have := below_range hw hg4 hr5 1 _ rfl
    exact this
set_option maxRecDepth 100000 in
set_option maxHeartbeats 8000000 in
theorem awake_ (w : World) (hB : LxC.Base w.heap.size w) : Calls Tryz.prog 7 #[] w fun e w' => e = .returned (.bool true) ∧ Below w.heap.size w w' := by
  have c1 : Calls Tryz.prog 8 #[.string ⟨#[105, 110, 116, 32, 109, 97, 105, 110, 40, 41, 32, 123, 32, 114, 101, 116, 117, 114, 110, 32, 49, 32, 43, 32, 50, 32, 42, 32, 51, 59, 32, 125]⟩] w fun e w' => ∃ q n c, e = .returned (.tuple #[.agg #[.slice q n c], .int .i64 0, .int .i64 0]) ∧ DsAt (New w.heap.size) w' [dEx] (.slice q n c) ∧ Below w.heap.size w w' := by
    have := parse_ (fun _ => 0) 100 (by decide) ⟨ex1.toArray⟩ w (by decide) hB (by decide +kernel) (by rw [show (⟨ex1.toArray⟩ : ByteArray).data.toList = ex1 from rfl, ex1_]; exact fun h => by cases h)
    rw [show (⟨ex1.toArray⟩ : ByteArray).data.toList = ex1 from rfl, ex1_] at this
    exact this
  have c2 : ∀ W, Below w.heap.size w W → Calls Tryz.prog 8 #[.string ⟨#[105, 110, 116, 32, 97, 91, 48, 93, 59]⟩] W fun e w' => e = .returned (.tuple #[.agg #[nilV], .int .i64 6, .int .i64 1]) ∧ Below W.heap.size W w' := fun W hW => by
    have := parse_ (fun _ => 0) 100 (by decide) ⟨ex2.toArray⟩ W (by decide) (hB.later hW hW.size (Nat.le_refl _)) (by decide +kernel) (by rw [show (⟨ex2.toArray⟩ : ByteArray).data.toList = ex2 from rfl, ex2_]; exact fun h => by cases h)
    rw [show (⟨ex2.toArray⟩ : ByteArray).data.toList = ex2 from rfl, ex2_] at this
    exact this
  clear hB
  go_enter Tryz.func7, Tryz.ntmps7
  go_wp2_with (first
    | (go_at_call 8; (with_reducible refine c1.mono ?_); rintro e w1 ⟨q, n, c, rfl, hds, hb⟩; obtain ⟨g, o, g2, o2, c2', g3, o3, c3, g4, o4, c4, rfl, rfl, hr⟩ := reads hds; have HR := Lib.hid hr; have hb2 : Below w.heap.size w (w1.alloc (.cells #[.slice (some ⟨g, o, none⟩) 1 c] TMo)) := hb.alloc hb.size _; have c2i := c2 _ hb2; have HB1 := Lib.hid hb2; clear c1 c2 hds hb hb2 hr)
    | (go_at_call 8; (with_reducible refine c2i.mono ?_); rintro e w2 ⟨rfl, hb⟩; have hb0 : Below w1.heap.size w1 w2 := ((Below.refl _ _).alloc (Nat.le_refl _) _).trans (hb.mono (by simp)); obtain ⟨r1, r2, r3, -⟩ := HR.out (w2.alloc (.cells #[nilV] TMo)) (hb0.alloc hb0.size _); have HR3 := Lib.hid r3; obtain ⟨-, -, -, r4⟩ := HR.out ((w2.alloc (.cells #[nilV] TMo)).alloc (.cells (ex8 5 ⟨#[43]⟩ ⟨#[]⟩ 0 0 (.slice (some ⟨g4, o4, none⟩) 2 c4) 0 20) TE)) ((hb0.alloc hb0.size _).alloc (by simp; have := hb0.size; omega) _); have hm1 := (hb.block w1.heap.size (by simp)).trans (heap_alloc_new w1 _); have hs2 := hb.size; simp only [World.size_alloc] at hs2; have hm2 := (Lib.alloc_old w2 (.cells #[nilV] TMo) _ (show w1.heap.size < w2.heap.size by omega)).trans hm1; have m0 := Lib.cell_of_heap hm2 0; have HB2 := Lib.hid hb; clear hb hb0 c2i r3 hm1 hm2)
    | ((with_reducible refine wpList_load_mid rfl TE (.tmp 58) rfl g3 o3 ?xa [.int .i64 5, .string ⟨#[43]⟩, .string ⟨#[]⟩, .int .u32 0, .int .u64 0, .slice (some ⟨g4, o4, none⟩) 2 c4, .int .i64 0, .int .i64 20] _ HR3.out Tryz.underlying41 rfl (by kernel_rfl) ?_); (case xa => simp [go_sem])))
  go_ret
  exact ⟨rfl, ((HB1.out.trans (HB2.out.mono HB1.out.size)).alloc (HB1.out.trans (HB2.out.mono HB1.out.size)).size _).alloc ((HB1.out.trans (HB2.out.mono HB1.out.size)).alloc (HB1.out.trans (HB2.out.mono HB1.out.size)).size _).size _⟩
end PaC
end Go.Proofs.YtnlbhnmiekanfaaGreatDoor
