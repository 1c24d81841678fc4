/-
  ParT ParU ParC ParD ParE, joined.
  Conditions: those that are written at each.
-/
import Derived.Test.YtnlbhnmiekanfaaGreatDoorParM
import Derived.Deep.MidRow
import Derived.Below
import Derived.WalkKit
import Derived.Deep.QuietTactic
import Derived.Deep.OwnRows
import Derived.Laws.OwnMore
import Derived.Test.YtnlbhnmiekanfaaGreatDoorParSh
import Derived.Deep.DeepCutAuto
import Derived.Deep.RegionHeld3
import Derived.Deep.DeepMust
import Derived.BigRegion
import Derived.BigQuiet
import Derived.Lib.Hide
import Derived.Lib.SlicesS
import Derived.Laws.Pointers
import Derived.Laws.ByValue
import Derived.Defers
import Derived.StillTailTactics
/-
  Trees in memory, and what calls leave as it was. No program, no condition.
-/
namespace Go.Proofs.YtnlbhnmiekanfaaGreatDoor
open Go.RowKit
set_option linter.unusedVariables false
set_option linter.unusedSimpArgs false
namespace PaC
open Pa Lx
/-- but for block G, what was there is as it was -/
structure Keep (G : Nat) (w w' : World) : Prop where
  os : w'.os = w.os
  tape : w'.tape = w.tape
  output : w'.output = w.output
  size : w.heap.size ≤ w'.heap.size
  block : ∀ k, k < w.heap.size → k ≠ G → w'.heap[k]? = w.heap[k]?
theorem Keep.refl (G : Nat) (w : World) : Keep G w w := ⟨rfl, rfl, rfl, Nat.le_refl _, fun _ _ _ => rfl⟩
theorem Keep.trans {G : Nat} {a b c : World} (h : Keep G a b) (k : Keep G b c) : Keep G a c :=
  ⟨k.os.trans h.os, k.tape.trans h.tape, k.output.trans h.output, Nat.le_trans h.size k.size, fun i hi hg => (k.block i (Nat.lt_of_lt_of_le hi h.size) hg).trans (h.block i hi hg)⟩
theorem Keep.of {G : Nat} {w w' : World} (h : Below w.heap.size w w') : Keep G w w' := ⟨h.os, h.tape, h.output, h.size, fun k hk _ => h.block k hk⟩
theorem Keep.set {G : Nat} {w w' : World} (h : Keep G w w') (i : Nat) (v : Value) : Keep G w (w'.setCell ⟨G, i, none⟩ v) :=
  h.trans ⟨rfl, rfl, rfl, by simp [World.setCell], fun k hk hg => Below.heap_setCell _ _ _ _ (by show k ≠ G; omega)⟩
theorem Keep.drew {G : Nat} {w w' : World} (h : Keep G w w') : Keep G w w'.drew := ⟨h.os, h.tape, h.output, h.size, h.block⟩
theorem Keep.draws {G : Nat} {w w' : World} (h : Keep G w w') (n : Nat) : Keep G w (w'.drewN n) := ⟨h.os, h.tape, h.output, h.size, h.block⟩
theorem Keep.cell {G : Nat} {w w' : World} (h : Keep G w w') {b i : Nat} {v : Value} (hb : b ≠ G) (hc : w.cell? ⟨b, i, none⟩ = some v) : w'.cell? ⟨b, i, none⟩ = some v := by
  have hlt : b < w.heap.size := by
    rcases Nat.lt_or_ge b w.heap.size with c | c
    · exact c
    · unfold World.cell? at hc; simp [Array.getElem?_eq_none c] at hc
  have hk := h.block b hlt hb
  unfold World.cell? at hc ⊢
  rw [hk]; exact hc
theorem Keep.range {G : Nat} {w w' : World} (h : Keep G w w') {b o : Nat} {cs : List Value} (hb : b ≠ G) (hc : w.rangeAt b o cs) : w'.rangeAt b o cs :=
  fun j v hv => h.cell hb (hc j v hv)
mutual
/-- an expression's eight cells -/
inductive ExAt (P : Nat → Prop) (w : World) : Ex → List Value → Prop
  | mk (kind : Nat) (op name : Bs) (num bits : Nat) (kids : List Ex) (type place : Nat) (kv : Value) (h : KsAt P w kids kv) :
      ExAt P w (.mk kind op name num bits kids type place) [.int .i64 (kind : Int), .string ⟨op.toArray⟩, .string ⟨name.toArray⟩, .int .u32 (num : Int), .int .u64 (bits : Int), kv, .int .i64 (type : Int), .int .i64 (place : Int)]
/-- a slice of expressions -/
inductive KsAt (P : Nat → Prop) (w : World) : List Ex → Value → Prop
  | nil : KsAt P w [] (.slice none 0 0)
  | some (kids : List Ex) (g o cap : Nat) (rows : List (List Value)) (hl : rows.length = kids.length) (hne : kids ≠ []) (hc : kids.length ≤ cap) (hm : cap ≤ maxLen) (hP : P g) (hg : g < w.heap.size)
      (hr : ∀ (i : Nat) (r : List Value), rows[i]? = Option.some r → w.rangeAt g (o + i * 8) r) (hk : ∀ (i : Nat) (r : List Value) (k : Ex), rows[i]? = Option.some r → kids[i]? = Option.some k → ExAt P w k r) :
      KsAt P w kids (.slice (Option.some ⟨g, o, Option.none⟩) kids.length cap)
end
/-- all that may hold blocks of a tree lies as it did -/
def Same (P : Nat → Prop) (w w' : World) : Prop := w.heap.size ≤ w'.heap.size ∧ ∀ b, P b → b < w.heap.size → w'.heap[b]? = w.heap[b]?
theorem cell_same {w w' : World} {b i : Nat} {v : Value} (h : w'.heap[b]? = w.heap[b]?) (hc : w.cell? ⟨b, i, none⟩ = some v) : w'.cell? ⟨b, i, none⟩ = some v := by
  unfold World.cell? at hc ⊢
  rw [h]; exact hc
theorem ExAt.mono {P Q : Nat → Prop} {w w' : World} (hw : Same P w w') (hPQ : ∀ b, P b → Q b) {x : Ex} {c : List Value} (h : ExAt P w x c) : ExAt Q w' x c :=
  ExAt.rec (motive_1 := fun x c _ => ExAt Q w' x c) (motive_2 := fun ks v _ => KsAt Q w' ks v)
    (fun kind op name num bits kids type place kv _ ih => .mk kind op name num bits kids type place kv ih) .nil
    (fun kids g o cap rows hl hne hc hm hP hg hr _ ih => .some kids g o cap rows hl hne hc hm (hPQ g hP) (Nat.lt_of_lt_of_le hg hw.1) (fun i r hi j v hv => cell_same (hw.2 g hP hg) (hr i r hi j v hv)) ih) h
theorem KsAt.mono {P Q : Nat → Prop} {w w' : World} (hw : Same P w w') (hPQ : ∀ b, P b → Q b) {ks : List Ex} {v : Value} (h : KsAt P w ks v) : KsAt Q w' ks v :=
  KsAt.rec (motive_1 := fun x c _ => ExAt Q w' x c) (motive_2 := fun ks v _ => KsAt Q w' ks v)
    (fun kind op name num bits kids type place kv _ ih => .mk kind op name num bits kids type place kv ih) .nil
    (fun kids g o cap rows hl hne hc hm hP hg hr _ ih => .some kids g o cap rows hl hne hc hm (hPQ g hP) (Nat.lt_of_lt_of_le hg hw.1) (fun i r hi j v hv => cell_same (hw.2 g hP hg) (hr i r hi j v hv)) ih) h
/-- a tree of blocks that are new since n -/
abbrev New (n : Nat) : Nat → Prop := fun b => n ≤ b
theorem Same.of {n G : Nat} {w w' : World} (h : Keep G w w') (hG : G < n) : Same (New n) w w' := ⟨h.size, fun b hb hlt => h.block b hlt (by show b ≠ G; have : n ≤ b := hb; omega)⟩
/-- the tokens as the parser is given them: the last is the end, no other one is -/
def Good (Rl : Bs → Prop) : List Tok → Prop
  | [] => False
  | [t] => t.kind = 0 ∧ t.text = []
  | t :: u :: l => t.kind ≠ 0 ∧ t.text ≠ [] ∧ (t.kind = 2 → isInt t.text = true ∧ ∀ b ∈ t.text, digit b = true) ∧ (t.kind = 3 → Rl t.text) ∧ Good Rl (u :: l)
variable {Rl : Bs → Prop}
theorem Good.tail {t : Tok} {l : List Tok} (h : Good Rl (t :: l)) (hk : t.kind ≠ 0 ∨ t.text ≠ []) : ∃ u r, l = u :: r ∧ Good Rl (u :: r) := by
  cases l with
  | nil => obtain ⟨a, b⟩ := h; rcases hk with hk | hk <;> contradiction
  | cons u r => exact ⟨u, r, rfl, h.2.2.2.2⟩
theorem Good.ne {l : List Tok} (h : Good Rl l) : ∃ t r, l = t :: r := by
  cases l with
  | nil => exact h.elim
  | cons t r => exact ⟨t, r, rfl⟩
/-- a sign that is seen is no end -/
theorem Good.sees {t : Tok} {l : List Tok} (h : Good Rl (t :: l)) {signs : List Bs} (hs : [] ∉ signs) (hx : Pa.sees (t :: l) signs = true) : ∃ u r, l = u :: r ∧ Good Rl (u :: r) := by
  refine h.tail (.inr fun e => hs ?_)
  unfold Pa.sees at hx
  have : (hd (t :: l)).text = t.text := rfl
  rw [this, e] at hx
  exact List.contains_iff_mem.1 hx
end PaC
end Go.Proofs.YtnlbhnmiekanfaaGreatDoor
/-
  Statements, params and declarations in memory. No program, no condition.
-/
namespace Go.Proofs.YtnlbhnmiekanfaaGreatDoor
open Go.RowKit
set_option linter.unusedVariables false
set_option linter.unusedSimpArgs false
namespace PaC
open Pa Lx
/-- a slice whose rows of n cells lie as R says, each in memory that P allows -/
inductive SlAt {α : Type} (n : Nat) (R : α → List Value → Prop) (P : Nat → Prop) (w : World) : List α → Value → Prop
  | nil : SlAt n R P w [] (.slice none 0 0)
  | some (kids : List α) (g o cap : Nat) (rows : List (List Value)) (hl : rows.length = kids.length) (hne : kids ≠ []) (hc : kids.length ≤ cap) (hm : cap ≤ maxLen) (hP : P g) (hg : g < w.heap.size)
      (hr : ∀ (i : Nat) (r : List Value), rows[i]? = Option.some r → w.rangeAt g (o + i * n) r) (hk : ∀ (i : Nat) (r : List Value) (k : α), rows[i]? = Option.some r → kids[i]? = Option.some k → R k r) :
      SlAt n R P w kids (.slice (Option.some ⟨g, o, Option.none⟩) kids.length cap)
theorem SlAt.ks {P : Nat → Prop} {w : World} {ks : List Ex} {v : Value} (h : SlAt 8 (ExAt P w) P w ks v) : KsAt P w ks v := by
  cases h with
  | nil => exact .nil
  | some kids g o cap rows hl hne hc hm hP hg hr hk => exact .some ks g o cap rows hl hne hc hm hP hg hr hk
theorem SlAt.mono {α : Type} {n : Nat} {R S : α → List Value → Prop} {P Q : Nat → Prop} {w w' : World} (hw : Same P w w') (hPQ : ∀ b, P b → Q b) (hRS : ∀ k r, R k r → S k r) {ks : List α} {v : Value} (h : SlAt n R P w ks v) : SlAt n S Q w' ks v := by
  cases h with
  | nil => exact .nil
  | some kids g o cap rows hl hne hc hm hP hg hr hk =>
    exact .some ks g o cap rows hl hne hc hm (hPQ g hP) (Nat.lt_of_lt_of_le hg hw.1) (fun i r hi j v hv => cell_same (hw.2 g hP hg) (hr i r hi j v hv)) fun i r k hi hk' => hRS k r (hk i r k hi hk')
theorem SlAt.slice {α : Type} {n : Nat} {R : α → List Value → Prop} {P : Nat → Prop} {w : World} {ks : List α} {v : Value} (h : SlAt n R P w ks v) : ∃ a c, v = .slice a ks.length c := by
  cases h with
  | nil => exact ⟨_, _, rfl⟩
  | some kids g o cap rows hl hne hc hm hP hg hr hk => exact ⟨_, _, rfl⟩
mutual
/-- a statement's seven cells -/
inductive StAt (P : Nat → Prop) (w : World) : St → List Value → Prop
  | mk (kind : Nat) (exprs : List Ex) (kids : List St) (name : Bs) (type len place : Nat) (ev kv : Value) (he : KsAt P w exprs ev) (hk : SsAt P w kids kv) :
      StAt P w (.mk kind exprs kids name type len place) [.int .i64 (kind : Int), ev, kv, .string ⟨name.toArray⟩, .int .i64 (type : Int), .int .i64 (len : Int), .int .i64 (place : Int)]
/-- a slice of statements -/
inductive SsAt (P : Nat → Prop) (w : World) : List St → Value → Prop
  | nil : SsAt P w [] (.slice none 0 0)
  | some (kids : List St) (g o cap : Nat) (rows : List (List Value)) (hl : rows.length = kids.length) (hne : kids ≠ []) (hc : kids.length ≤ cap) (hm : cap ≤ maxLen) (hP : P g) (hg : g < w.heap.size)
      (hr : ∀ (i : Nat) (r : List Value), rows[i]? = Option.some r → w.rangeAt g (o + i * 7) r) (hk : ∀ (i : Nat) (r : List Value) (k : St), rows[i]? = Option.some r → kids[i]? = Option.some k → StAt P w k r) :
      SsAt P w kids (.slice (Option.some ⟨g, o, Option.none⟩) kids.length cap)
end
theorem SlAt.ss {P : Nat → Prop} {w : World} {ks : List St} {v : Value} (h : SlAt 7 (StAt P w) P w ks v) : SsAt P w ks v := by
  cases h with
  | nil => exact .nil
  | some kids g o cap rows hl hne hc hm hP hg hr hk => exact .some ks g o cap rows hl hne hc hm hP hg hr hk
theorem StAt.mono {P Q : Nat → Prop} {w w' : World} (hw : Same P w w') (hPQ : ∀ b, P b → Q b) {x : St} {c : List Value} (h : StAt P w x c) : StAt Q w' x c :=
  StAt.rec (motive_1 := fun x c _ => StAt Q w' x c) (motive_2 := fun ks v _ => SsAt Q w' ks v)
    (fun kind exprs kids name type len place ev kv he _ ih => .mk kind exprs kids name type len place ev kv (he.mono hw hPQ) ih) .nil
    (fun kids g o cap rows hl hne hc hm hP hg hr _ ih => .some kids g o cap rows hl hne hc hm (hPQ g hP) (Nat.lt_of_lt_of_le hg hw.1) (fun i r hi j v hv => cell_same (hw.2 g hP hg) (hr i r hi j v hv)) ih) h
theorem SsAt.mono {P Q : Nat → Prop} {w w' : World} (hw : Same P w w') (hPQ : ∀ b, P b → Q b) {ks : List St} {v : Value} (h : SsAt P w ks v) : SsAt Q w' ks v :=
  SsAt.rec (motive_1 := fun x c _ => StAt Q w' x c) (motive_2 := fun ks v _ => SsAt Q w' ks v)
    (fun kind exprs kids name type len place ev kv he _ ih => .mk kind exprs kids name type len place ev kv (he.mono hw hPQ) ih) .nil
    (fun kids g o cap rows hl hne hc hm hP hg hr _ ih => .some kids g o cap rows hl hne hc hm (hPQ g hP) (Nat.lt_of_lt_of_le hg hw.1) (fun i r hi j v hv => cell_same (hw.2 g hP hg) (hr i r hi j v hv)) ih) h
/-- a param's three cells -/
def pr3 (p : Pr) : List Value := [.string ⟨p.name.toArray⟩, .int .i64 (p.type : Int), .int .i64 (p.place : Int)]
/-- a slice of params -/
abbrev PsAt (P : Nat → Prop) (w : World) : List Pr → Value → Prop := SlAt 3 (fun p c => c = pr3 p) P w
/-- a declaration's seventeen cells -/
inductive DeAt (P : Nat → Prop) (w : World) : De → List Value → Prop
  | mk (d : De) (iv pv : Value) (bc : List Value) (hi : KsAt P w d.inits iv) (hp : PsAt P w d.params pv) (hb : StAt P w d.body bc) :
      DeAt P w d ([.bool d.func, .bool d.static, .bool d.extern, .string ⟨d.name.toArray⟩, .int .i64 (d.type : Int), .int .i64 (d.len : Int), iv, .bool d.has, pv] ++ bc ++ [.int .i64 (d.place : Int)])
theorem DeAt.mono {P Q : Nat → Prop} {w w' : World} (hw : Same P w w') (hPQ : ∀ b, P b → Q b) {x : De} {c : List Value} (h : DeAt P w x c) : DeAt Q w' x c := by
  obtain ⟨iv, pv, bc, hi, hp, hb⟩ := h
  exact .mk x iv pv bc (hi.mono hw hPQ) (hp.mono hw hPQ fun _ _ h => h) (hb.mono hw hPQ)
/-- a slice of declarations -/
abbrev DsAt (P : Nat → Prop) (w : World) : List De → Value → Prop := SlAt 17 (DeAt P w) P w
/-- each tree's blocks are there -/
theorem ExAt.lt {P : Nat → Prop} {w : World} {x : Ex} {c : List Value} (h : ExAt P w x c) : ExAt (fun b => P b ∧ b < w.heap.size) w x c :=
  ExAt.rec (motive_1 := fun x c _ => ExAt (fun b => P b ∧ b < w.heap.size) w x c) (motive_2 := fun ks v _ => KsAt (fun b => P b ∧ b < w.heap.size) w ks v)
    (fun kind op name num bits kids type place kv _ ih => .mk kind op name num bits kids type place kv ih) .nil
    (fun kids g o cap rows hl hne hc hm hP hg hr _ ih => .some kids g o cap rows hl hne hc hm ⟨hP, hg⟩ hg hr ih) h
theorem KsAt.lt {P : Nat → Prop} {w : World} {ks : List Ex} {v : Value} (h : KsAt P w ks v) : KsAt (fun b => P b ∧ b < w.heap.size) w ks v := by
  cases h with
  | nil => exact .nil
  | some kids g o cap rows hl hne hc hm hP hg hr hk => exact .some ks g o cap rows hl hne hc hm ⟨hP, hg⟩ hg hr fun i r k hi hj => (hk i r k hi hj).lt
theorem StAt.lt {P : Nat → Prop} {w : World} {x : St} {c : List Value} (h : StAt P w x c) : StAt (fun b => P b ∧ b < w.heap.size) w x c :=
  StAt.rec (motive_1 := fun x c _ => StAt (fun b => P b ∧ b < w.heap.size) w x c) (motive_2 := fun ks v _ => SsAt (fun b => P b ∧ b < w.heap.size) w ks v)
    (fun kind exprs kids name type len place ev kv he _ ih => .mk kind exprs kids name type len place ev kv he.lt ih) .nil
    (fun kids g o cap rows hl hne hc hm hP hg hr _ ih => .some kids g o cap rows hl hne hc hm ⟨hP, hg⟩ hg hr ih) h
theorem SlAt.lt {α : Type} {n : Nat} {R : α → List Value → Prop} {P : Nat → Prop} {w : World} {ks : List α} {v : Value} (h : SlAt n R P w ks v) : SlAt n R (fun b => P b ∧ b < w.heap.size) w ks v := by
  cases h with
  | nil => exact .nil
  | some kids g o cap rows hl hne hc hm hP hg hr hk => exact .some ks g o cap rows hl hne hc hm ⟨hP, hg⟩ hg hr hk
theorem DeAt.lt {P : Nat → Prop} {w : World} {x : De} {c : List Value} (h : DeAt P w x c) : DeAt (fun b => P b ∧ b < w.heap.size) w x c := by
  obtain ⟨iv, pv, bc, hi, hp, hb⟩ := h
  exact .mk x iv pv bc hi.lt hp.lt hb.lt
/-- what is so stays so -/
structure Stays {α : Type} (R : (Nat → Prop) → World → α → List Value → Prop) : Prop where
  on : ∀ (P Q : Nat → Prop) (w w' : World) (k : α) (r : List Value), Same P w w' → (∀ b, P b → Q b) → R P w k r → R Q w' k r
  lt : ∀ (P : Nat → Prop) (w : World) (k : α) (r : List Value), R P w k r → R (fun b => P b ∧ b < w.heap.size) w k r
theorem stays_ex : Stays ExAt := ⟨fun _ _ _ _ _ _ h1 h2 h3 => h3.mono h1 h2, fun _ _ _ _ h => h.lt⟩
theorem stays_st : Stays StAt := ⟨fun _ _ _ _ _ _ h1 h2 h3 => h3.mono h1 h2, fun _ _ _ _ h => h.lt⟩
theorem stays_de : Stays DeAt := ⟨fun _ _ _ _ _ _ h1 h2 h3 => h3.mono h1 h2, fun _ _ _ _ h => h.lt⟩
theorem stays_pr : Stays (fun (_ : Nat → Prop) (_ : World) (p : Pr) (c : List Value) => c = pr3 p) := ⟨fun _ _ _ _ _ _ _ _ h => h, fun _ _ _ _ h => h⟩
/-- rows that grow: what lies in the row's own block, each of its parts elsewhere -/
structure Grow {α : Type} (n : Nat) (R : (Nat → Prop) → World → α → List Value → Prop) (e : TypeId) (N : Nat) (w : World) (ks : List α) (v : Value) (rows : List (List Value)) : Prop where
  own : w.ownsRow N e n v ks.length rows.flatten
  len : rows.length = ks.length
  wide : ∀ r ∈ rows, r.length = n
  none_ : ks = [] → v = .slice none 0 0
  at_ : ∀ (i : Nat) (r : List Value) (k : α), rows[i]? = some r → ks[i]? = some k → R (fun b => N ≤ b ∧ v.ownBlock ≠ some b) w k r
theorem flat_at (n : Nat) : ∀ (rows : List (List Value)) (hw : ∀ r ∈ rows, r.length = n) (i : Nat) (r : List Value) (hi : rows[i]? = some r) (j : Nat) (x : Value), r[j]? = some x → rows.flatten[i * n + j]? = some x
  | [], hw, i, r, hi, j, x, hx => by simp at hi
  | q :: rows, hw, 0, r, hi, j, x, hx => by
    cases hi
    rw [List.flatten_cons, Nat.zero_mul, Nat.zero_add, List.getElem?_append_left (List.getElem?_eq_some_iff.1 hx).1]
    exact hx
  | q :: rows, hw, i + 1, r, hi, j, x, hx => by
    have hq : q.length = n := hw q (by simp)
    rw [List.flatten_cons, List.getElem?_append_right (by rw [hq, Nat.add_mul]; omega)]
    rw [show (i + 1) * n + j - q.length = i * n + j by rw [hq, Nat.add_mul]; omega]
    exact flat_at n rows (fun r hr => hw r (by simp [hr])) i r hi j x hx
section
variable {α : Type} {n : Nat} {R : (Nat → Prop) → World → α → List Value → Prop} {e : TypeId} {N : Nat} {w w' : World} {ks : List α} {v v' : Value} {rows : List (List Value)}
theorem Grow.nil (n : Nat) (R : (Nat → Prop) → World → α → List Value → Prop) (e : TypeId) (N : Nat) (w : World) : Grow n R e N w [] (.slice none 0 0) [] :=
  ⟨World.ownsRow_nil _ _ _ _, rfl, fun r h => (by cases h), fun _ => rfl, fun i r k h => (by simp at h)⟩
theorem Grow.block (h : Grow n R e N w ks v rows) {b : Nat} (hb : v.ownBlock = some b) : N ≤ b ∧ b < w.heap.size := h.own.lt b hb
theorem Grow.grown {G : Option Nat} (hs : Stays R) (h : Grow n R e N w ks v rows) (hg : w.grownBy w' G) (hG : ∀ k, G = some k → k < N) : Grow n R e N w' ks v rows := by
  refine ⟨h.own.kept hg ?_, h.len, h.wide, h.none_, fun i r k hi hk => ?_⟩
  · cases hv : v.ownBlock with
    | none => exact .inl rfl
    | some g => exact .inr fun e2 => by have := (h.block hv).1; have := hG g e2.symm; omega
  · refine hs.on _ _ _ _ _ _ ⟨hg.size, fun b hb hlt => hg.block b hlt fun e2 => ?_⟩ (fun b hb => hb) (h.at_ i r k hi hk)
    have := hb.1; have := hG b e2.symm; omega
theorem Grow.keep {G : Nat} (hs : Stays R) (h : Grow n R e N w ks v rows) (hk : Keep G w w') (hG : G < N) : Grow n R e N w' ks v rows :=
  h.grown hs (G := some G) ⟨hk.os, hk.tape, hk.output, hk.size, fun k hlt hne => hk.block k hlt fun e2 => hne (by rw [e2])⟩ fun k hk => by cases hk; exact hG
theorem Grow.below (hs : Stays R) (h : Grow n R e N w ks v rows) (hb : Below w.heap.size w w') : Grow n R e N w' ks v rows :=
  h.grown hs (G := none) ⟨hb.os, hb.tape, hb.output, hb.size, fun k hlt _ => hb.block k hlt⟩ fun k hk => by cases hk
theorem Grow.push {k : α} {r : List Value} (hs : Stays R) (h : Grow n R e N w ks v rows) (hr : R (fun b => N ≤ b ∧ v.ownBlock ≠ some b) w k r) (hrl : r.length = n)
    (hown : w'.ownsRow N e n v' (ks.length + 1) (rows.flatten ++ r)) (hg : w.grownBy w' v.ownBlock) (hat : v'.ownBlock = v.ownBlock ∨ v'.ownBlock = some w.heap.size) : Grow n R e N w' (ks ++ [k]) v' (rows ++ [r]) := by
  have key : ∀ (k : α) (r : List Value), R (fun b => N ≤ b ∧ v.ownBlock ≠ some b) w k r → R (fun b => N ≤ b ∧ v'.ownBlock ≠ some b) w' k r := fun k r hq => by
    have hl := hs.lt _ _ _ _ hq
    refine hs.on _ _ _ _ _ _ ⟨hg.size, fun b hb hlt => hg.block b hlt fun e2 => hb.1.2 e2.symm⟩ (fun b hb => ⟨hb.1.1, ?_⟩) hl
    rcases hat with e1 | e1
    · rw [e1]; exact hb.1.2
    · rw [e1]; intro e2; have := hb.2; cases e2; omega
  refine ⟨?_, ?_, ?_, ?_, ?_⟩
  · simpa using hown
  · simp [h.len]
  · intro q hq
    rcases List.mem_append.1 hq with hq | hq
    · exact h.wide q hq
    · rw [List.mem_singleton.1 hq]; exact hrl
  · intro e2; simp at e2
  · intro i q x hi hx
    by_cases hlt : i < rows.length
    · rw [List.getElem?_append_left hlt] at hi
      rw [List.getElem?_append_left (by rw [← h.len]; exact hlt)] at hx
      exact key _ _ (h.at_ i q x hi hx)
    · rw [List.getElem?_append_right (by omega)] at hi
      rw [List.getElem?_append_right (by rw [← h.len]; omega)] at hx
      have h0 : i - rows.length = 0 := by have := (List.getElem?_eq_some_iff.1 hi).1; simp at this; exact this
      rw [h0] at hi
      rw [← h.len, h0] at hx
      cases hi; cases hx
      exact key _ _ hr
theorem Grow.done (hs : Stays R) (h : Grow n R e N w ks v rows) : SlAt n (R (New N) w) (New N) w ks v := by
  cases ks with
  | nil => rw [h.none_ rfl]; exact .nil
  | cons k ks =>
    rcases h.own.2 with ⟨-, h0⟩ | ⟨g, cap, cur, rfl, hb, hg, hc, hm, hcs, ht⟩
    · simp at h0
    · refine .some (k :: ks) g 0 cap rows h.len (by simp) hc hm hb (Array.getElem?_eq_some_iff.1 hg).1 ?_ fun i r x hi hx => hs.on _ _ _ _ _ _ ⟨Nat.le_refl _, fun _ _ _ => rfl⟩ (fun b hb => hb.1) (h.at_ i r x hi hx)
      intro i r hi j x hx
      have hf := flat_at n rows h.wide i r hi j x hx
      rw [← ht] at hf
      have hl := (List.getElem?_eq_some_iff.1 hf).1
      rw [List.getElem?_take] at hf
      split at hf
      · unfold World.cell?
        simp only [hg]
        rw [← Array.getElem?_toList, Nat.zero_add]; exact hf
      · cases hf
end
end PaC
end Go.Proofs.YtnlbhnmiekanfaaGreatDoor
/-
  The parser's small calls: the next token, reading one, signs. Condition: what the parser holds lies in memory.
-/
namespace Go.Proofs.YtnlbhnmiekanfaaGreatDoor
open Go.RowKit
set_option linter.unusedVariables false
set_option linter.unusedSimpArgs false
namespace PaC
open Pa Lx
abbrev TP : TypeId := 94
abbrev TK : TypeId := 118
abbrev TFp : TypeId := 90
abbrev ptr (G : Nat) : Value := .pointer (some ⟨G, 0, none⟩)
abbrev thrown (a e : Int) : Ending := .panicked [{ v := .iface TFp (.agg #[.int .i64 a, .int .i64 e]), recovered := false }]
/-- a token's three cells -/
def tok3 (t : Tok) : List Value := [.int .i64 (t.kind : Int), .string ⟨t.text.toArray⟩, .int .i64 (t.place : Int)]
/-- strings in memory, one behind the other -/
def SignsAt (w : World) (b : Nat) (signs : List Bs) : Prop := ∀ (j : Nat) (x : Bs), signs[j]? = some x → w.cell? ⟨b, j, none⟩ = some (.string ⟨x.toArray⟩)
/-- the operators by strength -/
def LevAt (N g : Nat) (w : World) (G L : Nat) : Prop := L ≠ G ∧ (∀ s, s < 10 → ∃ b, b ≠ G ∧ b < N ∧ w.cell? ⟨L, s, none⟩ = some (.slice (some ⟨b, 0, none⟩) (level s).length (level s).length) ∧ SignsAt w b (level s)) ∧ g < N ∧ L < N ∧ G < N ∧ N ≤ w.heap.size
/-- a parser in memory: the tokens that aren't read yet, and how deep it is -/
def PAt (N : Nat) (w : World) (G : Nat) (ts : List Tok) (d : Nat) : Prop := ∃ g o c L, w.heap[G]? = some (.cells #[.slice (some ⟨g, o, none⟩) ts.length c, .slice (some ⟨L, 0, none⟩) 10 10, .int .i64 (d : Int)] TP (0, 0)) ∧ g ≠ G ∧ ts.length ≤ c ∧ c ≤ maxLen ∧ (∀ i t, ts[i]? = some t → w.rangeAt g (o + i * 3) (tok3 t)) ∧ LevAt N g w G L
theorem SignsAt.keep {w w' : World} {G b : Nat} {signs : List Bs} (h : SignsAt w b signs) (hk : Keep G w w') (hb : b ≠ G) : SignsAt w' b signs := fun j x hj => hk.cell hb (h j x hj)
theorem LevAt.keep {N g : Nat} {w w' : World} {G L : Nat} (h : LevAt N g w G L) (hk : Keep G w w') : LevAt N g w' G L :=
  ⟨h.1, fun s hs => by obtain ⟨b, h1, h0, h2, h3⟩ := h.2.1 s hs; exact ⟨b, h1, h0, hk.cell h.1 h2, h3.keep hk h1⟩, h.2.2.1, h.2.2.2.1, h.2.2.2.2.1, Nat.le_trans h.2.2.2.2.2 hk.size⟩
variable {N : Nat}
theorem PAt.lt {w : World} {G d : Nat} {ts : List Tok} (h : PAt N w G ts d) : G < w.heap.size := by
  obtain ⟨g, o, c, L, h1, -⟩ := h
  exact (Array.getElem?_eq_some_iff.1 h1).1
theorem PAt.below {w w' : World} {G d : Nat} {ts : List Tok} (h : PAt N w G ts d) (hb : Below w.heap.size w w') : PAt N w' G ts d := by
  have hlt := h.lt
  obtain ⟨g, o, c, L, h1, h2, h3, h4, h5, h6⟩ := h
  exact ⟨g, o, c, L, (hb.block G hlt).trans h1, h2, h3, h4, fun i t hi => (Keep.of (G := G) hb).range h2 (h5 i t hi), h6.keep (Keep.of hb)⟩
theorem Keep.setNew {G B i : Nat} {w w' : World} (h : Keep G w w') (hB : w.heap.size ≤ B) (v : Value) : Keep G w (w'.setCell ⟨B, i, none⟩ v) :=
  ⟨h.os, h.tape, h.output, by simpa [World.setCell] using h.size, fun k hk hg => (Below.heap_setCell _ _ _ _ (by show k ≠ B; omega)).trans (h.block k hk hg)⟩
/-- with the first token read -/
theorem PAt.rest {w : World} {G d : Nat} {t u : Tok} {r : List Tok} (h : PAt N w G (t :: u :: r) d) : ∃ g o c lv, w.heap[G]? = some (.cells #[.slice (some ⟨g, o, none⟩) (r.length + 1 + 1) (c + 1), lv, .int .i64 (d : Int)] TP (0, 0)) ∧ 1 ≤ c ∧ c + 1 ≤ maxLen ∧
    ∀ w', Keep G w w' → w'.heap[G]? = some (.cells #[.slice (some ⟨g, o + 3, none⟩) (r.length + 1) c, lv, .int .i64 (d : Int)] TP (0, 0)) → PAt N w' G (u :: r) d := by
  obtain ⟨g, o, c, L, h1, h2, h3, h4, h5, h6⟩ := h
  have hc : 2 ≤ c := by simp at h3; omega
  refine ⟨g, o, c - 1, _, by rw [show c - 1 + 1 = c by omega]; exact h1, by omega, by omega, fun w' hk hb => ⟨g, o + 3, c - 1, L, hb, h2, by simp at h3 ⊢; omega, by omega, fun i x hi => ?_, h6.keep hk⟩⟩
  have := hk.range h2 (h5 (i + 1) x (by rw [List.getElem?_cons_succ]; exact hi))
  rwa [show o + 3 + i * 3 = o + (i + 1) * 3 by omega]
theorem containsS_eq (signs : List Bs) (x : Bs) : Lib.containsS (signs.map fun b => (⟨b.toArray⟩ : ByteArray)) ⟨x.toArray⟩ = signs.contains x := by
  rw [Bool.eq_iff_iff, Lib.containsS_iff, List.contains_iff_mem, List.mem_map]
  constructor
  · rintro ⟨b, hb, e⟩
    have : b = x := by
      have h1 := congrArg ByteArray.data e
      have h2 : b.toArray = x.toArray := h1
      exact List.toArray_inj h2
    rwa [← this]
  · intro h; exact ⟨x, h, rfl⟩
theorem load_tok (w : World) (g o : Nat) (t : Tok) (h : w.rangeAt g o (tok3 t)) : (Instr.loadAt TK (.pointer (some ⟨g, o, none⟩))).run Tryz.prog w = .ok (.agg (tok3 t).toArray) w :=
  run_loadAt_mid w g o TK (tok3 t) _ h Tryz.underlying118 rfl (by kernel_rfl)
def TokPost (t : Tok) (w : World) (e : Ending) (w' : World) : Prop := e = .returned (.agg #[.int .i64 (t.kind : Int), .string ⟨t.text.toArray⟩, .int .i64 (t.place : Int)]) ∧ Below w.heap.size w w'
set_option maxRecDepth 100000 in
set_option maxHeartbeats 2000000 in
theorem next_ {w : World} {G d : Nat} {t : Tok} {r : List Tok} (h : PAt N w G (t :: r) d) : Calls Tryz.prog 64 #[ptr G] w (TokPost t w) := by
  have hlt := h.lt
  have hb : Below w.heap.size w (w.alloc (.cells #[.int .i64 0, .string ⟨#[]⟩, .int .i64 0] TK)) := (Below.refl _ _).alloc (Nat.le_refl _) _
  obtain ⟨g, o, c, L, h1, h2, h3, h4, h5, h6⟩ := h.below hb
  have p0 : (w.alloc (.cells #[.int .i64 0, .string ⟨#[]⟩, .int .i64 0] TK)).cell? ⟨G, 0, none⟩ = some (.slice (some ⟨g, o, none⟩) (r.length + 1) c) := Lib.cell_of_heap h1 0
  have hr := h5 0 t rfl
  rw [Nat.zero_mul, Nat.add_zero] at hr
  obtain ⟨T, hT⟩ : ∃ T : ByteArray, T = ⟨t.text.toArray⟩ := ⟨_, rfl⟩
  have hld := load_tok _ g o t hr
  have hcells : (tok3 t).toArray = #[.int .i64 (t.kind : Int), .string T, .int .i64 (t.place : Int)] := by rw [hT]; rfl
  rw [hcells] at hld
  have e0 : (w.alloc (.cells #[.int .i64 0, .string ⟨#[]⟩, .int .i64 0] TK)).cell? ⟨g, o, none⟩ = some (.int .i64 (t.kind : Int)) := hr 0 _ rfl
  have e1 : (w.alloc (.cells #[.int .i64 0, .string ⟨#[]⟩, .int .i64 0] TK)).cell? ⟨g, o + 1, none⟩ = some (.string T) := by rw [hT]; exact hr 1 _ rfl
  have e2 : (w.alloc (.cells #[.int .i64 0, .string ⟨#[]⟩, .int .i64 0] TK)).cell? ⟨g, o + 2, none⟩ = some (.int .i64 (t.place : Int)) := hr 2 _ rfl
  have HT := Lib.hid hT
  have hpos : 0 < r.length + 1 := by omega
  clear h h1 h3 h4 h5 h6 hr hcells hT hb
  go_enter Tryz.func64, Tryz.ntmps64
  go_wp2
  exact bodyPost_ret (v := .agg #[.int .i64 (t.kind : Int), .string T, .int .i64 (t.place : Int)]) (by simp [results, Tryz.results64, go_sem]) rfl ⟨by rw [HT.out], (Below.refl _ _).alloc (Nat.le_refl _) _⟩
set_option maxRecDepth 100000 in
set_option maxHeartbeats 2000000 in
theorem behind_ {w : World} {G d : Nat} {x t : Tok} {r : List Tok} (h : PAt N w G (x :: t :: r) d) : Calls Tryz.prog 143 #[ptr G] w (TokPost t w) := by
  have hb : Below w.heap.size w (w.alloc (.cells #[.int .i64 0, .string ⟨#[]⟩, .int .i64 0] TK)) := (Below.refl _ _).alloc (Nat.le_refl _) _
  obtain ⟨g, o, c, L, h1, h2, h3, h4, h5, h6⟩ := h.below hb
  have p0 : (w.alloc (.cells #[.int .i64 0, .string ⟨#[]⟩, .int .i64 0] TK)).cell? ⟨G, 0, none⟩ = some (.slice (some ⟨g, o, none⟩) (r.length + 1 + 1) c) := Lib.cell_of_heap h1 0
  have hr := h5 1 t rfl
  rw [Nat.one_mul] at hr
  obtain ⟨T, hT⟩ : ∃ T : ByteArray, T = ⟨t.text.toArray⟩ := ⟨_, rfl⟩
  have hld := load_tok _ g (o + 3) t hr
  have hcells : (tok3 t).toArray = #[.int .i64 (t.kind : Int), .string T, .int .i64 (t.place : Int)] := by rw [hT]; rfl
  rw [hcells] at hld
  have e0 : (w.alloc (.cells #[.int .i64 0, .string ⟨#[]⟩, .int .i64 0] TK)).cell? ⟨g, o + 3, none⟩ = some (.int .i64 (t.kind : Int)) := hr 0 _ rfl
  have e1 : (w.alloc (.cells #[.int .i64 0, .string ⟨#[]⟩, .int .i64 0] TK)).cell? ⟨g, o + 3 + 1, none⟩ = some (.string T) := by rw [hT]; exact hr 1 _ rfl
  have e2 : (w.alloc (.cells #[.int .i64 0, .string ⟨#[]⟩, .int .i64 0] TK)).cell? ⟨g, o + 3 + 2, none⟩ = some (.int .i64 (t.place : Int)) := hr 2 _ rfl
  have HT := Lib.hid hT
  have hpos : 1 < r.length + 1 + 1 := by omega
  clear h h1 h3 h4 h5 h6 hr hcells hT hb
  go_enter Tryz.func143, Tryz.ntmps143
  go_wp2
  exact bodyPost_ret (v := .agg #[.int .i64 (t.kind : Int), .string T, .int .i64 (t.place : Int)]) (by simp [results, Tryz.results143, go_sem]) rfl ⟨by rw [HT.out], (Below.refl _ _).alloc (Nat.le_refl _) _⟩
theorem fld0 (a b : Int) (s : ByteArray) (w : World) : (Instr.field TK (.agg #[.int .i64 a, .string s, .int .i64 b]) 0).run Tryz.prog w = .ok (.int .i64 a) w := by kernel_rfl
theorem fld1 (a b : Int) (s : ByteArray) (w : World) : (Instr.field TK (.agg #[.int .i64 a, .string s, .int .i64 b]) 1).run Tryz.prog w = .ok (.string s) w := by kernel_rfl
theorem fld2 (a b : Int) (s : ByteArray) (w : World) : (Instr.field TK (.agg #[.int .i64 a, .string s, .int .i64 b]) 2).run Tryz.prog w = .ok (.int .i64 b) w := by kernel_rfl
attribute [local go_sem] fld0 fld1 fld2
def BoolPost (b : Bool) (w : World) (e : Ending) (w' : World) : Prop := e = .returned (.bool b) ∧ Below w.heap.size w w'
set_option maxRecDepth 100000 in
set_option maxHeartbeats 2000000 in
/-- is the next token one of some signs? -/
theorem sees_ {w : World} {G d B n c : Nat} {t : Tok} {r : List Tok} {signs : List Bs} (h : PAt N w G (t :: r) d) (hs : SignsAt w B signs) (hn : signs.length = n) (hn8 : n ≤ 100) (hB : B < w.heap.size) :
    Calls Tryz.prog 134 #[ptr G, .slice (some ⟨B, 0, none⟩) n c] w (BoolPost (Pa.sees (t :: r) signs) w) := by
  have cn := next_ h
  have cs : ∀ W, Below w.heap.size w W → Calls Tryz.prog 169 #[.slice (some ⟨B, 0, none⟩) n c, .string ⟨t.text.toArray⟩] W fun e w' => e = .returned (.bool (Pa.sees (t :: r) signs)) ∧ w' = W := by
    intro W hW
    have := Tryz.slices_Contains_string B 0 n c (signs.map fun b => (⟨b.toArray⟩ : ByteArray)) ⟨t.text.toArray⟩ W (by rw [List.length_map]; omega) (by omega) (fun j hj => by
      rw [List.length_map] at hj
      rw [Nat.zero_add, hW.cell (p := ⟨B, j, none⟩) hB]
      obtain ⟨x, hx⟩ : ∃ x, signs[j]? = some x := ⟨signs[j], List.getElem?_eq_getElem hj⟩
      rw [hs j x hx, List.getD_eq_getElem?_getD, List.getElem?_map, hx]; rfl)
    rw [List.take_of_length_le (by rw [List.length_map]; omega), containsS_eq] at this
    exact this
  obtain ⟨b, hb⟩ : ∃ b, b = Pa.sees (t :: r) signs := ⟨_, rfl⟩
  rw [← hb] at cs ⊢
  clear h hs hn hb
  go_enter Tryz.func134, Tryz.ntmps134
  go_wp2_with (first
    | ((with_reducible refine cn.mono ?_); rintro e w1 ⟨rfl, hb1⟩; have c2 := cs w1 hb1; have HB1 := Lib.hid hb1; clear hb1 cs cn)
    | ((with_reducible refine c2.mono ?_); rintro e w2 ⟨rfl, rfl⟩))
  go_ret
  exact ⟨rfl, HB1.out⟩
/-- with the first token read: what it was, and all behind it left -/
def ReadPost (N G d : Nat) (t : Tok) (r : List Tok) (w : World) (e : Ending) (w' : World) : Prop := e = .returned (.agg #[.int .i64 (t.kind : Int), .string ⟨t.text.toArray⟩, .int .i64 (t.place : Int)]) ∧ PAt N w' G r d ∧ Keep G w w'
set_option maxRecDepth 100000 in
set_option maxHeartbeats 4000000 in
theorem read_ {w : World} {G d : Nat} {t u : Tok} {r : List Tok} (h : PAt N w G (t :: u :: r) d) : Calls Tryz.prog 135 #[ptr G] w (ReadPost N G d t (u :: r) w) := by
  have hlt := h.lt
  have hb : Below w.heap.size w (w.alloc (.cells #[.int .i64 0, .string ⟨#[]⟩, .int .i64 0] TK)) := (Below.refl _ _).alloc (Nat.le_refl _) _
  have cn := next_ (h.below hb)
  obtain ⟨g, o, c, lv, r1, r2, r3, r4⟩ := h.rest
  have HR := Lib.hid r4
  have HB := Lib.hid hb
  obtain ⟨T, hT⟩ : ∃ T : ByteArray, T = ⟨t.text.toArray⟩ := ⟨_, rfl⟩
  have cn' : Calls Tryz.prog 64 #[ptr G] (w.alloc (.cells #[.int .i64 0, .string ⟨#[]⟩, .int .i64 0] TK)) fun e w' => e = .returned (.agg #[.int .i64 (t.kind : Int), .string T, .int .i64 (t.place : Int)]) ∧ Below (w.alloc (.cells #[.int .i64 0, .string ⟨#[]⟩, .int .i64 0] TK)).heap.size (w.alloc (.cells #[.int .i64 0, .string ⟨#[]⟩, .int .i64 0] TK)) w' := by rw [hT]; exact cn
  have HT := Lib.hid hT
  have hc1 : ¬ (c + 1 = 1) := by omega
  clear h hb cn hT r4
  go_enter Tryz.func135, Tryz.ntmps135
  go_upto_region 2 with ((with_reducible refine cn'.mono ?_); rintro e w1 ⟨rfl, hb1⟩; have HB1 := Lib.hid hb1; clear hb1 cn')
  have hb2 : Below w.heap.size w (w1.alloc (.cells #[.int .i64 (t.kind : Int), .string T, .int .i64 (t.place : Int)] TK)) := (HB.out.trans (HB1.out.mono HB.out.size)).alloc (Nat.le_trans HB.out.size HB1.out.size) _
  have hsz : w.heap.size < w1.heap.size := by have := HB1.out.size; simp at this; omega
  have hx0 : (w1.alloc (.cells #[.int .i64 (t.kind : Int), .string T, .int .i64 (t.place : Int)] TK)).heap[w.heap.size]? = some (.cells #[.int .i64 0, .string ⟨#[]⟩, .int .i64 0] TK (0, 0)) := by
    rw [Lib.alloc_old _ _ _ hsz, HB1.out.block _ (by simp)]
    exact heap_alloc_new w _
  have hx1 := heap_alloc_new w1 (.cells #[.int .i64 (t.kind : Int), .string T, .int .i64 (t.place : Int)] TK)
  obtain ⟨W, hW⟩ : ∃ W, W = w1.alloc (.cells #[.int .i64 (t.kind : Int), .string T, .int .i64 (t.place : Int)] TK) := ⟨_, rfl⟩
  rw [← hW] at hb2 hx0 hx1 ⊢
  have g1 := (hb2.block G hlt).trans r1
  have hGne : w1.heap.size ≠ G := by omega
  have q1 : W.cell? ⟨G, 0, none⟩ = some (.slice (some ⟨g, o, none⟩) (r.length + 1 + 1) (c + 1)) := Lib.cell_of_heap g1 0
  have fG : W.frozen? ⟨G, 0, none⟩ = false := Lib.frozen_of_heap g1 _
  obtain ⟨B, hB⟩ : ∃ B, B = w.heap.size := ⟨_, rfl⟩
  obtain ⟨C, hC⟩ : ∃ C, C = w1.heap.size := ⟨_, rfl⟩
  rw [← hB] at hx0
  rw [← hC] at hx1 hGne
  have hBG : B ≠ G := by omega
  have g2 := heap_setCell_same W G 0 _ _ (.slice (some ⟨g, o + 3, none⟩) (r.length + 1) c) g1
  have k2 : Keep G w (W.setCell ⟨G, 0, none⟩ (.slice (some ⟨g, o + 3, none⟩) (r.length + 1) c)) := (Keep.of hb2).set 0 _
  have z0 : (W.setCell ⟨G, 0, none⟩ (.slice (some ⟨g, o + 3, none⟩) (r.length + 1) c)).heap[B]? = some (.cells #[.int .i64 0, .string ⟨#[]⟩, .int .i64 0] TK (0, 0)) := (Below.heap_setCell _ _ _ _ (by show B ≠ G; omega)).trans hx0
  have z1 : (W.setCell ⟨G, 0, none⟩ (.slice (some ⟨g, o + 3, none⟩) (r.length + 1) c)).heap[C]? = some (.cells #[.int .i64 (t.kind : Int), .string T, .int .i64 (t.place : Int)] TK (0, 0)) := (Below.heap_setCell _ _ _ _ (by show C ≠ G; omega)).trans hx1
  have hBw : w.heap.size ≤ B := by omega
  have hBC : B ≠ C := by omega
  rw [← hB, ← hC]
  clear hW hB hC
  go_upto_region 3 with (fail)
  obtain ⟨W2, hW2⟩ : ∃ W2, W2 = W.setCell ⟨G, 0, none⟩ (.slice (some ⟨g, o + 3, none⟩) (r.length + 1) c) := ⟨_, rfl⟩
  rw [← hW2] at g2 k2 z0 z1 ⊢
  clear hW2 hx0 hx1 q1 fG g1 hb2 r1 hc1 hsz
  have y0 : W2.cell? ⟨C, 0, none⟩ = some (.int .i64 (t.kind : Int)) := Lib.cell_of_heap z1 0
  have y1 : W2.cell? ⟨C, 1, none⟩ = some (.string T) := Lib.cell_of_heap z1 1
  have y2 : W2.cell? ⟨C, 2, none⟩ = some (.int .i64 (t.place : Int)) := Lib.cell_of_heap z1 2
  have v0 : W2.cell? ⟨B, 0, none⟩ = some (.int .i64 0) := Lib.cell_of_heap z0 0
  have v1 : W2.cell? ⟨B, 1, none⟩ = some (.string ⟨#[]⟩) := Lib.cell_of_heap z0 1
  have v2 : W2.cell? ⟨B, 2, none⟩ = some (.int .i64 0) := Lib.cell_of_heap z0 2
  have f0 : W2.frozen? ⟨B, 0, none⟩ = false := Lib.frozen_of_heap z0 _
  have s1 := heap_setCell_same W2 B 0 _ _ (.int .i64 (t.kind : Int)) z0
  have f1 : (W2.setCell ⟨B, 0, none⟩ (.int .i64 (t.kind : Int))).frozen? ⟨B, 1, none⟩ = false := Lib.frozen_of_heap s1 _
  have s2 := heap_setCell_same _ B 1 _ _ (.string T) s1
  have f2 : ((W2.setCell ⟨B, 0, none⟩ (.int .i64 (t.kind : Int))).setCell ⟨B, 1, none⟩ (.string T)).frozen? ⟨B, 2, none⟩ = false := Lib.frozen_of_heap s2 _
  have s3 := heap_setCell_same _ B 2 _ _ (.int .i64 (t.place : Int)) s2
  have k3 : Keep G w (((W2.setCell ⟨B, 0, none⟩ (.int .i64 (t.kind : Int))).setCell ⟨B, 1, none⟩ (.string T)).setCell ⟨B, 2, none⟩ (.int .i64 (t.place : Int))) := ((k2.setNew hBw _).setNew hBw _).setNew hBw _
  have gg : (((W2.setCell ⟨B, 0, none⟩ (.int .i64 (t.kind : Int))).setCell ⟨B, 1, none⟩ (.string T)).setCell ⟨B, 2, none⟩ (.int .i64 (t.place : Int))).heap[G]? = W2.heap[G]? := by
    rw [Below.heap_setCell _ _ _ _ (by show G ≠ B; omega), Below.heap_setCell _ _ _ _ (by show G ≠ B; omega), Below.heap_setCell _ _ _ _ (by show G ≠ B; omega)]
  have HP3 := Lib.hid (HR.out _ k3 (gg.trans g2))
  have HK3 := Lib.hid k3
  have w0 : (((W2.setCell ⟨B, 0, none⟩ (.int .i64 (t.kind : Int))).setCell ⟨B, 1, none⟩ (.string T)).setCell ⟨B, 2, none⟩ (.int .i64 (t.place : Int))).cell? ⟨B, 0, none⟩ = some (.int .i64 (t.kind : Int)) := Lib.cell_of_heap s3 0
  have w1' : (((W2.setCell ⟨B, 0, none⟩ (.int .i64 (t.kind : Int))).setCell ⟨B, 1, none⟩ (.string T)).setCell ⟨B, 2, none⟩ (.int .i64 (t.place : Int))).cell? ⟨B, 1, none⟩ = some (.string T) := Lib.cell_of_heap s3 1
  have w2 : (((W2.setCell ⟨B, 0, none⟩ (.int .i64 (t.kind : Int))).setCell ⟨B, 1, none⟩ (.string T)).setCell ⟨B, 2, none⟩ (.int .i64 (t.place : Int))).cell? ⟨B, 2, none⟩ = some (.int .i64 (t.place : Int)) := Lib.cell_of_heap s3 2
  clear s1 s2 s3 z0 z1 k2 k3 gg g2
  go_wp2
  exact bodyPost_ret (v := .agg #[.int .i64 (t.kind : Int), .string T, .int .i64 (t.place : Int)]) (by simp [results, Tryz.results135, go_sem, w0, w1', w2]) rfl ⟨by rw [HT.out], HP3.out, HK3.out⟩
/-- the parser's block has its shape still -/
def PWk (w : World) (G : Nat) : Prop := ∃ a b d, w.heap[G]? = some (.cells #[a, b, .int .i64 d] TP (0, 0))
theorem PAt.wk {w : World} {G d : Nat} {ts : List Tok} (h : PAt N w G ts d) : PWk w G := by
  obtain ⟨g, o, c, L, h1, -⟩ := h
  exact ⟨_, _, _, h1⟩
theorem PWk.below {w w' : World} {G : Nat} (h : PWk w G) (hb : Below w.heap.size w w') : PWk w' G := by
  obtain ⟨a, b, d, h1⟩ := h
  exact ⟨a, b, d, (hb.block G (Array.getElem?_eq_some_iff.1 h1).1).trans h1⟩
/-- it is thrown that the next token does not fit -/
def BadPost (G : Nat) (p er : Int) (w : World) (e : Ending) (w' : World) : Prop := e = thrown p er ∧ PWk w' G ∧ Keep G w w'
theorem demand_yes (G : Nat) (er : Int) (w : World) : Calls Tryz.prog 137 #[ptr G, .bool true, .int .i64 er] w fun e w' => e = .returned (.tuple #[]) ∧ w = w' := by
  go_enter Tryz.func137, Tryz.ntmps137
  go_wp2
  go_end0
  exact ⟨rfl, rfl⟩
set_option maxRecDepth 100000 in
set_option maxHeartbeats 2000000 in
theorem demand_no {w : World} {G d : Nat} {t : Tok} {r : List Tok} (h : PAt N w G (t :: r) d) (er : Int) : Calls Tryz.prog 137 #[ptr G, .bool false, .int .i64 er] w (BadPost G (t.place : Int) er w) := by
  have cn := next_ h
  have HW := Lib.hid h.wk
  clear h
  go_enter Tryz.func137, Tryz.ntmps137
  go_wp2_with ((with_reducible refine cn.mono ?_); rintro e w1 ⟨rfl, hb1⟩; have HB1 := Lib.hid hb1; clear hb1 cn)
  exact ⟨rfl, rfl, HW.out.below HB1.out, Keep.of HB1.out⟩
/-- a result, and the tokens behind what was read -/
def OkPost (N G d : Nat) (v : Value) (r : List Tok) (w : World) (e : Ending) (w' : World) : Prop := e = .returned v ∧ PAt N w' G r d ∧ Keep G w w'
set_option maxRecDepth 100000 in
set_option maxHeartbeats 2000000 in
theorem takes_yes {w : World} {G d B n c : Nat} {t u : Tok} {r : List Tok} {signs : List Bs} (h : PAt N w G (t :: u :: r) d) (hs : SignsAt w B signs) (hn : signs.length = n) (hn8 : n ≤ 100) (hB : B < w.heap.size) (hx : Pa.sees (t :: u :: r) signs = true) :
    Calls Tryz.prog 92 #[ptr G, .slice (some ⟨B, 0, none⟩) n c] w (OkPost N G d (.bool true) (u :: r) w) := by
  have c1 := sees_ (c := c) h hs hn hn8 hB
  rw [hx] at c1
  have c2 : ∀ W, Below w.heap.size w W → Calls Tryz.prog 135 #[ptr G] W (ReadPost N G d t (u :: r) W) := fun W hW => read_ (h.below hW)
  clear h hs hn hx
  go_enter Tryz.func92, Tryz.ntmps92
  go_wp2_with (first
    | ((with_reducible refine c1.mono ?_); rintro e w1 ⟨rfl, hb1⟩; have c3 := c2 w1 hb1; have HB1 := Lib.hid hb1; clear hb1 c1 c2)
    | ((with_reducible refine c3.mono ?_); rintro e w2 ⟨rfl, hp2, hk2⟩; have HP2 := Lib.hid hp2; have HK2 := Lib.hid hk2; clear hp2 hk2 c3))
  go_ret
  exact ⟨rfl, HP2.out, (Keep.of HB1.out).trans HK2.out⟩
set_option maxRecDepth 100000 in
set_option maxHeartbeats 2000000 in
theorem takes_no {w : World} {G d B n c : Nat} {t : Tok} {r : List Tok} {signs : List Bs} (h : PAt N w G (t :: r) d) (hs : SignsAt w B signs) (hn : signs.length = n) (hn8 : n ≤ 100) (hB : B < w.heap.size) (hx : Pa.sees (t :: r) signs = false) :
    Calls Tryz.prog 92 #[ptr G, .slice (some ⟨B, 0, none⟩) n c] w (OkPost N G d (.bool false) (t :: r) w) := by
  have c1 := sees_ (c := c) h hs hn hn8 hB
  rw [hx] at c1
  have HP := Lib.hid h
  clear h hs hn hx
  go_enter Tryz.func92, Tryz.ntmps92
  go_wp2_with ((with_reducible refine c1.mono ?_); rintro e w1 ⟨rfl, hb1⟩; have HB1 := Lib.hid hb1; clear hb1 c1)
  go_ret
  exact ⟨rfl, HP.out.below HB1.out, Keep.of HB1.out⟩
set_option maxRecDepth 100000 in
set_option maxHeartbeats 2000000 in
theorem want_yes {w : World} {G d B n c : Nat} {t u : Tok} {r : List Tok} {signs : List Bs} (h : PAt N w G (t :: u :: r) d) (hs : SignsAt w B signs) (hn : signs.length = n) (hn8 : n ≤ 100) (hB : B < w.heap.size) (hx : Pa.sees (t :: u :: r) signs = true) :
    Calls Tryz.prog 95 #[ptr G, .slice (some ⟨B, 0, none⟩) n c] w (OkPost N G d (.string ⟨t.text.toArray⟩) (u :: r) w) := by
  have c1 := sees_ (c := c) h hs hn hn8 hB
  rw [hx] at c1
  have c2 : ∀ W, Below w.heap.size w W → Calls Tryz.prog 135 #[ptr G] W (ReadPost N G d t (u :: r) W) := fun W hW => read_ (h.below hW)
  clear h hs hn hx
  go_enter Tryz.func95, Tryz.ntmps95
  go_wp2_with (first
    | ((with_reducible refine c1.mono ?_); rintro e w1 ⟨rfl, hb1⟩; have c3 := c2 w1 hb1; have HB1 := Lib.hid hb1; clear hb1 c1 c2)
    | ((with_reducible refine (demand_yes G 11 _).mono ?_); rintro e w2 ⟨rfl, rfl⟩)
    | ((with_reducible refine c3.mono ?_); rintro e w2 ⟨rfl, hp2, hk2⟩; have HP2 := Lib.hid hp2; have HK2 := Lib.hid hk2; clear hp2 hk2 c3))
  go_ret
  exact ⟨rfl, HP2.out, (Keep.of HB1.out).trans HK2.out⟩
set_option maxRecDepth 100000 in
set_option maxHeartbeats 2000000 in
theorem want_no {w : World} {G d B n c : Nat} {t : Tok} {r : List Tok} {signs : List Bs} (h : PAt N w G (t :: r) d) (hs : SignsAt w B signs) (hn : signs.length = n) (hn8 : n ≤ 100) (hB : B < w.heap.size) (hx : Pa.sees (t :: r) signs = false) :
    Calls Tryz.prog 95 #[ptr G, .slice (some ⟨B, 0, none⟩) n c] w (BadPost G (t.place : Int) 11 w) := by
  have c1 := sees_ (c := c) h hs hn hn8 hB
  rw [hx] at c1
  have c2 : ∀ W, Below w.heap.size w W → Calls Tryz.prog 137 #[ptr G, .bool false, .int .i64 11] W (BadPost G (t.place : Int) 11 W) := fun W hW => demand_no (h.below hW) 11
  clear h hs hn hx
  go_enter Tryz.func95, Tryz.ntmps95
  go_wp2_with (first
    | ((with_reducible refine c1.mono ?_); rintro e w1 ⟨rfl, hb1⟩; have c3 := c2 w1 hb1; have HB1 := Lib.hid hb1; clear hb1 c1 c2)
    | ((with_reducible refine c3.mono ?_); rintro e w2 ⟨rfl, hp2, hk2⟩; have HP2 := Lib.hid hp2; have HK2 := Lib.hid hk2; clear hp2 hk2 c3))
  exact ⟨rfl, rfl, HP2.out, (Keep.of HB1.out).trans HK2.out⟩
set_option maxRecDepth 100000 in
set_option maxHeartbeats 2000000 in
theorem name_yes {w : World} {G d : Nat} {t u : Tok} {r : List Tok} (h : PAt N w G (t :: u :: r) d) (hk : t.kind = 1) :
    Calls Tryz.prog 94 #[ptr G] w (OkPost N G d (.string ⟨t.text.toArray⟩) (u :: r) w) := by
  have c1 := next_ h
  have c2 : ∀ W, Below w.heap.size w W → Calls Tryz.prog 135 #[ptr G] W (ReadPost N G d t (u :: r) W) := fun W hW => read_ (h.below hW)
  have B1 : ((t.kind : Int) == 1) = true := by rw [beq_iff_eq]; omega
  clear h hk
  go_enter Tryz.func94, Tryz.ntmps94
  go_wp2_with (first
    | ((with_reducible refine c1.mono ?_); rintro e w1 ⟨rfl, hb1⟩; have c3 := c2 w1 hb1; have HB1 := Lib.hid hb1; clear hb1 c1 c2)
    | ((with_reducible refine (demand_yes G 11 _).mono ?_); rintro e w2 ⟨rfl, rfl⟩)
    | ((with_reducible refine c3.mono ?_); rintro e w2 ⟨rfl, hp2, hk2⟩; have HP2 := Lib.hid hp2; have HK2 := Lib.hid hk2; clear hp2 hk2 c3))
  go_ret
  exact ⟨rfl, HP2.out, (Keep.of HB1.out).trans HK2.out⟩
set_option maxRecDepth 100000 in
set_option maxHeartbeats 2000000 in
theorem name_no {w : World} {G d : Nat} {t : Tok} {r : List Tok} (h : PAt N w G (t :: r) d) (hk : t.kind ≠ 1) :
    Calls Tryz.prog 94 #[ptr G] w (BadPost G (t.place : Int) 11 w) := by
  have c1 := next_ h
  have c2 : ∀ W, Below w.heap.size w W → Calls Tryz.prog 137 #[ptr G, .bool false, .int .i64 11] W (BadPost G (t.place : Int) 11 W) := fun W hW => demand_no (h.below hW) 11
  have B1 : ((t.kind : Int) == 1) = false := by rw [beq_eq_false_iff_ne]; omega
  clear h hk
  go_enter Tryz.func94, Tryz.ntmps94
  go_wp2_with (first
    | ((with_reducible refine c1.mono ?_); rintro e w1 ⟨rfl, hb1⟩; have c3 := c2 w1 hb1; have HB1 := Lib.hid hb1; clear hb1 c1 c2)
    | ((with_reducible refine c3.mono ?_); rintro e w2 ⟨rfl, hp2, hk2⟩; have HP2 := Lib.hid hp2; have HK2 := Lib.hid hk2; clear hp2 hk2 c3))
  exact ⟨rfl, rfl, HP2.out, (Keep.of HB1.out).trans HK2.out⟩
end PaC
end Go.Proofs.YtnlbhnmiekanfaaGreatDoor
/-
  The parser goes deeper and back; types, pointers, pairs. Condition: what the parser holds lies in memory.
-/
namespace Go.Proofs.YtnlbhnmiekanfaaGreatDoor
open Go.RowKit
set_option linter.unusedVariables false
set_option linter.unusedSimpArgs false
namespace PaC
open Pa Lx
variable {N : Nat}
attribute [local go_sem] fld0 fld1 fld2
theorem PAt.deep {w : World} {G d : Nat} {ts : List Tok} (h : PAt N w G ts d) : ∃ a b, w.heap[G]? = some (.cells #[a, b, .int .i64 (d : Int)] TP (0, 0)) ∧ ∀ w' d', Keep G w w' → w'.heap[G]? = some (.cells #[a, b, .int .i64 ((d' : Nat) : Int)] TP (0, 0)) → PAt N w' G ts d' := by
  obtain ⟨g, o, c, L, h1, h2, h3, h4, h5, h6⟩ := h
  exact ⟨_, _, h1, fun w' d' hk hb => ⟨g, o, c, L, hb, h2, h3, h4, fun i t hi => hk.range h2 (h5 i t hi), h6.keep hk⟩⟩
/-- one deeper: what goes back, and the parser -/
def DeepPost (N G d : Nat) (ts : List Tok) (w : World) (e : Ending) (w' : World) : Prop := e = .returned (.func (.func 170) #[] #[.pointer (some ⟨w.heap.size, 0, none⟩)]) ∧ w'.heap[w.heap.size]? = some (.cells #[ptr G] 121 (0, 0)) ∧ PAt N w' G ts (d + 1) ∧ Keep G w w'
set_option maxRecDepth 100000 in
set_option maxHeartbeats 4000000 in
theorem deeper_yes {w : World} {G d : Nat} {ts : List Tok} (h : PAt N w G ts d) (hd : d < 40) : Calls Tryz.prog 138 #[ptr G] w (DeepPost N G d ts w) := by
  have hlt := h.lt
  obtain ⟨a, b, h1, h2⟩ := h.deep
  have hb : Below w.heap.size w (w.alloc (.cells #[ptr G] 121)) := (Below.refl _ _).alloc (Nat.le_refl _) _
  have hx := heap_alloc_new w (.cells #[ptr G] 121)
  obtain ⟨W, hW⟩ : ∃ W, W = w.alloc (.cells #[ptr G] 121) := ⟨_, rfl⟩
  have hmf : ∀ (fn : Fn) (first cap : Array Value) (w : World), (Instr.makeFunc fn first cap).run Tryz.prog w = .ok (.func fn first cap) w := fun _ _ _ _ => rfl
  have hG : W.heap[G]? = some (.cells #[a, b, .int .i64 (d : Int)] TP (0, 0)) := by rw [hW]; exact (hb.block G hlt).trans h1
  rw [← hW] at hx hb
  have b0 : W.cell? ⟨w.heap.size, 0, none⟩ = some (ptr G) := Lib.cell_of_heap hx 0
  have d0 : W.cell? ⟨G, 2, none⟩ = some (.int .i64 (d : Int)) := Lib.cell_of_heap hG 2
  have hd2 : (d : Int) < 40 := by omega
  have hd3 : d < 40 := hd
  have hs : IntKind.i64.wrap ((d : Int) + 1) = ((d + 1 : Nat) : Int) := by rw [IntKind.wrap_i64]; omega
  have H2 := Lib.hid h2
  have HB := Lib.hid hb
  have HX := Lib.hid hx
  have HG := Lib.hid hG
  have HL := Lib.hid hlt
  clear h h1 h2 hx hb hG hd hlt
  have b0' : (w.alloc (.cells #[ptr G] 121)).cell? ⟨w.heap.size, 0, none⟩ = some (ptr G) := by rw [← hW]; exact b0
  have d0' : (w.alloc (.cells #[ptr G] 121)).cell? ⟨G, 2, none⟩ = some (.int .i64 (d : Int)) := by rw [← hW]; exact d0
  have HW := Lib.hid hW
  clear hW b0 d0
  go_enter Tryz.func138, Tryz.ntmps138
  go_wp2
  go_quiet ((go_at_call 137; exact Calls.quiet_of_same ((demand_yes G 12 _).mono fun e w' h => ⟨h.1, h.2.symm⟩)))
  have hG2 : ((w.alloc (.cells #[ptr G] 121)).drewN nq).heap[G]? = some (.cells #[a, b, .int .i64 (d : Int)] TP (0, 0)) := by have := HG.out; rw [HW.out] at this; exact this
  have fG : ((w.alloc (.cells #[ptr G] 121)).drewN nq).frozen? ⟨G, 2, none⟩ = false := Lib.frozen_of_heap hG2 _
  have b1 : ((w.alloc (.cells #[ptr G] 121)).drewN nq).cell? ⟨w.heap.size, 0, none⟩ = some (ptr G) := b0'
  have d1 : ((w.alloc (.cells #[ptr G] 121)).drewN nq).cell? ⟨G, 2, none⟩ = some (.int .i64 (d : Int)) := d0'
  have s1 := heap_setCell_same _ G 2 _ _ (.int .i64 ((d + 1 : Nat) : Int)) hG2
  have k1 : Keep G w (((w.alloc (.cells #[ptr G] 121)).drewN nq).setCell ⟨G, 2, none⟩ (.int .i64 ((d + 1 : Nat) : Int))) := by
    have := (Keep.of (G := G) HB.out).draws nq
    rw [HW.out] at this
    exact this.set 2 _
  have HP := Lib.hid (H2.out _ (d + 1) k1 s1)
  have HK := Lib.hid k1
  have hxx : (((w.alloc (.cells #[ptr G] 121)).drewN nq).setCell ⟨G, 2, none⟩ (.int .i64 ((d + 1 : Nat) : Int))).heap[w.heap.size]? = some (.cells #[ptr G] 121 (0, 0)) := by
    rw [Below.heap_setCell _ _ _ _ (by show w.heap.size ≠ G; have := HL.out; omega)]
    have := HX.out; rw [HW.out] at this; exact this
  have HXX := Lib.hid hxx
  clear s1 k1 hxx hG2
  go_wp2
  go_ret
  exact ⟨rfl, HXX.out, HP.out, HK.out⟩
set_option maxRecDepth 100000 in
set_option maxHeartbeats 4000000 in
theorem deeper_no {w : World} {G d : Nat} {t : Tok} {r : List Tok} (h : PAt N w G (t :: r) d) (hd : 40 ≤ d) : Calls Tryz.prog 138 #[ptr G] w (BadPost G (t.place : Int) 12 w) := by
  have hlt := h.lt
  have hb : Below w.heap.size w (w.alloc (.cells #[ptr G] 121)) := (Below.refl _ _).alloc (Nat.le_refl _) _
  have hp := h.below hb
  have hpd : PAt N (w.alloc (.cells #[ptr G] 121)).drew G (t :: r) d := hp
  have cd := demand_no hpd 12
  obtain ⟨a, b, h1, -⟩ := hp.deep
  have hx := heap_alloc_new w (.cells #[ptr G] 121)
  have b0 : (w.alloc (.cells #[ptr G] 121)).cell? ⟨w.heap.size, 0, none⟩ = some (ptr G) := Lib.cell_of_heap hx 0
  have d0 : (w.alloc (.cells #[ptr G] 121)).cell? ⟨G, 2, none⟩ = some (.int .i64 (d : Int)) := Lib.cell_of_heap h1 2
  have b1 : (w.alloc (.cells #[ptr G] 121)).drew.cell? ⟨w.heap.size, 0, none⟩ = some (ptr G) := b0
  have d1 : (w.alloc (.cells #[ptr G] 121)).drew.cell? ⟨G, 2, none⟩ = some (.int .i64 (d : Int)) := d0
  have hd2 : ¬ (d : Int) < 40 := by omega
  have hd3 : decide ((d : Int) < 40) = false := decide_eq_false hd2
  have HK := Lib.hid ((Keep.of (G := G) hb).drew)
  clear h hp hpd h1 hx hb hd
  go_enter Tryz.func138, Tryz.ntmps138
  go_wp2
  generalize w.alloc (.cells #[ptr G] 121) = W at *
  go_still_tail 6, (by kernel_rfl)
  go_wp2_with ((with_reducible refine cd.mono ?_); rintro e w1 ⟨rfl, hp1, hk1⟩; have HP1 := Lib.hid hp1; have HK1 := Lib.hid hk1; clear hp1 hk1 cd)
  exact ⟨rfl, rfl, HP1.out, HK.out.trans HK1.out⟩
set_option maxRecDepth 100000 in
set_option maxHeartbeats 4000000 in
/-- back, however it is left -/
theorem back_ {w : World} {G B : Nat} {a b : Value} {d : Int} (h1 : w.heap[G]? = some (.cells #[a, b, .int .i64 d] TP (0, 0))) (h2 : w.heap[B]? = some (.cells #[ptr G] 121 (0, 0))) (u : FrameMode) :
    CallsD Tryz.prog 170 #[.pointer (some ⟨B, 0, none⟩)] u w fun e u' w' => u' = u ∧ e = .returned (.tuple #[]) ∧ w' = w.setCell ⟨G, 2, none⟩ (.int .i64 (IntKind.i64.wrap (d - 1))) := by
  have b0 : w.cell? ⟨B, 0, none⟩ = some (ptr G) := Lib.cell_of_heap h2 0
  have d0 : w.cell? ⟨G, 2, none⟩ = some (.int .i64 d) := Lib.cell_of_heap h1 2
  have fG : w.frozen? ⟨G, 2, none⟩ = false := Lib.frozen_of_heap h1 _
  clear h1 h2
  refine callsD_of_wp (R := fun e w' => e = .returned (.tuple #[]) ∧ w' = w.setCell ⟨G, 2, none⟩ (.int .i64 (IntKind.i64.wrap (d - 1)))) Tryz.func170 rfl ?_
  rw [Tryz.ntmps170]
  go_wp2
  go_end0
  exact ⟨rfl, by rw [IntKind.wrap_i64]; unfold wrap64; rfl⟩
/-- behind what went deeper: as before -/
theorem PAt.back {w : World} {G d : Nat} {ts : List Tok} (h : PAt N w G ts (d + 1)) (hd : d ≤ 100) : ∃ a b, w.heap[G]? = some (.cells #[a, b, .int .i64 ((d + 1 : Nat) : Int)] TP (0, 0)) ∧ PAt N (w.setCell ⟨G, 2, none⟩ (.int .i64 (IntKind.i64.wrap (((d + 1 : Nat) : Int) - 1)))) G ts d := by
  obtain ⟨a, b, h1, h2⟩ := h.deep
  refine ⟨a, b, h1, h2 _ d ((Keep.refl G w).set 2 _) ?_⟩
  rw [heap_setCell_same w G 2 _ _ _ h1, show IntKind.i64.wrap (((d + 1 : Nat) : Int) - 1) = (d : Int) by rw [IntKind.wrap_i64]; omega]
  rfl
theorem PWk.back {w : World} {G : Nat} (h : PWk w G) (x : Int) : PWk (w.setCell ⟨G, 2, none⟩ (.int .i64 x)) G := by
  obtain ⟨a, b, d, h1⟩ := h
  exact ⟨a, b, x, by rw [heap_setCell_same w G 2 _ _ _ h1]; rfl⟩
theorem signs1 {w : World} {B : Nat} {x : Bs} (h : w.heap[B]? = some (.cells #[.string ⟨x.toArray⟩] 9 (0, 0))) : SignsAt w B [x] := fun j y hj => by
  cases j with
  | zero => cases hj; exact Lib.cell_of_heap h 0
  | succ j => simp at hj
set_option maxRecDepth 100000 in
set_option maxHeartbeats 4000000 in
/-- a pointer's type, if a star follows -/
theorem pointer_yes {w : World} {G d : Nat} {t u : Tok} {r : List Tok} (a b : Int) (h : PAt N w G (t :: u :: r) d) (hx : Pa.sees (t :: u :: r) [[42]] = true) :
    Calls Tryz.prog 136 #[ptr G, .int .i64 a, .int .i64 b] w (OkPost N G d (.int .i64 b) (u :: r) w) := by
  have hb : Below w.heap.size w (w.alloc (.cells #[.string ⟨#[42]⟩] 9)) := (Below.refl _ _).alloc (Nat.le_refl _) _
  have ct := takes_yes (c := 1) (n := 1) (h.below hb) (signs1 (x := [42]) (heap_alloc_new w _)) rfl (by omega) (by simp) hx
  have HB := Lib.hid hb
  clear h hx hb
  go_enter Tryz.func136, Tryz.ntmps136
  go_wp2_with ((with_reducible refine ct.mono ?_); rintro e w1 ⟨rfl, hp1, hk1⟩; have HP1 := Lib.hid hp1; have HK1 := Lib.hid hk1; clear hp1 hk1 ct)
  go_ret
  exact ⟨rfl, HP1.out, (Keep.of HB.out).trans HK1.out⟩
set_option maxRecDepth 100000 in
set_option maxHeartbeats 4000000 in
theorem pointer_no {w : World} {G d : Nat} {t : Tok} {r : List Tok} (a b : Int) (h : PAt N w G (t :: r) d) (hx : Pa.sees (t :: r) [[42]] = false) :
    Calls Tryz.prog 136 #[ptr G, .int .i64 a, .int .i64 b] w (OkPost N G d (.int .i64 a) (t :: r) w) := by
  have hb : Below w.heap.size w (w.alloc (.cells #[.string ⟨#[42]⟩] 9)) := (Below.refl _ _).alloc (Nat.le_refl _) _
  have ct := takes_no (c := 1) (n := 1) (h.below hb) (signs1 (x := [42]) (heap_alloc_new w _)) rfl (by omega) (by simp) hx
  have HB := Lib.hid hb
  clear h hx hb
  go_enter Tryz.func136, Tryz.ntmps136
  go_wp2_with ((with_reducible refine ct.mono ?_); rintro e w1 ⟨rfl, hp1, hk1⟩; have HP1 := Lib.hid hp1; have HK1 := Lib.hid hk1; clear hp1 hk1 ct)
  go_ret
  exact ⟨rfl, HP1.out, (Keep.of HB.out).trans HK1.out⟩
end PaC
end Go.Proofs.YtnlbhnmiekanfaaGreatDoor
/-
  The parser: types. Condition: what the parser holds lies in memory.
-/
namespace Go.Proofs.YtnlbhnmiekanfaaGreatDoor
open Go.RowKit
set_option linter.unusedVariables false
set_option linter.unusedSimpArgs false
namespace PaC
open Pa Lx
variable {N : Nat}
attribute [local go_sem] fld0 fld1 fld2
variable {Rl : Bs → Prop}
/-- as the model says: a number and the tokens behind it, or what is thrown -/
def NatPost (N G d : Nat) (k : IntKind) (x : R Nat) (w : World) (e : Ending) (w' : World) : Prop :=
  match x with
  | .ok a r => OkPost N G d (.int k (a : Int)) r w e w'
  | .bad p er => BadPost G (p : Int) (er : Int) w e w'
  | .out => True
theorem signs3 {w : World} {B : Nat} {x y z : Bs} (h : w.heap[B]? = some (.cells #[.string ⟨x.toArray⟩, .string ⟨y.toArray⟩, .string ⟨z.toArray⟩] 9 (0, 0))) : SignsAt w B [x, y, z] := fun j v hj => by
  match j, hj with
  | 0, hj => cases hj; exact Lib.cell_of_heap h 0
  | 1, hj => cases hj; exact Lib.cell_of_heap h 1
  | 2, hj => cases hj; exact Lib.cell_of_heap h 2
  | j + 3, hj => simp at hj
/-- the answer of pointer does not turn on where the parser lies -/
theorem pointer_all {G d : Nat} {ts : List Tok} (a b : Nat) (hg : Good Rl ts) : ∃ x r, Pa.pointer a b ts = .ok x r ∧ Good Rl r ∧ ∀ w, PAt N w G ts d →
    Calls Tryz.prog 136 #[ptr G, .int .i64 (a : Int), .int .i64 (b : Int)] w (OkPost N G d (.int .i64 (x : Int)) r w) := by
  obtain ⟨t, l, rfl⟩ := hg.ne
  cases hx : Pa.sees (t :: l) [[42]] with
  | true =>
    obtain ⟨u, r, rfl, hg2⟩ := hg.sees (by decide) hx
    exact ⟨b, u :: r, by rw [Pa.pointer, if_pos hx]; rfl, hg2, fun w h => pointer_yes a b h hx⟩
  | false => exact ⟨a, t :: l, by rw [Pa.pointer, if_neg (by rw [hx]; decide)], hg, fun w h => pointer_no a b h hx⟩
set_option maxRecDepth 100000 in
set_option maxHeartbeats 4000000 in
theorem typed_no {w : World} {G d : Nat} {t : Tok} {l : List Tok} (h : PAt N w G (t :: l) d) (hx : Pa.sees (t :: l) types = false) :
    Calls Tryz.prog 93 #[ptr G] w (BadPost G (t.place : Int) 11 w) := by
  have hb : Below w.heap.size w (w.alloc (.cells #[.string ⟨#[105, 110, 116]⟩, .string ⟨#[100, 111, 117, 98, 108, 101]⟩, .string ⟨#[118, 111, 105, 100]⟩] 9)) := (Below.refl _ _).alloc (Nat.le_refl _) _
  have ct := want_no (c := 3) (n := 3) (h.below hb) (signs3 (x := kInt) (y := kDouble) (z := kVoid) (heap_alloc_new w _)) rfl (by omega) (by simp) hx
  have HB := Lib.hid hb
  clear h hx hb
  go_enter Tryz.func93, Tryz.ntmps93
  go_wp2_with ((with_reducible refine ct.mono ?_); rintro e w1 ⟨rfl, hp1, hk1⟩; have HP1 := Lib.hid hp1; have HK1 := Lib.hid hk1; clear hp1 hk1 ct)
  exact ⟨rfl, rfl, HP1.out, (Keep.of HB.out).trans HK1.out⟩
set_option maxRecDepth 100000 in
set_option maxHeartbeats 4000000 in
theorem typed_int {w : World} {G d x : Nat} {t u : Tok} {l r : List Tok} (h : PAt N w G (t :: u :: l) d) (ht : t.text = kInt) (cp : ∀ W, PAt N W G (u :: l) d → Calls Tryz.prog 136 #[ptr G, .int .i64 1, .int .i64 3] W (OkPost N G d (.int .i64 (x : Int)) r W)) :
    Calls Tryz.prog 93 #[ptr G] w (OkPost N G d (.int .i64 (x : Int)) r w) := by
  have hb : Below w.heap.size w (w.alloc (.cells #[.string ⟨#[105, 110, 116]⟩, .string ⟨#[100, 111, 117, 98, 108, 101]⟩, .string ⟨#[118, 111, 105, 100]⟩] 9)) := (Below.refl _ _).alloc (Nat.le_refl _) _
  have ct := want_yes (c := 3) (n := 3) (h.below hb) (signs3 (x := kInt) (y := kDouble) (z := kVoid) (heap_alloc_new w _)) rfl (by omega) (by simp) (by show List.contains _ t.text = true; rw [ht]; decide)
  rw [ht] at ct
  have HB := Lib.hid hb
  clear h hb ht
  have ct' : Calls Tryz.prog 95 #[ptr G, .slice (some ⟨w.heap.size, 0, none⟩) 3 3] (w.alloc (.cells #[.string ⟨#[105, 110, 116]⟩, .string ⟨#[100, 111, 117, 98, 108, 101]⟩, .string ⟨#[118, 111, 105, 100]⟩] 9)) (OkPost N G d (.string ⟨#[105, 110, 116]⟩) (u :: l) (w.alloc (.cells #[.string ⟨#[105, 110, 116]⟩, .string ⟨#[100, 111, 117, 98, 108, 101]⟩, .string ⟨#[118, 111, 105, 100]⟩] 9))) := ct
  clear ct
  go_enter Tryz.func93, Tryz.ntmps93
  go_wp2_with (first
    | ((with_reducible refine ct'.mono ?_); rintro e w1 ⟨rfl, hp1, hk1⟩; have c2 := cp w1 hp1; have HK1 := Lib.hid hk1; clear hp1 hk1 ct' cp)
    | ((with_reducible refine c2.mono ?_); rintro e w2 ⟨rfl, hp2, hk2⟩; have HP2 := Lib.hid hp2; have HK2 := Lib.hid hk2; clear hp2 hk2 c2))
  go_ret
  exact ⟨rfl, HP2.out, (Keep.of HB.out).trans (HK1.out.trans HK2.out)⟩
set_option maxRecDepth 100000 in
set_option maxHeartbeats 4000000 in
theorem typed_double {w : World} {G d x : Nat} {t u : Tok} {l r : List Tok} (h : PAt N w G (t :: u :: l) d) (ht : t.text = kDouble) (cp : ∀ W, PAt N W G (u :: l) d → Calls Tryz.prog 136 #[ptr G, .int .i64 2, .int .i64 4] W (OkPost N G d (.int .i64 (x : Int)) r W)) :
    Calls Tryz.prog 93 #[ptr G] w (OkPost N G d (.int .i64 (x : Int)) r w) := by
  have hb : Below w.heap.size w (w.alloc (.cells #[.string ⟨#[105, 110, 116]⟩, .string ⟨#[100, 111, 117, 98, 108, 101]⟩, .string ⟨#[118, 111, 105, 100]⟩] 9)) := (Below.refl _ _).alloc (Nat.le_refl _) _
  have ct := want_yes (c := 3) (n := 3) (h.below hb) (signs3 (x := kInt) (y := kDouble) (z := kVoid) (heap_alloc_new w _)) rfl (by omega) (by simp) (by show List.contains _ t.text = true; rw [ht]; decide)
  rw [ht] at ct
  have HB := Lib.hid hb
  clear h hb ht
  have ct' : Calls Tryz.prog 95 #[ptr G, .slice (some ⟨w.heap.size, 0, none⟩) 3 3] (w.alloc (.cells #[.string ⟨#[105, 110, 116]⟩, .string ⟨#[100, 111, 117, 98, 108, 101]⟩, .string ⟨#[118, 111, 105, 100]⟩] 9)) (OkPost N G d (.string ⟨#[100, 111, 117, 98, 108, 101]⟩) (u :: l) (w.alloc (.cells #[.string ⟨#[105, 110, 116]⟩, .string ⟨#[100, 111, 117, 98, 108, 101]⟩, .string ⟨#[118, 111, 105, 100]⟩] 9))) := ct
  clear ct
  go_enter Tryz.func93, Tryz.ntmps93
  go_wp2_with (first
    | ((with_reducible refine ct'.mono ?_); rintro e w1 ⟨rfl, hp1, hk1⟩; have c2 := cp w1 hp1; have HK1 := Lib.hid hk1; clear hp1 hk1 ct' cp)
    | ((with_reducible refine c2.mono ?_); rintro e w2 ⟨rfl, hp2, hk2⟩; have HP2 := Lib.hid hp2; have HK2 := Lib.hid hk2; clear hp2 hk2 c2))
  go_ret
  exact ⟨rfl, HP2.out, (Keep.of HB.out).trans (HK1.out.trans HK2.out)⟩
set_option maxRecDepth 100000 in
set_option maxHeartbeats 4000000 in
theorem typed_void {w : World} {G d x : Nat} {t u : Tok} {l r : List Tok} (h : PAt N w G (t :: u :: l) d) (ht : t.text = kVoid) :
    Calls Tryz.prog 93 #[ptr G] w (OkPost N G d (.int .i64 0) (u :: l) w) := by
  have hb : Below w.heap.size w (w.alloc (.cells #[.string ⟨#[105, 110, 116]⟩, .string ⟨#[100, 111, 117, 98, 108, 101]⟩, .string ⟨#[118, 111, 105, 100]⟩] 9)) := (Below.refl _ _).alloc (Nat.le_refl _) _
  have ct := want_yes (c := 3) (n := 3) (h.below hb) (signs3 (x := kInt) (y := kDouble) (z := kVoid) (heap_alloc_new w _)) rfl (by omega) (by simp) (by show List.contains _ t.text = true; rw [ht]; decide)
  rw [ht] at ct
  have HB := Lib.hid hb
  clear h hb ht
  have ct' : Calls Tryz.prog 95 #[ptr G, .slice (some ⟨w.heap.size, 0, none⟩) 3 3] (w.alloc (.cells #[.string ⟨#[105, 110, 116]⟩, .string ⟨#[100, 111, 117, 98, 108, 101]⟩, .string ⟨#[118, 111, 105, 100]⟩] 9)) (OkPost N G d (.string ⟨#[118, 111, 105, 100]⟩) (u :: l) (w.alloc (.cells #[.string ⟨#[105, 110, 116]⟩, .string ⟨#[100, 111, 117, 98, 108, 101]⟩, .string ⟨#[118, 111, 105, 100]⟩] 9))) := ct
  clear ct
  go_enter Tryz.func93, Tryz.ntmps93
  go_wp2_with ((with_reducible refine ct'.mono ?_); rintro e w1 ⟨rfl, hp1, hk1⟩; have HP1 := Lib.hid hp1; have HK1 := Lib.hid hk1; clear hp1 hk1 ct')
  go_ret
  exact ⟨rfl, HP1.out, (Keep.of HB.out).trans HK1.out⟩
/-- a type, as the model says -/
theorem typed_ {w : World} {G d : Nat} {ts : List Tok} (h : PAt N w G ts d) (hg : Good Rl ts) : Calls Tryz.prog 93 #[ptr G] w (NatPost N G d .i64 (pType ts) w) ∧ ∀ a r, pType ts = .ok a r → Good Rl r := by
  obtain ⟨t, l, rfl⟩ := hg.ne
  cases hx : Pa.sees (t :: l) types with
  | false =>
    have e : pType (t :: l) = .bad t.place 11 := by rw [pType, Pa.want, if_neg (by rw [hx]; decide)]; rfl
    rw [e]
    exact ⟨typed_no h hx, fun a r e => by cases e⟩
  | true =>
    obtain ⟨u, r, rfl, hg2⟩ := hg.sees (by decide) hx
    have hw : Pa.want (t :: u :: r) types = .ok t.text (u :: r) := by rw [Pa.want, if_pos hx]; rfl
    have hm : t.text = kInt ∨ t.text = kDouble ∨ t.text = kVoid := by
      have := List.contains_iff_mem.1 hx
      simp only [types, List.mem_cons, List.not_mem_nil, or_false] at this
      exact this
    have e : pType (t :: u :: r) = if t.text = kInt then Pa.pointer 1 3 (u :: r) else if t.text = kDouble then Pa.pointer 2 4 (u :: r) else .ok 0 (u :: r) := by rw [pType, hw]; rfl
    rw [e]
    rcases hm with hm | hm | hm
    · obtain ⟨x, r2, e2, hg3, cp⟩ := pointer_all (G := G) (d := d) 1 3 hg2
      rw [if_pos hm, e2]
      exact ⟨typed_int h hm cp, fun a r e => by cases e; exact hg3⟩
    · obtain ⟨x, r2, e2, hg3, cp⟩ := pointer_all (G := G) (d := d) 2 4 hg2
      rw [if_neg (by rw [hm]; decide), if_pos hm, e2]
      exact ⟨typed_double h hm cp, fun a r e => by cases e; exact hg3⟩
    · rw [if_neg (by rw [hm]; decide), if_neg (by rw [hm]; decide)]
      exact ⟨typed_void (x := 0) (r := []) h hm, fun a r e => by cases e; exact hg2⟩
end PaC
end Go.Proofs.YtnlbhnmiekanfaaGreatDoor
