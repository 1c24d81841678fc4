/-
  The program's writer writes an object's text: a contract. Conditions: the object lies below what the writer has made, its numbers are of their kinds, and it is not too great to be gone through.
-/
import Derived.Test.YtieehjkmfmkfjaaGreatDoorObjO
namespace Go.Proofs.YtieehjkmfmkfjaaGreatDoor
open Go.RowKit
set_option linter.unusedVariables false
set_option linter.unusedSimpArgs false
namespace OP
open OJ OL OC OO OW
attribute [local go_sem] Oper.semAt_some
abbrev TO : TypeId := 27
/-- the writer's state: what it holds; the two boxes stand -/
structure St (B b k0 : Nat) (v0 v1 v2 v3 : Value) (l : List UInt8) (w0 w : World) : Prop where
  txt : Txt B b l w
  fr : Fr B b w0 w
  box : w.heap[k0]? = some (.cells #[.pointer (some ⟨b, 0, none⟩)] 82 (0, 0))
  obj : w.heap[k0 + 1]? = some (.cells #[v0, v1, v2, v3] TO (0, 0))
variable {B b k0 : Nat} {v0 v1 v2 v3 : Value} {l : List UInt8} {w0 w w' : World}
theorem St.c (h : St B b k0 v0 v1 v2 v3 l w0 w) : w.cell? ⟨k0, 0, none⟩ = some (.pointer (some ⟨b, 0, none⟩)) := by rw [Lib.cell_of_heap h.box]; rfl
theorem St.c0 (h : St B b k0 v0 v1 v2 v3 l w0 w) : w.cell? ⟨k0 + 1, 0, none⟩ = some v0 := by rw [Lib.cell_of_heap h.obj]; rfl
theorem St.c1 (h : St B b k0 v0 v1 v2 v3 l w0 w) : w.cell? ⟨k0 + 1, 1, none⟩ = some v1 := by rw [Lib.cell_of_heap h.obj]; rfl
theorem St.c2 (h : St B b k0 v0 v1 v2 v3 l w0 w) : w.cell? ⟨k0 + 1, 2, none⟩ = some v2 := by rw [Lib.cell_of_heap h.obj]; rfl
theorem St.c3 (h : St B b k0 v0 v1 v2 v3 l w0 w) : w.cell? ⟨k0 + 1, 3, none⟩ = some v3 := by rw [Lib.cell_of_heap h.obj]; rfl
theorem St.lt (h : St B b k0 v0 v1 v2 v3 l w0 w) : k0 + 1 < w.heap.size := lt_of_get h.obj
theorem St.step {l' : List UInt8} (h : St B b k0 v0 v1 v2 v3 l w0 w) (hk : b < k0) (ht : Txt B b l' w') (hf : Fr B b w w') : St B b k0 v0 v1 v2 v3 l' w0 w' :=
  ⟨ht, h.fr.trans hf, hf.others k0 _ h.box (by simp; omega) (fun c fz e => by cases e), hf.others (k0 + 1) _ h.obj (by simp; omega) (fun c fz e => by cases e)⟩
theorem St.new (h : St B b k0 v0 v1 v2 v3 l w0 w) (hk : b < k0) (hB : B ≤ w.heap.size) (hb : Below w.heap.size w w') : St B b k0 v0 v1 v2 v3 l w0 w' := h.step hk (h.txt.below hb) (Fr.of hb hB)
theorem St.drewN (h : St B b k0 v0 v1 v2 v3 l w0 w) (q : Nat) : St B b k0 v0 v1 v2 v3 l w0 (w.drewN q) := ⟨h.txt, ⟨⟨h.fr.below.os, h.fr.below.tape, h.fr.below.output, h.fr.below.size, h.fr.below.block⟩, h.fr.others⟩, h.box, h.obj⟩
theorem St.drew (h : St B b k0 v0 v1 v2 v3 l w0 w) : St B b k0 v0 v1 v2 v3 l w0 w.drew := ⟨h.txt, ⟨⟨h.fr.below.os, h.fr.below.tape, h.fr.below.output, h.fr.below.size, h.fr.below.block⟩, h.fr.others⟩, h.box, h.obj⟩
theorem nums_new (w : World) (b : Nat) (T : TypeId) (hT : T ≠ TB) (ns : List Int) (hb : b < w.heap.size) (c : Nat) : Nums (w.alloc (.cells (ns.map fun n => Value.int .i64 n).toArray T)) b (.slice (some ⟨w.heap.size, 0, none⟩) ns.length c) ns :=
  .inr ⟨w.heap.size, T, (0, 0), c, rfl, by omega, hT, heap_alloc_new w _⟩
theorem nums_one (w : World) (b : Nat) (n : Int) (hb : b < w.heap.size) : Nums (w.alloc (.cells #[.int .i64 n] 3)) b (.slice (some ⟨w.heap.size, 0, none⟩) 1 1) [n] := nums_new w b _ (by decide) [n] hb 1
theorem nums_four (w : World) (b : Nat) (n0 n1 n2 n3 : Int) (hb : b < w.heap.size) : Nums (w.alloc (.cells #[.int .i64 n0, .int .i64 n1, .int .i64 n2, .int .i64 n3] 3)) b (.slice (some ⟨w.heap.size, 0, none⟩) 4 4) [n0, n1, n2, n3] := nums_new w b _ (by decide) [n0, n1, n2, n3] hb 4
/-- a line is written -/
theorem ln_ (ht : Tab B w0) (h : St B b k0 v0 v1 v2 v3 l w0 w) (hk : b < k0) (hB : B ≤ w.heap.size) (s : ByteArray) (ns : List Int) (hn : ∀ n ∈ ns, I64 n) (v : Value) (hv : Nums w b v ns) (hlen : l.length + s.size + 22 * ns.length + 1 ≤ 140737488355328) :
    Calls Tryz.prog 45 #[.pointer (some ⟨b, 0, none⟩), .string s, v] w fun e w' => e = .returned (.tuple #[]) ∧ St B b k0 v0 v1 v2 v3 (l ++ lineL s.data.toList ns) w0 w' ∧ Fr B b w w' := by
  refine (line_ h.txt s ns hn v hv (ht.on h.fr.below) hlen hB).mono ?_
  rintro e w' ⟨rfl, h1, h2⟩
  exact ⟨rfl, h.step hk h1 h2, h2⟩
theorem flat_snoc {α β : Type} (l : List α) (f : α → List β) (k : Nat) (h : k < l.length) : (l.take (k + 1)).flatMap f = (l.take k).flatMap f ++ f l[k] := by
  rw [List.take_succ_eq_append_getElem h, List.flatMap_append]
  simp
theorem Txt.cells (h : Txt B b l w) : ∃ c t f, w.heap[b]? = some (.cells c t f) := by
  rcases h with ⟨_, v, hb, _⟩ | ⟨_, v, hb, _⟩
  · exact ⟨_, _, _, hb⟩
  · exact ⟨_, _, _, hb⟩
theorem keeps_others (ht : Txt B b l w) (hf : Fr B b w w') : KeepsOthers w w' := by
  refine ⟨hf.below.size, fun k o hk ho => hf.others k o hk ?_ (fun c fz e => by subst e; cases ho)⟩
  rintro e
  simp only [Option.some.injEq] at e
  subst e
  obtain ⟨c, t, f, hc⟩ := Txt.cells ht
  rw [hc] at hk
  cases hk
  cases ho
theorem kp_of {w7 : World} {Bs Bn : Nat} {c1 c2 : Array Value} {t1 t2 : TypeId} {f1 f2 : Nat × Nat} (h1 : w7.heap[Bs]? = some (.cells c1 t1 f1)) (h2 : w7.heap[Bn]? = some (.cells c2 t2 f2)) (n1 : t1 ≠ TB) (n2 : t2 ≠ TB) (m1 : Bs ≠ b) (m2 : Bn ≠ b)
    (hf : Fr B b w7 w) (hg : Fr B b w w') : Kp Bs Bn w w' := by
  have a1 := hf.others Bs _ h1 (by simpa using m1) (fun c fz e => by cases e; exact n1 rfl)
  have a2 := hf.others Bn _ h2 (by simpa using m2) (fun c fz e => by cases e; exact n2 rfl)
  have b1 := hg.others Bs _ a1 (by simpa using m1) (fun c fz e => by cases e; exact n1 rfl)
  have b2 := hg.others Bn _ a2 (by simpa using m2) (fun c fz e => by cases e; exact n2 rfl)
  rintro k (rfl | rfl)
  · rw [a1, b1]
  · rw [a2, b2]
theorem Fr.drew (B b : Nat) (w : World) : Fr B b w w.drew := ⟨Below.drew (Below.refl _ _), Lib.OthersKept.drew (Lib.OthersKept.refl _ _ _)⟩
theorem fin_val (m : Nat) : (List.finRange m).map (·.1) = List.range m := by
  apply List.ext_getElem
  · simp
  · intro i h1 h2
    simp
theorem cell_alloc {W : World} {k i : Nat} {v : Value} (h : W.cell? ⟨k, i, none⟩ = some v) (hk : k < W.heap.size) (o : Obj) : (W.alloc o).cell? ⟨k, i, none⟩ = some v := (World.cell?_alloc_lt W o _ hk).trans h
theorem Fr.cell {W W' : World} (hf : Fr B b W W') {k i : Nat} {c : Array Value} {t : TypeId} {f : Nat × Nat} (hk : W.heap[k]? = some (.cells c t f)) (hb : k ≠ b) (ht : t ≠ TB) {v : Value} (hc : c[i]? = some v) : W'.cell? ⟨k, i, none⟩ = some v := by
  rw [Lib.cell_of_heap (hf.others k _ hk (by simpa using hb) (fun c fz e => by cases e; exact ht rfl))]
  exact hc
theorem get5 {W : World} {k : Nat} {a b c d e : Value} {T : TypeId} {f : Nat × Nat} (h : W.heap[k]? = some (.cells #[a, b, c, d, e] T f)) :
    W.cell? ⟨k, 0, none⟩ = some a ∧ W.cell? ⟨k, 1, none⟩ = some b ∧ W.cell? ⟨k, 2, none⟩ = some c ∧ W.cell? ⟨k, 3, none⟩ = some d ∧ W.cell? ⟨k, 4, none⟩ = some e :=
  ⟨Lib.cell_of_heap h 0, Lib.cell_of_heap h 1, Lib.cell_of_heap h 2, Lib.cell_of_heap h 3, Lib.cell_of_heap h 4⟩
theorem fr_put {D : Nat} {o : Obj} (h : Fr B b w w') (hD : w.heap.size ≤ D) (hB : B ≤ w.heap.size) : Fr B b w (w'.putObj D o) := by
  refine ⟨⟨h.below.os, h.below.tape, h.below.output, by simpa [World.putObj] using h.below.size, fun k hk => ?_⟩, fun k x hk hb hx => ?_⟩
  · rw [World.putObj_heap_other (by omega)]
    exact h.below.block k hk
  · rw [World.putObj_heap_other (by have := lt_of_get hk; omega)]
    exact h.others k x hk hb hx
theorem nums_none (w : World) (b : Nat) : Nums w b (.slice none 0 0) [] := .inl ⟨rfl, rfl⟩
theorem Txt.grown {row : Option Nat} (h : Txt B b l w) (hg : w.grownBy w' row) (hr : ∀ r, row = some r → ∃ o : Obj, w.heap[r]? = some o ∧ o.isCells = false) : Txt B b l w' := by
  have key : ∀ p, Lib.BuilderAtF TW TB B b p (Lib.byteCells l) w → Lib.BuilderAtF TW TB B b p (Lib.byteCells l) w' := by
    rintro p ⟨h1, v, h2, h3, h4⟩
    have no : ∀ k c t f, w.heap[k]? = some (.cells c t f) → some k ≠ row := by
      rintro k c t f hk e
      obtain ⟨o, ho, hc⟩ := hr k e.symm
      rw [hk] at ho
      cases ho
      cases hc
    refine ⟨h1, v, (hg.block b (lt_of_get h2) (no _ _ _ _ h2)).trans h2, h3.kept hg ?_, h4⟩
    cases hv : v.ownBlock with
    | none => exact .inl rfl
    | some g =>
      obtain ⟨c, fz, hc⟩ := Lib.ownsRowF_kind h3 g hv
      exact .inr (no _ _ _ _ hc)
  rcases h with h | h
  · exact .inl (key _ h)
  · exact .inr (key _ h)
theorem St.grown {N : Nat} {row : Option Nat} (h : St B b k0 v0 v1 v2 v3 l w0 w) (hN : w0.heap.size ≤ N) (hB : B ≤ w0.heap.size) (hg : w.grownBy w' row) (hr : ∀ r, row = some r → N ≤ r ∧ ∃ o : Obj, w.heap[r]? = some o ∧ o.isCells = false) : St B b k0 v0 v1 v2 v3 l w0 w' := by
  have no : ∀ k c t f, w.heap[k]? = some (.cells c t f) → some k ≠ row := by
    rintro k c t f hk e
    obtain ⟨_, o, ho, hc⟩ := hr k e.symm
    rw [hk] at ho
    cases ho
    cases hc
  have low : ∀ k, k < N → some k ≠ row := fun k hk e => by
    have := (hr k e.symm).1
    omega
  have hs := h.fr.below.size
  refine ⟨Txt.grown h.txt hg fun r e => (hr r e).2, ⟨⟨hg.os.trans h.fr.below.os, hg.tape.trans h.fr.below.tape, hg.output.trans h.fr.below.output, Nat.le_trans hs hg.size, fun k hk => ?_⟩, fun k o hk hb ho => ?_⟩, (hg.block k0 (lt_of_get h.box) (no _ _ _ _ h.box)).trans h.box, (hg.block (k0 + 1) (lt_of_get h.obj) (no _ _ _ _ h.obj)).trans h.obj⟩
  · exact (hg.block k (by omega) (low k (by omega))).trans (h.fr.below.block k hk)
  · have hk' := h.fr.others k o hk hb ho
    exact (hg.block k (lt_of_get hk') (low k (Nat.lt_of_lt_of_le (lt_of_get hk) hN))).trans hk'
/-- a range over a function, the frame of a round left to be found -/
theorem range_ {α : Type} {F : Fence} {n : Nat} {P : Program} {g : Operand} {ps : Array Tmp} {assign body : Code} {Q : Exit → Act → World → Prop} {a : Act} {w : World}
    (hro : F.round = none) (h1 : 1 ≤ n) {gf : Nat} {lb : Array Value} (hg : a.eval g = .func (.func gf) #[] lb) (hFg : F.fn gf) (eg : ∀ args w, (callFunc gf args).run P w = .ok (.enter gf args) w)
    {encs : α → Array Value} {Kp : World → World → Prop} {S Sp : List α → Prop} {N : Nat} {w0 : World} (hseq : SeqStopsK F (n - 1) P gf lb encs Kp S Sp N w0)
    (hKt : ∀ {A B C : World}, Kp A B → Kp B C → Kp A C) (hKb : ∀ (W : World) (l : Nat) (o o' : Obj), w.heap.size ≤ l → W.heap[l]? = some o → o.isCells = false → o.isWalk = false → Kp W (W.putObj l o')) (hb0 : Below w0.heap.size w0 w) (hps : ∀ x, (encs x).size = ps.size)
    (I : List α → World → Prop) (hI : OwnFrom w.heap.size I) (h0 : I [] w)
    (hab : ∃ a₁ : α → Act, (∀ (l : Nat) (x : α) (W : World) (K : Act → World → Prop), K (a₁ x) W →
      assign.wpIn (F.inRound l) (n - 1 - 1) P (Exit.then K (fun _ _ _ => False)) { tmps := (ps.zip (encs x)).foldl (fun t (p, v) => t.setIfInBounds p v) a.tmps, defers := [] } W) ∧
      ∀ (l : Nat) (pre : List α) (x : α) (W : World), I pre W → pre.length < N → body.wpIn (F.inRound l) (n - 1 - 1) P (ownPostK Kp I (fun _ _ _ => False) (pre ++ [x]) W) (a₁ x) W)
    (hdone : ∀ (D : Nat) (xs : List α) (W : World), w.heap.size ≤ D → S xs → I xs W → W.heap[D]? = some (.deferred (some [])) → Q .normal { a with defers := { target := .collected D, args := #[] } :: a.defers } W) :
    (Code.rangeFunc g ps assign body).wpIn F n P Q a w := by
  obtain ⟨a₁, h2, h3⟩ := hab
  exact wpIn_rangeFunc_ownF hro h1 hg hFg eg hseq hKt hKb hb0 hps I (fun _ _ _ => False) hI (fun _ _ _ _ _ h _ _ => h) h0 a₁ h2 h3 hdone (fun _ _ _ _ _ _ h _ => h.elim)
set_option maxRecDepth 100000 in
set_option maxHeartbeats 1000000 in
theorem bit_ (x : Bool) (w : World) : Calls Tryz.prog 49 #[.bool x] w fun e w' => e = .returned (.int .i64 (bitI x)) ∧ w = w' := by
  cases x
  all_goals
    go_enter Tryz.func49, Tryz.ntmps49
    go_wp2
    go_ret
    exact ⟨rfl, rfl⟩
set_option maxRecDepth 100000 in
set_option maxHeartbeats 8000000 in
theorem object_ {o : ObjV} (ht : Txt B b [] w) (hB : B ≤ w.heap.size) (ho : ObjAt B w v0 v1 v2 v3 o) (hw : o.Wf) (hl : o.Lim) (htab : Tab B w) (hz : ∀ w', Below B w w' → RH.Tab w') (hd8 : o.ds.length % 8 = 0) :
    Calls Tryz.prog 20 #[.pointer (some ⟨b, 0, none⟩), .agg #[v0, v1, v2, v3]] w fun e w' => e = .returned (.tuple #[]) ∧ Txt B b (objL o) w' ∧ Fr B b w w' := by
  have hbw := ht.lt
  obtain ⟨p0, q0, rfl, e0⟩ := ho.ws
  obtain ⟨p1, q1, rfl, e1⟩ := ho.ds
  obtain ⟨p2, q2, rfl, e2⟩ := ho.ss
  obtain ⟨p3, q3, rfl, e3⟩ := ho.rs
  have S0 : St B b w.heap.size _ _ _ _ [] w ((w.alloc (.cells #[.pointer (some ⟨b, 0, none⟩)] 82)).alloc (.cells #[.slice p0 o.ws.length q0, .slice p1 o.ds.length q1, .slice p2 o.ss.length q2, .slice p3 o.rs.length q3] TO)) :=
    ⟨ht.below (((Below.refl _ _).alloc (Nat.le_refl _) _).alloc (by simp) _), Fr.of (((Below.refl _ _).alloc (Nat.le_refl _) _).alloc (by simp) _) hB, by
      rw [Lib.alloc_old _ _ _ (by simp)]; exact heap_alloc_new w _, by
      have := heap_alloc_new (w.alloc (.cells #[.pointer (some ⟨b, 0, none⟩)] 82)) (.cells #[.slice p0 o.ws.length q0, .slice p1 o.ds.length q1, .slice p2 o.ss.length q2, .slice p3 o.rs.length q3] TO)
      rwa [World.size_alloc] at this⟩
  have HO := Lib.hid ho
  have HW := Lib.hid hw
  have HL := Lib.hid hl
  have HT := Lib.hid htab
  have HZ := Lib.hid hz
  have HS0 := Lib.hid S0
  have H8 := Lib.hid hd8
  have hl0 := hl.ws
  have hl1 := hl.ds
  have hl2 := hl.ss
  have hl3 := hl.rs
  clear e0 e1 e2 e3 ho hw hl htab hz S0 hd8 ht
  refine (callsIn_wide (n := 8)).1 (callsIn_of_wp_marks Tryz.func20 rfl trivial ?_ rfl)
  simp only [Tryz.ntmps20, List.size_toArray, List.length_cons, List.length_nil, Nat.reduceAdd, Nat.reduceSub, Array.replicate_succ, Array.replicate_zero, List.push_toArray, List.append_toArray, List.nil_append, List.cons_append]
  refine wpIn_wide.2 ?_
  have hBs : ∀ {l W}, St B b w.heap.size (.slice p0 o.ws.length q0) (.slice p1 o.ds.length q1) (.slice p2 o.ss.length q2) (.slice p3 o.rs.length q3) l w W → B ≤ W.heap.size := fun h => Nat.le_trans hB h.fr.below.size
  have k1 := ln_ HT.out HS0.out hbw (hBs HS0.out) ⟨#[111, 98, 106, 101, 99, 116]⟩ [] (by simp) _ (nums_none _ _) (by decide)
  go_upto_region 2 with (go_at_call 45; (with_reducible refine k1.mono ?_); rintro e w1 ⟨rfl, h1, z1⟩; have H1 := Lib.hid h1; clear h1 k1 z1)
  have i1 := H1.out.c
  have i2 := H1.out.c0
  have i3 := H1.out.lt
  have n1 := H1.out.new (w' := w1.alloc (.cells #[.int .i64 (o.ws.length : Int)] 3)) hbw (hBs H1.out) ((Below.refl _ _).alloc (Nat.le_refl _) _)
  have k2 := ln_ HT.out n1 hbw (hBs n1) ⟨#[116, 101, 120, 116]⟩ [(o.ws.length : Int)] (by simp [I64]; omega) _ (nums_one w1 b _ H1.out.txt.lt) (by simp [lineL, numsL]; decide)
  clear n1
  go_upto_region 3 with (go_at_call 45; ((with_reducible refine k2.mono ?_); rintro e w2 ⟨rfl, h2, z2⟩; have H2 := Lib.hid h2; clear h2 k2 z2))
  clear i1 i2 i3
  have j1 := H2.out.c
  have j2 := H2.out.c0
  have H2' : Hid (St B b w.heap.size (.slice p0 o.ws.length q0) (.slice p1 o.ds.length q1) (.slice p2 o.ss.length q2) (.slice p3 o.rs.length q3) (t1 o ++ wordsL (o.ws.take 0)) w w2) := Lib.hid (by simpa [t1, wordsL] using H2.out)
  clear H2
  go_wp2_with fail
  clear j1 j2
  go_loopw [22] (fun i wr => ∃ k : Nat, k ≤ o.ws.length ∧ i = .int .i64 k ∧ St B b w.heap.size (.slice p0 o.ws.length q0) (.slice p1 o.ds.length q1) (.slice p2 o.ss.length q2) (.slice p3 o.rs.length q3) (t1 o ++ wordsL (o.ws.take k)) w wr) (fun i _ => o.ws.length - (intOf i).toNat)
  case atStart => exact ⟨0, Nat.zero_le _, rfl, H2'.out⟩
  case round =>
    obtain ⟨k, hk, rfl, hS⟩ := hrel
    have HS := Lib.hid hS
    clear hS
    have g1 := HS.out.c
    by_cases hlt : k < o.ws.length
    · obtain ⟨xb, xo, rfl, hxb, -, -, hrow⟩ : ∃ b o_1, p0 = some ⟨b, o_1, none⟩ ∧ b < B ∧ o.ws.length ≤ q0 ∧ q0 ≤ maxLen ∧ Row .u32 w b o_1 o.ws := by
        obtain ⟨p, c, hv, hh⟩ := HO.out.ws
        cases hv
        exact hh (by omega)
      have hc := row_below hrow HS.out.fr.below hxb k _ (List.getElem?_eq_getElem hlt)
      have hx := HW.out.ws _ (List.getElem_mem hlt)
      clear hrow hxb
      generalize hxx : o.ws[k] = x at *
      have HXX := Lib.hid hxx
      clear hxx
      obtain ⟨x, rfl⟩ : ∃ y : Nat, x = y := ⟨x.toNat, by omega⟩
      have HD := Lib.hid (OD.digits8 x (by omega) wr.drew (HZ.out _ (Below.drew HS.out.fr.below)))
      have HN := Lib.hid (fun w4 (hb : Below wr.drew.heap.size wr.drew w4) => ln_ HT.out (HS.out.drew.new hbw (hBs HS.out.drew) hb) hbw (Nat.le_trans (hBs HS.out.drew) hb.size) ⟨(RX.hexL 8 x).toArray⟩ [] (by simp) _ (nums_none _ _) (by
        have h1 := words_len (o.ws.take k)
        have h2 := List.length_take_le k o.ws
        have h3 := lineL_len [116, 101, 120, 116] [(o.ws.length : Int)] (by simp [I64]; omega)
        show (t1 o ++ wordsL (o.ws.take k)).length + (RX.hexL 8 x).length + _ ≤ _
        rw [RX.hexL_length, List.length_append]
        unfold t1
        rw [List.length_append]
        simp only [List.length_cons, List.length_nil] at h3 ⊢
        have h4 : (lineL [111, 98, 106, 101, 99, 116] []).length = 7 := rfl
        omega))
      go_upto_region 6 with (fail)
      have hwx : IntKind.u64.wrap (x : Int) = x := by
        have h : x < 4294967296 := by omega
        simp only [IntKind.wrap, IntKind.bits, IntKind.signed]
        simp
        omega
      clear hx hc
      go_region_held3 (fun w' => w'.cell? ⟨w.heap.size, 0, none⟩ = some (.pointer (some ⟨b, 0, none⟩))) (first | go_keep)
        ((first
          | (go_at_call 46; (with_reducible refine HD.out.mono ?_); rintro e w3 ⟨rfl, hb3⟩; have y1 := (HS.out.drew.new hbw (hBs HS.out.drew) hb3).c; have HB3 := Lib.hid hb3; clear hb3)
          | (go_at_call 45; (with_reducible refine (HN.out _ HB3.out).mono ?_); rintro e w4 ⟨rfl, h4, z4⟩; have y2 := h4.c; have H4 := Lib.hid h4; clear h4 z4)))
      go_wp2_with fail
      refine ⟨⟨k + 1, by omega, by go_num, ?_⟩, by simp [intOf]; omega⟩
      have := H4.out
      unfold wordsL at this ⊢
      rw [flat_snoc _ _ _ hlt, HXX.out]
      simpa using this
    · obtain rfl : k = o.ws.length := by omega
      have H5 : Hid (St B b w.heap.size (.slice p0 o.ws.length q0) (.slice p1 o.ds.length q1) (.slice p2 o.ss.length q2) (.slice p3 o.rs.length q3) (t1 o ++ wordsL o.ws) w wr) := Lib.hid (by simpa using HS.out)
      clear HS
      generalize wr = w5 at *
      have g2 := H5.out.c1
      have g3 := H5.out.lt
      have n5 := H5.out.new (w' := w5.alloc (.cells #[.int .i64 (o.ds.length : Int)] 3)) hbw (hBs H5.out) ((Below.refl _ _).alloc (Nat.le_refl _) _)
      have hA1 : (t1 o ++ wordsL o.ws).length ≤ 600000 := by
        have h1 := words_len o.ws
        have h3 := lineL_len [116, 101, 120, 116] [(o.ws.length : Int)] (by simp [I64]; omega)
        rw [List.length_append]
        unfold t1
        rw [List.length_append]
        simp only [List.length_cons, List.length_nil] at h3 ⊢
        have h4 : (lineL [111, 98, 106, 101, 99, 116] []).length = 7 := rfl
        omega
      have k5 := ln_ HT.out n5 hbw (hBs n5) ⟨#[100, 97, 116, 97]⟩ [(o.ds.length : Int)] (by simp [I64]; omega) _ (nums_one w5 b _ H5.out.txt.lt) (by simp only [List.length_cons, List.length_nil]; show _ + 4 + _ + _ ≤ _; omega)
      clear n5
      go_upto_region 9 with (go_at_call 45; (with_reducible refine k5.mono ?_); rintro e w6 ⟨rfl, h6, z6⟩; have H6 := Lib.hid h6; clear h6 k5 z6)
      clear g1 g2 g3
      have g4 := H6.out.c1
      go_wp2_with (go_at_call 47; (with_reducible refine (chunk_ _ _ _ _).mono ?_); rintro e w7 ⟨rfl, rfl⟩)
      clear g4
      have n7 := H6.out.new (w' := (w6.alloc (.cells #[.slice p1 o.ds.length q1] 23)).alloc (.cells #[.int .i64 8] 3)) hbw (hBs H6.out) (((Below.refl _ _).alloc (Nat.le_refl _) _).alloc (by simp) _)
      have H7 := Lib.hid n7
      clear n7
      have b1 : ((w6.alloc (.cells #[.slice p1 o.ds.length q1] 23)).alloc (.cells #[.int .i64 8] 3)).cell? ⟨w6.heap.size, 0, none⟩ = some (.slice p1 o.ds.length q1) := by simp
      have b2 : ((w6.alloc (.cells #[.slice p1 o.ds.length q1] 23)).alloc (.cells #[.int .i64 8] 3)).cell? ⟨w6.heap.size + 1, 0, none⟩ = some (.int .i64 8) := by
        have h := heap_alloc_new (w6.alloc (.cells #[.slice p1 o.ds.length q1] 23)) (.cells #[.int .i64 8] 3)
        rw [World.size_alloc] at h
        rw [Lib.cell_of_heap h]; rfl
      have hz7 : ((w6.alloc (.cells #[.slice p1 o.ds.length q1] 23)).alloc (.cells #[.int .i64 8] 3)).heap.size = w6.heap.size + 2 := by simp
      have a1 : ((w6.alloc (.cells #[.slice p1 o.ds.length q1] 23)).alloc (.cells #[.int .i64 8] 3)).heap[w6.heap.size]? = some (.cells #[.slice p1 o.ds.length q1] 23 (0, 0)) := by
        rw [Lib.alloc_old _ _ _ (by simp)]; exact heap_alloc_new w6 _
      have a2 : ((w6.alloc (.cells #[.slice p1 o.ds.length q1] 23)).alloc (.cells #[.int .i64 8] 3)).heap[w6.heap.size + 1]? = some (.cells #[.int .i64 8] 3 (0, 0)) := by
        have h := heap_alloc_new (w6.alloc (.cells #[.slice p1 o.ds.length q1] 23)) (.cells #[.int .i64 8] 3)
        rwa [World.size_alloc] at h
      have lt6 := H6.out.txt.lt
      generalize ((w6.alloc (.cells #[.slice p1 o.ds.length q1] 23)).alloc (.cells #[.int .i64 8] 3)) = w7 at *
      obtain ⟨m, hm⟩ : ∃ m, o.ds.length = 8 * m := ⟨o.ds.length / 8, by have := H8.out; omega⟩
      have hcut : Cut w7 B (.slice p1 o.ds.length q1) m o.ds := by
        obtain ⟨p, c, hv, hh⟩ := HO.out.ds
        cases hv
        refine ⟨hm, ⟨p1, q1, by rw [hm]⟩, fun h => ?_⟩
        obtain ⟨xb, xo, rfl, h1, h2, h3, h4⟩ := hh (by omega)
        exact ⟨xb, xo, q1, by rw [hm], h1, by omega, h3, row_below h4 H7.out.fr.below h1⟩
      have HC := Lib.hid hcut
      clear hcut
      have HO7 := Lib.hid (HO.out.below H7.out.fr.below)
      have HT7 := Lib.hid (HT.out.on H7.out.fr.below)
      have HZ7 := Lib.hid (fun w' (h : Below B w7 w') => HZ.out w' (H7.out.fr.below.trans h))
      have HF7 := Lib.hid H7.out.fr
      have hB7 : B ≤ w7.heap.size := hBs H7.out
      have S7 : Hid (St B b w.heap.size (.slice p0 o.ws.length q0) (.slice p1 o.ds.length q1) (.slice p2 o.ss.length q2) (.slice p3 o.rs.length q3) (t1 o ++ wordsL o.ws ++ t2 o) w7 w7) := Lib.hid ⟨H7.out.txt, Fr.refl _ _ _, H7.out.box, H7.out.obj⟩
      have hB8 : ∀ {l W}, St B b w.heap.size (.slice p0 o.ws.length q0) (.slice p1 o.ds.length q1) (.slice p2 o.ss.length q2) (.slice p3 o.rs.length q3) l w7 W → B ≤ W.heap.size := fun h => Nat.le_trans hB7 h.fr.below.size
      have A1 := Lib.hid a1
      have A2 := Lib.hid a2
      clear H7 a1 a2 HT HZ HO
      refine (wpIn_wide (n := 8)).1 ?_
      refine range_ (α := Fin m) (w0 := w7) rfl (by omega) (gf := 66) (lb := #[.pointer (some ⟨w6.heap.size, 0, none⟩), .pointer (some ⟨w6.heap.size + 1, 0, none⟩)]) rfl trivial (enters_of Tryz.func66 (by kernel_rfl) rfl)
        (chunk_stops (8 - 1) (by omega) w6.heap.size (w6.heap.size + 1) B m _ o.ds (by omega) w7 (by omega) (by omega) b1 b2 HC.out) (fun h k => h.trans k) (fun W l o o' hl _ _ _ => Kp.put W l o' (by omega) (by omega)) (Below.refl _ _) (fun _ => rfl)
        (fun pre W => St B b w.heap.size (.slice p0 o.ws.length q0) (.slice p1 o.ds.length q1) (.slice p2 o.ss.length q2) (.slice p3 o.rs.length q3) (t1 o ++ wordsL o.ws ++ t2 o ++ dataL o.ds (pre.map (·.1))) w7 W)
        (fun s W W' row h hg hr => St.grown h (Nat.le_refl _) hB7 hg hr) ?start ?ab ?done
      case start => simpa [dataL] using S7.out
      case ab =>
        apply Exists.intro
        constructor
        · intro l x W K hK
          gi_wp2
          exact hK
        · rintro l pre x W hI hlt
          have hx := x.2
          obtain ⟨p, c, hv, hh⟩ := HO7.out.ds
          cases hv
          obtain ⟨xb, xo, rfl, hxb, -, -, hrow⟩ := hh (by omega)
          have HS := Lib.hid hI
          have HL8 := Lib.hid (piece8_len hm hx)
          have hlen : (t1 o ++ wordsL o.ws ++ t2 o ++ dataL o.ds (pre.map (·.1))).length ≤ 2000000 := by
            have h1 := data_len o.ds (pre.map (·.1))
            rw [List.length_map] at h1
            have h2 := lineL_len [100, 97, 116, 97] [(o.ds.length : Int)] (by simp [I64]; omega)
            rw [List.length_append, List.length_append]
            unfold t2
            simp only [List.length_cons, List.length_nil] at h2 ⊢
            omega
          have HJ := Lib.hid (joined8 W.drew xb (xo + 8 * x.1) (piece8 o.ds x.1) (piece8_bytes HW.out.ds _) HL8.out (row_below (piece8_row hrow) (Below.drew HS.out.fr.below) hxb))
          have HD := Lib.hid (OD.digits16 (numB (piece8 o.ds x.1)) (piece8_lt HW.out.ds hm hx) W.drew (HZ7.out _ (Below.drew HS.out.fr.below)))
          have HN := Lib.hid (fun w4 (hb : Below W.drew.heap.size W.drew w4) => ln_ HT7.out (HS.out.drew.new hbw (hB8 HS.out.drew) hb) hbw (Nat.le_trans (hB8 HS.out.drew) hb.size) ⟨(RX.hexL 16 (numB (piece8 o.ds x.1))).toArray⟩ [] (by simp) _ (nums_none _ _) (by
            show _ + (RX.hexL 16 _).length + 22 * 0 + 1 ≤ _
            rw [RX.hexL_length]
            omega))
          have HX := Lib.hid hm
          have hBW := hB8 HS.out.drew
          have q1 := HS.out.c
          clear hm hI hlen hrow hxb hh hx
          have mixed : Tryz.prog.follows Departure.mixedOrders = true := by kernel_rfl
          simp only [piece, at_]
          gi_wp2_with fail
          gi_region_with_o (first
            | (refine ⟨trivial, ?_⟩; gi_at_call 48; (with_reducible refine (CallsIn.inRound l (callsIn_wide.2 HJ.out)).mono ?_); rintro e w' ⟨rfl, rfl⟩)
            | (refine ⟨trivial, ?_⟩; gi_at_call 46; (with_reducible refine (CallsIn.inRound l (callsIn_wide.2 HD.out)).mono ?_); rintro e w3 ⟨rfl, hb3⟩; have y1 := (HS.out.drew.new hbw hBW hb3).c; have HB3 := Lib.hid hb3; clear hb3)
            | (refine ⟨trivial, ?_⟩; gi_at_call 45; (with_reducible refine (CallsIn.inRound l (callsIn_wide.2 (HN.out _ HB3.out))).mono ?_); rintro e w4 ⟨rfl, h4, z4⟩; have y2 := h4.c; have H4 := Lib.hid h4; have Z4 := Lib.hid z4; clear h4 z4))
          all_goals gi_wp2
          all_goals
            have fr := ((Fr.drew B b W).trans (Fr.of HB3.out hBW)).trans Z4.out
            refine ⟨keeps_others HS.out.txt fr, kp_of A1.out A2.out (by decide) (by decide) (by omega) (by omega) HS.out.fr fr, ?_⟩
            have := H4.out
            have e : (pre ++ [x]).map (·.1) = pre.map (·.1) ++ [x.1] := by simp
            show St B b _ _ _ _ _ (_ ++ dataL o.ds ((pre ++ [x]).map (·.1))) w7 w4
            rw [e]
            unfold dataL at this ⊢
            rw [List.flatMap_append]
            simpa using this
      case done =>
        intro D xs w8 hD hxs hS hK
        subst hxs
        have hS' : St B b w.heap.size (.slice p0 o.ws.length q0) (.slice p1 o.ds.length q1) (.slice p2 o.ss.length q2) (.slice p3 o.rs.length q3) (t1 o ++ wordsL o.ws ++ t2 o ++ dataL o.ds (List.range (o.ds.length / 8))) w7 w8 := by
          rw [fin_val] at hS
          rw [show o.ds.length / 8 = m by omega]
          exact hS
        have HS := Lib.hid hS'
        have HK := Lib.hid hK
        have hA2 : (t1 o ++ wordsL o.ws ++ t2 o ++ dataL o.ds (List.range (o.ds.length / 8))).length ≤ 2000000 := by
          have h1 := data_len o.ds (List.range (o.ds.length / 8))
          rw [List.length_range] at h1
          have h2 := lineL_len [100, 97, 116, 97] [(o.ds.length : Int)] (by simp [I64]; omega)
          rw [List.length_append, List.length_append]
          unfold t2
          simp only [List.length_cons, List.length_nil] at h2 ⊢
          omega
        have HX := Lib.hid hm
        have hA3 : ∀ k, (t1 o ++ wordsL o.ws ++ t2 o ++ dataL o.ds (List.range (o.ds.length / 8)) ++ t3 o ++ symsL (o.ss.take k)).length ≤ 5000000000 := fun k => by
          have h1 := syms_len (o.ss.take k) (fun s hs => HW.out.ss s (List.mem_of_mem_take hs)) (fun s hs => HL.out.names s (List.mem_of_mem_take hs))
          have h2 := lineL_len [115, 121, 109, 115] [(o.ss.length : Int)] (by simp [I64]; omega)
          have h3 : (o.ss.take k).length ≤ o.ss.length := by rw [List.length_take]; omega
          rw [List.length_append, List.length_append]
          unfold t3
          simp only [List.length_cons, List.length_nil] at h2 ⊢
          omega
        have hlt8 : b < w8.heap.size := HS.out.txt.lt
        have hDb : D ≠ b := by
          rintro rfl
          obtain ⟨c, t, f, hc⟩ := Txt.cells HS.out.txt
          rw [hK] at hc
          cases hc
        clear hS hS' hK hm
        have g1 := HS.out.c
        have g2 := HS.out.c2
        have g3 := HS.out.lt
        have n8 := HS.out.new (w' := w8.alloc (.cells #[.int .i64 (o.ss.length : Int)] 3)) hbw (hB8 HS.out) ((Below.refl _ _).alloc (Nat.le_refl _) _)
        have k8 := ln_ HT7.out n8 hbw (hB8 n8) ⟨#[115, 121, 109, 115]⟩ [(o.ss.length : Int)] (by simp [I64]; omega) _ (nums_one w8 b _ HS.out.txt.lt) (by simp only [List.length_cons, List.length_nil]; show _ + 4 + _ + _ ≤ _; omega)
        clear n8
        go_upto_region 13 with (go_at_call 45; (with_reducible refine k8.mono ?_); rintro e w9 ⟨rfl, h9, z9⟩; have H9 := Lib.hid h9; have K9 := Lib.hid (z9.others D _ ((Lib.alloc_old _ _ _ (lt_of_get HK.out)).trans HK.out) (by simpa using hDb) (fun c fz e => by cases e)); clear h9 k8 z9)
        clear g1 g2 g3
        have g2 := H9.out.c2
        go_wp2_with fail
        clear g2
        go_loopw [56] (fun i wr => ∃ k : Nat, k ≤ o.ss.length ∧ i = .int .i64 k ∧ St B b w.heap.size (.slice p0 o.ws.length q0) (.slice p1 o.ds.length q1) (.slice p2 o.ss.length q2) (.slice p3 o.rs.length q3) (t1 o ++ wordsL o.ws ++ t2 o ++ dataL o.ds (List.range (o.ds.length / 8)) ++ t3 o ++ symsL (o.ss.take k)) w7 wr ∧ wr.heap[D]? = some (.deferred (some []))) (fun i _ => o.ss.length - (intOf i).toNat)
        case atStart => exact ⟨0, Nat.zero_le _, rfl, by simpa [symsL, t3] using H9.out, K9.out⟩
        case round =>
          obtain ⟨k, hk, rfl, hS, hD'⟩ := hrel
          have HSr := Lib.hid hS
          have HKr := Lib.hid hD'
          clear hS hD'
          have g1 := HSr.out.c
          by_cases hlt : k < o.ss.length
          · obtain ⟨p, c, hv, hh⟩ := HO7.out.ss
            cases hv
            obtain ⟨xb, xo, rfl, hxb, -, -, hrow⟩ := hh (by omega)
            have hsym := (hrow k _ (List.getElem?_eq_getElem hlt)).below HSr.out.fr.below hxb
            have hwf := HW.out.ss _ (List.getElem_mem hlt)
            have hnm := HL.out.names _ (List.getElem_mem hlt)
            generalize hxx : o.ss[k] = x at *
            have HXX := Lib.hid hxx
            obtain ⟨s0, s1, s2, s3, s4⟩ := hsym
            clear hxx hrow hxb
            go_upto_region 16 with (fail)
            have ha := heap_alloc_new wr (.cells #[.string x.name, .int .i64 x.sect, .int .i64 x.val, .int .i64 x.frame, .bool x.glob] 45)
            have sa := HSr.out.new (w' := wr.alloc (.cells #[.string x.name, .int .i64 x.sect, .int .i64 x.val, .int .i64 x.frame, .bool x.glob] 45)) hbw (hB8 HSr.out) ((Below.refl _ _).alloc (Nat.le_refl _) _)
            have da : (wr.alloc (.cells #[.string x.name, .int .i64 x.sect, .int .i64 x.val, .int .i64 x.frame, .bool x.glob] 45)).heap[D]? = some (.deferred (some [])) := (Lib.alloc_old _ _ _ (lt_of_get HKr.out)).trans HKr.out
            have lb := HSr.out.txt.lt
            have lk := HSr.out.lt
            have HXs := Lib.hid hwf
            clear s0 s1 s2 s3 s4 g1 hwf
            generalize hka : wr.heap.size = ka at *
            generalize wr.alloc (.cells #[.string x.name, .int .i64 x.sect, .int .i64 x.val, .int .i64 x.frame, .bool x.glob] 45) = wa at *
            have lka := lt_of_get ha
            have SA := Lib.hid sa
            have DA := Lib.hid da
            have AA := Lib.hid ha
            have m0 := sa.c
            have m1 : wa.cell? ⟨ka, 0, none⟩ = some (.string x.name) := by rw [Lib.cell_of_heap ha]; rfl
            have m2 : wa.cell? ⟨ka, 1, none⟩ = some (.int .i64 x.sect) := by rw [Lib.cell_of_heap ha]; rfl
            have m3 : wa.cell? ⟨ka, 2, none⟩ = some (.int .i64 x.val) := by rw [Lib.cell_of_heap ha]; rfl
            have m4 : wa.cell? ⟨ka, 3, none⟩ = some (.int .i64 x.frame) := by rw [Lib.cell_of_heap ha]; rfl
            have m5 : wa.cell? ⟨ka, 4, none⟩ = some (.bool x.glob) := by rw [Lib.cell_of_heap ha]; rfl
            have o0 := cell_alloc m0 (by omega)
            have o1 := cell_alloc m1 lka
            have o2 := cell_alloc m2 lka
            have o3 := cell_alloc m3 lka
            have o4 := cell_alloc m4 lka
            have o5 := cell_alloc m5 lka
            have HN := Lib.hid (ln_ (w := (wa.alloc (.cells #[.int .i64 x.sect, .int .i64 x.val, .int .i64 x.frame, .int .i64 (bitI x.glob)] 3)).drew) HT7.out ((sa.new hbw (hB8 sa) ((Below.refl _ _).alloc (Nat.le_refl _) _)).drew) hbw (Nat.le_trans (hB8 sa) (by simp)) x.name [x.sect, x.val, x.frame, bitI x.glob] (by
                intro n hn
                simp only [List.mem_cons, List.not_mem_nil, or_false] at hn
                rcases hn with rfl | rfl | rfl | rfl
                · exact HXs.out.sect
                · exact HXs.out.val
                · exact HXs.out.frame
                · exact bitI_i64 _) _ (nums_four wa b _ _ _ _ sa.txt.lt) (by have := hA3 k; simp only [List.length_cons, List.length_nil]; omega))
            have A4 := Lib.hid (show ((wa.alloc (.cells #[.int .i64 x.sect, .int .i64 x.val, .int .i64 x.frame, .int .i64 (bitI x.glob)] 3)).drew).heap[ka]? = some (.cells #[.string x.name, .int .i64 x.sect, .int .i64 x.val, .int .i64 x.frame, .bool x.glob] 45 (0, 0)) from (Lib.alloc_old _ _ _ lka).trans ha)
            have D4 := Lib.hid (show ((wa.alloc (.cells #[.int .i64 x.sect, .int .i64 x.val, .int .i64 x.frame, .int .i64 (bitI x.glob)] 3)).drew).heap[D]? = some (.deferred (some [])) from (Lib.alloc_old _ _ _ (lt_of_get da)).trans da)
            clear sa da ha
            go_region_held3 (fun w' => w'.cell? ⟨w.heap.size, 0, none⟩ = some (.pointer (some ⟨b, 0, none⟩)) ∧ w'.cell? ⟨ka, 0, none⟩ = some (.string x.name) ∧ w'.cell? ⟨ka, 1, none⟩ = some (.int .i64 x.sect) ∧ w'.cell? ⟨ka, 2, none⟩ = some (.int .i64 x.val) ∧ w'.cell? ⟨ka, 3, none⟩ = some (.int .i64 x.frame) ∧ w'.cell? ⟨ka, 4, none⟩ = some (.bool x.glob)) (first | go_keep)
              ((first
                | (go_at_call 49; (with_reducible refine (bit_ _ _).mono ?_); rintro e w' ⟨rfl, rfl⟩)
                | (go_at_call 45; (with_reducible refine HN.out.mono ?_); rintro e w4 ⟨rfl, h4, z4⟩; have y0 := h4.c; have y1 := Fr.cell z4 A4.out (i := 0) (by omega) (by decide) rfl; have y2 := Fr.cell z4 A4.out (i := 1) (by omega) (by decide) rfl; have y3 := Fr.cell z4 A4.out (i := 2) (by omega) (by decide) rfl; have y4 := Fr.cell z4 A4.out (i := 3) (by omega) (by decide) rfl; have y5 := Fr.cell z4 A4.out (i := 4) (by omega) (by decide) rfl; have H4 := Lib.hid h4; have Z4 := Lib.hid z4; clear h4 z4)))
            go_wp2_with fail
            refine ⟨⟨k + 1, by omega, by go_num, ?_, Z4.out.others D _ D4.out (by simpa using hDb) (fun c fz e => by cases e)⟩, by simp [intOf]; omega⟩
            have := H4.out
            unfold symsL at this ⊢
            rw [flat_snoc _ _ _ hlt, HXX.out]
            simpa [symL] using this
          · obtain rfl : k = o.ss.length := by omega
            have HE : Hid (St B b w.heap.size (.slice p0 o.ws.length q0) (.slice p1 o.ds.length q1) (.slice p2 o.ss.length q2) (.slice p3 o.rs.length q3) (t1 o ++ wordsL o.ws ++ t2 o ++ dataL o.ds (List.range (o.ds.length / 8)) ++ t3 o ++ symsL o.ss) w7 wr) := Lib.hid (by simpa using HSr.out)
            have hA4 := hA3 o.ss.length
            rw [List.take_length] at hA4
            clear HSr hA3 g1
            generalize wr = we at *
            have g1 := HE.out.c
            have g2 := HE.out.c3
            have g3 := HE.out.lt
            have ne := HE.out.new (w' := we.alloc (.cells #[.int .i64 (o.rs.length : Int)] 3)) hbw (hB8 HE.out) ((Below.refl _ _).alloc (Nat.le_refl _) _)
            have ke := ln_ HT7.out ne hbw (hB8 ne) ⟨#[114, 101, 108, 115]⟩ [(o.rs.length : Int)] (by simp [I64]; omega) _ (nums_one we b _ HE.out.txt.lt) (by simp only [List.length_cons, List.length_nil]; show _ + 4 + _ + _ ≤ _; omega)
            clear ne
            go_upto_region 19 with (go_at_call 45; (with_reducible refine ke.mono ?_); rintro e wf ⟨rfl, hf, zf⟩; have HF := Lib.hid hf; have KF := Lib.hid (zf.others D _ ((Lib.alloc_old _ _ _ (lt_of_get HKr.out)).trans HKr.out) (by simpa using hDb) (fun c fz e => by cases e)); clear hf ke zf)
            clear g1 g2 g3
            have g2 := HF.out.c3
            go_wp2_with fail
            clear g2
            have hA5 : ∀ k, (t1 o ++ wordsL o.ws ++ t2 o ++ dataL o.ds (List.range (o.ds.length / 8)) ++ t3 o ++ symsL o.ss ++ t4 o ++ relsL (o.rs.take k)).length ≤ 6000000000 := fun k => by
              have h1 := rels_len (o.rs.take k) (fun s hs => HW.out.rs s (List.mem_of_mem_take hs))
              have h2 := lineL_len [114, 101, 108, 115] [(o.rs.length : Int)] (by simp [I64]; omega)
              have h3 : (o.rs.take k).length ≤ o.rs.length := by rw [List.length_take]; omega
              rw [List.length_append, List.length_append]
              unfold t4
              simp only [List.length_cons, List.length_nil] at h2 ⊢
              omega
            go_loopw [84] (fun i wr => ∃ k : Nat, k ≤ o.rs.length ∧ i = .int .i64 k ∧ St B b w.heap.size (.slice p0 o.ws.length q0) (.slice p1 o.ds.length q1) (.slice p2 o.ss.length q2) (.slice p3 o.rs.length q3) (t1 o ++ wordsL o.ws ++ t2 o ++ dataL o.ds (List.range (o.ds.length / 8)) ++ t3 o ++ symsL o.ss ++ t4 o ++ relsL (o.rs.take k)) w7 wr ∧ wr.heap[D]? = some (.deferred (some []))) (fun i _ => o.rs.length - (intOf i).toNat)
            case atStart => exact ⟨0, Nat.zero_le _, rfl, by simpa [relsL, t4] using HF.out, KF.out⟩
            case round =>
              obtain ⟨k, hk, rfl, hS, hD'⟩ := hrel
              have HSr := Lib.hid hS
              have HKr := Lib.hid hD'
              clear hS hD'
              have g1 := HSr.out.c
              by_cases hlt : k < o.rs.length
              · obtain ⟨p, c, hv, hh⟩ := HO7.out.rs
                cases hv
                obtain ⟨xb, xo, rfl, hxb, -, -, hrow⟩ := hh (by omega)
                have hrel := (hrow k _ (List.getElem?_eq_getElem hlt)).below HSr.out.fr.below hxb
                have hwf := HW.out.rs _ (List.getElem_mem hlt)
                generalize hxx : o.rs[k] = x at *
                have HXX := Lib.hid hxx
                obtain ⟨s0, s1, s2, s3, s4⟩ := hrel
                clear hxx hrow hxb
                go_upto_region 22 with (fail)
                have ha := heap_alloc_new wr (.cells #[.int .i64 x.sect, .int .i64 x.place, .int .i64 x.kind, .int .i64 x.sym, .int .i64 x.add] 56)
                have sa := HSr.out.new (w' := wr.alloc (.cells #[.int .i64 x.sect, .int .i64 x.place, .int .i64 x.kind, .int .i64 x.sym, .int .i64 x.add] 56)) hbw (hB8 HSr.out) ((Below.refl _ _).alloc (Nat.le_refl _) _)
                have da : (wr.alloc (.cells #[.int .i64 x.sect, .int .i64 x.place, .int .i64 x.kind, .int .i64 x.sym, .int .i64 x.add] 56)).heap[D]? = some (.deferred (some [])) := (Lib.alloc_old _ _ _ (lt_of_get HKr.out)).trans HKr.out
                have lb := HSr.out.txt.lt
                have lk := HSr.out.lt
                have HXs := Lib.hid hwf
                clear s0 s1 s2 s3 s4 g1 hwf
                generalize hka : wr.heap.size = ka at *
                generalize wr.alloc (.cells #[.int .i64 x.sect, .int .i64 x.place, .int .i64 x.kind, .int .i64 x.sym, .int .i64 x.add] 56) = wa at *
                have lka := lt_of_get ha
                have SA := Lib.hid sa
                have DA := Lib.hid da
                have AA := Lib.hid ha
                have m0 := sa.c
                have m1 : wa.cell? ⟨ka, 0, none⟩ = some (.int .i64 x.sect) := by rw [Lib.cell_of_heap ha]; rfl
                have m2 : wa.cell? ⟨ka, 1, none⟩ = some (.int .i64 x.place) := by rw [Lib.cell_of_heap ha]; rfl
                have m3 : wa.cell? ⟨ka, 2, none⟩ = some (.int .i64 x.kind) := by rw [Lib.cell_of_heap ha]; rfl
                have m4 : wa.cell? ⟨ka, 3, none⟩ = some (.int .i64 x.sym) := by rw [Lib.cell_of_heap ha]; rfl
                have m5 : wa.cell? ⟨ka, 4, none⟩ = some (.int .i64 x.add) := by rw [Lib.cell_of_heap ha]; rfl
                have o0 := cell_alloc m0 (by omega)
                have o1 := cell_alloc m1 lka
                have o2 := cell_alloc m2 lka
                have o3 := cell_alloc m3 lka
                have o4 := cell_alloc m4 lka
                have o5 := cell_alloc m5 lka
                have hns : ∀ n ∈ [x.place, x.kind, x.sym, x.add], I64 n := by
                  intro n hn
                  simp only [List.mem_cons, List.not_mem_nil, or_false] at hn
                  rcases hn with rfl | rfl | rfl | rfl
                  · exact HXs.out.place
                  · exact HXs.out.kind
                  · exact HXs.out.sym
                  · exact HXs.out.add
                have hit := Lib.itoa_length_le x.sect HXs.out.sect.1 HXs.out.sect.2
                have hsz : (⟨(Lib.itoa x.sect).toArray⟩ : ByteArray).size = (Lib.itoa x.sect).length := by show (Lib.itoa x.sect).toArray.size = _; rw [List.size_toArray]
                have hA6 := hA5 k
                have hB9 := hB8 sa
                have tA := HT7.out.on sa.fr.below
                have wb : Below wa.heap.size wa (wa.alloc (.cells #[.int .i64 x.place, .int .i64 x.kind, .int .i64 x.sym, .int .i64 x.add] 3)) := (Below.refl _ _).alloc (Nat.le_refl _) _
                have I1 := Lib.hid (itoa_ x.sect HXs.out.sect.1 HXs.out.sect.2 wa.drew (tA.on (Below.drew (Below.refl _ _))))
                have I2 := Lib.hid (itoa_ x.sect HXs.out.sect.1 HXs.out.sect.2 (wa.alloc (.cells #[.int .i64 x.place, .int .i64 x.kind, .int .i64 x.sym, .int .i64 x.add] 3)).drew (tA.on (Below.drew (wb.mono hB9))))
                have N1 := Lib.hid (fun (w3 : World) (hb : Below wa.drew.heap.size wa.drew w3) => ln_ (w := w3.alloc (.cells #[.int .i64 x.place, .int .i64 x.kind, .int .i64 x.sym, .int .i64 x.add] 3)) HT7.out ((sa.drew.new hbw hB9 hb).new hbw (Nat.le_trans hB9 hb.size) ((Below.refl _ _).alloc (Nat.le_refl _) _)) hbw (Nat.le_trans (Nat.le_trans hB9 hb.size) (by simp)) ⟨(Lib.itoa x.sect).toArray⟩ _ hns _ (nums_four w3 b _ _ _ _ (Nat.lt_of_lt_of_le sa.txt.lt hb.size)) (by rw [hsz]; simp only [List.length_cons, List.length_nil]; omega))
                have N2 := Lib.hid (fun (w3 : World) (hb : Below (wa.alloc (.cells #[.int .i64 x.place, .int .i64 x.kind, .int .i64 x.sym, .int .i64 x.add] 3)).drew.heap.size (wa.alloc (.cells #[.int .i64 x.place, .int .i64 x.kind, .int .i64 x.sym, .int .i64 x.add] 3)).drew w3) => ln_ (w := w3) HT7.out (((sa.new hbw hB9 wb).drew).new hbw (Nat.le_trans hB9 (by simp)) hb) hbw (Nat.le_trans hB9 (Nat.le_trans (by simp) hb.size)) ⟨(Lib.itoa x.sect).toArray⟩ _ hns _ ((show Nums (wa.alloc (.cells #[.int .i64 x.place, .int .i64 x.kind, .int .i64 x.sym, .int .i64 x.add] 3)).drew b _ _ from nums_four wa b _ _ _ _ sa.txt.lt).kept (Fr.of hb (Nat.le_trans hB9 (by simp)))) (by rw [hsz]; simp only [List.length_cons, List.length_nil]; omega))
                have A4 := Lib.hid (fun (w3 : World) (hb : Below wa.drew.heap.size wa.drew w3) => (show w3.heap[ka]? = some (.cells #[.int .i64 x.sect, .int .i64 x.place, .int .i64 x.kind, .int .i64 x.sym, .int .i64 x.add] 56 (0, 0)) from (hb.block ka lka).trans ha))
                have A5 := Lib.hid (fun (w3 : World) (hb : Below (wa.alloc (.cells #[.int .i64 x.place, .int .i64 x.kind, .int .i64 x.sym, .int .i64 x.add] 3)).drew.heap.size (wa.alloc (.cells #[.int .i64 x.place, .int .i64 x.kind, .int .i64 x.sym, .int .i64 x.add] 3)).drew w3) => (show w3.heap[ka]? = some (.cells #[.int .i64 x.sect, .int .i64 x.place, .int .i64 x.kind, .int .i64 x.sym, .int .i64 x.add] 56 (0, 0)) from (hb.block ka (by have := wb.size; exact Nat.lt_of_lt_of_le lka this)).trans ((Lib.alloc_old _ _ _ lka).trans ha)))
                have D4 := Lib.hid (fun (w3 : World) (hb : Below wa.drew.heap.size wa.drew w3) => (show w3.heap[D]? = some (.deferred (some [])) from (hb.block D (lt_of_get da)).trans da))
                have D5 := Lib.hid (fun (w3 : World) (hb : Below (wa.alloc (.cells #[.int .i64 x.place, .int .i64 x.kind, .int .i64 x.sym, .int .i64 x.add] 3)).drew.heap.size (wa.alloc (.cells #[.int .i64 x.place, .int .i64 x.kind, .int .i64 x.sym, .int .i64 x.add] 3)).drew w3) => (show w3.heap[D]? = some (.deferred (some [])) from (hb.block D (by have := wb.size; exact Nat.lt_of_lt_of_le (lt_of_get da) this)).trans ((Lib.alloc_old _ _ _ (lt_of_get da)).trans da)))
                have S1 := Lib.hid (fun (w3 : World) (hb : Below wa.drew.heap.size wa.drew w3) => (sa.drew.new hbw hB9 hb).c)
                have S2 := Lib.hid (fun (w3 : World) (hb : Below (wa.alloc (.cells #[.int .i64 x.place, .int .i64 x.kind, .int .i64 x.sym, .int .i64 x.add] 3)).drew.heap.size (wa.alloc (.cells #[.int .i64 x.place, .int .i64 x.kind, .int .i64 x.sym, .int .i64 x.add] 3)).drew w3) => (((sa.new hbw hB9 wb).drew).new hbw (Nat.le_trans hB9 (by simp)) hb).c)
                have lkw : w.heap.size < wa.heap.size := by have := sa.lt; omega
                clear sa da ha hns hit hsz hA6 tA wb
                go_region_held3 (fun w' => w'.cell? ⟨w.heap.size, 0, none⟩ = some (.pointer (some ⟨b, 0, none⟩)) ∧ w'.cell? ⟨ka, 0, none⟩ = some (.int .i64 x.sect) ∧ w'.cell? ⟨ka, 1, none⟩ = some (.int .i64 x.place) ∧ w'.cell? ⟨ka, 2, none⟩ = some (.int .i64 x.kind) ∧ w'.cell? ⟨ka, 3, none⟩ = some (.int .i64 x.sym) ∧ w'.cell? ⟨ka, 4, none⟩ = some (.int .i64 x.add)) (first | go_keep)
                  ((first
                    | (go_at_call 50; (with_reducible refine I1.out.mono ?_); rintro e w3 ⟨rfl, hb3⟩; have y0 := S1.out w3 hb3; obtain ⟨y1, y2, y3, y4, y5⟩ := get5 (A4.out w3 hb3); have lt3 := hb3.size; have z0 := cell_alloc y0 (Nat.lt_of_lt_of_le lkw lt3); have z1 := cell_alloc y1 (Nat.lt_of_lt_of_le lka lt3); have z2 := cell_alloc y2 (Nat.lt_of_lt_of_le lka lt3); have z3 := cell_alloc y3 (Nat.lt_of_lt_of_le lka lt3); have z4 := cell_alloc y4 (Nat.lt_of_lt_of_le lka lt3); have z5 := cell_alloc y5 (Nat.lt_of_lt_of_le lka lt3); have HB3 := Lib.hid hb3; clear hb3)
                    | (go_at_call 50; (with_reducible refine I2.out.mono ?_); rintro e w3 ⟨rfl, hb3⟩; have y0 := S2.out w3 hb3; obtain ⟨y1, y2, y3, y4, y5⟩ := get5 (A5.out w3 hb3); have HB3 := Lib.hid hb3; clear hb3)
                    | (go_at_call 45; (with_reducible refine (N1.out _ HB3.out).mono ?_); rintro e w4 ⟨rfl, h4, f4⟩; have y6 := h4.c; obtain ⟨y7, y8, y9, y10, y11⟩ := get5 (f4.others ka _ ((Lib.alloc_old _ _ _ (Nat.lt_of_lt_of_le lka lt3)).trans (A4.out _ HB3.out)) (by simp; omega) (fun c fz e => by cases e)); have K4 := Lib.hid (f4.others D _ ((Lib.alloc_old _ _ _ (lt_of_get (D4.out _ HB3.out))).trans (D4.out _ HB3.out)) (by simpa using hDb) (fun c fz e => by cases e)); have H4 := Lib.hid h4; clear h4 f4)
                    | (go_at_call 45; (with_reducible refine (N2.out _ HB3.out).mono ?_); rintro e w4 ⟨rfl, h4, f4⟩; have y6 := h4.c; obtain ⟨y7, y8, y9, y10, y11⟩ := get5 (f4.others ka _ (A5.out _ HB3.out) (by simp; omega) (fun c fz e => by cases e)); have K4 := Lib.hid (f4.others D _ (D5.out _ HB3.out) (by simpa using hDb) (fun c fz e => by cases e)); have H4 := Lib.hid h4; clear h4 f4)))
                all_goals
                  go_wp2_with fail
                  refine ⟨⟨k + 1, by omega, by go_num, ?_, K4.out⟩, by simp [intOf]; omega⟩
                  have := H4.out
                  unfold relsL at this ⊢
                  rw [flat_snoc _ _ _ hlt, HXX.out]
                  simpa [relL] using this
              · obtain rfl : k = o.rs.length := by omega
                have HE2 : Hid (St B b w.heap.size (.slice p0 o.ws.length q0) (.slice p1 o.ds.length q1) (.slice p2 o.ss.length q2) (.slice p3 o.rs.length q3) (t1 o ++ wordsL o.ws ++ t2 o ++ dataL o.ds (List.range (o.ds.length / 8)) ++ t3 o ++ symsL o.ss ++ t4 o ++ relsL o.rs) w7 wr) := Lib.hid (by simpa using HSr.out)
                have hA6 := hA5 o.rs.length
                rw [List.take_length] at hA6
                clear HSr hA5
                generalize wr = wz at *
                have kz := ln_ HT7.out HE2.out hbw (hB8 HE2.out) ⟨#[101, 110, 100]⟩ [] (by simp) _ (nums_none _ _) (by simp only [List.length_nil]; show _ + 3 + _ + _ ≤ _; omega)
                go_wp2_with (go_at_call 45; (with_reducible refine kz.mono ?_); rintro e wy ⟨rfl, hy, fy⟩; have HY := Lib.hid hy; have FY := Lib.hid fy; have KY := Lib.hid (fy.others D _ HKr.out (by simpa using hDb) (fun c fz e => by cases e)); clear hy fy kz)
                refine ⟨by simp, .inl ⟨_, _, rfl, run_takeDeferred KY.out, ?_⟩⟩
                refine ⟨_, results_none rfl _ _ _, rfl, ?_, fr_put (HF7.out.trans HY.out.fr) (Nat.le_trans HF7.out.below.size hD) hB⟩
                have hg := grownBy_putObj' wy D (.deferred none)
                have := Txt.grown HY.out.txt hg (fun r e => by cases e; exact ⟨_, KY.out, rfl⟩)
                simpa [objL, t5] using this
end OP
end Go.Proofs.YtieehjkmfmkfjaaGreatDoor
