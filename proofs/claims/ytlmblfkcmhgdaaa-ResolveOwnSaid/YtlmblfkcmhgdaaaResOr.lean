/-
  Resolve's answer, and the blocks that it lies in; the facts of the region in which objects and one more are joined and resolved. Conditions: those that are written at each.
-/
import Derived.Test.YtlmblfkcmhgdaaaResOx
import Derived.Test.YtlmblfkcmhgdaaaObjSu
namespace Go.Proofs.Ytlmblfkcmhgdaaa
open Go.RowKit Go.Maps
set_option linter.unusedVariables false
set_option linter.unusedSimpArgs false
namespace RsOr
open OO OJ RsM RsI RsP RsS RsT RsY RsQ RsB RsV RsH RsC
/-- targets that lie in these blocks -/
def TIn (S : Nat → Prop) (W : World) (tv : Value) (rows : List (List (Int × Int))) : Prop :=
  ∃ p c, tv = .slice p rows.length c ∧ (0 < rows.length → ∃ b o, p = some ⟨b, o, none⟩ ∧ S b ∧ b < W.heap.size ∧ rows.length ≤ c ∧ c ≤ maxLen ∧ ∀ i r, rows[i]? = some r → ∃ v, W.cell? ⟨b, o + i, none⟩ = some v ∧
    ∃ p' c', v = .slice p' r.length c' ∧ (0 < r.length → ∃ b' o', p' = some ⟨b', o', none⟩ ∧ S b' ∧ b' < W.heap.size ∧ r.length ≤ c' ∧ c' ≤ maxLen ∧ ∀ j t, r[j]? = some t → W.cell? ⟨b', o' + j * 2, none⟩ = some (.int .i64 t.1) ∧ W.cell? ⟨b', o' + j * 2 + 1, none⟩ = some (.int .i64 t.2)))
theorem TIn.kept {S : Nat → Prop} {W W' : World} {tv : Value} {rows : List (List (Int × Int))} (h : TIn S W tv rows) (hs : W.heap.size ≤ W'.heap.size) (hk : ∀ k, k < W.heap.size → S k → W'.heap[k]? = W.heap[k]?) : TIn S W' tv rows := by
  obtain ⟨p, c, e, hh⟩ := h
  refine ⟨p, c, e, fun h0 => ?_⟩
  obtain ⟨b, o, e1, h1, h2, h3, h4, h5⟩ := hh h0
  refine ⟨b, o, e1, h1, Nat.lt_of_lt_of_le h2 hs, h3, h4, fun i r hi => ?_⟩
  obtain ⟨v, c1, p', c', e2, hr⟩ := h5 i r hi
  refine ⟨v, (cell_same (hk b h2 h1) _).trans c1, p', c', e2, fun h0 => ?_⟩
  obtain ⟨b', o', e3, q1, q2, q3, q4, q5⟩ := hr h0
  exact ⟨b', o', e3, q1, Nat.lt_of_lt_of_le q2 hs, q3, q4, fun j t hj => ⟨(cell_same (hk b' q2 q1) _).trans (q5 j t hj).1, (cell_same (hk b' q2 q1) _).trans (q5 j t hj).2⟩⟩
theorem TIn.at_ {S : Nat → Prop} {W : World} {tv : Value} {rows : List (List (Int × Int))} (h : TIn S W tv rows) : TgtsAt W tv rows := by
  obtain ⟨p, c, e, hh⟩ := h
  refine ⟨p, c, e, fun h0 => ?_⟩
  obtain ⟨b, o, e1, h1, h2, h3, h4, h5⟩ := hh h0
  refine ⟨b, o, e1, h2, h3, h4, fun i r hi => ?_⟩
  obtain ⟨v, c1, p', c', e2, hr⟩ := h5 i r hi
  refine ⟨v, c1, p', c', e2, fun h0 => ?_⟩
  obtain ⟨b', o', e3, q1, q2, q3, q4, q5⟩ := hr h0
  exact ⟨b', o', e3, q2, q3, q4, q5⟩
theorem tin_of {lo : Nat} {W : World} {tv : Value} {rows : List (List (Int × Int))} (h : TgtsAt W tv rows) (hl : TgtsLo lo W tv) : TIn (fun k => lo ≤ k ∧ k < W.heap.size) W tv rows := by
  obtain ⟨p, c, e, hh⟩ := h
  refine ⟨p, c, e, fun h0 => ?_⟩
  obtain ⟨b, o, e1, h2, h3, h4, h5⟩ := hh h0
  obtain ⟨l1, l2⟩ := hl b o _ c (by rw [e, e1])
  refine ⟨b, o, e1, ⟨l1, h2⟩, h2, h3, h4, fun i r hi => ?_⟩
  obtain ⟨v, c1, p', c', e2, hr⟩ := h5 i r hi
  refine ⟨v, c1, p', c', e2, fun h0 => ?_⟩
  obtain ⟨b', o', e3, q2, q3, q4, q5⟩ := hr h0
  exact ⟨b', o', e3, ⟨l2 i (List.getElem?_eq_some_iff.1 hi).1 b' o' _ c' (by rw [c1, e2, e3]), q2⟩, q2, q3, q4, q5⟩
/-- Resolve, with the place, in blocks that are new -/
theorem res3lo_ {w : World} {n₀ : Nat} {v : Value} {objs : List ObjV} (hn : n₀ ≤ w.heap.size) (ho : ObjsAt n₀ w v objs) (hw : ∀ o ∈ objs, o.Wf) (hm : objs.length ≤ 100000) (hms : ∀ o ∈ objs, o.ss.length ≤ maxLen) (hN : (flat objs).length ≤ 100000) :
    Calls Try.prog 6 #[v] w fun e w' => ∃ p c, e = .returned (.tuple #[.slice p (tgL objs).length c, .agg #[.int .i64 (placeOf objs).1, .int .i64 (placeOf objs).2], .int .i64 (resCode objs)]) ∧ TIn (fun k => w.heap.size ≤ k ∧ k < w'.heap.size) w' (.slice p (tgL objs).length c) (tgL objs) ∧ Below w.heap.size w w' := by
  refine (resolve_lo_ hn ho hw hm hms hN).mono ?_
  rintro e w' ⟨tv, i, k, c, rfl, hO, hb, hl⟩
  have ht := out_tgts hO
  have hc := res_code hO
  obtain ⟨h1, h2⟩ := out_place hO
  have ti := tin_of ht hl
  obtain ⟨p, cc, e, -⟩ := ht
  rw [e] at ti ⊢
  rw [h1, h2, hc]
  exact ⟨p, cc, rfl, ti, hb⟩
/-! ### the region that joins the objects and one more -/
def dst19 (i : Nat) : Option Nat := match i with
  | 0 => some 80 | 1 => some 81 | 2 => some 82 | 3 => some 83 | 4 => some 84 | 5 => some 85 | 6 => some 86 | 7 => some 79 | 8 => some 87 | 9 => some 88 | 10 => some 89 | 11 => some 13 | 12 => some 12 | 14 => some 14 | _ => none
def dep19 (i : Nat) : List Nat := match i with
  | 2 => [0, 1] | 4 => [3] | 5 => [2, 4] | 6 => [5] | 7 => [6] | 8 => [7] | 9 => [7] | 10 => [7] | 12 => [8] | 13 => [11, 9] | 14 => [10] | _ => []
def cons19 (i m : Nat) : Prop := (i = 2 ∧ m = 0) ∨ (i = 5 ∧ (m = 2 ∨ m = 4)) ∨ (i = 6 ∧ m = 5) ∨ (i = 13 ∧ m = 11)
section
variable (OV MV PR EE : Value) (n m : Nat)
def G19 (i : Nat) (u : Nat → Value) : Prop := match i with
  | 0 => ∃ g : Nat, u 0 = .slice (some ⟨g, 0, none⟩) 0 0
  | 1 => u 1 = OV
  | 2 => ∃ p c, u 2 = .slice p n c
  | 3 => u 3 = MV
  | 4 => ∃ g : Nat, u 4 = .slice (some ⟨g, 0, none⟩) 1 1
  | 5 => ∃ p c, u 5 = .slice p (n + 1) c
  | 6 => ∃ p c, u 6 = .tuple #[.slice p m c, PR, EE]
  | 7 => u 7 = u 6 ∧ ∃ p c, u 7 = .tuple #[.slice p m c, PR, EE]
  | 8 => u 7 = .tuple #[u 8, PR, EE] ∧ ∃ p c, u 8 = .slice p m c
  | 9 => u 9 = PR
  | 10 => u 10 = EE
  | 11 => ∃ g : Nat, u 11 = .pointer (some ⟨g, 0, none⟩)
  | 12 => u 12 = u 8
  | 14 => u 14 = EE
  | _ => True
variable (H : Nat) (oc mc : List Value) (x y : Int) (rows : List (List (Int × Int)))
def F19 (i : Nat) (u : Nat → Value) (w : World) (S : Nat → Prop) : Prop := match i with
  | 0 => ∃ g : Nat, u 0 = .slice (some ⟨g, 0, none⟩) 0 0 ∧ S g ∧ g < w.heap.size ∧ w.heap[g]? = some (.cells #[] TO (0, 0))
  | 2 => w.ownsRow H TO 4 (u 2) n oc ∧ ∀ b, (u 2).ownBlock = some b → S b
  | 4 => ∃ g : Nat, u 4 = .slice (some ⟨g, 0, none⟩) 1 1 ∧ S g ∧ g < w.heap.size ∧ w.heap[g]? = some (.cells mc.toArray TO (0, 0))
  | 5 => w.ownsRow H TO 4 (u 5) (n + 1) (oc ++ mc) ∧ ∀ b, (u 5).ownBlock = some b → S b
  | 6 => ∃ tv, u 6 = .tuple #[tv, PR, EE] ∧ TIn S w tv rows
  | 11 => ∃ g : Nat, u 11 = .pointer (some ⟨g, 0, none⟩) ∧ S g ∧ g < w.heap.size ∧ ∃ a b, w.heap[g]? = some (.cells #[a, b] 37 (0, 0))
  | 13 => ∃ g : Nat, u 11 = .pointer (some ⟨g, 0, none⟩) ∧ S g ∧ g < w.heap.size ∧ w.heap[g]? = some (.cells #[.int .i64 x, .int .i64 y] 37 (0, 0))
  | _ => True
theorem own_kept {w w' : World} {S : Nat → Prop} {v : Value} {k : Nat} {xs : List Value} (h : w.ownsRow H TO 4 v k xs) (hS : ∀ b, v.ownBlock = some b → S b) (hk : ∀ k, k < w.heap.size → (k < H ∨ S k) → w'.heap[k]? = w.heap[k]?) : w'.ownsRow H TO 4 v k xs := by
  refine ⟨h.1, ?_⟩
  rcases h.2 with e | ⟨g, cap, cur, rfl, h1, h2, h3⟩
  · exact .inl e
  · exact .inr ⟨g, cap, cur, rfl, h1, (hk g (lt_heap h2) (.inr (hS g rfl))).trans h2, h3⟩
theorem plan19 : SU.Plan 15 dst19 dep19 cons19 H (G19 OV MV PR EE n m) (F19 PR EE n H oc mc x y rows) := by
  refine ⟨fun i j d hi hj => ?_, fun i j hi => ?_, fun i i' k hi hi' => ?_, fun i k => ?_, fun i u u' hi hu => ?_, fun i u u' w w' S hi hu hs hk => ?_⟩
  · have : ∀ i j : Fin 15, dst19 i.val = dst19 j.val → dst19 i.val = none ∨ i = j := by decide +kernel
    intro h1 h2
    rcases this ⟨i, hi⟩ ⟨j, hj⟩ (h1.trans h2.symm) with h | h
    · rw [h1] at h; cases h
    · simpa using h
  · have : ∀ i : Fin 15, ∀ j ∈ dep19 i.val, j < i.val := by decide +kernel
    exact this ⟨i, hi⟩ j
  · unfold cons19; omega
  · unfold cons19
    rintro (⟨rfl, rfl⟩ | ⟨rfl, rfl | rfl⟩ | ⟨rfl, rfl⟩ | ⟨rfl, rfl⟩) <;> simp [dep19]
  · have e := fun j (h : j = i ∨ j ∈ dep19 i) => hu j h
    match i, hi with
    | 0, _ => have e0 := e 0 (by simp); simp only [G19, e0]; exact id
    | 1, _ => have e0 := e 1 (by simp); simp only [G19, e0]; exact id
    | 2, _ => have e0 := e 2 (by simp); simp only [G19, e0]; exact id
    | 3, _ => have e0 := e 3 (by simp); simp only [G19, e0]; exact id
    | 4, _ => have e0 := e 4 (by simp); simp only [G19, e0]; exact id
    | 5, _ => have e0 := e 5 (by simp); simp only [G19, e0]; exact id
    | 6, _ => have e0 := e 6 (by simp); simp only [G19, e0]; exact id
    | 7, _ => have e0 := e 7 (by simp); have e1 := e 6 (by simp [dep19]); simp only [G19, e0, e1]; exact id
    | 8, _ => have e0 := e 8 (by simp); have e1 := e 7 (by simp [dep19]); simp only [G19, e0, e1]; exact id
    | 9, _ => have e0 := e 9 (by simp); simp only [G19, e0]; exact id
    | 10, _ => have e0 := e 10 (by simp); simp only [G19, e0]; exact id
    | 11, _ => have e0 := e 11 (by simp); simp only [G19, e0]; exact id
    | 12, _ => have e0 := e 12 (by simp); have e1 := e 8 (by simp [dep19]); simp only [G19, e0, e1]; exact id
    | 13, _ => exact id
    | 14, _ => have e0 := e 14 (by simp); simp only [G19, e0]; exact id
    | k + 15, h => omega
  · have e := fun j (h : j = i ∨ j ∈ dep19 i) => hu j h
    match i, hi with
    | 0, _ =>
      have e0 := e 0 (by simp)
      rintro ⟨g, h1, h2, h3, h4⟩
      exact ⟨g, e0 ▸ h1, h2, Nat.lt_of_lt_of_le h3 hs, (hk g h3 (.inr h2)).trans h4⟩
    | 1, _ => exact id
    | 2, _ =>
      have e0 := e 2 (by simp)
      rintro ⟨h1, h2⟩
      show w'.ownsRow H TO 4 (u' 2) n oc ∧ _
      rw [← e0]
      exact ⟨own_kept H h1 h2 hk, h2⟩
    | 3, _ => exact id
    | 4, _ =>
      have e0 := e 4 (by simp)
      rintro ⟨g, h1, h2, h3, h4⟩
      exact ⟨g, e0 ▸ h1, h2, Nat.lt_of_lt_of_le h3 hs, (hk g h3 (.inr h2)).trans h4⟩
    | 5, _ =>
      have e0 := e 5 (by simp)
      rintro ⟨h1, h2⟩
      show w'.ownsRow H TO 4 (u' 5) (n + 1) (oc ++ mc) ∧ _
      rw [← e0]
      exact ⟨own_kept H h1 h2 hk, h2⟩
    | 6, _ =>
      have e0 := e 6 (by simp)
      rintro ⟨tv, h1, h2⟩
      exact ⟨tv, e0 ▸ h1, h2.kept hs fun k hk1 hk2 => hk k hk1 (.inr hk2)⟩
    | 7, _ => exact id
    | 8, _ => exact id
    | 9, _ => exact id
    | 10, _ => exact id
    | 11, _ =>
      have e0 := e 11 (by simp)
      rintro ⟨g, h1, h2, h3, a, b, h4⟩
      exact ⟨g, e0 ▸ h1, h2, Nat.lt_of_lt_of_le h3 hs, a, b, (hk g h3 (.inr h2)).trans h4⟩
    | 12, _ => exact id
    | 13, _ =>
      have e0 := e 11 (by simp [dep19])
      rintro ⟨g, h1, h2, h3, h4⟩
      exact ⟨g, e0 ▸ h1, h2, Nat.lt_of_lt_of_le h3 hs, (hk g h3 (.inr h2)).trans h4⟩
    | 14, _ => exact id
    | k + 15, h => omega
end
theorem wp_append_sl {P : Program} {Q : Exit → Act → World → Prop} {o : Oper} {a : Act} {w : World} {K : Act → World → Prop} (hgd : o.guard = none) (s x : Operand) (t : TypeId)
    (ho : o.op = .call { callee := .builtin .append, args := #[s, x], argTypes := #[t, t] })
    (base : Nat) (e : TypeId) (i : TypeInfo) (z : Value) (size bytes : Nat) (ht : P.underlying t = some (.slice e)) (hi : P.info? e = some i) (hz : i.zero = some z)
    (hsize : i.size = size) (hby : i.bytes = bytes) (hzs : z.cells.size = size) (hsz : 0 < size)
    (v : Value) (n : Nat) (xs : List Value) (hs : a.eval s = v) (hown : w.ownsRow base e size v n xs)
    (p : Option Addr) (m c : Nat) (news : List Value) (hx : a.eval x = .slice p m c) (hl : news.length = m * size)
    (hnews : 0 < m → ∃ b o, p = some ⟨b, o, none⟩ ∧ ∀ j u, news[j]? = some u → w.cell? ⟨b, o + j, none⟩ = some u) (h1 : ∀ u ∈ news, u.oneCell' = true)
    (h63 : n + m ≤ maxLen) (hbytes : (n + m) * bytes ≤ 140737488355328) (hbase : base ≤ w.heap.size)
    (h : ∀ p' c' w', w'.ownsRow base e size (.slice p' (n + m) c') (n + m) (xs ++ news) → w.grownBy w' v.ownBlock → ((Value.slice p' (n + m) c').ownBlock = v.ownBlock ∨ (Value.slice p' (n + m) c').ownBlock = some w.heap.size) → K (a.put o.dst (.slice p' (n + m) c')) w') : o.wp P a w K Q := by
  obtain ⟨v', w', hr, h2, h3, h4⟩ := LV.run_append_sl (P := P) w t o.type base e i z size bytes ht hi hz hsize hby hzs hsz v n xs hown p m c news hl hnews h1 h63 hbytes hbase
  unfold Oper.wp execOp
  simp only [ho, resolve, invoke, builtin, Sem.run_bind, Sem.run_pure, Result.andThen_ok, List.map_toArray, List.map_cons, List.map_nil, hs, hx, hr]
  obtain ⟨p', c', rfl⟩ := LV.own_form h2
  exact h p' c' w' h2 h3 h4
end RsOr
end Go.Proofs.Ytlmblfkcmhgdaaa
