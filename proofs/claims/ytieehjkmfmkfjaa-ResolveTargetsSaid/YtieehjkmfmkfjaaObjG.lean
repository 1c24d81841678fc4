/-
  The statements' Own: an object with memory of its own: a contract. Conditions: it lies in memory, and is not too great to be copied.
-/
import Derived.Test.YtieehjkmfmkfjaaObjB
import Derived.Test.YtieehjkmfmkfjaaObjI
import Derived.Deep.DeepCutAuto
namespace Go.Proofs.Ytieehjkmfmkfjaa
open Go.RowKit
set_option linter.unusedVariables false
set_option linter.unusedSimpArgs false
namespace OG
open OO OJ OB OI
abbrev TO : TypeId := 30
def E : Nat → TypeId
  | 0 => 53 | 1 => 5 | 2 => 52 | _ => 77
def size : Nat → Nat
  | 0 => 1 | 1 => 1 | _ => 5
def xs (o : ObjV) : Nat → List Value
  | 0 => o.ws.map fun x => .int .u32 x
  | 1 => o.ds.map fun x => .int .u8 x
  | 2 => o.ss.flatMap symV
  | _ => o.rs.flatMap relV
def num (o : ObjV) : Nat → Nat
  | 0 => o.ws.length | 1 => o.ds.length | 2 => o.ss.length | _ => o.rs.length
def Fact (N : Nat) (vs : Nat → Value) (o : ObjV) (L : Nat → Bool) (t : Array Value) (w : World) (c : Nat) : Nat → Prop
  | 0 => L (4 * c + 3) = false → ∃ v, t.getD (3 + 4 * c) undef = v ∧ w.ownsRow (N + 2) (E c) (size c) v 0 []
  | 1 => t.getD (4 + 4 * c) undef = .pointer (some ⟨N, c, none⟩)
  | 2 => t.getD (5 + 4 * c) undef = vs c
  | _ => ∃ v, t.getD (6 + 4 * c) undef = v ∧ w.ownsRow (N + 2) (E c) (size c) v (num o c) (xs o c)
def vs4 (v0 v1 v2 v3 : Value) : Nat → Value
  | 0 => v0 | 1 => v1 | 2 => v2 | _ => v3
structure Inv (w0 : World) (v0 v1 v2 v3 : Value) (o : ObjV) (listed : Array Bool) (a : Act) (w : World) : Prop where
  d : a.defers = []
  sz : a.tmps.size = 20
  t1 : a.tmps.getD 1 undef = .pointer (some ⟨w0.heap.size, 0, none⟩)
  t2 : a.tmps.getD 2 undef = .pointer (some ⟨w0.heap.size + 1, 0, none⟩)
  bel : Below w0.heap.size w0 w
  big : w0.heap.size + 2 ≤ w.heap.size
  obj : w.heap[w0.heap.size]? = some (.cells #[v0, v1, v2, v3] TO (0, 0))
  res : ∃ r0 r1 r2 r3, w.heap[w0.heap.size + 1]? = some (.cells #[r0, r1, r2, r3] TO (0, 0))
  f : ∀ c r, c < 4 → r < 4 → listed.getD (4 * c + r) false = true → Fact w0.heap.size (vs4 v0 v1 v2 v3) o (fun j => listed.getD j false) a.tmps w c r
  g16 : listed.getD 16 false = true → (∀ c, c < 4 → listed.getD (4 * c + 3) false = true) ∧ a.tmps.getD 19 undef = .agg #[a.tmps.getD 6 undef, a.tmps.getD 10 undef, a.tmps.getD 14 undef, a.tmps.getD 18 undef]
  g17 : listed.getD 17 false = true → (∀ c, c < 4 → listed.getD (4 * c + 3) false = true) ∧ w.heap[w0.heap.size + 1]? = some (.cells #[a.tmps.getD 6 undef, a.tmps.getD 10 undef, a.tmps.getD 14 undef, a.tmps.getD 18 undef] TO (0, 0))
theorem no_of {listed : Array Bool} {i : Nat} (hi : i < listed.size) (h : listed.getD i true = false) : listed.getD i false = false := by
  rw [Array.getD_eq_getD_getElem?, Array.getElem?_eq_getElem hi] at h ⊢
  exact h
/-- a chain's next value -/
theorem Inv.next {w0 : World} {v0 v1 v2 v3 : Value} {o : ObjV} {listed : Array Bool} {a : Act} {W W' : World} (hI : Inv w0 v0 v1 v2 v3 o listed a W) (hs : listed.size = 18) (c r : Nat) (hc : c < 4) (hr : r < 4) (h0 : listed.getD (4 * c + r) true = false) (v : Value)
    (hb : Below (w0.heap.size + 2) W W')
    (hrows : ∀ c' v n xs, c' < 4 → (r = 3 → c' ≠ c) → W.ownsRow (w0.heap.size + 2) (E c') (size c') v n xs → W'.ownsRow (w0.heap.size + 2) (E c') (size c') v n xs)
    (hnew : Fact w0.heap.size (vs4 v0 v1 v2 v3) o (fun j => (listed.setIfInBounds (4 * c + r) true).getD j false) (a.put (some (3 + (4 * c + r))) v).tmps W' c r) :
    Inv w0 v0 v1 v2 v3 o (listed.setIfInBounds (4 * c + r) true) (a.put (some (3 + (4 * c + r))) v) W' := by
  have hlt : 4 * c + r < listed.size := by omega
  have hn := no_of hlt h0
  have pg := put_get (a := a) (d := 3 + (4 * c + r)) (v := v) (by rw [hI.sz]; omega)
  have sg := fun j => set_at (j := j) hlt
  have big := hI.big
  refine ⟨hI.d, by show (a.tmps.setIfInBounds _ _).size = 20; rw [Array.size_setIfInBounds]; exact hI.sz, by rw [pg, if_neg (by omega)]; exact hI.t1, by rw [pg, if_neg (by omega)]; exact hI.t2, hI.bel.trans (hb.mono (by omega)), Nat.le_trans big hb.size, (hb.block _ (by omega)).trans hI.obj, ?_, ?_, ?_, ?_⟩
  · obtain ⟨r0, r1, r2, r3, h⟩ := hI.res
    exact ⟨r0, r1, r2, r3, (hb.block _ (by omega)).trans h⟩
  · intro c' r' hc' hr' hl
    by_cases he : 4 * c' + r' = 4 * c + r
    · obtain rfl : c' = c := by omega
      obtain rfl : r' = r := by omega
      exact hnew
    · rw [sg, if_neg he] at hl
      have hf := hI.f c' r' hc' hr' hl
      match r', hr', he, hl, hf with
      | 0, _, he, hl, hf =>
        intro h3
        have hne : 4 * c' + 3 ≠ 4 * c + r := fun e => by simp only [sg] at h3; rw [if_pos e] at h3; cases h3
        simp only [sg] at h3
        rw [if_neg hne] at h3
        obtain ⟨u, hu, ho⟩ := hf h3
        exact ⟨u, by rw [pg, if_neg (by omega)]; exact hu, hrows c' u 0 [] hc' (fun h e => hne (by omega)) ho⟩
      | 1, _, he, hl, hf => show (a.put _ _).tmps.getD _ _ = _; rw [pg, if_neg (by omega)]; exact hf
      | 2, _, he, hl, hf => show (a.put _ _).tmps.getD _ _ = _; rw [pg, if_neg (by omega)]; exact hf
      | 3, _, he, hl, hf =>
        obtain ⟨u, hu, ho⟩ := hf
        exact ⟨u, by rw [pg, if_neg (by omega)]; exact hu, hrows c' u _ _ hc' (fun h e => he (by omega)) ho⟩
      | r' + 4, h, _, _, _ => exact absurd h (by omega)
  · intro h
    rw [sg, if_neg (by omega)] at h
    obtain ⟨h1, h2⟩ := hI.g16 h
    have hr3 : r ≠ 3 := fun e => by subst e; rw [h1 c hc] at hn; cases hn
    have h1' : ∀ c', c' < 4 → (listed.setIfInBounds (4 * c + r) true).getD (4 * c' + 3) false = true := fun c' hc' => by
      rw [sg]
      by_cases e : 4 * c' + 3 = 4 * c + r
      · rw [if_pos e]
      · rw [if_neg e]; exact h1 c' hc'
    refine ⟨h1', ?_⟩
    rw [pg, if_neg (by omega), pg, if_neg (by omega), pg, if_neg (by omega), pg, if_neg (by omega), pg, if_neg (by omega)]
    exact h2
  · intro h
    rw [sg, if_neg (by omega)] at h
    obtain ⟨h1, h2⟩ := hI.g17 h
    have hr3 : r ≠ 3 := fun e => by subst e; rw [h1 c hc] at hn; cases hn
    have h1' : ∀ c', c' < 4 → (listed.setIfInBounds (4 * c + r) true).getD (4 * c' + 3) false = true := fun c' hc' => by
      rw [sg]
      by_cases e : 4 * c' + 3 = 4 * c + r
      · rw [if_pos e]
      · rw [if_neg e]; exact h1 c' hc'
    refine ⟨h1', ?_⟩
    rw [pg, if_neg (by omega), pg, if_neg (by omega), pg, if_neg (by omega), pg, if_neg (by omega)]
    exact (hb.block _ (by omega)).trans h2
theorem flat_get {α : Type} (f : α → List Value) (hf : ∀ a, (f a).length = 5) : ∀ (l : List α) (j : Nat) (u : Value), (l.flatMap f)[j]? = some u → ∃ i s, l[i]? = some s ∧ 5 * i ≤ j ∧ j < 5 * i + 5 ∧ (f s)[j - 5 * i]? = some u := by
  intro l
  induction l with
  | nil => intro j u h; simp at h
  | cons a l ih =>
    intro j u h
    rw [List.flatMap_cons] at h
    by_cases hj : j < 5
    · rw [List.getElem?_append_left (by rw [hf]; exact hj)] at h
      exact ⟨0, a, rfl, by omega, by omega, h⟩
    · rw [List.getElem?_append_right (by rw [hf]; omega), hf] at h
      obtain ⟨i, s, h1, h2, h3, h4⟩ := ih _ _ h
      exact ⟨i + 1, s, h1, by omega, by omega, by rw [show j - 5 * (i + 1) = j - 5 - 5 * i by omega]; exact h4⟩
theorem flat_length {α : Type} (f : α → List Value) (hf : ∀ a, (f a).length = 5) : ∀ (l : List α), (l.flatMap f).length = l.length * 5 := by
  intro l
  induction l with
  | nil => rfl
  | cons a l ih => rw [List.flatMap_cons, List.length_append, hf, ih, List.length_cons]; omega
theorem xs_len (o : ObjV) (c : Nat) : (xs o c).length = num o c * size c := by
  match c with
  | 0 => simp [xs, num, size]
  | 1 => simp [xs, num, size]
  | 2 => exact flat_length _ (fun _ => rfl) _
  | c + 3 => exact flat_length _ (fun _ => rfl) _
theorem xs_one (o : ObjV) (c : Nat) : ∀ u ∈ xs o c, u.oneCell' = true := by
  intro u hu
  match c, hu with
  | 0, hu => obtain ⟨x, _, rfl⟩ := List.mem_map.1 hu; rfl
  | 1, hu => obtain ⟨x, _, rfl⟩ := List.mem_map.1 hu; rfl
  | 2, hu =>
    obtain ⟨s, _, h⟩ := List.mem_flatMap.1 hu
    simp only [symV, List.mem_cons, List.not_mem_nil, or_false] at h
    rcases h with rfl | rfl | rfl | rfl | rfl <;> rfl
  | c + 3, hu =>
    obtain ⟨s, _, h⟩ := List.mem_flatMap.1 hu
    simp only [relV, List.mem_cons, List.not_mem_nil, or_false] at h
    rcases h with rfl | rfl | rfl | rfl | rfl <;> rfl
/-- where an argument's cells lie -/
theorem source {n₀ : Nat} {w : World} {v0 v1 v2 v3 : Value} {o : ObjV} (h : ObjAt n₀ w v0 v1 v2 v3 o) (c : Nat) : ∃ p cap, vs4 v0 v1 v2 v3 c = .slice p (num o c) cap ∧ (p = none → num o c = 0) ∧ ∀ a, p = some a → ∀ j u, (xs o c)[j]? = some u → w.cell? (a.add j) = some u := by
  match c with
  | 0 =>
    obtain ⟨p, cap, rfl, hh⟩ := h.ws
    refine ⟨p, cap, rfl, fun e => ?_, fun a e j u hj => ?_⟩
    · subst e
      rcases Nat.eq_zero_or_pos (num o 0) with h0 | h0
      · exact h0
      · obtain ⟨b, q, e, -⟩ := hh h0; cases e
    · have h0 : 0 < o.ws.length := by
        have := (List.getElem?_eq_some_iff.1 hj).1
        simp only [xs, List.length_map] at this
        omega
      obtain ⟨b, q, e', -, -, -, hr⟩ := hh h0
      rw [e] at e'
      cases e'
      simp only [xs, List.getElem?_map, Option.map_eq_some_iff] at hj
      obtain ⟨x, hx, rfl⟩ := hj
      rw [OO.add_plain]
      exact hr j x hx
  | 1 =>
    obtain ⟨p, cap, rfl, hh⟩ := h.ds
    refine ⟨p, cap, rfl, fun e => ?_, fun a e j u hj => ?_⟩
    · subst e
      rcases Nat.eq_zero_or_pos (num o 1) with h0 | h0
      · exact h0
      · obtain ⟨b, q, e, -⟩ := hh h0; cases e
    · have h0 : 0 < o.ds.length := by
        have := (List.getElem?_eq_some_iff.1 hj).1
        simp only [xs, List.length_map] at this
        omega
      obtain ⟨b, q, e', -, -, -, hr⟩ := hh h0
      rw [e] at e'
      cases e'
      simp only [xs, List.getElem?_map, Option.map_eq_some_iff] at hj
      obtain ⟨x, hx, rfl⟩ := hj
      rw [OO.add_plain]
      exact hr j x hx
  | 2 =>
    obtain ⟨p, cap, rfl, hh⟩ := h.ss
    refine ⟨p, cap, rfl, fun e => ?_, fun a e j u hj => ?_⟩
    · subst e
      rcases Nat.eq_zero_or_pos (num o 2) with h0 | h0
      · exact h0
      · obtain ⟨b, q, e, -⟩ := hh h0; cases e
    · obtain ⟨i, s, h1, h2, h3, h4⟩ := flat_get symV (fun _ => rfl) _ _ _ hj
      have h0 : 0 < o.ss.length := by have := (List.getElem?_eq_some_iff.1 h1).1; omega
      obtain ⟨b, q, e', -, -, -, hr⟩ := hh h0
      rw [e] at e'
      cases e'
      obtain ⟨c0, c1, c2, c3, c4⟩ := hr i s h1
      rw [OO.add_plain]
      obtain ⟨r, hr5, rfl⟩ : ∃ r, r < 5 ∧ j = 5 * i + r := ⟨j - 5 * i, by omega, by omega⟩
      rw [show 5 * i + r - 5 * i = r by omega] at h4
      rw [show q + (5 * i + r) = q + i * 5 + r by omega]
      match r, hr5, h4 with
      | 0, _, h4 => cases h4; exact c0
      | 1, _, h4 => cases h4; exact c1
      | 2, _, h4 => cases h4; exact c2
      | 3, _, h4 => cases h4; exact c3
      | 4, _, h4 => cases h4; exact c4
      | r + 5, h, _ => exact absurd h (by omega)
  | c + 3 =>
    obtain ⟨p, cap, rfl, hh⟩ := h.rs
    refine ⟨p, cap, rfl, fun e => ?_, fun a e j u hj => ?_⟩
    · subst e
      rcases Nat.eq_zero_or_pos (num o (c + 3)) with h0 | h0
      · exact h0
      · obtain ⟨b, q, e, -⟩ := hh h0; cases e
    · obtain ⟨i, s, h1, h2, h3, h4⟩ := flat_get relV (fun _ => rfl) _ _ _ hj
      have h0 : 0 < o.rs.length := by have := (List.getElem?_eq_some_iff.1 h1).1; omega
      obtain ⟨b, q, e', -, -, -, hr⟩ := hh h0
      rw [e] at e'
      cases e'
      obtain ⟨c0, c1, c2, c3, c4⟩ := hr i s h1
      rw [OO.add_plain]
      obtain ⟨r, hr5, rfl⟩ : ∃ r, r < 5 ∧ j = 5 * i + r := ⟨j - 5 * i, by omega, by omega⟩
      rw [show 5 * i + r - 5 * i = r by omega] at h4
      rw [show q + (5 * i + r) = q + i * 5 + r by omega]
      match r, hr5, h4 with
      | 0, _, h4 => cases h4; exact c0
      | 1, _, h4 => cases h4; exact c1
      | 2, _, h4 => cases h4; exact c2
      | 3, _, h4 => cases h4; exact c3
      | 4, _, h4 => cases h4; exact c4
      | r + 5, h, _ => exact absurd h (by omega)
def T : Nat → TypeId
  | 0 => 25 | 1 => 26 | 2 => 27 | _ => 28
def bytes : Nat → Nat
  | 0 => 4 | 1 => 1 | 2 => 48 | _ => 40
theorem info (c : Nat) : Try.prog.underlying (T c) = some (.slice (E c)) ∧ ∃ i z, Try.prog.info? (E c) = some i ∧ i.zero = some z ∧ i.size = size c ∧ i.bytes = bytes c ∧ z.cells.size = size c := by
  match c with
  | 0 => exact ⟨Try.underlying25, by obtain ⟨i, h, a, b, c⟩ := info_parts (show (Try.prog.info? 53).map (fun i => (i.zero, i.size, i.bytes)) = some (some (.int .u32 0), 1, 4) by kernel_rfl); exact ⟨i, _, h, a, b, c, rfl⟩⟩
  | 1 => exact ⟨Try.underlying26, by obtain ⟨i, h, a, b, c⟩ := info_parts (show (Try.prog.info? 5).map (fun i => (i.zero, i.size, i.bytes)) = some (some (.int .u8 0), 1, 1) by kernel_rfl); exact ⟨i, _, h, a, b, c, rfl⟩⟩
  | 2 => exact ⟨Try.underlying27, by obtain ⟨i, h, a, b, c⟩ := info_parts (show (Try.prog.info? 52).map (fun i => (i.zero, i.size, i.bytes)) = some (some (.agg #[.string ⟨#[]⟩, .int .i64 0, .int .i64 0, .int .i64 0, .bool false]), 5, 48) by kernel_rfl); exact ⟨i, _, h, a, b, c, rfl⟩⟩
  | c + 3 => exact ⟨Try.underlying28, by obtain ⟨i, h, a, b, c⟩ := info_parts (show (Try.prog.info? 77).map (fun i => (i.zero, i.size, i.bytes)) = some (some (.agg #[.int .i64 0, .int .i64 0, .int .i64 0, .int .i64 0, .int .i64 0]), 5, 40) by kernel_rfl); exact ⟨i, _, h, a, b, c, rfl⟩⟩
theorem size_pos (c : Nat) : 0 < size c := by match c with | 0 => decide | 1 => decide | c + 2 => exact Nat.succ_pos 4
theorem num_le {o : ObjV} (hl : o.Lim) (c : Nat) : num o c ≤ 65536 := by
  match c with | 0 => exact hl.ws | 1 => exact hl.ds | 2 => exact hl.ss | c + 3 => exact hl.rs
theorem bytes_le (c : Nat) : bytes c ≤ 48 := by match c with | 0 => decide | 1 => decide | 2 => decide | c + 3 => exact (by decide : 40 ≤ 48)
theorem below_grown {base : Nat} {w w' : World} {e : TypeId} {s n : Nat} {v : Value} {x : List Value} (h : w.grownBy w' v.ownBlock) (hown : w.ownsRow base e s v n x) (hbase : base ≤ w.heap.size) : Below base w w' := by
  refine ⟨h.os, h.tape, h.output, h.size, fun k hk => ?_⟩
  refine h.block k (by omega) fun e => ?_
  rcases hown.2 with ⟨rfl, -⟩ | ⟨g, cap, cur, rfl, hb, -⟩
  · cases e
  · simp only [Value.ownBlock, Option.some.injEq] at e
    omega
theorem append_ {n₀ base : Nat} {w : World} {v0 v1 v2 v3 : Value} {o : ObjV} (h : ObjAt n₀ w v0 v1 v2 v3 o) (hl : o.Lim) (c : Nat) (ty : TypeId) (v : Value) (hown : w.ownsRow base (E c) (size c) v 0 []) (hbase : base ≤ w.heap.size) :
    ∃ v' w', (Builtin.append_ #[T c, T c] ty #[v, vs4 v0 v1 v2 v3 c]).run Try.prog w = .ok v' w' ∧ w'.ownsRow base (E c) (size c) v' (num o c) (xs o c) ∧ w.grownBy w' v.ownBlock := by
  obtain ⟨ht, i, z, hi, hz, hs, hb, hzs⟩ := info c
  obtain ⟨p, cap, hv, hn, hc⟩ := source h c
  have hnum := num_le hl c
  have hby := bytes_le c
  rw [hv]
  cases p with
  | none =>
    have h0 := hn rfl
    refine ⟨v, w, ?_, ?_, rfl, rfl, rfl, Nat.le_refl _, fun _ _ _ => rfl⟩
    · rw [h0]
      rcases hown.2 with ⟨rfl, -⟩ | ⟨g, cap', cur, rfl, _, _, hnc, _⟩
      · simp [Builtin.append_, run_underlying ht, Go.sizeOf, typeInfo, hi, Builtin.lenOf, Builtin.firstCells]
      · simp [Builtin.append_, run_underlying ht, Go.sizeOf, typeInfo, hi, Builtin.lenOf, Builtin.firstCells, hnc, storeCells]
    · have hx : xs o c = [] := List.eq_nil_of_length_eq_zero (by rw [xs_len, h0, Nat.zero_mul])
      rw [h0, hx]; exact hown
  | some a =>
    obtain ⟨v', w', hr, h2, h3, -⟩ := run_append_own (P := Try.prog) w base (T c) ty (E c) i z (size c) (bytes c) ht hi hz hs hb hzs (size_pos c) v 0 [] hown a (num o c) cap (xs o c) (xs_len o c) (hc a rfl) (xs_one o c) (by unfold maxLen; omega) (by
      rw [Nat.zero_add]
      calc num o c * bytes c ≤ 65536 * 48 := Nat.mul_le_mul hnum hby
        _ ≤ 140737488355328 := by decide) hbase
    exact ⟨v', w', hr, by simpa using h2, h3⟩
theorem apart {base : Nat} {w : World} {e1 e2 : TypeId} {s1 s2 n1 n2 : Nat} {v1 v2 : Value} {x1 x2 : List Value} (h1 : w.ownsRow base e1 s1 v1 n1 x1) (h2 : w.ownsRow base e2 s2 v2 n2 x2) (hne : e1 ≠ e2) : v1.ownBlock = none ∨ v1.ownBlock ≠ v2.ownBlock := by
  rcases h1.2 with ⟨rfl, -⟩ | ⟨g, cap, cur, rfl, -, hg, -⟩
  · exact .inl rfl
  · rcases h2.2 with ⟨rfl, -⟩ | ⟨g', cap', cur', rfl, -, hg', -⟩
    · exact .inr (by simp [Value.ownBlock])
    · refine .inr fun e => ?_
      simp only [Value.ownBlock, Option.some.injEq] at e
      subst e
      rw [hg] at hg'
      simp only [Option.some.injEq, Obj.cells.injEq] at hg'
      exact hne hg'.2.1
theorem E_inj {c c' : Nat} (h1 : c < 4) (h2 : c' < 4) (h : c' ≠ c) : E c' ≠ E c := by
  match c, c', h1, h2, h with
  | 0, 0, _, _, h => exact absurd rfl h
  | 0, 1, _, _, _ => decide
  | 0, 2, _, _, _ => decide
  | 0, 3, _, _, _ => decide
  | 1, 0, _, _, _ => decide
  | 1, 1, _, _, h => exact absurd rfl h
  | 1, 2, _, _, _ => decide
  | 1, 3, _, _, _ => decide
  | 2, 0, _, _, _ => decide
  | 2, 1, _, _, _ => decide
  | 2, 2, _, _, h => exact absurd rfl h
  | 2, 3, _, _, _ => decide
  | 3, 0, _, _, _ => decide
  | 3, 1, _, _, _ => decide
  | 3, 2, _, _, _ => decide
  | 3, 3, _, _, h => exact absurd rfl h
  | c + 4, _, h, _, _ => exact absurd h (by omega)
  | _, c' + 4, _, h, _ => exact absurd h (by omega)
/-- the four appends -/
theorem app_ {Q : Exit → Act → World → Prop} {w0 : World} {v0 v1 v2 v3 : Value} {o : ObjV} {listed : Array Bool} {a : Act} {W : World} {hI : Inv w0 v0 v1 v2 v3 o listed a W} (hs : listed.size = 18) (c : Nat) (hc : c < 4) (h0 : listed.getD (4 * c + 3) true = false)
    {ty : TypeId} {pos : String} {aft : Array Edge} (v : Value) (hv : a.tmps.getD (3 + 4 * c) undef = v) (hown : W.ownsRow (w0.heap.size + 2) (E c) (size c) v 0 []) (hx : a.tmps.getD (5 + 4 * c) undef = vs4 v0 v1 v2 v3 c)
    (v' : Value) (W' : World) (hr : (Builtin.append_ #[T c, T c] ty #[v, vs4 v0 v1 v2 v3 c]).run Try.prog W = .ok v' W') (h2 : W'.ownsRow (w0.heap.size + 2) (E c) (size c) v' (num o c) (xs o c)) (h3 : W.grownBy W' v.ownBlock) :
    Oper.wp Try.prog { dst := some (3 + (4 * c + 3)), op := .call { callee := .builtin .append, args := #[.tmp (3 + 4 * c), .tmp (5 + 4 * c)], argTypes := #[T c, T c] }, type := ty, pos := pos, after := aft, guard := none } a W (fun a' w' => Inv w0 v0 v1 v2 v3 o (listed.setIfInBounds (4 * c + 3) true) a' w') Q := by
  have e1 : a.eval (.tmp (3 + 4 * c)) = v := hv
  have e2 : a.eval (.tmp (5 + 4 * c)) = vs4 v0 v1 v2 v3 c := hx
  unfold Oper.wp execOp
  simp only [resolve, invoke, builtin, Sem.run_bind, Sem.run_pure, Result.andThen_ok, List.map_toArray, List.map_cons, List.map_nil, e1, e2, hr]
  exact hI.next hs c 3 hc (by decide) h0 _ (below_grown h3 hown hI.big) (fun c' u n xs hc' hne h => h.kept h3 (apart h hown (E_inj hc hc' (hne rfl)))) ⟨v', (put_get (d := 3 + (4 * c + 3)) (by rw [hI.sz]; omega) _).trans (if_pos (by omega)), h2⟩
theorem form {base : Nat} {w : World} {e : TypeId} {s n : Nat} {v : Value} {x : List Value} (h : w.ownsRow base e s v n x) : ∃ p l c, v = .slice p l c := by
  rcases h.2 with ⟨rfl, -⟩ | ⟨g, cap, cur, rfl, -⟩
  · exact ⟨_, _, _, rfl⟩
  · exact ⟨_, _, _, rfl⟩
theorem tuple_ {w0 : World} {v0 v1 v2 v3 u0 u1 u2 u3 : Value} {o : ObjV} {listed : Array Bool} {a : Act} {W : World} (hI : Inv w0 v0 v1 v2 v3 o listed a W) (hs : listed.size = 18) (h0 : listed.getD 16 true = false)
    (k0 : listed.getD 3 false = true) (k1 : listed.getD 7 false = true) (k2 : listed.getD 11 false = true) (k3 : listed.getD 15 false = true)
    (e0 : a.tmps.getD 6 undef = u0) (e1 : a.tmps.getD 10 undef = u1) (e2 : a.tmps.getD 14 undef = u2) (e3 : a.tmps.getD 18 undef = u3) :
    Inv w0 v0 v1 v2 v3 o (listed.setIfInBounds 16 true) (a.put (some 19) (.agg #[u0, u1, u2, u3])) W := by
  have pg := put_get (a := a) (d := 19) (v := .agg #[u0, u1, u2, u3]) (by rw [hI.sz]; omega)
  have sg := fun j => set_at (listed := listed) (i := 16) (j := j) (by omega)
  have hall : ∀ c, c < 4 → (listed.setIfInBounds 16 true).getD (4 * c + 3) false = true := fun c hc => by
    rw [sg, if_neg (by omega)]
    match c, hc with
    | 0, _ => exact k0
    | 1, _ => exact k1
    | 2, _ => exact k2
    | 3, _ => exact k3
    | c + 4, h => exact absurd h (by omega)
  refine ⟨hI.d, by show (a.tmps.setIfInBounds _ _).size = 20; rw [Array.size_setIfInBounds]; exact hI.sz, by rw [pg, if_neg (by omega)]; exact hI.t1, by rw [pg, if_neg (by omega)]; exact hI.t2, hI.bel, hI.big, hI.obj, hI.res, ?_, fun _ => ⟨hall, ?_⟩, fun h => ⟨hall, ?_⟩⟩
  · intro c r hc hr hl
    rw [sg, if_neg (by omega)] at hl
    have hf := hI.f c r hc hr hl
    match r, hr, hf with
    | 0, _, hf =>
      intro h3
      simp only [sg] at h3
      rw [if_neg (by omega)] at h3
      obtain ⟨u, hu, ho⟩ := hf h3
      exact ⟨u, by rw [pg, if_neg (by omega)]; exact hu, ho⟩
    | 1, _, hf => show (a.put _ _).tmps.getD _ _ = _; rw [pg, if_neg (by omega)]; exact hf
    | 2, _, hf => show (a.put _ _).tmps.getD _ _ = _; rw [pg, if_neg (by omega)]; exact hf
    | 3, _, hf =>
      obtain ⟨u, hu, ho⟩ := hf
      exact ⟨u, by rw [pg, if_neg (by omega)]; exact hu, ho⟩
    | r + 4, h, _ => exact absurd h (by omega)
  · rw [pg, if_pos rfl, pg, if_neg (by omega), pg, if_neg (by omega), pg, if_neg (by omega), pg, if_neg (by omega), e0, e1, e2, e3]
  · rw [sg, if_neg (by omega)] at h
    rw [pg, if_neg (by omega), pg, if_neg (by omega), pg, if_neg (by omega), pg, if_neg (by omega)]
    exact (hI.g17 h).2
theorem store_ {w0 : World} {v0 v1 v2 v3 u0 u1 u2 u3 r0 r1 r2 r3 : Value} {o : ObjV} {listed : Array Bool} {a : Act} {W : World} (hI : Inv w0 v0 v1 v2 v3 o listed a W) (hs : listed.size = 18) (hres : W.heap[w0.heap.size + 1]? = some (.cells #[r0, r1, r2, r3] TO (0, 0)))
    (hall : ∀ c, c < 4 → listed.getD (4 * c + 3) false = true) (e0 : a.tmps.getD 6 undef = u0) (e1 : a.tmps.getD 10 undef = u1) (e2 : a.tmps.getD 14 undef = u2) (e3 : a.tmps.getD 18 undef = u3) :
    Inv w0 v0 v1 v2 v3 o (listed.setIfInBounds 17 true) a ((((W.setCell ⟨w0.heap.size + 1, 0, none⟩ u0).setCell ⟨w0.heap.size + 1, 1, none⟩ u1).setCell ⟨w0.heap.size + 1, 2, none⟩ u2).setCell ⟨w0.heap.size + 1, 3, none⟩ u3) := by
  have sg := fun j => set_at (listed := listed) (i := 17) (j := j) (by omega)
  have hset : ((((W.setCell ⟨w0.heap.size + 1, 0, none⟩ u0).setCell ⟨w0.heap.size + 1, 1, none⟩ u1).setCell ⟨w0.heap.size + 1, 2, none⟩ u2).setCell ⟨w0.heap.size + 1, 3, none⟩ u3).heap[w0.heap.size + 1]? = some (.cells #[u0, u1, u2, u3] TO (0, 0)) := by
    simp [World.setCell, Array.getElem?_modify, hres]
  have hoth : ∀ k, k ≠ w0.heap.size + 1 → ((((W.setCell ⟨w0.heap.size + 1, 0, none⟩ u0).setCell ⟨w0.heap.size + 1, 1, none⟩ u1).setCell ⟨w0.heap.size + 1, 2, none⟩ u2).setCell ⟨w0.heap.size + 1, 3, none⟩ u3).heap[k]? = W.heap[k]? := fun k hk => by
    rw [Below.heap_setCell _ _ _ _ hk, Below.heap_setCell _ _ _ _ hk, Below.heap_setCell _ _ _ _ hk, Below.heap_setCell _ _ _ _ hk]
  have hsz : ((((W.setCell ⟨w0.heap.size + 1, 0, none⟩ u0).setCell ⟨w0.heap.size + 1, 1, none⟩ u1).setCell ⟨w0.heap.size + 1, 2, none⟩ u2).setCell ⟨w0.heap.size + 1, 3, none⟩ u3).heap.size = W.heap.size := by simp
  have hb : Below w0.heap.size W ((((W.setCell ⟨w0.heap.size + 1, 0, none⟩ u0).setCell ⟨w0.heap.size + 1, 1, none⟩ u1).setCell ⟨w0.heap.size + 1, 2, none⟩ u2).setCell ⟨w0.heap.size + 1, 3, none⟩ u3) := ⟨rfl, rfl, rfl, Nat.le_of_eq hsz.symm, fun k hk => hoth k (by omega)⟩
  have hg : W.grownBy ((((W.setCell ⟨w0.heap.size + 1, 0, none⟩ u0).setCell ⟨w0.heap.size + 1, 1, none⟩ u1).setCell ⟨w0.heap.size + 1, 2, none⟩ u2).setCell ⟨w0.heap.size + 1, 3, none⟩ u3) (some (w0.heap.size + 1)) := ⟨rfl, rfl, rfl, Nat.le_of_eq hsz.symm, fun k _ hk => hoth k (fun e => hk (by rw [e]))⟩
  generalize ((((W.setCell ⟨w0.heap.size + 1, 0, none⟩ u0).setCell ⟨w0.heap.size + 1, 1, none⟩ u1).setCell ⟨w0.heap.size + 1, 2, none⟩ u2).setCell ⟨w0.heap.size + 1, 3, none⟩ u3) = W4 at *
  have rows : ∀ e s v n x, W.ownsRow (w0.heap.size + 2) e s v n x → W4.ownsRow (w0.heap.size + 2) e s v n x := fun e s v n x h => h.kept hg (by
    rcases h.2 with ⟨rfl, -⟩ | ⟨g, cap, cur, rfl, hbg, -⟩
    · exact .inl rfl
    · exact .inr (by simp only [Value.ownBlock, ne_eq, Option.some.injEq]; omega))
  have hall' : ∀ c, c < 4 → (listed.setIfInBounds 17 true).getD (4 * c + 3) false = true := fun c hc => by rw [sg, if_neg (by omega)]; exact hall c hc
  refine ⟨hI.d, hI.sz, hI.t1, hI.t2, hI.bel.trans hb, by rw [hsz]; exact hI.big, (hoth _ (by omega)).trans hI.obj, ⟨_, _, _, _, hset⟩, ?_, fun h => ⟨hall', ?_⟩, fun _ => ⟨hall', by rw [e0, e1, e2, e3]; exact hset⟩⟩
  · intro c r hc hr hl
    rw [sg, if_neg (by omega)] at hl
    have hf := hI.f c r hc hr hl
    match r, hr, hf with
    | 0, _, hf =>
      intro h3
      exact absurd ((hall' c hc).symm.trans h3) (by decide)
    | 1, _, hf => exact hf
    | 2, _, hf => exact hf
    | 3, _, hf =>
      obtain ⟨u, hu, ho⟩ := hf
      exact ⟨u, hu, rows _ _ _ _ _ ho⟩
    | r + 4, h, _ => exact absurd h (by omega)
  · rw [sg, if_neg (by omega)] at h
    exact (hI.g16 h).2
set_option maxRecDepth 100000 in
set_option maxHeartbeats 4000000 in
theorem own_ {w : World} {v0 v1 v2 v3 : Value} {o : ObjV} (ho : ObjAt w.heap.size w v0 v1 v2 v3 o) (hl : o.Lim) :
    Calls Try.prog 12 #[.agg #[v0, v1, v2, v3]] w fun e w' => ∃ u : Nat → Value, e = .returned (.agg #[u 0, u 1, u 2, u 3]) ∧ Below w.heap.size w w' ∧ ∀ c, c < 4 → w'.ownsRow (w.heap.size + 2) (E c) (size c) (u c) (num o c) (xs o c) := by
  have mixed : Try.prog.follows Departure.mixedOrders = true := by kernel_rfl
  obtain ⟨p0, q0, rfl, -⟩ := ho.ws
  obtain ⟨p1, q1, rfl, -⟩ := ho.ds
  obtain ⟨p2, q2, rfl, -⟩ := ho.ss
  obtain ⟨p3, q3, rfl, -⟩ := ho.rs
  have HO := Lib.hid ho
  have HL := Lib.hid hl
  clear ho hl
  go_enter Try.func12, Try.ntmps12
  go_upto_region 1 with (fail)
  refine region_ (Inv := Inv w (.slice p0 o.ws.length q0) (.slice p1 o.ds.length q1) (.slice p2 o.ss.length q2) (.slice p3 o.rs.length q3) o) mixed ?ahead ?init ?step ?done
  case ahead => exact ahead_of (by kernel_rfl)
  case init =>
    have hno : ∀ j, (Array.replicate 18 false).getD j false = false := fun j => by
      rw [Array.getD_eq_getD_getElem?, Array.getElem?_replicate]
      split <;> rfl
    have hz : ((w.alloc (.cells #[.slice p0 o.ws.length q0, .slice p1 o.ds.length q1, .slice p2 o.ss.length q2, .slice p3 o.rs.length q3] TO)).alloc (.cells #[.slice none 0 0, .slice none 0 0, .slice none 0 0, .slice none 0 0] TO)).heap.size = w.heap.size + 2 := by simp
    refine ⟨rfl, rfl, rfl, rfl, Below.drew (((Below.refl _ _).alloc (Nat.le_refl _) _).alloc (by simp) _), Nat.le_of_eq hz.symm, (Lib.alloc_old _ _ _ (by simp)).trans (heap_alloc_new w _), ⟨.slice none 0 0, .slice none 0 0, .slice none 0 0, .slice none 0 0, ?_⟩, fun c r _ _ h => ?_, fun h => ?_, fun h => ?_⟩
    · have := heap_alloc_new (w.alloc (.cells #[.slice p0 o.ws.length q0, .slice p1 o.ds.length q1, .slice p2 o.ss.length q2, .slice p3 o.rs.length q3] TO)) (.cells #[.slice none 0 0, .slice none 0 0, .slice none 0 0, .slice none 0 0] TO)
      rw [World.size_alloc] at this
      exact this
    · exact absurd ((hno _).symm.trans h) (by decide)
    · exact absurd ((hno _).symm.trans h) (by decide)
    · exact absurd ((hno _).symm.trans h) (by decide)
  case step =>
    intro i op hop listed a W hs h0 haft hI
    have hs : listed.size = 18 := hs
    have hi : i < 18 := (Array.getElem?_eq_some_iff.1 hop).1
    match i, hi with
    | 0, _ =>
      cases hop
      refine op_ rfl rfl ?_
      go_simp
      have hal := World.grownBy_alloc W (.cells #[] (E 0)) none
      exact hI.next hs 0 0 (by decide) (by decide) h0 _ ((Below.refl _ _).alloc hI.big _) (fun c' v n xs _ _ h => h.alloc _) (fun _ => ⟨_, put_get (by rw [hI.sz]; decide) _, World.ownsRow_lit (base := w.heap.size + 2) (e := E 0) (size := size 0) W #[] 0 hI.big (Nat.zero_le _) (by rw [Nat.zero_mul]; rfl)⟩)
    | 1, _ =>
      cases hop
      refine op_ rfl rfl ?_
      have t1 := hI.t1
      go_simp
      exact hI.next hs 0 1 (by decide) (by decide) h0 _ (Below.refl _ _) (fun c' v n xs _ _ h => h) (put_get (by rw [hI.sz]; decide) _)
    | 2, _ =>
      cases hop
      refine op_ rfl rfl ?_
      have t4 : a.tmps.getD 4 undef = .pointer (some ⟨w.heap.size, 0, none⟩) := hI.f 0 1 (by decide) (by decide) (haft ⟨1, .data⟩ (by simp) rfl)
      have m : W.cell? ⟨w.heap.size, 0, none⟩ = some (.slice p0 o.ws.length q0) := by rw [Lib.cell_of_heap hI.obj]; rfl
      go_simp
      exact hI.next hs 0 2 (by decide) (by decide) h0 _ (Below.refl _ _) (fun c' v n xs _ _ h => h) (put_get (by rw [hI.sz]; decide) _)
    | 3, _ =>
      cases hop
      refine op_ rfl rfl ?_
      have hlt : 3 < listed.size := by omega
      obtain ⟨v, hv, hown⟩ := hI.f 0 0 (by decide) (by decide) (haft ⟨0, .data⟩ (by simp) rfl) (no_of hlt h0)
      have hx : a.tmps.getD 5 undef = vs4 _ _ _ _ 0 := hI.f 0 2 (by decide) (by decide) (haft ⟨2, .data⟩ (by simp) rfl)
      obtain ⟨v', W', hr, h2, h3⟩ := append_ (HO.out.below hI.bel) HL.out 0 _ v hown hI.big
      exact app_ (hI := hI) hs 0 (by decide) h0 v hv hown hx v' W' hr h2 h3
    | 4, _ =>
      cases hop
      refine op_ rfl rfl ?_
      go_simp
      have hal := World.grownBy_alloc W (.cells #[] (E 1)) none
      exact hI.next hs 1 0 (by decide) (by decide) h0 _ ((Below.refl _ _).alloc hI.big _) (fun c' v n xs _ _ h => h.alloc _) (fun _ => ⟨_, put_get (by rw [hI.sz]; decide) _, World.ownsRow_lit (base := w.heap.size + 2) (e := E 1) (size := size 1) W #[] 0 hI.big (Nat.zero_le _) (by rw [Nat.zero_mul]; rfl)⟩)
    | 5, _ =>
      cases hop
      refine op_ rfl rfl ?_
      have t1 := hI.t1
      go_simp
      exact hI.next hs 1 1 (by decide) (by decide) h0 _ (Below.refl _ _) (fun c' v n xs _ _ h => h) (put_get (by rw [hI.sz]; decide) _)
    | 6, _ =>
      cases hop
      refine op_ rfl rfl ?_
      have t4 : a.tmps.getD 8 undef = .pointer (some ⟨w.heap.size, 1, none⟩) := hI.f 1 1 (by decide) (by decide) (haft ⟨5, .data⟩ (by simp) rfl)
      have m : W.cell? ⟨w.heap.size, 1, none⟩ = some (.slice p1 o.ds.length q1) := by rw [Lib.cell_of_heap hI.obj]; rfl
      go_simp
      exact hI.next hs 1 2 (by decide) (by decide) h0 _ (Below.refl _ _) (fun c' v n xs _ _ h => h) (put_get (by rw [hI.sz]; decide) _)
    | 7, _ =>
      cases hop
      refine op_ rfl rfl ?_
      have hlt : 7 < listed.size := by omega
      obtain ⟨v, hv, hown⟩ := hI.f 1 0 (by decide) (by decide) (haft ⟨4, .data⟩ (by simp) rfl) (no_of hlt h0)
      have hx : a.tmps.getD 9 undef = vs4 _ _ _ _ 1 := hI.f 1 2 (by decide) (by decide) (haft ⟨6, .data⟩ (by simp) rfl)
      obtain ⟨v', W', hr, h2, h3⟩ := append_ (HO.out.below hI.bel) HL.out 1 _ v hown hI.big
      exact app_ (hI := hI) hs 1 (by decide) h0 v hv hown hx v' W' hr h2 h3
    | 8, _ =>
      cases hop
      refine op_ rfl rfl ?_
      go_simp
      have hal := World.grownBy_alloc W (.cells #[] (E 2)) none
      exact hI.next hs 2 0 (by decide) (by decide) h0 _ ((Below.refl _ _).alloc hI.big _) (fun c' v n xs _ _ h => h.alloc _) (fun _ => ⟨_, put_get (by rw [hI.sz]; decide) _, World.ownsRow_lit (base := w.heap.size + 2) (e := E 2) (size := size 2) W #[] 0 hI.big (Nat.zero_le _) (by rw [Nat.zero_mul]; rfl)⟩)
    | 9, _ =>
      cases hop
      refine op_ rfl rfl ?_
      have t1 := hI.t1
      go_simp
      exact hI.next hs 2 1 (by decide) (by decide) h0 _ (Below.refl _ _) (fun c' v n xs _ _ h => h) (put_get (by rw [hI.sz]; decide) _)
    | 10, _ =>
      cases hop
      refine op_ rfl rfl ?_
      have t4 : a.tmps.getD 12 undef = .pointer (some ⟨w.heap.size, 2, none⟩) := hI.f 2 1 (by decide) (by decide) (haft ⟨9, .data⟩ (by simp) rfl)
      have m : W.cell? ⟨w.heap.size, 2, none⟩ = some (.slice p2 o.ss.length q2) := by rw [Lib.cell_of_heap hI.obj]; rfl
      go_simp
      exact hI.next hs 2 2 (by decide) (by decide) h0 _ (Below.refl _ _) (fun c' v n xs _ _ h => h) (put_get (by rw [hI.sz]; decide) _)
    | 11, _ =>
      cases hop
      refine op_ rfl rfl ?_
      have hlt : 11 < listed.size := by omega
      obtain ⟨v, hv, hown⟩ := hI.f 2 0 (by decide) (by decide) (haft ⟨8, .data⟩ (by simp) rfl) (no_of hlt h0)
      have hx : a.tmps.getD 13 undef = vs4 _ _ _ _ 2 := hI.f 2 2 (by decide) (by decide) (haft ⟨10, .data⟩ (by simp) rfl)
      obtain ⟨v', W', hr, h2, h3⟩ := append_ (HO.out.below hI.bel) HL.out 2 _ v hown hI.big
      exact app_ (hI := hI) hs 2 (by decide) h0 v hv hown hx v' W' hr h2 h3
    | 12, _ =>
      cases hop
      refine op_ rfl rfl ?_
      go_simp
      have hal := World.grownBy_alloc W (.cells #[] (E 3)) none
      exact hI.next hs 3 0 (by decide) (by decide) h0 _ ((Below.refl _ _).alloc hI.big _) (fun c' v n xs _ _ h => h.alloc _) (fun _ => ⟨_, put_get (by rw [hI.sz]; decide) _, World.ownsRow_lit (base := w.heap.size + 2) (e := E 3) (size := size 3) W #[] 0 hI.big (Nat.zero_le _) (by rw [Nat.zero_mul]; rfl)⟩)
    | 13, _ =>
      cases hop
      refine op_ rfl rfl ?_
      have t1 := hI.t1
      go_simp
      exact hI.next hs 3 1 (by decide) (by decide) h0 _ (Below.refl _ _) (fun c' v n xs _ _ h => h) (put_get (by rw [hI.sz]; decide) _)
    | 14, _ =>
      cases hop
      refine op_ rfl rfl ?_
      have t4 : a.tmps.getD 16 undef = .pointer (some ⟨w.heap.size, 3, none⟩) := hI.f 3 1 (by decide) (by decide) (haft ⟨13, .data⟩ (by simp) rfl)
      have m : W.cell? ⟨w.heap.size, 3, none⟩ = some (.slice p3 o.rs.length q3) := by rw [Lib.cell_of_heap hI.obj]; rfl
      go_simp
      exact hI.next hs 3 2 (by decide) (by decide) h0 _ (Below.refl _ _) (fun c' v n xs _ _ h => h) (put_get (by rw [hI.sz]; decide) _)
    | 15, _ =>
      cases hop
      refine op_ rfl rfl ?_
      have hlt : 15 < listed.size := by omega
      obtain ⟨v, hv, hown⟩ := hI.f 3 0 (by decide) (by decide) (haft ⟨12, .data⟩ (by simp) rfl) (no_of hlt h0)
      have hx : a.tmps.getD 17 undef = vs4 _ _ _ _ 3 := hI.f 3 2 (by decide) (by decide) (haft ⟨14, .data⟩ (by simp) rfl)
      obtain ⟨v', W', hr, h2, h3⟩ := append_ (HO.out.below hI.bel) HL.out 3 _ v hown hI.big
      exact app_ (hI := hI) hs 3 (by decide) h0 v hv hown hx v' W' hr h2 h3
    | 16, _ =>
      cases hop
      refine op_ rfl rfl ?_
      have k0 := haft ⟨3, .data⟩ (by simp) rfl
      have k1 := haft ⟨7, .data⟩ (by simp) rfl
      have k2 := haft ⟨11, .data⟩ (by simp) rfl
      have k3 := haft ⟨15, .data⟩ (by simp) rfl
      obtain ⟨u0, e0, r0⟩ := hI.f 0 3 (by decide) (by decide) k0
      obtain ⟨u1, e1, r1⟩ := hI.f 1 3 (by decide) (by decide) k1
      obtain ⟨u2, e2, r2⟩ := hI.f 2 3 (by decide) (by decide) k2
      obtain ⟨u3, e3, r3⟩ := hI.f 3 3 (by decide) (by decide) k3
      obtain ⟨x0, y0, z0, rfl⟩ := form r0
      obtain ⟨x1, y1, z1, rfl⟩ := form r1
      obtain ⟨x2, y2, z2, rfl⟩ := form r2
      obtain ⟨x3, y3, z3, rfl⟩ := form r3
      have q0 : a.tmps[6]?.getD undef = .slice x0 y0 z0 := by rw [← Array.getD_eq_getD_getElem?]; exact e0
      have q1 : a.tmps[10]?.getD undef = .slice x1 y1 z1 := by rw [← Array.getD_eq_getD_getElem?]; exact e1
      have q2 : a.tmps[14]?.getD undef = .slice x2 y2 z2 := by rw [← Array.getD_eq_getD_getElem?]; exact e2
      have q3 : a.tmps[18]?.getD undef = .slice x3 y3 z3 := by rw [← Array.getD_eq_getD_getElem?]; exact e3
      have F := (⟨hI, k0, k1, k2, k3, h0, hs⟩ : _ ∧ _ ∧ _ ∧ _ ∧ _ ∧ _ ∧ _)
      have HF := Lib.hid F
      clear r0 r1 r2 r3 F hI k0 k1 k2 k3 h0 haft
      go_simp
      exact tuple_ HF.out.1 hs HF.out.2.2.2.2.2.1 HF.out.2.1 HF.out.2.2.1 HF.out.2.2.2.1 HF.out.2.2.2.2.1 e0 e1 e2 e3
    | 17, _ =>
      cases hop
      refine op_ rfl rfl ?_
      have k0 := haft ⟨16, .data⟩ (by simp) rfl
      obtain ⟨k1, e19⟩ := hI.g16 k0
      obtain ⟨u0, e0, r0⟩ := hI.f 0 3 (by decide) (by decide) (k1 0 (by decide))
      obtain ⟨u1, e1, r1⟩ := hI.f 1 3 (by decide) (by decide) (k1 1 (by decide))
      obtain ⟨u2, e2, r2⟩ := hI.f 2 3 (by decide) (by decide) (k1 2 (by decide))
      obtain ⟨u3, e3, r3⟩ := hI.f 3 3 (by decide) (by decide) (k1 3 (by decide))
      obtain ⟨x0, y0, z0, rfl⟩ := form r0
      obtain ⟨x1, y1, z1, rfl⟩ := form r1
      obtain ⟨x2, y2, z2, rfl⟩ := form r2
      obtain ⟨x3, y3, z3, rfl⟩ := form r3
      have q0 : a.tmps[6]?.getD undef = .slice x0 y0 z0 := by rw [← Array.getD_eq_getD_getElem?]; exact e0
      have q1 : a.tmps[10]?.getD undef = .slice x1 y1 z1 := by rw [← Array.getD_eq_getD_getElem?]; exact e1
      have q2 : a.tmps[14]?.getD undef = .slice x2 y2 z2 := by rw [← Array.getD_eq_getD_getElem?]; exact e2
      have q3 : a.tmps[18]?.getD undef = .slice x3 y3 z3 := by rw [← Array.getD_eq_getD_getElem?]; exact e3
      rw [show a.tmps.getD 6 undef = _ from e0, show a.tmps.getD 10 undef = _ from e1, show a.tmps.getD 14 undef = _ from e2, show a.tmps.getD 18 undef = _ from e3] at e19
      have q19 : a.tmps[19]?.getD undef = _ := (Array.getD_eq_getD_getElem?).symm.trans e19
      obtain ⟨s0, s1, s2, s3, hres⟩ := hI.res
      have t2 : a.tmps[2]?.getD undef = _ := (Array.getD_eq_getD_getElem?).symm.trans hI.t2
      have c0 : W.cell? ⟨w.heap.size + 1, 0, none⟩ = some s0 := Lib.cell_of_heap hres 0
      have c1 : W.cell? ⟨w.heap.size + 1, 1, none⟩ = some s1 := Lib.cell_of_heap hres 1
      have c2 : W.cell? ⟨w.heap.size + 1, 2, none⟩ = some s2 := Lib.cell_of_heap hres 2
      have c3 : W.cell? ⟨w.heap.size + 1, 3, none⟩ = some s3 := Lib.cell_of_heap hres 3
      have f0 : W.frozen? ⟨w.heap.size + 1, 0, none⟩ = false := Lib.frozen_of_heap hres 0
      have f1 : W.frozen? ⟨w.heap.size + 1, 1, none⟩ = false := Lib.frozen_of_heap hres 1
      have f2 : W.frozen? ⟨w.heap.size + 1, 2, none⟩ = false := Lib.frozen_of_heap hres 2
      have f3 : W.frozen? ⟨w.heap.size + 1, 3, none⟩ = false := Lib.frozen_of_heap hres 3
      have HI := Lib.hid hI
      have HR := Lib.hid hres
      clear r0 r1 r2 r3 hI k0 h0 haft hres
      go_simp
      exact store_ HI.out hs HR.out k1 e0 e1 e2 e3
    | i + 18, h => exact absurd h (by omega)
  case done =>
    intro listed a W hall hI
    obtain ⟨k1, hres⟩ := hI.g17 (hall 17 (by decide))
    obtain ⟨u0, e0, r0⟩ := hI.f 0 3 (by decide) (by decide) (k1 0 (by decide))
    obtain ⟨u1, e1, r1⟩ := hI.f 1 3 (by decide) (by decide) (k1 1 (by decide))
    obtain ⟨u2, e2, r2⟩ := hI.f 2 3 (by decide) (by decide) (k1 2 (by decide))
    obtain ⟨u3, e3, r3⟩ := hI.f 3 3 (by decide) (by decide) (k1 3 (by decide))
    rw [show a.tmps.getD 6 undef = _ from e0, show a.tmps.getD 10 undef = _ from e1, show a.tmps.getD 14 undef = _ from e2, show a.tmps.getD 18 undef = _ from e3] at hres
    have c0 : W.cell? ⟨w.heap.size + 1, 0, none⟩ = some u0 := Lib.cell_of_heap hres 0
    have c1 : W.cell? ⟨w.heap.size + 1, 1, none⟩ = some u1 := Lib.cell_of_heap hres 1
    have c2 : W.cell? ⟨w.heap.size + 1, 2, none⟩ = some u2 := Lib.cell_of_heap hres 2
    have c3 : W.cell? ⟨w.heap.size + 1, 3, none⟩ = some u3 := Lib.cell_of_heap hres 3
    have t2 : a.tmps[2]?.getD undef = _ := (Array.getD_eq_getD_getElem?).symm.trans hI.t2
    have hd := hI.d
    have HB := Lib.hid hI.bel
    have R0 := Lib.hid r0
    have R1 := Lib.hid r1
    have R2 := Lib.hid r2
    have R3 := Lib.hid r3
    clear hI hres k1 hall e0 e1 e2 e3 r0 r1 r2 r3
    go_wp2
    refine bodyPost_ret (v := .agg #[u0, u1, u2, u3]) (by simp [results, Try.results12, go_sem, t2, c0, c1, c2, c3]) hd ⟨vs4 u0 u1 u2 u3, rfl, HB.out, fun c hc => ?_⟩
    match c, hc with
    | 0, _ => exact R0.out
    | 1, _ => exact R1.out
    | 2, _ => exact R2.out
    | 3, _ => exact R3.out
    | c + 4, h => exact absurd h (by omega)
/-- a row of one's own as a slice -/
theorem sl_of {base : Nat} {w : World} {e : TypeId} {s n : Nat} {v : Value} {x : List Value} {F : Nat → Nat → Prop} (h : w.ownsRow base e s v n x) (hF : ∀ g, (∀ j u, x[j]? = some u → w.cell? ⟨g, j, none⟩ = some u) → F g 0) : Sl w.heap.size v n F := by
  rcases h.2 with ⟨rfl, rfl⟩ | ⟨g, cap, cur, rfl, hb, hg, hn, hc, -⟩
  · exact ⟨none, 0, rfl, fun h0 => absurd h0 (by omega)⟩
  · refine ⟨some ⟨g, 0, none⟩, cap, rfl, fun _ => ⟨g, 0, rfl, lt_heap hg, hn, hc, hF g fun j u hj => ?_⟩⟩
    have := h.cells (g := g) rfl j u hj
    rwa [OO.add_plain, Nat.zero_add] at this
theorem flat_at {α : Type} (f : α → List Value) (hf : ∀ a, (f a).length = 5) (l : List α) (i : Nat) (s : α) (h : l[i]? = some s) (r : Nat) (hr : r < 5) : (l.flatMap f)[i * 5 + r]? = (f s)[r]? := by
  induction l generalizing i with
  | nil => simp at h
  | cons a l ih =>
    rw [List.flatMap_cons]
    cases i with
    | zero =>
      simp only [List.getElem?_cons_zero, Option.some.injEq] at h
      subst h
      rw [List.getElem?_append_left (by rw [hf]; omega)]
      simp
    | succ i =>
      rw [List.getElem?_append_right (by rw [hf]; omega), hf, show (i + 1) * 5 + r - 5 = i * 5 + r by omega]
      exact ih i (by simpa using h)
/-- the copy is the object -/
theorem copy_at {base : Nat} {w : World} {o : ObjV} {u : Nat → Value} (h : ∀ c, c < 4 → w.ownsRow base (E c) (size c) (u c) (num o c) (xs o c)) : ObjAt w.heap.size w (u 0) (u 1) (u 2) (u 3) o := by
  refine ⟨sl_of (h 0 (by decide)) fun g hc j x hj => ?_, sl_of (h 1 (by decide)) fun g hc j x hj => ?_, sl_of (h 2 (by decide)) fun g hc j s hj => ?_, sl_of (h 3 (by decide)) fun g hc j s hj => ?_⟩
  · rw [Nat.zero_add]; exact hc j _ (by simp [xs, hj])
  · rw [Nat.zero_add]; exact hc j _ (by simp [xs, hj])
  · rw [Nat.zero_add]
    have k := fun r hr => flat_at symV (fun _ => rfl) o.ss j s hj r hr
    exact ⟨hc _ _ (by have := k 0 (by decide); rw [Nat.add_zero] at this; exact this), hc _ _ (k 1 (by decide)), hc _ _ (k 2 (by decide)), hc _ _ (k 3 (by decide)), hc _ _ (k 4 (by decide))⟩
  · rw [Nat.zero_add]
    have k := fun r hr => flat_at relV (fun _ => rfl) o.rs j s hj r hr
    exact ⟨hc _ _ (by have := k 0 (by decide); rw [Nat.add_zero] at this; exact this), hc _ _ (k 1 (by decide)), hc _ _ (k 2 (by decide)), hc _ _ (k 3 (by decide)), hc _ _ (k 4 (by decide))⟩
end OG
end Go.Proofs.Ytieehjkmfmkfjaa
