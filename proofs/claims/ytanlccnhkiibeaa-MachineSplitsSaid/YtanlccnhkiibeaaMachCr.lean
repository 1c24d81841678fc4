/-
  Bytes made a string; a list of events appended to another, be it empty; what a step that was done says of its place. No condition but those that are written at each.
-/
import Derived.Test.YtanlccnhkiibeaaMachCp
import Derived.Laws.BytesString
import Derived.Laws.OwnMore
import Derived.Maps.AppendAt
import Derived.Deep.AppendLies
namespace Go.Proofs.Ytanlccnhkiibeaa
open Go.RowKit
set_option linter.unusedVariables false
set_option linter.unusedSimpArgs false
namespace MCr
open MM MC MB
/-- the string of bytes -/
def strOf (xs : List Int) : ByteArray := xs.foldl (fun r n => r.push (UInt8.ofNat n.toNat)) ByteArray.empty
theorem conv_row {W : World} {B g n cap : Nat} {xs : List Int} (h : W.ownsRow B 5 1 (.slice (some ⟨g, 0, none⟩) n cap) n (u8s xs)) :
    (convert 22 9 (.slice (some ⟨g, 0, none⟩) n cap)).run Try.prog W = .ok (.string (strOf xs)) W := by
  rw [run_convert_bytes_string W _ _ 5 _ _ _ Try.underlying22 Try.underlying5 Try.underlying9]
  have hlen : n = (xs.map (Value.int .u8)).length := by have := h.1; simpa [u8s] using this.symm
  have hload : (loadCells ⟨g, 0, none⟩ n).run Try.prog W = .ok (xs.map (Value.int .u8)).toArray W := by
    rw [hlen]
    exact run_loadCells_list W ⟨g, 0, none⟩ _ (fun j v hv => h.cells (g := g) rfl j v hv)
  rw [run_bytesToString W _ _ _ _ hload]
  rfl
theorem byte_is (x : Int) (h : 0 ≤ x ∧ x ≤ 255) (c : Nat) (hc : c ≤ 255) : UInt8.ofNat x.toNat = UInt8.ofNat c ↔ x = c := by
  constructor
  · intro e
    have e2 := congrArg UInt8.toNat e
    simp only [UInt8.toNat_ofNat'] at e2
    omega
  · rintro rfl
    rfl
theorem str_is (g : Nat → Int) (a : Nat) (h : ∀ k, 0 ≤ g k ∧ g k ≤ 255) : strOf (MCl.part g a 4) = ⟨#[115, 0, 0, 0]⟩ ↔ num g a 4 = 115 := by
  have e : strOf (MCl.part g a 4) = ⟨#[UInt8.ofNat (g (a + 0)).toNat, UInt8.ofNat (g (a + 1)).toNat, UInt8.ofNat (g (a + 2)).toNat, UInt8.ofNat (g (a + 3)).toNat]⟩ := rfl
  have e2 : num g a 4 = g (a + 0) + g (a + 1) * 256 + g (a + 2) * 65536 + g (a + 3) * 16777216 := by
    simp [num]
  have h0 := h (a + 0)
  have h1 := h (a + 1)
  have h2 := h (a + 2)
  have h3 := h (a + 3)
  rw [e, e2]
  have b0 := byte_is _ h0 115 (by omega)
  have b1 := byte_is _ h1 0 (by omega)
  have b2 := byte_is _ h2 0 (by omega)
  have b3 := byte_is _ h3 0 (by omega)
  constructor
  · intro hh
    have hh2 : (#[UInt8.ofNat (g (a + 0)).toNat, UInt8.ofNat (g (a + 1)).toNat, UInt8.ofNat (g (a + 2)).toNat, UInt8.ofNat (g (a + 3)).toNat] : Array UInt8) = #[115, 0, 0, 0] := congrArg ByteArray.data hh
    simp only [Array.mk.injEq, List.cons.injEq, and_true] at hh2
    obtain ⟨q0, q1, q2, q3⟩ := hh2
    have := b0.1 q0
    have := b1.1 q1
    have := b2.1 q2
    have := b3.1 q3
    omega
  · intro hh
    have q0 : g (a + 0) = (115 : Nat) := by omega
    have q1 : g (a + 1) = (0 : Nat) := by omega
    have q2 : g (a + 2) = (0 : Nat) := by omega
    have q3 : g (a + 3) = (0 : Nat) := by omega
    rw [b0.2 q0, b1.2 q1, b2.2 q2, b3.2 q3]
    rfl
theorem ok_fit (N : Nat) (s : St) (inp : List Int) (h : (MM.step N s inp).ok = true) : fit N s.pc 4 = true := by
  cases hf : fit N s.pc 4 with
  | true => rfl
  | false =>
    unfold MM.step at h
    rw [if_neg (by simp [hf])] at h
    cases h
theorem fit_le {N : Nat} {a : Int} (h : fit N a 4 = true) : a + 4 ≤ N := by
  unfold fit at h
  exact (of_decide_eq_true h).2
/-- all numbers stay in their ranges -/
theorem fine_run (N : Nat) : ∀ (k : Nat) (s : St) (inp : List Int), Fine s → (∀ x ∈ inp, 0 ≤ x ∧ x ≤ 4294967295) → Fine (MM.run N k s inp).s ∧ ∀ x ∈ (MM.run N k s inp).inp, 0 ≤ x ∧ x ≤ 4294967295
  | 0, s, inp, h, hi => ⟨h, hi⟩
  | k + 1, s, inp, h, hi => by
    have hF := fine_step (N := N) h hi
    by_cases hs : s.state = 0
    · cases hk : (MM.step N s inp).ok with
      | true =>
        rw [run_yes N k s inp hs _ rfl hk]
        exact fine_run N k _ _ hF.s hF.inp
      | false =>
        rw [run_no N k s inp hs _ rfl hk]
        exact ⟨hF.s, hF.inp⟩
    · rw [run_stop N (k + 1) s inp hs]
      exact ⟨h, hi⟩
theorem run_out (N : Nat) : ∀ (k : Nat) (s : St) (inp : List Int), (MM.run N k s inp).out.length ≤ (MM.run N k s inp).n
  | 0, s, inp => Nat.le_refl _
  | k + 1, s, inp => by
    by_cases hs : s.state = 0
    · cases hk : (MM.step N s inp).ok with
      | true =>
        rw [run_yes N k s inp hs _ rfl hk]
        have h1 := MU.out_le N s inp
        have h2 := run_out N k (MM.step N s inp).s (MM.step N s inp).inp
        simp only [List.length_append]
        omega
      | false =>
        rw [run_no N k s inp hs _ rfl hk]
        exact Nat.le_refl _
    · rw [run_stop N (k + 1) s inp hs]
      exact Nat.le_refl _
theorem row_kept {w w' : World} {B : Nat} {e : TypeId} {z : Nat} {v : Value} {n : Nat} {xs : List Value} (h : w.ownsRow B e z v n xs) (hb : ∀ k, B ≤ k → k < w.heap.size → w'.heap[k]? = w.heap[k]?) : w'.ownsRow B e z v n xs := by
  obtain ⟨h1, h2⟩ := h
  refine ⟨h1, ?_⟩
  rcases h2 with h2 | ⟨g, cap, cur, hv, hg', hh, r⟩
  · exact .inl h2
  · exact .inr ⟨g, cap, cur, hv, hg', (hb g hg' (lt_of_get hh)).trans hh, r⟩
theorem evs_app (a b : List MM.Ev) : MD.evs a ++ MD.evs b = MD.evs (a ++ b) := by unfold MD.evs; simp
theorem evs_one (a : List MM.Ev) : ∀ u ∈ MD.evs a, u.oneCell' = true := by
  intro u hu
  unfold MD.evs at hu
  obtain ⟨l, hl, hul⟩ := List.mem_flatten.1 hu
  obtain ⟨e, _, rfl⟩ := List.mem_map.1 hl
  simp only [List.mem_cons, List.not_mem_nil, or_false] at hul
  rcases hul with rfl | rfl | rfl <;> rfl
/-! ### one row behind another -/
section
variable {P : Program} (w : World)
/-- a row, perhaps an empty one, is appended to another -/
theorem run_append_row (t ty : TypeId) (base : Nat) (e : TypeId) (i : TypeInfo) (z : Value) (size bytes : Nat) (ht : P.underlying t = some (.slice e)) (hi : P.info? e = some i) (hz : i.zero = some z)
    (hsize : i.size = size) (hby : i.bytes = bytes) (hzs : z.cells.size = size) (hsz : 0 < size)
    (v : Value) (n : Nat) (xs : List Value) (hown : w.ownsRow base e size v n xs) (base2 : Nat) (v2 : Value) (m : Nat) (news : List Value) (hown2 : w.ownsRow base2 e size v2 m news) (h1 : ∀ u ∈ news, u.oneCell' = true)
    (h63 : n + m ≤ maxLen) (hbytes : (n + m) * bytes ≤ 140737488355328) (hbase : base ≤ w.heap.size) :
    ∃ v' w', (Builtin.append_ #[t, t] ty #[v, v2]).run P w = .ok v' w' ∧ w'.ownsRow base e size v' (n + m) (xs ++ news) ∧ w.grownBy w' v.ownBlock ∧ (v'.ownBlock = v.ownBlock ∨ v'.ownBlock = some w.heap.size) := by
  have hl := hown2.1
  rcases hown2.2 with ⟨rfl, h0⟩ | ⟨g, cap, cur, rfl, _⟩
  · subst h0
    have hn : news = [] := List.eq_nil_of_length_eq_zero (by simpa using hl)
    subst hn
    refine ⟨v, w, run_append_owned_none w base t ty e i size ht hi v n xs hown, by simpa using hown, ⟨rfl, rfl, rfl, Nat.le_refl _, fun _ _ _ => rfl⟩, .inl rfl⟩
  · obtain ⟨v', w', hr, h2, h3, _, h5⟩ := run_append_own_at (P := P) w base t ty e i z size bytes ht hi hz hsize hby hzs hsz v n xs hown ⟨g, 0, none⟩ m cap news hl (fun j u hj => hown2.cells (g := g) rfl j u hj) h1 h63 hbytes hbase
    exact ⟨v', w', hr, h2, h3, h5⟩
/-- the same at a step of a region that draws its order -/
theorem step_append_row {ops : Array Oper} {o : Oper} {a : Act} {K : Act → World → Prop} {Q : Exit → Act → World → Prop} {E : Prop} (hw : Region.wanted o (yielded ops a.tmps) = true) (s x : Operand) (t : TypeId)
    (ho : o.op = .call { callee := .builtin .append, args := #[s, x], argTypes := #[t, t] })
    (base : Nat) (e : TypeId) (i : TypeInfo) (z : Value) (size bytes : Nat) (ht : P.underlying t = some (.slice e)) (hi : P.info? e = some i) (hz : i.zero = some z)
    (hsize : i.size = size) (hby : i.bytes = bytes) (hzs : z.cells.size = size) (hsz : 0 < size)
    (v : Value) (n : Nat) (xs : List Value) (hs : a.eval s = v) (hown : w.ownsRow base e size v n xs)
    (base2 : Nat) (v2 : Value) (m : Nat) (news : List Value) (hx : a.eval x = v2) (hown2 : w.ownsRow base2 e size v2 m news) (h1 : ∀ u ∈ news, u.oneCell' = true)
    (h63 : n + m ≤ maxLen) (hbytes : (n + m) * bytes ≤ 140737488355328) (hbase : base ≤ w.heap.size)
    (h : ∀ p l c w', w'.ownsRow base e size (.slice p l c) (n + m) (xs ++ news) → w.grownBy w' v.ownBlock → ((Value.slice p l c).ownBlock = v.ownBlock ∨ (Value.slice p l c).ownBlock = some w.heap.size) → K (a.put o.dst (.slice p l c)) w') :
    if Region.wanted o (yielded ops a.tmps) = true then Oper.wp P o a w K Q else E := by
  rw [if_pos hw]
  obtain ⟨v', w', hr, h2, h3, h4⟩ := run_append_row (P := P) w t o.type base e i z size bytes ht hi hz hsize hby hzs hsz v n xs hown base2 v2 m news hown2 h1 h63 hbytes hbase
  unfold Oper.wp execOp
  simp only [ho, resolve, invoke, builtin, Sem.run_bind, Sem.run_pure, Result.andThen_ok, List.map_toArray, List.map_cons, List.map_nil, hs, hx, hr]
  obtain ⟨p, l, c, rfl⟩ := MV.own_form h2
  exact h p l c w' h2 h3 h4
end
end MCr
end Go.Proofs.Ytanlccnhkiibeaa
