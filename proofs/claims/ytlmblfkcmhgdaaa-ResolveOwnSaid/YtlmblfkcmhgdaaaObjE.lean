/-
  The statements' Few: is an object soon gone through? A contract. No condition but that it lies in memory.
-/
import Derived.Test.YtlmblfkcmhgdaaaObjR
namespace Go.Proofs.Ytlmblfkcmhgdaaa
open Go.RowKit
set_option linter.unusedVariables false
set_option linter.unusedSimpArgs false
namespace OE
open OO OJ
abbrev TO : TypeId := 31
def fewN (ss : List SymV) : Bool := ss.all fun s => decide (s.name.size ≤ 100)
def few (o : ObjV) : Bool := decide (o.ws.length ≤ 300) && decide (o.ds.length ≤ 600) && decide (o.ss.length ≤ 60) && decide (o.rs.length ≤ 100) && fewN o.ss
theorem few_big {o : ObjV} (h : 300 < o.ws.length ∨ 600 < o.ds.length ∨ 60 < o.ss.length ∨ 100 < o.rs.length) : few o = false := by
  unfold few
  rcases h with h | h | h | h
  · rw [show decide (o.ws.length ≤ 300) = false by simpa using h]; rfl
  · rw [show decide (o.ds.length ≤ 600) = false by simpa using h]; simp
  · rw [show decide (o.ss.length ≤ 60) = false by simpa using h]; simp
  · rw [show decide (o.rs.length ≤ 100) = false by simpa using h]; simp
theorem few_mid {o : ObjV} (h : ¬ (300 < o.ws.length ∨ 600 < o.ds.length ∨ 60 < o.ss.length ∨ 100 < o.rs.length)) : few o = fewN o.ss := by
  unfold few
  rw [show decide (o.ws.length ≤ 300) = true from decide_eq_true (by omega), show decide (o.ds.length ≤ 600) = true from decide_eq_true (by omega), show decide (o.ss.length ≤ 60) = true from decide_eq_true (by omega), show decide (o.rs.length ≤ 100) = true from decide_eq_true (by omega)]
  rfl
theorem few_lim {o : ObjV} (h : few o = true) : o.ws.length ≤ 300 ∧ o.ds.length ≤ 600 ∧ o.ss.length ≤ 60 ∧ o.rs.length ≤ 100 ∧ ∀ s ∈ o.ss, s.name.size ≤ 100 := by
  unfold few fewN at h
  simp only [Bool.and_eq_true, decide_eq_true_eq, List.all_eq_true] at h
  exact ⟨h.1.1.1.1, h.1.1.1.2, h.1.1.2, h.1.2, h.2⟩
theorem lim_of_few {o : ObjV} (h : few o = true) : o.Lim := by
  obtain ⟨a, b, c, d, e⟩ := few_lim h
  exact ⟨by omega, by omega, by omega, by omega, fun s hs => by have := e s hs; omega⟩
theorem fewN_step (ss : List SymV) (k : Nat) (h : k < ss.length) : fewN (ss.drop k) = (decide (ss[k].name.size ≤ 100) && fewN (ss.drop (k + 1))) := by
  unfold fewN
  rw [List.drop_eq_getElem_cons h]
  rfl
theorem ret_bool {a b : Bool} (h : a = b) : Ending.returned (.bool a) = .returned (.bool b) := by rw [h]
set_option maxRecDepth 100000 in
set_option maxHeartbeats 4000000 in
theorem few_ {w : World} {n₀ : Nat} {v0 v1 v2 v3 : Value} {o : ObjV} (hn : n₀ ≤ w.heap.size) (ho : ObjAt n₀ w v0 v1 v2 v3 o) (hm : ∀ s ∈ o.ss, s.name.size ≤ maxLen) (h63 : o.ws.length ≤ maxLen ∧ o.ds.length ≤ maxLen ∧ o.ss.length ≤ maxLen ∧ o.rs.length ≤ maxLen) :
    Calls Try.prog 8 #[.agg #[v0, v1, v2, v3]] w fun e w' => e = .returned (.bool (few o)) ∧ Below w.heap.size w w' := by
  obtain ⟨p0, q0, rfl, -⟩ := ho.ws
  obtain ⟨p1, q1, rfl, -⟩ := ho.ds
  obtain ⟨p2, q2, rfl, -⟩ := ho.ss
  obtain ⟨p3, q3, rfl, -⟩ := ho.rs
  unfold maxLen at h63
  obtain ⟨m0, m1, m2, m3⟩ := h63
  by_cases hb : 300 < o.ws.length ∨ 600 < o.ds.length ∨ 60 < o.ss.length ∨ 100 < o.rs.length
  · rw [few_big hb]
    clear ho hm
    by_cases h0 : 300 < o.ws.length
    all_goals by_cases h1 : 600 < o.ds.length
    all_goals by_cases h2 : 60 < o.ss.length
    all_goals by_cases h3 : 100 < o.rs.length
    all_goals first
      | (exfalso; omega)
      | (clear hb
         go_enter Try.func8, Try.ntmps8
         go_wp2
         go_ret
         exact ⟨rfl, (Below.refl _ _).alloc (Nat.le_refl _) _⟩)
  · rw [few_mid hb]
    have HO := Lib.hid ho
    have HM := Lib.hid hm
    have h0 : ¬ 300 < o.ws.length := by omega
    have h1 : ¬ 600 < o.ds.length := by omega
    have h2 : ¬ 60 < o.ss.length := by omega
    have h3 : ¬ 100 < o.rs.length := by omega
    clear ho hm hb
    go_enter Try.func8, Try.ntmps8
    go_wp2
    go_loopw [30] (fun i wr => ∃ k : Nat, k ≤ o.ss.length ∧ i = .int .i64 k ∧ fewN o.ss = fewN (o.ss.drop k) ∧ Below w.heap.size w wr) (fun i _ => o.ss.length - (intOf i).toNat)
    case atStart => exact ⟨0, Nat.zero_le _, rfl, by simp, (Below.refl _ _).alloc (Nat.le_refl _) _⟩
    case round =>
      obtain ⟨k, hk, rfl, hq, hbl⟩ := hrel
      have HQ := Lib.hid hq
      have HB := Lib.hid hbl
      clear hq hbl
      by_cases hlt : k < o.ss.length
      · obtain ⟨p, c, hv, hh⟩ := HO.out.ss
        cases hv
        obtain ⟨xb, xo, rfl, hxb, -, -, hrow⟩ := hh (by omega)
        obtain ⟨s0, s1, s2, s3, s4⟩ := (hrow k _ (List.getElem?_eq_getElem hlt)).below (HB.out.mono hn) hxb
        have hnm := HM.out _ (List.getElem_mem hlt)
        unfold maxLen at hnm
        have HS := Lib.hid (fewN_step o.ss k hlt)
        clear hrow hxb
        generalize o.ss[k] = x at *
        by_cases hx : 100 < x.name.size
        · have HX := Lib.hid (show decide (x.name.size ≤ 100) = false from decide_eq_false (by omega))
          go_wp2
          go_ret
          exact ⟨ret_bool (by rw [HQ.out, HS.out, HX.out]; rfl), HB.out.alloc HB.out.size _⟩
        · have HX := Lib.hid (show decide (x.name.size ≤ 100) = true from decide_eq_true (by omega))
          go_wp2
          exact ⟨⟨k + 1, by omega, by go_num, by rw [HQ.out, HS.out, HX.out]; rfl, HB.out.alloc HB.out.size _⟩, by simp [intOf]; omega⟩
      · obtain rfl : k = o.ss.length := by omega
        go_wp2
        go_ret
        exact ⟨ret_bool (by rw [HQ.out, List.drop_length]; rfl), HB.out⟩
end OE
end Go.Proofs.Ytlmblfkcmhgdaaa
