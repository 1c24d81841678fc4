/-
  Copies of objects in a slice that grows; targets compared: contracts. Conditions: they lie in memory.
-/
import Derived.Test.YtieehjkmfmkfjaaTgS
import Derived.Test.YtieehjkmfmkfjaaRefAll
namespace Go.Proofs.Ytieehjkmfmkfjaa
open Go.RowKit
set_option linter.unusedVariables false
set_option linter.unusedSimpArgs false
namespace XC
open OO OJ RsM RsP RsT RsV RsY RsB RsH XR XV
theorem infoO : (Try.prog.info? 30).map (fun i => (i.zero, i.size, i.bytes)) = some (some (.agg #[.slice none 0 0, .slice none 0 0, .slice none 0 0, .slice none 0 0]), 4, 96) := by kernel_rfl
structure CO (base : Nat) (W : World) (vi : Value) (objs : List ObjV) (k : Nat) (cs : List Value) : Prop where
  own : W.ownsRow base 30 4 vi k cs
  cop : ∀ i o, i < k → objs[i]? = some o → ∃ u : Nat → Value, (∀ c, c < 4 → cs[i * 4 + c]? = some (u c)) ∧ ∃ b : Nat, ∀ c, c < 4 → W.ownsRow b (OG.E c) (OG.size c) (u c) (OG.num o c) (OG.xs o c) ∧ ((u c).ownBlock = none ∨ (u c).ownBlock ≠ vi.ownBlock)
variable {base : Nat} {W W' : World} {vi vi' : Value} {objs : List ObjV} {k : Nat} {cs : List Value}
theorem CO.nil (base : Nat) (W : World) (objs : List ObjV) : CO base W (.slice none 0 0) objs 0 [] := ⟨World.ownsRow_nil _ _ _ _, fun i o hi => absurd hi (by omega)⟩
theorem CO.below (h : CO base W vi objs k cs) (hb : Below W.heap.size W W') : CO base W' vi objs k cs :=
  ⟨h.own.kept (grown_below hb) (some_none _), fun i o hi ho => by
    obtain ⟨u, h1, b, h2⟩ := h.cop i o hi ho
    exact ⟨u, h1, b, fun c hc => ⟨(h2 c hc).1.kept (grown_below hb) (some_none _), (h2 c hc).2⟩⟩⟩
theorem CO.push {o : ObjV} {u : Nat → Value} {b0 : Nat} (h : CO base W vi objs k cs) (ho : objs[k]? = some o) (hu : ∀ c, c < 4 → W.ownsRow b0 (OG.E c) (OG.size c) (u c) (OG.num o c) (OG.xs o c)) (hlow : ∀ g, vi.ownBlock = some g → g < b0)
    (hown : W'.ownsRow base 30 4 vi' (k + 1) (cs ++ [u 0, u 1, u 2, u 3])) (hg : W.grownBy W' vi.ownBlock) (hat : vi'.ownBlock = vi.ownBlock ∨ vi'.ownBlock = some W.heap.size) : CO base W' vi' objs (k + 1) (cs ++ [u 0, u 1, u 2, u 3]) := by
  have hlen : cs.length = k * 4 := h.own.1
  have new : ∀ {v : Value} {b : Nat} {T : TypeId} {z n : Nat} {ys : List Value}, W.ownsRow b T z v n ys → (v.ownBlock = none ∨ v.ownBlock ≠ vi.ownBlock) → W'.ownsRow b T z v n ys ∧ (v.ownBlock = none ∨ v.ownBlock ≠ vi'.ownBlock) := fun {v b T z n ys} h1 h2 => by
    refine ⟨h1.kept hg h2, ?_⟩
    rcases hat with e | e
    · rw [e]; exact h2
    · rw [e]
      cases hv : v.ownBlock with
      | none => exact .inl rfl
      | some g => exact .inr (fun e2 => by have := (h1.lt g hv).2; simp at e2; omega)
  refine ⟨hown, fun i o' hi ho' => ?_⟩
  by_cases e : i = k
  · subst e
    rw [ho] at ho'
    cases ho'
    refine ⟨u, fun c hc => ?_, b0, fun c hc => new (hu c hc) ?_⟩
    · rw [List.getElem?_append_right (by omega), hlen, show i * 4 + c - i * 4 = c by omega]
      match c, hc with
      | 0, _ => rfl
      | 1, _ => rfl
      | 2, _ => rfl
      | 3, _ => rfl
    · cases hv : (u c).ownBlock with
      | none => exact .inl rfl
      | some g =>
        refine .inr fun e2 => ?_
        have h1 := ((hu c hc).lt g hv).1
        have h2 := hlow g e2.symm
        omega
  · obtain ⟨u', h1, b, h2⟩ := h.cop i o' (by omega) ho'
    refine ⟨u', fun c hc => ?_, b, fun c hc => new (h2 c hc).1 (h2 c hc).2⟩
    rw [List.getElem?_append_left (by omega)]
    exact h1 c hc
theorem CO.all_ (h : CO base W vi objs objs.length cs) : ObjsAt W.heap.size W vi objs := by
  rcases h.own.2 with ⟨rfl, e⟩ | ⟨g, cap, cur, rfl, _, hg, h1, h2, _, _⟩
  · exact ⟨none, 0, by rw [e], fun h0 => by omega⟩
  · refine ⟨some ⟨g, 0, none⟩, cap, rfl, fun h0 => ⟨g, 0, rfl, lt_heap hg, h1, h2, fun i x hx => ?_⟩⟩
    obtain ⟨u, e, b, hu⟩ := h.cop i x (List.getElem?_eq_some_iff.1 hx).1 hx
    have f0 := h.own.cells (g := g) rfl _ _ (e 0 (by omega))
    have f1 := h.own.cells (g := g) rfl _ _ (e 1 (by omega))
    have f2 := h.own.cells (g := g) rfl _ _ (e 2 (by omega))
    have f3 := h.own.cells (g := g) rfl _ _ (e 3 (by omega))
    rw [OO.add_plain] at f0 f1 f2 f3
    exact ⟨u 0, u 1, u 2, u 3, f0, f1, f2, f3, OG.copy_at fun c hc => (hu c hc).1⟩
set_option maxRecDepth 100000 in
set_option maxHeartbeats 8000000 in
theorem same_ {w : World} {v v' : Value} {R : List (List (Int × Int))} (h1 : TgtsAt w v R) (h2 : TgtsAt w v' R) : Calls Try.prog 15 #[v, v'] w fun e w' => e = .returned (.bool true) ∧ Below w.heap.size w w' := by
  obtain ⟨p, c, rfl, gx⟩ := h1
  obtain ⟨p', c', rfl, gy⟩ := h2
  have HX := Lib.hid gx
  have HY := Lib.hid gy
  have hb1 : R.length ≤ maxLen := by
    by_cases h0 : 0 < R.length
    · obtain ⟨b, o, -, -, h1, h2, -⟩ := gx h0; exact Nat.le_trans h1 h2
    · omega
  unfold maxLen at hb1
  clear gx gy
  go_enter Try.func15, Try.ntmps15
  go_wp2
  go_loopw [14] (fun i wr => ∃ k : Nat, k ≤ R.length ∧ i = .int .i64 k ∧ ∃ n, wr = w.drewN n) (fun i _ => R.length - (intOf i).toNat)
  case atStart => exact ⟨0, Nat.zero_le _, rfl, 0, rfl⟩
  case round =>
    obtain ⟨k, hk, rfl, n, rfl⟩ := hrel
    by_cases hlt : k < R.length
    · obtain ⟨b, o, rfl, -, -, -, hr⟩ := HX.out (by omega)
      obtain ⟨b', o', rfl, -, -, -, hr'⟩ := HY.out (by omega)
      obtain ⟨u, c1, pu, cu, rfl, gu⟩ := hr k _ (List.getElem?_eq_getElem hlt)
      obtain ⟨u', c2, pu', cu', rfl, gu'⟩ := hr' k _ (List.getElem?_eq_getElem hlt)
      have HU := Lib.hid gu
      have HU' := Lib.hid gu'
      have hb2 : R[k].length ≤ maxLen := by
        by_cases h0 : 0 < R[k].length
        · obtain ⟨b, o, -, -, h1, h2, -⟩ := gu h0; exact Nat.le_trans h1 h2
        · omega
      unfold maxLen at hb2
      have hn1 : (0 : Int) ≤ (k : Int) := by omega
      clear hr hr' gu gu'
      generalize R[k] = r at *
      go_upto_region 6 with (fail)
      go_quiet (fail)
      go_wp2_with fail
      go_loopw [33] (fun i wr => ∃ j : Nat, j ≤ r.length ∧ i = .int .i64 j ∧ ∃ n, wr = w.drewN n) (fun i _ => r.length - (intOf i).toNat)
      case atStart => exact ⟨0, Nat.zero_le _, rfl, _, rfl⟩
      case round =>
        obtain ⟨j, hj, rfl, n2, rfl⟩ := hrel
        by_cases hjl : j < r.length
        · obtain ⟨q, z, rfl, -, -, -, hs⟩ := HU.out (by omega)
          obtain ⟨q', z', rfl, -, -, -, hs'⟩ := HU'.out (by omega)
          obtain ⟨d0, d1⟩ := hs j _ (List.getElem?_eq_getElem hjl)
          obtain ⟨e0, e1⟩ := hs' j _ (List.getElem?_eq_getElem hjl)
          clear hs hs'
          generalize r[j] = t at *
          obtain ⟨ta, tb⟩ := t
          simp only at d0 d1 e0 e1
          have hj1 : (0 : Int) ≤ (j : Int) := by omega
          go_upto_region 11 with (fail)
          go_quiet (fail)
          go_wp2_with fail
          go_roundw
          case rel => exact ⟨j + 1, by omega, by go_num, _, rfl⟩
          case measure => simp [intOf]; omega
        · obtain rfl : j = r.length := by omega
          go_wp2_with fail
          go_roundw
          case rel => exact ⟨k + 1, by omega, by go_num, _, rfl⟩
          case measure => simp [intOf]; omega
    · obtain rfl : k = R.length := by omega
      go_wp2
      go_ret
      exact ⟨rfl, rfl, rfl, rfl, Nat.le_refl _, fun _ _ => rfl⟩
end XC
end Go.Proofs.Ytieehjkmfmkfjaa
