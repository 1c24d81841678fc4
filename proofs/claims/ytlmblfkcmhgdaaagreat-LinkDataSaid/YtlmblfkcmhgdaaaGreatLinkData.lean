/-
  Of any bytes and places the law LinkData returns true: a word of data that is patched with a symbol of another object, and an Add, leads there.
  Conditions: none beyond those of the given statement.
-/
import Derived.Test.YtlmblfkcmhgdaaaGreatRows
import Derived.Test.YtlmblfkcmhgdaaaGreatLinkQd
import Derived.Test.YtlmblfkcmhgdaaaGreatLinkQj
import Derived.Test.YtlmblfkcmhgdaaaGreatMachQb
import Derived.Test.YtlmblfkcmhgdaaaGreatLinkQx
import Derived.BigQuiet
import Derived.Deep.DeepMust
import Derived.BigRegion
import Derived.Deep.AppendLies
import Derived.WalkKit
import Derived.ProofKit
import Derived.OpenShut
namespace Go.Proofs.YtlmblfkcmhgdaaaGreat.linkData
open Go.ChangeShapes Go.WideShapes Go.ChangeAt Go.RowKit
set_option linter.unusedVariables false
set_option linter.unusedSimpArgs false

theorem own : ownKnob Tryz.prog.godebug = none := by kernel_rfl
open OO OJ RsM RsF RsB RsY LM KB KC KM KN KG KW KJ KU MB MM
abbrev TIn : TypeId := 54
abbrev TBy : TypeId := 5
abbrev TO : TypeId := 30
theorem b_info : (Tryz.prog.info? TBy).map (fun i => (i.zero, i.size, i.bytes)) = some (some (.int .u8 0), 1, 1) := by kernel_rfl
def top (n : Nat) : Nat := if n ≤ 8 then 8 else (n + 7) / 8 * 8
theorem top_ge (n : Nat) : n ≤ top n ∧ 8 ≤ top n ∧ top n % 8 = 0 ∧ top n ≤ n + 8 := by unfold top; split <;> omega
theorem top_lt {n m : Nat} (h : n ≤ m) (h2 : m ≤ top n) (h3 : m % 8 ≠ 0 ∨ m < 8) : m < top n := by unfold top at *; split at h2 <;> split <;> omega
theorem top_eq {n m : Nat} (h : n ≤ m) (h2 : m ≤ top n) (h3 : m % 8 = 0) (h4 : 8 ≤ m) : m = top n := by unfold top at *; split at h2 <;> split <;> omega
def padL (xs : List Int) (m : Nat) : List Int := xs ++ List.replicate m 7
theorem pad_len (xs : List Int) (m : Nat) : (padL xs m).length = xs.length + m := by simp [padL]
theorem pad_succ (xs : List Int) (m : Nat) : padL xs (m + 1) = padL xs m ++ [7] := by unfold padL; rw [List.replicate_succ', List.append_assoc]
theorem pad_bytes {xs : List Int} (h : ∀ x ∈ xs, (Lit.int .u8 x).wf = true) (m : Nat) : OJ.Bytes (padL xs m) := by
  intro x hx
  unfold padL at hx
  rcases List.mem_append.1 hx with hx | hx
  · have := Go.bounds_u8 (h x hx); omega
  · rw [(List.mem_replicate.1 hx).2]; omega
def lenV : Value → Nat
  | .slice _ n _ => n
  | _ => 0
/-- a part that is stored whole -/
abbrev SyD : Obj := .cells #[.string mainB, .int .i64 1, .int .i64 0, .int .i64 0, .bool true, .string pB, .int .i64 2, .int .i64 4, .int .i64 0, .bool false, .string vB, .int .i64 0, .int .i64 0, .int .i64 0, .bool true] 57
abbrev ReD (a : Int) : Obj := .cells #[.int .i64 1, .int .i64 0, .int .i64 1, .int .i64 1, .int .i64 0, .int .i64 1, .int .i64 1, .int .i64 2, .int .i64 1, .int .i64 0, .int .i64 2, .int .i64 4, .int .i64 6, .int .i64 2, .int .i64 a] 59
abbrev SyV (v : Int) : Obj := .cells #[.string vB, .int .i64 2, .int .i64 v, .int .i64 0, .bool true] 57
theorem one_at {W : World} {n₀ A Z S R cap : Nat} {a : Int} (r : Row .u32 W A 0 (dataL.map wordOf)) (hc : 4 ≤ cap) (hc2 : cap ≤ maxLen) (hA : A < n₀) (z : W.heap[Z]? = some (.cells (img (zeros 8)).toArray TU (0, 0))) (hZ : Z < n₀) (s : W.heap[S]? = some SyD) (hS : S < n₀) (t : W.heap[R]? = some (ReD a)) (hR : R < n₀) :
    ObjAt n₀ W (.slice (some ⟨A, 0, none⟩) 4 cap) (.slice (some ⟨Z, 0, none⟩) 8 8) (.slice (some ⟨S, 0, none⟩) 3 3) (.slice (some ⟨R, 0, none⟩) 3 3) (oneD a) := by
  refine ⟨⟨_, _, rfl, fun _ => ⟨A, 0, rfl, hA, hc, hc2, r⟩⟩, ⟨_, _, rfl, fun _ => ⟨Z, 0, rfl, hZ, Nat.le_refl _, by decide, fun j x hj => ?_⟩⟩, ⟨_, _, rfl, fun _ => ⟨S, 0, rfl, hS, Nat.le_refl _, by decide, fun j x hj => ?_⟩⟩, ⟨_, _, rfl, fun _ => ⟨R, 0, rfl, hR, Nat.le_refl _, by decide, fun j x hj => ?_⟩⟩⟩
  · have hj8 : j < 8 := by have := (List.getElem?_eq_some_iff.1 hj).1; simpa [oneD, zeros] using this
    have := img_get z j (by simpa [zeros] using hj8)
    rw [Nat.zero_add, this]
    have hj' : (zeros 8)[j]? = some x := hj
    rw [List.getD_eq_getElem?_getD, hj']; rfl
  · match j, hj with
    | 0, hj | 1, hj | 2, hj =>
      cases hj
      exact ⟨by rw [Lib.cell_of_heap s]; rfl, by rw [Lib.cell_of_heap s]; rfl, by rw [Lib.cell_of_heap s]; rfl, by rw [Lib.cell_of_heap s]; rfl, by rw [Lib.cell_of_heap s]; rfl⟩
    | j + 3, hj => simp [oneD] at hj
  · match j, hj with
    | 0, hj | 1, hj | 2, hj =>
      cases hj
      exact ⟨by rw [Lib.cell_of_heap t]; rfl, by rw [Lib.cell_of_heap t]; rfl, by rw [Lib.cell_of_heap t]; rfl, by rw [Lib.cell_of_heap t]; rfl, by rw [Lib.cell_of_heap t]; rfl⟩
    | j + 3, hj => simp [oneD] at hj
theorem two_at {W : World} {n₀ S : Nat} {v : Int} {d : Value} {O : List Int} (b : Nums8 .u8 n₀ W d O) (s : W.heap[S]? = some (SyV v)) (hS : S < n₀) :
    ObjAt n₀ W (.slice none 0 0) d (.slice (some ⟨S, 0, none⟩) 1 1) (.slice none 0 0) (twoD O v) := by
  refine ⟨⟨_, _, rfl, fun h => absurd h (Nat.lt_irrefl 0)⟩, b, ⟨_, _, rfl, fun _ => ⟨S, 0, rfl, hS, Nat.le_refl _, by decide, fun j x hj => ?_⟩⟩, ⟨_, _, rfl, fun h => absurd h (Nat.lt_irrefl 0)⟩⟩
  match j, hj with
  | 0, hj =>
    cases hj
    exact ⟨by rw [Lib.cell_of_heap s]; rfl, by rw [Lib.cell_of_heap s]; rfl, by rw [Lib.cell_of_heap s]; rfl, by rw [Lib.cell_of_heap s]; rfl, by rw [Lib.cell_of_heap s]; rfl⟩
  | j + 1, hj => simp [twoD] at hj
theorem objs_pair {W : World} {D n₀ : Nat} {T : TypeId} {v0 v1 v2 v3 u0 u1 u2 u3 : Value} {x y : ObjV} (d : W.heap[D]? = some (.cells #[v0, v1, v2, v3, u0, u1, u2, u3] T (0, 0))) (hD : D < n₀) (ho : ObjAt n₀ W v0 v1 v2 v3 x) (hp : ObjAt n₀ W u0 u1 u2 u3 y) : ObjsAt n₀ W (.slice (some ⟨D, 0, none⟩) 2 2) [x, y] := by
  refine ⟨_, _, rfl, fun _ => ⟨D, 0, rfl, hD, Nat.le_refl _, by decide, fun i z hi => ?_⟩⟩
  match i, hi with
  | 0, hi =>
    cases hi
    exact ⟨v0, v1, v2, v3, by rw [Lib.cell_of_heap d]; rfl, by rw [Lib.cell_of_heap d]; rfl, by rw [Lib.cell_of_heap d]; rfl, by rw [Lib.cell_of_heap d]; rfl, ho⟩
  | 1, hi =>
    cases hi
    exact ⟨u0, u1, u2, u3, by rw [Lib.cell_of_heap d]; rfl, by rw [Lib.cell_of_heap d]; rfl, by rw [Lib.cell_of_heap d]; rfl, by rw [Lib.cell_of_heap d]; rfl, hp⟩
  | j + 2, hi => simp at hi
theorem is_data (w : World) : Is (w.alloc (.cells #[.int .i64 38, .int .i64 6, .int .i64 0, .int .i64 0, .int .i64 0, .int .i64 29, .int .i64 6, .int .i64 6, .int .i64 0, .int .i64 0, .int .i64 29, .int .i64 10, .int .i64 6, .int .i64 0, .int .i64 0, .int .i64 41, .int .i64 0, .int .i64 1, .int .i64 0, .int .i64 0] TIn)) (.slice (some ⟨w.heap.size, 0, none⟩) 4 4) dataL := by
  have hg := heap_alloc_new w (.cells #[.int .i64 38, .int .i64 6, .int .i64 0, .int .i64 0, .int .i64 0, .int .i64 29, .int .i64 6, .int .i64 6, .int .i64 0, .int .i64 0, .int .i64 29, .int .i64 10, .int .i64 6, .int .i64 0, .int .i64 0, .int .i64 41, .int .i64 0, .int .i64 1, .int .i64 0, .int .i64 0] TIn)
  refine ⟨w.heap.size, 4, rfl, by simp, fun k a b c d e hk => ?_⟩
  have c := fun j => cell_of_row _ w.heap.size j _ _ _ hg
  match k, hk with
  | 0, hk => cases hk; exact ⟨c 0, c 1, c 2, c 3, c 4⟩
  | 1, hk => cases hk; exact ⟨c 5, c 6, c 7, c 8, c 9⟩
  | 2, hk => cases hk; exact ⟨c 10, c 11, c 12, c 13, c 14⟩
  | 3, hk => cases hk; exact ⟨c 15, c 16, c 17, c 18, c 19⟩
  | (k + 4), hk => simp [dataL] at hk
theorem below_drewN {w u : World} {B : Nat} (h : Below B w u) (k : Nat) : Below B w (u.drewN k) := ⟨h.os, h.tape, h.output, h.size, h.block⟩
theorem own_drewN {u : World} {B n z : Nat} {T : TypeId} {v : Value} {xs : List Value} (h : u.ownsRow B T z v n xs) (k : Nat) : (u.drewN k).ownsRow B T z v n xs := h
theorem or_four {bs : List Int} (h : OJ.Bytes bs) {t : Nat} {y0 y1 y2 y3 : Int} (g0 : bs[t]? = some y0) (g1 : bs[t + 1]? = some y1) (g2 : bs[t + 2]? = some y2) (g3 : bs[t + 3]? = some y3) :
    bits .or .u32 (bits .or .u32 (bits .or .u32 y0 (y1 * 256)) (y2 * 65536)) (y3 * 16777216) = word bs t := by
  have e1 := KC.num_or h t 1 (by omega)
  have e2 := KC.num_or h t 2 (by omega)
  have e3 := KC.num_or h t 3 (by omega)
  have d1 : bs.getD (t + 1) 0 = y1 := by rw [List.getD_eq_getElem?_getD, g1]; rfl
  have d2 : bs.getD (t + 2) 0 = y2 := by rw [List.getD_eq_getElem?_getD, g2]; rfl
  have d3 : bs.getD (t + 3) 0 = y3 := by rw [List.getD_eq_getElem?_getD, g3]; rfl
  have b1 := h y1 (List.mem_of_getElem? g1)
  have b2 := h y2 (List.mem_of_getElem? g2)
  have b3 := h y3 (List.mem_of_getElem? g3)
  have n1 : numTo bs t 1 = y0 := by
    unfold numTo numTo
    rw [Nat.add_zero, List.getD_eq_getElem?_getD, g0]
    simp
  rw [n1, d1, show IntKind.u32.wrap (y1 * 2 ^ (1 * 8)) = y1 * 256 from by rw [IntKind.wrap_u32']; omega] at e1
  rw [d2, show IntKind.u32.wrap (y2 * 2 ^ (2 * 8)) = y2 * 65536 from by rw [IntKind.wrap_u32']; omega] at e2
  rw [d3, show IntKind.u32.wrap (y3 * 2 ^ (3 * 8)) = y3 * 16777216 from by rw [IntKind.wrap_u32']; omega] at e3
  rw [e1, e2, e3]
  rfl
theorem nw (w : World) (o : Obj) (k : Nat) (h : k = w.heap.size) : (w.alloc o).heap[k]? = some o := by subst h; exact heap_alloc_new w o
theorem six_at (w : World) (o1 o2 o3 o4 o5 o6 : Obj) : (((((((w.alloc o1).alloc o2).alloc o3).alloc o4).alloc o5).alloc o6)).heap[w.heap.size]? = some o1 ∧ (((((((w.alloc o1).alloc o2).alloc o3).alloc o4).alloc o5).alloc o6)).heap[w.heap.size + 1]? = some o2 ∧ (((((((w.alloc o1).alloc o2).alloc o3).alloc o4).alloc o5).alloc o6)).heap[w.heap.size + 1 + 1]? = some o3 ∧ (((((((w.alloc o1).alloc o2).alloc o3).alloc o4).alloc o5).alloc o6)).heap[w.heap.size + 1 + 1 + 1]? = some o4 ∧ (((((((w.alloc o1).alloc o2).alloc o3).alloc o4).alloc o5).alloc o6)).heap[w.heap.size + 1 + 1 + 1 + 1]? = some o5 ∧ (((((((w.alloc o1).alloc o2).alloc o3).alloc o4).alloc o5).alloc o6)).heap[w.heap.size + 1 + 1 + 1 + 1 + 1]? = some o6 ∧ w.heap.size + 6 ≤ (((((((w.alloc o1).alloc o2).alloc o3).alloc o4).alloc o5).alloc o6)).heap.size ∧ Below w.heap.size w (((((((w.alloc o1).alloc o2).alloc o3).alloc o4).alloc o5).alloc o6)) := by
  refine ⟨?_, ?_, ?_, ?_, ?_, ?_, by simp only [World.size_alloc]; omega, ?_⟩
  · repeat (first | exact nw _ _ _ (by simp only [World.size_alloc]) | refine (Lib.alloc_old _ _ _ (by simp only [World.size_alloc]; omega)).trans ?_)
  · repeat (first | exact nw _ _ _ (by simp only [World.size_alloc]) | refine (Lib.alloc_old _ _ _ (by simp only [World.size_alloc]; omega)).trans ?_)
  · repeat (first | exact nw _ _ _ (by simp only [World.size_alloc]) | refine (Lib.alloc_old _ _ _ (by simp only [World.size_alloc]; omega)).trans ?_)
  · repeat (first | exact nw _ _ _ (by simp only [World.size_alloc]) | refine (Lib.alloc_old _ _ _ (by simp only [World.size_alloc]; omega)).trans ?_)
  · repeat (first | exact nw _ _ _ (by simp only [World.size_alloc]) | refine (Lib.alloc_old _ _ _ (by simp only [World.size_alloc]; omega)).trans ?_)
  · repeat (first | exact nw _ _ _ (by simp only [World.size_alloc]) | refine (Lib.alloc_old _ _ _ (by simp only [World.size_alloc]; omega)).trans ?_)
  · exact ((((((Below.refl _ _).alloc (Nat.le_refl _) _).alloc (by simp only [World.size_alloc]; omega) _).alloc (by simp only [World.size_alloc]; omega) _).alloc (by simp only [World.size_alloc]; omega) _).alloc (by simp only [World.size_alloc]; omega) _).alloc (by simp only [World.size_alloc]; omega) _
theorem nums_at {u W : World} {g n n₀ cc : Nat} {xs : List Int} (hg : g < u.heap.size) (hc : n ≤ cc) (hc2 : cc ≤ maxLen) (hn : xs.length = n) (hcell : ∀ j x, xs[j]? = some x → u.cell? ⟨g, j, none⟩ = some (.int .u8 x)) (hb : Below u.heap.size u W) (hle : u.heap.size ≤ n₀) : Nums8 .u8 n₀ W (.slice (some ⟨g, 0, none⟩) n cc) xs := by
  subst hn
  exact ⟨_, _, rfl, fun h0 => ⟨g, 0, rfl, Nat.lt_of_lt_of_le hg hle, hc, hc2, fun j x hj => by rw [Nat.zero_add]; exact (hb.cell (p := ⟨g, j, none⟩) hg).trans (hcell j x hj)⟩⟩

set_option maxRecDepth 100000 in
set_option maxHeartbeats 8000000 in
theorem walk (v0 : Value) (xs0 : List Int) (a1 : Int) (wa1 : (Lit.int .u8 a1).wf = true) (a2 : Int) (wa2 : (Lit.int .u8 a2).wf = true) (w : World) (ha0 : MO.Arg .u8 w v0 xs0) (hx0 : ∀ x ∈ xs0, (Lit.int .u8 x).wf = true) :
    Calls Tryz.prog 7 #[v0, .int .u8 a1, .int .u8 a2] w fun e w' => e = .returned (.bool true) ∧ Below w.heap.size w w' := by
  obtain ⟨p0, c0, rfl, hs0⟩ := ha0
  have HS0 := Lib.hid hs0
  have HX0 := Lib.hid hx0
  have HA1 := Lib.hid (Go.bounds_u8 wa1)
  have HA2 := Lib.hid (Go.bounds_u8 wa2)
  clear hs0 hx0 wa1 wa2
  by_cases hbig : 400 < xs0.length
  · have g1 : (400 : Int) < (xs0.length : Int) := by omega
    go_enter Tryz.func7, Tryz.ntmps7
    go_wp2_with (go_at_call 10; (first
      | (with_reducible refine (KW.awake_ _).mono ?_; rintro e w2 ⟨rfl, hb2⟩; have HB2 := Lib.hid (HB1.out.trans (hb2.mono HB1.out.size)); clear hb2)
      | (with_reducible refine (KW.awake_ _).mono ?_; rintro e w1 ⟨rfl, hb1⟩; have HB1 := Lib.hid hb1; clear hb1)))
    go_ret
    exact ⟨rfl, HB2.out⟩
  · have g1 : ¬ (400 : Int) < (xs0.length : Int) := by omega
    go_enter Tryz.func7, Tryz.ntmps7
    go_upto_region 3 with (go_at_call 10; with_reducible refine (KW.awake_ _).mono ?_; rintro e w1 ⟨rfl, hb1⟩; have HB1 := Lib.hid hb1; clear hb1)
    clear g1
    obtain ⟨i1, hj, hj0, hj1, hj2⟩ := info_parts b_info
    have hnews : ∀ W, Below w1.heap.size w1 W → 0 < xs0.length → ∃ b o, p0 = some ⟨b, o, none⟩ ∧ ∀ j u, (xs0.map (Value.int .u8))[j]? = some u → W.cell? ⟨b, o + j, none⟩ = some u := fun W hW h0 => by
      obtain ⟨g, o, e, -, -, hg, hc⟩ := HS0.out (by intro e; rw [e] at h0; simp at h0)
      refine ⟨g, o, e, fun j u hu => ?_⟩
      rw [List.getElem?_map] at hu
      cases hx : xs0[j]? with
      | none => rw [hx] at hu; cases hu
      | some x =>
        rw [hx] at hu
        cases hu
        exact (hW.cell (p := ⟨g, o + j, none⟩) (Nat.lt_of_lt_of_le hg HB1.out.size)).trans ((HB1.out.cell (p := ⟨g, o + j, none⟩) hg).trans (hc j x hx))
    have hone : ∀ u ∈ xs0.map (Value.int .u8), u.oneCell' = true := fun u hu => by
      obtain ⟨x, _, rfl⟩ := List.mem_map.1 hu
      rfl
    have HNE := Lib.hid hnews
    have HON := Lib.hid hone
    clear hnews hone
    go_wp2_with (at_builtin; go_must (refine wpList_append_sl rfl _ _ 26 rfl w1.heap.size TBy i1 (.int .u8 0) 1 1 Tryz.underlying26 hj hj0 hj1 hj2 rfl (by decide) (.slice (some ⟨w1.heap.size, 0, none⟩) 0 0) 0 [] rfl (World.ownsRow_lit (base := w1.heap.size) (e := TBy) (size := 1) w1 #[] 0 (Nat.le_refl _) (Nat.zero_le _) rfl) p0 xs0.length c0 (xs0.map (Value.int .u8)) rfl (by simp) (HNE.out _ ((Below.refl w1.heap.size w1).alloc (Nat.le_refl _) _)) HON.out (by unfold maxLen; omega) (by omega) (by simp) ?_); go_must (intro p2 c2 w2 ho2 hg2; have HB2 := Lib.hid (((Below.refl w1.heap.size w1).alloc (Nat.le_refl _) _).grown hg2 (by simp) (fun g hg => by cases hg; exact Nat.le_refl _)); rw [Nat.zero_add, List.nil_append] at ho2; rw [Nat.zero_add]; have HO2 := Lib.hid ho2; clear ho2 hg2))
    have HT := Lib.hid (top_ge xs0.length)
    go_loopw [7] (fun ov wr => ∃ (m : Nat) (p : Option Addr) (cc : Nat), xs0.length + m ≤ top xs0.length ∧ ov = .slice p (xs0.length + m) cc ∧ Hid (wr.ownsRow w1.heap.size TBy 1 ov (xs0.length + m) ((padL xs0 m).map (Value.int .u8))) ∧ Hid (Below w1.heap.size w1 wr)) (fun ov _ => top xs0.length - lenV ov)
    case atStart => exact ⟨0, p2, c2, by have := HT.out; omega, rfl, Lib.hid (by unfold padL; simp only [List.replicate_zero, List.append_nil, Nat.add_zero]; exact HO2.out), HB2⟩
    case round =>
      obtain ⟨m, p, cc, hm, rfl, HO, HB⟩ := hrel
      have hT := HT.out
      obtain ⟨n, hn⟩ : ∃ n, n = xs0.length + m := ⟨_, rfl⟩
      rw [← hn] at hm HO ⊢
      have hn0 : xs0.length ≤ n := by omega
      have hnm : n ≤ 408 := by omega
      have HN := Lib.hid hn
      have hbw := HB.out.size
      clear hn
      by_cases hgo : n % 8 ≠ 0 ∨ n < 8
      · have hlt := top_lt hn0 hm hgo
        have HGO := Lib.hid (⟨hn0, hm, hlt, hT⟩ : _ ∧ _ ∧ _ ∧ _)
        have fin : ∀ (gg cap : Nat) (w3 : World), w3.ownsRow w1.heap.size TBy 1 (.slice (some ⟨gg, 0, none⟩) (n + 1) cap) (n + 1) ((padL xs0 m).map (Value.int .u8) ++ [.int .u8 7]) → (wr.alloc (.cells #[.int .u8 7] TBy)).grownBy w3 (Value.slice p n cc).ownBlock → ∃ (m' : Nat) (p' : Option Addr) (c' : Nat), xs0.length + m' ≤ top xs0.length ∧ Value.slice (some ⟨gg, 0, none⟩) (n + 1) cap = .slice p' (xs0.length + m') c' ∧ Hid (w3.ownsRow w1.heap.size TBy 1 (.slice (some ⟨gg, 0, none⟩) (n + 1) cap) (xs0.length + m') ((padL xs0 m').map (Value.int .u8))) ∧ Hid (Below w1.heap.size w1 w3) := fun gg cap w3 h1 h2 => by
          have hn := HN.out
          refine ⟨m + 1, _, _, by omega, by rw [show xs0.length + (m + 1) = n + 1 by omega], Lib.hid ?_, Lib.hid ((HB.out.alloc HB.out.size _).grown h2 (by simp only [World.size_alloc]; omega) (fun g hg => (HO.out.lt g hg).1))⟩
          rw [show xs0.length + (m + 1) = n + 1 by omega, pad_succ, List.map_append]
          exact h1
        have FIN := Lib.hid fin
        clear fin hlt hT
        by_cases e8 : n % 8 = 0
        · have h8 : n < 8 := by omega
          have b1 : (((n : Int) % 8) != 0) = false := by rw [bne_eq_false_iff_eq]; omega
          have b2 : decide ((n : Int) < 8) = true := by rw [decide_eq_true_eq]; omega
          clear hgo e8
          go_wp2_with (at_builtin; go_must (refine wpList_append_lies _ rfl _ _ 26 rfl w1.heap.size TBy i1 (.int .u8 0) 1 1 Tryz.underlying26 hj hj0 hj1 hj2 rfl (by decide) _ _ _ rfl (HO.out.alloc _) ⟨wr.heap.size, 0, none⟩ 1 1 [.int .u8 7] rfl rfl (World.news_of_block (cs := #[.int .u8 7]) (t := TBy) (fr := (0, 0)) (heap_alloc_new wr _)) (by simp [Value.oneCell']) (by decide) (by unfold maxLen; omega) (by omega) (by simp only [World.size_alloc]; omega) (wr.heap.size + 1) (by simp only [World.size_alloc]) ?_); intro gg cap w3 hown3 hgrow3 hat3 hlt3; have HF3 := Lib.hid (FIN.out gg cap w3 hown3 hgrow3); clear hown3 hgrow3 hat3)
          refine ⟨HF3.out, ?_⟩
          have := HGO.out
          show top xs0.length - (n + 1) < top xs0.length - n
          omega
        · have b1 : (((n : Int) % 8) != 0) = true := by rw [bne_iff_ne]; omega
          clear hgo e8
          go_wp2_with (at_builtin; go_must (refine wpList_append_lies _ rfl _ _ 26 rfl w1.heap.size TBy i1 (.int .u8 0) 1 1 Tryz.underlying26 hj hj0 hj1 hj2 rfl (by decide) _ _ _ rfl (HO.out.alloc _) ⟨wr.heap.size, 0, none⟩ 1 1 [.int .u8 7] rfl rfl (World.news_of_block (cs := #[.int .u8 7]) (t := TBy) (fr := (0, 0)) (heap_alloc_new wr _)) (by simp [Value.oneCell']) (by decide) (by unfold maxLen; omega) (by omega) (by simp only [World.size_alloc]; omega) (wr.heap.size + 1) (by simp only [World.size_alloc]) ?_); intro gg cap w3 hown3 hgrow3 hat3 hlt3; have HF3 := Lib.hid (FIN.out gg cap w3 hown3 hgrow3); clear hown3 hgrow3 hat3)
          refine ⟨HF3.out, ?_⟩
          have := HGO.out
          show top xs0.length - (n + 1) < top xs0.length - n
          omega
      · obtain ⟨q, rfl⟩ : ∃ q, n = 8 * q := ⟨n / 8, by omega⟩
        have hq1 : 1 ≤ q := by omega
        have hq2 : q ≤ 51 := by omega
        have b1 : ((((8 * q : Nat) : Int) % 8) != 0) = false := by rw [bne_eq_false_iff_eq]; omega
        have b2 : decide (((8 * q : Nat) : Int) < 8) = false := by rw [decide_eq_false_iff_not]; omega
        clear hgo hm hn0 hnm hT
        have h4 : (8 * (q : Int)) / 4 = 2 * (q : Int) := by omega
        go_upto_region 7 with fail
        clear h4 b1 b2
        have hA1 := HA1.out
        have hA2 := HA2.out
        obtain ⟨k1, hk1⟩ : ∃ k1 : Nat, (k1 : Int) = a1 % (2 * (q : Int)) := ⟨(a1 % (2 * (q : Int))).toNat, by have := Int.emod_nonneg a1 (show 2 * (q : Int) ≠ 0 by omega); omega⟩
        obtain ⟨k2, hk2⟩ : ∃ k2 : Nat, (k2 : Int) = a2 % (2 * (q : Int)) := ⟨(a2 % (2 * (q : Int))).toNat, by have := Int.emod_nonneg a2 (show 2 * (q : Int) ≠ 0 by omega); omega⟩
        have hl1 : k1 < 2 * q := by have := Int.emod_lt_of_pos a1 (show 0 < 2 * (q : Int) by omega); omega
        have hl2 : k2 < 2 * q := by have := Int.emod_lt_of_pos a2 (show 0 < 2 * (q : Int) by omega); omega
        have t1 : a1.tmod (2 * (q : Int)) = (k1 : Int) := by rw [Int.tmod_eq_emod_of_nonneg hA1.1, hk1]
        have t2 : a2.tmod (2 * (q : Int)) = (k2 : Int) := by rw [Int.tmod_eq_emod_of_nonneg hA2.1, hk2]
        have s1 := hk1.symm
        have s2 := hk2.symm
        clear hk1 hk2
        have d0 : 2 * (q : Int) - 1 + 1 = 2 * (q : Int) := by omega
        have d1 : IntKind.i64.wrap (2 * (q : Int) - 1 + 1) = 2 * (q : Int) := by rw [d0]; exact IntWalk.i64_in _ (by omega)
        have d2 : ((2 * (q : Int)) == 0) = false := by rw [beq_eq_false_iff_ne]; omega
        have d3 : IntKind.i64.wrap (k1 : Int) = (k1 : Int) := IntWalk.i64_in _ (by omega)
        have d4 : IntKind.i64.wrap (k2 : Int) = (k2 : Int) := IntWalk.i64_in _ (by omega)
        have d5 : IntKind.i64.wrap (4 * (k1 : Int)) = 4 * (k1 : Int) := IntWalk.i64_in _ (by omega)
        have d6 : IntKind.i64.wrap (4 * (k2 : Int)) = 4 * (k2 : Int) := IntWalk.i64_in _ (by omega)
        go_quiet (fail)
        clear t1 t2 s1 s2 d0 d1 d2 d3 d4 d5 d6 hA1 hA2
        obtain ⟨v, hv⟩ : ∃ v : Nat, 4 * (k1 : Int) = (v : Int) := ⟨4 * k1, by omega⟩
        obtain ⟨a, ha⟩ : ∃ a : Nat, 4 * (k2 : Int) = (a : Int) := ⟨4 * k2, by omega⟩
        rw [hv, ha]
        have hva : v % 4 = 0 ∧ a % 4 = 0 ∧ v ≤ 408 ∧ a ≤ 408 := by omega
        clear hv ha hl1 hl2
        obtain ⟨va, vb, vc, vd⟩ := hva
        obtain ⟨W3, hW3⟩ : ∃ W3, W3 = wr.drewN nq := ⟨_, rfl⟩
        have hb3 : Below w1.heap.size w1 W3 := by rw [hW3]; exact below_drewN HB.out nq
        have ho3 : W3.ownsRow w1.heap.size TBy 1 (.slice p (8 * q) cc) (8 * q) ((padL xs0 m).map (Value.int .u8)) := by rw [hW3]; exact own_drewN HO.out nq
        rw [← hW3]
        clear hW3 HB HO hbw
        have hbw := hb3.size
        have HB3 := Lib.hid hb3
        have HO3 := Lib.hid ho3
        clear hb3 ho3
        by_cases hfit : v + a + 4 ≤ 8 * q
        · have hf1 : ¬ (8 * (q : Int) - 4 < (v : Int) + (a : Int)) := by omega
          have hlen : (padL xs0 m).length = 8 * q := by rw [pad_len]; exact HN.out.symm
          obtain ⟨gb, rfl, hgb, hgb2, hcc, hcc2, hcell⟩ : ∃ gb, p = some ⟨gb, 0, none⟩ ∧ w1.heap.size ≤ gb ∧ gb < W3.heap.size ∧ 8 * q ≤ cc ∧ cc ≤ maxLen ∧ ∀ j x, (padL xs0 m)[j]? = some x → W3.cell? ⟨gb, j, none⟩ = some (.int .u8 x) := by
            rcases HO3.out.2 with ⟨-, h0⟩ | ⟨g, cap, cur, e, hg1, hg2, h1, h2, -⟩
            · omega
            · cases e
              refine ⟨g, rfl, hg1, lt_heap hg2, h1, h2, fun j x hj => ?_⟩
              have h3 := (HO3.out.cells (g := g) rfl) j (.int .u8 x) (by rw [List.getElem?_map, hj]; rfl)
              rwa [OO.add_plain, Nat.zero_add] at h3
          have F : KJ.Fit (padL xs0 m) v a := ⟨pad_bytes HX0.out m, by rw [hlen]; omega, by rw [hlen]; omega, by rw [hlen]; omega, va, vb, by rw [hlen]; exact hfit⟩
          have HF := Lib.hid F
          have HLEN := Lib.hid hlen
          have HCELL := Lib.hid hcell
          clear F hlen hcell HN HO3
          have cw := words_ _ _ dataL (by decide) (is_data W3) data_good
          go_upto_region 11 with (go_at_call 19; go_must (with_reducible refine cw.mono ?_); rintro e w4 ⟨v4, rfl, ho4, hb4⟩; obtain ⟨g4, cap4, rfl, -, hg4, hc4, hc4', hr4⟩ := row_of (n := 4) ho4 (by decide); have HR4 := Lib.hid hr4; have HB4 := Lib.hid hb4; clear ho4 hb4 cw hr4)
          have hs4 := HB4.out.size
          rw [World.size_alloc] at hs4
          have hmk : ∀ w, (Instr.makeSlice 26 (.int .i64 8) (.int .i64 8)).run Tryz.prog w = .ok (.slice (some ⟨w.heap.size, 0, none⟩) 8 8) (w.alloc (.cells (img (zeros 8)).toArray TU)) := fun w => KF.mk_run 8 (by omega) w
          go_upto_region 13 with fail
          clear hmk
          obtain ⟨W7, hW7⟩ : ∃ W7, W7 = (((((w4.alloc (.cells (img (zeros 8)).toArray TU)).alloc SyD).alloc (ReD (a : Int))).alloc (.cells #[.slice (some ⟨g4, 0, none⟩) 4 cap4, .slice (some ⟨w4.heap.size, 0, none⟩) 8 8, .slice (some ⟨w4.heap.size + 1, 0, none⟩) 3 3, .slice (some ⟨w4.heap.size + 1 + 1, 0, none⟩) 3 3] TO)).alloc (SyV (v : Int))).alloc (.cells #[.slice none 0 0, .slice (some ⟨gb, 0, none⟩) (8 * q) cc, .slice (some ⟨w4.heap.size + 1 + 1 + 1 + 1, 0, none⟩) 1 1, .slice none 0 0] TO) := ⟨_, rfl⟩
          obtain ⟨z7, s7, r7, o7, v7, t7, hs7, hb7⟩ := six_at w4 (.cells (img (zeros 8)).toArray TU) SyD (ReD (a : Int)) (.cells #[.slice (some ⟨g4, 0, none⟩) 4 cap4, .slice (some ⟨w4.heap.size, 0, none⟩) 8 8, .slice (some ⟨w4.heap.size + 1, 0, none⟩) 3 3, .slice (some ⟨w4.heap.size + 1 + 1, 0, none⟩) 3 3] TO) (SyV (v : Int)) (.cells #[.slice none 0 0, .slice (some ⟨gb, 0, none⟩) (8 * q) cc, .slice (some ⟨w4.heap.size + 1 + 1 + 1 + 1, 0, none⟩) 1 1, .slice none 0 0] TO)
          rw [← hW7] at z7 s7 r7 o7 v7 t7 hs7 hb7
          simp only [SyD, ReD, SyV, mainB, pB, vB] at hW7
          rw [← hW7]
          clear hW7
          obtain ⟨A8, hA8⟩ : ∃ A8, A8 = Obj.cells #[.slice (some ⟨g4, 0, none⟩) 4 cap4, .slice (some ⟨w4.heap.size, 0, none⟩) 8 8, .slice (some ⟨w4.heap.size + 1, 0, none⟩) 3 3, .slice (some ⟨w4.heap.size + 1 + 1, 0, none⟩) 3 3, .slice none 0 0, .slice (some ⟨gb, 0, none⟩) (8 * q) cc, .slice (some ⟨w4.heap.size + 1 + 1 + 1 + 1, 0, none⟩) 1 1, .slice none 0 0] TO := ⟨_, rfl⟩
          have hb8 : Below w4.heap.size w4 (W7.alloc A8) := hb7.alloc hb7.size _
          have d8 : (W7.alloc A8).heap[W7.heap.size]? = some A8 := heap_alloc_new W7 A8
          have b38 : Below W3.heap.size W3 (W7.alloc A8) := (((Below.refl _ _).alloc (Nat.le_refl _) _).trans (HB4.out.mono (by rw [World.size_alloc]; omega))).trans (hb8.mono (by omega))
          have old : ∀ {k : Nat} {o : Obj}, W7.heap[k]? = some o → (W7.alloc A8).heap[k]? = some o := fun h => (Lib.alloc_old _ _ _ (lt_heap h)).trans h
          have hsz8 : (W7.alloc A8).heap.size = W7.heap.size + 1 := World.size_alloc ..
          have ob1 : ObjAt (W7.alloc A8).heap.size (W7.alloc A8) _ _ _ _ (oneD (a : Int)) := one_at (row_below HR4.out hb8 hg4) hc4 hc4' (by rw [hsz8]; omega) (old z7) (by rw [hsz8]; omega) (old s7) (by rw [hsz8]; omega) (old r7) (by rw [hsz8]; omega)
          have ob2 : ObjAt (W7.alloc A8).heap.size (W7.alloc A8) _ _ _ _ (twoD (padL xs0 m) (v : Int)) := two_at (nums_at hgb2 hcc hcc2 HLEN.out HCELL.out b38 (by rw [hsz8]; omega)) (old v7) (by rw [hsz8]; omega)
          have hob : ObjsAt (W7.alloc A8).heap.size (W7.alloc A8) (.slice (some ⟨W7.heap.size, 0, none⟩) 2 2) (dObjs (padL xs0 m) (v : Int) (a : Int)) := objs_pair (d8.trans (congrArg some hA8)) (by rw [hsz8]; omega) ob1 ob2
          have F := HF.out
          obtain ⟨bs, hl, hdo⟩ := d_does F
          have hpl := (d_places (padL xs0 m) (v : Int) (a : Int)).2.2.2
          obtain ⟨nn, hnn⟩ : ∃ nn, nn = 40 + 8 * q := ⟨_, rfl⟩
          rw [HLEN.out, ← hnn] at hpl hdo
          have cl := link_ok (w := W7.alloc A8) (Nat.le_refl _) hob (d_wf F) (by show 2 ≤ 12; omega) (fun o ho => by
            simp only [dObjs, List.mem_cons, List.not_mem_nil, or_false] at ho
            rcases ho with rfl | rfl
            · exact ⟨by simp [oneD, dataL], by simp [oneD, zeros], by simp [oneD], by simp [oneD]⟩
            · refine ⟨by simp [twoD], ?_, by simp [twoD], by simp [twoD]⟩
              show (padL xs0 m).length ≤ 65536
              rw [HLEN.out]; omega) hl hpl
          obtain ⟨N, hN⟩ : ∃ N : Nat, MW.up (MW.up (nn : Int) + 16) = N := ⟨(MW.up (MW.up (nn : Int) + 16)).toNat, by unfold MW.up; omega⟩
          have hN1 : nn ≤ N ∧ N ≤ 2097152 ∧ 0 ≤ MW.up (nn : Int) ∧ MW.up (nn : Int) ≤ 4294967295 := by unfold MW.up at hN ⊢; omega
          obtain ⟨T, hT, hT1, hT2, hT3, hT4⟩ := hdo N (MW.up (nn : Int)) hN1.1 hN1.2.1
          obtain ⟨X, hX⟩ : ∃ X, X = word (padL xs0 m) (v + a) := ⟨_, rfl⟩
          rw [← hX] at hT2
          have HT := Lib.hid (⟨hT, hT1, hT2, hT3, hT4⟩ : _ ∧ _ ∧ _ ∧ _ ∧ _)
          have HNN := Lib.hid (⟨hN, hN1, (by omega : nn ≤ 100000)⟩ : _ ∧ _ ∧ _)
          have HX := Lib.hid hX
          have B7 := Lib.hid ((((HB1.out.trans (HB3.out.mono HB1.out.size)).trans (b38.mono (Nat.le_trans HB1.out.size hbw)))))
          have HB78 := Lib.hid b38
          rw [hA8] at cl
          have a0 := Lib.cell_of_heap o7 0
          have a1' := Lib.cell_of_heap o7 1
          have a2' := Lib.cell_of_heap o7 2
          have a3 := Lib.cell_of_heap o7 3
          have e0 := Lib.cell_of_heap t7 0
          have e1 := Lib.cell_of_heap t7 1
          have e2 := Lib.cell_of_heap t7 2
          have e3 := Lib.cell_of_heap t7 3
          have HA8 := Lib.hid hA8
          have HS78 := Lib.hid hsz8
          have HNQ := Lib.hid hnn
          clear z7 s7 r7 o7 v7 t7 ob1 ob2 old hob F hl hdo hpl hN hN1 hT hT1 hT2 hT3 hT4 hX d8 hb8 b38 hsz8 hA8 hnn HB4 HR4 hb7 hc4 hc4' hg4
          go_upto_region 20 with (first
            | (go_at_call 13; go_must (with_reducible refine cl.mono ?_); rintro e w9 ⟨g9, rfl, hg9, hbl, hby, hb9⟩; have HG9 := Lib.hid hg9; have HBY := Lib.hid hby; have HB9 := Lib.hid hb9; have cl2 := load_img hg9 hbl HNN.out.2.2 16 (by omega) (by omega) HNN.out.1; clear hg9 hbl hby hb9 cl)
            | (go_at_call 20; go_must (with_reducible refine cl2.mono ?_); rintro e w11 ⟨b, bm, rfl, A, hb, hbm, hb11⟩; have cg := run_img (F := 100) A HBY.out HNN.out.2.1.2.2 HNN.out.2.1.2.1 (by omega) HT.out.1 HT.out.2.1 HT.out.2.2.1 HT.out.2.2.2.1 (by omega) HT.out.2.2.2.2; have HB11 := Lib.hid hb11; have HBB := Lib.hid (⟨hb, hbm⟩ : _ ∧ _); clear A hb11 hb hbm cl2)
            | (go_at_call 21; go_must (with_reducible refine cg.mono ?_); rintro e w12 ⟨p5, l5, c5, rfl, O12⟩; have HO12 := Lib.hid O12; clear cg O12))
          obtain ⟨W13, hW13⟩ : ∃ W13, W13 = w12.alloc (.cells #[.int .i64 1, .int .u32 X, .slice p5 l5 c5, .int .i64 7] 66) := ⟨_, rfl⟩
          have hr13 : W13.heap[w12.heap.size]? = some (.cells #[.int .i64 1, .int .u32 X, .slice p5 l5 c5, .int .i64 7] 66 (0, 0)) := by rw [hW13]; exact heap_alloc_new w12 _
          have b9 : Below (W7.alloc A8).heap.size (W7.alloc A8) w9 := by rw [HA8.out]; exact HB9.out
          have q1 := HB78.out.size
          have q2 := b9.size
          have c9 : Below W3.heap.size W3 w9 := HB78.out.trans (b9.mono q1)
          have c11 : Below W3.heap.size W3 w11 := (c9.alloc (by omega) _).trans (HB11.out.mono (by omega))
          have q3 := HBB.out
          have q4 := c11.size
          have c12 : Below W3.heap.size W3 w12 := c11.trans (HO12.out.below q4 (by omega) (by omega))
          have c13 : Below W3.heap.size W3 W13 := by rw [hW13]; exact c12.alloc c12.size _
          have HFIN := Lib.hid (HB1.out.trans (HB3.out.mono HB1.out.size) |>.trans (c13.mono (Nat.le_trans HB1.out.size hbw)))
          rw [← hW13]
          clear hW13 b9 q1 q2 q3 q4 c9 c11 c12
          have r0 := Lib.cell_of_heap hr13 0
          have r1 := Lib.cell_of_heap hr13 1
          obtain ⟨t, ht⟩ : ∃ t : Nat, (v : Int) + (a : Int) = (t : Int) := ⟨v + a, by omega⟩
          have htn : v + a = t := by omega
          have HXX := HX.out
          rw [htn] at HXX
          have hby := HF.out.bytes
          have hget : ∀ j, j < 4 → ∃ y, (padL xs0 m)[t + j]? = some y ∧ 0 ≤ y ∧ y ≤ 255 ∧ W13.cell? ⟨gb, t + j, none⟩ = some (.int .u8 y) := fun j hj => by
            have hlt : t + j < (padL xs0 m).length := by rw [HLEN.out]; omega
            refine ⟨_, List.getElem?_eq_getElem hlt, (hby _ (List.getElem_mem hlt)).1, (hby _ (List.getElem_mem hlt)).2, (c13.cell (p := ⟨gb, t + j, none⟩) hgb2).trans (HCELL.out _ _ (List.getElem?_eq_getElem hlt))⟩
          obtain ⟨y0, g0, l0, u0, f0⟩ := hget 0 (by omega)
          obtain ⟨y1, g1, l1, u1, f1⟩ := hget 1 (by omega)
          obtain ⟨y2, g2, l2, u2, f2⟩ := hget 2 (by omega)
          obtain ⟨y3, g3, l3, u3, f3⟩ := hget 3 (by omega)
          rw [Nat.add_zero] at g0 f0
          have HGS := Lib.hid (⟨hby, g0, g1, g2, g3, HXX⟩ : _ ∧ _ ∧ _ ∧ _ ∧ _ ∧ _)
          have d1 : (t : Int) ≤ 8 * (q : Int) := by omega
          have d2 : (0 : Int) ≤ (t : Int) := by omega
          have d3 : (t : Int) ≤ (cc : Int) := by omega
          have d4 : 8 * (q : Int) ≤ (cc : Int) := by omega
          have d5 : ¬ cc = t := by omega
          have d6 : t + 4 ≤ 8 * q := by omega
          clear HXX hby hget g0 g1 g2 g3 htn c13 hr13
          go_upto_region 21 with fail
          go_quiet (fail)
          go_wp2
          go_ret
          obtain ⟨h1, h2, h3, h4, h5, h6⟩ := HGS.out
          exact ⟨by rw [or_four h1 h2 h3 h4 h5, ← h6, beq_self_eq_true]; rfl, below_drewN HFIN.out _⟩
        · have hf1 : 8 * (q : Int) - 4 < (v : Int) + (a : Int) := by omega
          go_wp2
          go_ret
          exact ⟨rfl, HB1.out.trans (HB3.out.mono HB1.out.size)⟩

set_option maxRecDepth 100000 in
theorem lifted (os : Os) (started : os.Started) (H : Type) (enc : TypeId × Value → H) :
    ReturnsInHanded {} Tryz.checked os 7 .any (Rows.linkDataSpec.pre6 enc Tryz.prog Tryz.f7 Rows.linkDataRow.domain false) (Rows.linkDataSpec.post enc Tryz.prog Tryz.f7 false true false false) := by
  refine returnsInHanded_of_change (C := Tryz.checked) own started (by kernel_rfl) Tryz.func7
    (ChangeSpec.witness6 (enc := enc) (C := Tryz.checked) false ⟨#[], #[.slice none 0 0, .int .u8 0, .int .u8 0], []⟩ 8 (by kernel_rfl) (by kernel_rfl) (by kernel_rfl) (by kernel_rfl)) ?_
  intro W base args ds gs before hval0 hW hcnd _
  have hval : ∀ (j : Nat) t v, Tryz.f7.params[j]? = some t → args[j]? = some v → Value.okWide Tryz.prog W .any base t v := hval0
  have hW' := hW
  obtain ⟨p, q, hA0, hV, rfl, hfz, hnd⟩ := hW
  have hA : DataW.TrodAll enc Tryz.prog W 0 (fun _ => true) true Tryz.f7.params.toList args.toList ds p := hA0
  rw [Tryz.params7] at hA hval
  obtain ⟨v0, vs0, d0, ds0, p0, q0, hargs, rfl, rfl, h0, r0⟩ := trodAll_cons hA
  obtain ⟨v1, vs1, d1, ds1, p1, q1, rfl, rfl, rfl, h1, r1⟩ := trodAll_cons r0
  obtain ⟨v2, vs2, d2, ds2, p2, q2, rfl, rfl, rfl, h2, r2⟩ := trodAll_cons r1
  obtain ⟨rfl, rfl, rfl⟩ := trodAll_nil r2
  obtain rfl : args = #[v0, v1, v2] := by cases args; simp_all
  obtain ⟨rfl, rfl⟩ := trodVars_none hV
  obtain ⟨xs0, ha0, hx0, sh0⟩ := MO.open_nums Tryz.underlying26 Tryz.underlying5 (by kernel_rfl) (hval 0 26 v0 rfl rfl) h0
  obtain ⟨a1, rfl, rfl, rfl, wa1⟩ := open_int Tryz.underlying5 (hval 1 5 v1 rfl rfl) h1
  obtain ⟨a2, rfl, rfl, rfl, wa2⟩ := open_int Tryz.underlying5 (hval 2 5 v2 rfl rfl) h2
  clear hA0 hval0
  simp only [List.append_nil] at hW'
  refine (walk v0 xs0 a1 wa1 a2 wa2 W ha0 hx0).mono fun e W' ⟨he, hg⟩ => ?_
  subst he
  exact ⟨_, rfl, _, _, _, [], _, _, hW', (trodAll_cons_mk (shut_bool Tryz.underlying4 _) trodAll_mk0), (trodAll_cons_mk (sh0 _ _ (fun b hb => decide_eq_true hb) hg) (trodAll_cons_mk (shut_int Tryz.underlying5 wa1) (trodAll_cons_mk (shut_int Tryz.underlying5 wa2) trodAll_mk0))), rfl, hg.frame _, fun h => by cases h⟩

theorem over : Rows.linkDataRow.holds Tryz.pinned (OpenSpec.ofChange Rows.linkDataSpec) :=
  OpenClaim.holds_of_wide 7 Tryz.f7 rfl rfl rfl rfl rfl rfl rfl ⟨rfl, rfl, rfl, rfl, rfl⟩ rfl rfl rfl rfl rfl (by kernel_rfl) Tryz.func7 (by kernel_rfl)
    (of_decide_eq_true (by kernel_rfl)) (by unfold Func.isWrapper; first | (rw [if_pos (by decide +kernel)]; kernel_rfl) | (rw [if_neg (by decide +kernel)]; exact ⟨rfl, rfl⟩))
    (fun os started H enc _ => lifted os started H enc)

/-- The statement. -/
theorem proved : Rows.LinkDataSaid :=
  over
end Go.Proofs.YtlmblfkcmhgdaaaGreat.linkData
