/-
  Of any numbers the law LinkCalls returns true: a main that calls a function of each other object, in any order of the objects, halts with the sum.
  Conditions: none beyond those of the given statement.
-/
import Derived.Test.YtlmblfkcmhgdaaaGreatRows
import Derived.Deep.DeepMust
import Derived.Deep.DeepCutAuto
import Derived.Test.YtlmblfkcmhgdaaaGreatLinkQq
import Derived.Test.YtlmblfkcmhgdaaaGreatMachQb
import Derived.BigQuiet
import Derived.BigRegion
import Derived.Deep.AppendLies
import Derived.RegionTactic
import Derived.Deep.RegionHeld3
import Derived.WalkKit
import Derived.ProofKit
import Derived.OpenShut
namespace Go.Proofs.YtlmblfkcmhgdaaaGreat.linkCalls
open Go.ChangeShapes Go.WideShapes Go.ChangeAt Go.RowKit
set_option linter.unusedVariables false
set_option linter.unusedSimpArgs false

theorem own : ownKnob Tryz.prog.godebug = none := by kernel_rfl
open OO OJ RsM RsF RsB RsY LM KB KC KM KN KG KW KI KQ KU KT KO MB MM LV
open KCc hiding TO
abbrev TBy : TypeId := 5
theorem conv1 (x : Int) (w : World) : (convert 26 9 (.slice (some ⟨w.heap.size, 0, none⟩) 1 1)).run Tryz.prog (w.alloc (.cells #[.int .u8 x] TBy)) = .ok (.string ⟨#[UInt8.ofNat x.toNat]⟩) (w.alloc (.cells #[.int .u8 x] TBy)) := by
  rw [run_convert_bytes_string (w.alloc (.cells #[.int .u8 x] TBy)) _ _ 5 _ _ _ Tryz.underlying26 Tryz.underlying5 Tryz.underlying9]
  have hload : (loadCells ⟨w.heap.size, 0, none⟩ 1).run Tryz.prog (w.alloc (.cells #[.int .u8 x] TBy)) = .ok (List.map (Value.int .u8) [x]).toArray (w.alloc (.cells #[.int .u8 x] TBy)) :=
    run_loadCells_list (w.alloc (.cells #[.int .u8 x] TBy)) ⟨w.heap.size, 0, none⟩ [.int .u8 x] (fun j v hv => by
      match j, hv with
      | 0, hv => cases hv; exact Lib.cell_of_heap (heap_alloc_new w _) 0
      | j + 1, hv => simp at hv)
  rw [run_bytesToString _ _ _ _ _ hload]
  rfl
theorem nm_eq : ∀ i : Fin 10, ({ data := #[102] } : ByteArray) ++ { data := #[97 + UInt8.ofNat i.val] } = nmB i.val := by decide +kernel
set_option maxRecDepth 100000 in
theorem name_ (i : Nat) (h : i < 10) (w : World) : Calls Tryz.prog 18 #[.int .i64 (i : Int)] w fun e w' => e = .returned (.string (nmB i)) ∧ Below w.heap.size w w' := by
  have hc := conv1
  have e1 : IntKind.u8.wrap (97 + IntKind.u8.wrap (i : Int)) = ((97 + i : Nat) : Int) := by simp [IntKind.wrap, IntKind.bits, IntKind.signed]; omega
  go_enter Tryz.func18, Tryz.ntmps18
  go_wp2
  go_ret
  exact ⟨by show Ending.returned (Value.string ({ data := #[102] } ++ { data := #[97 + UInt8.ofNat i] })) = _; rw [nm_eq ⟨i, h⟩], (Below.refl _ _).alloc (Nat.le_refl _) _⟩
theorem sy_info : (Tryz.prog.info? TSy).map (fun i => (i.zero, i.size, i.bytes)) = some (some (.agg #[.string ByteArray.empty, .int .i64 0, .int .i64 0, .int .i64 0, .bool false]), 5, 48) := by kernel_rfl
theorem re_info : (Tryz.prog.info? TRe).map (fun i => (i.zero, i.size, i.bytes)) = some (some (.agg #[.int .i64 0, .int .i64 0, .int .i64 0, .int .i64 0, .int .i64 0]), 5, 40) := by kernel_rfl
theorem in_info : (Tryz.prog.info? TIn).map (fun i => (i.zero, i.size, i.bytes)) = some (some (.agg #[.int .i64 0, .int .i64 0, .int .i64 0, .int .i64 0, .int .i64 0]), 5, 40) := by kernel_rfl
/-- what a cut leaves: a symbol more -/
def Cu12 (w : World) (H : Nat) (ns : List Nat) (k gl cl go co : Nat) (rv : Value) (vs : List (Value × Value)) (wx : World) : Prop := ∃ g c : Nat, CI w H ns (k + 1) k (k + 2) ((preL k).flatMap insV) k (.slice (some ⟨go, 0, none⟩) (k + 1) co) (.slice (some ⟨gl, 0, none⟩) (k + 2) cl) (.slice none 0 0) (.slice (some ⟨g, 0, none⟩) (k + 1 + 1) c) rv vs wx
theorem rels_own {w : World} {H k : Nat} {v : Value} (h : w.ownsRow H TRe 5 v (k + 1) ((mRels k).flatMap relC ++ [.int .i64 1, .int .i64 ((k : Int) + 2), .int .i64 4, .int .i64 ((k : Int) + 1), .int .i64 0])) : w.ownsRow H TRe 5 v (k + 1) ((mRels (k + 1)).flatMap relC) := by
  rw [rels_succ, show ((2 + k : Nat) : Int) = (k : Int) + 2 by omega, show ((k + 1 : Nat) : Int) = (k : Int) + 1 by omega]
  exact h
theorem at_or {o : Option Nat} {g n s : Nat} (h : o = some g ∨ g = n) (hs : s ≤ n) : o = some g ∨ s ≤ g := h.imp id (fun e => by omega)
def nsOf (xs : List Int) : List Nat := xs.map Int.toNat
theorem ns_bd {xs : List Int} (h : ∀ x ∈ xs, (Lit.int .u8 x).wf = true) : ∀ n ∈ nsOf xs, n ≤ 255 := by
  intro n hn
  obtain ⟨x, hx, rfl⟩ := List.mem_map.1 hn
  have := (Go.bounds_u8 (h x hx))
  omega
theorem nw (w : World) (o : Obj) (k : Nat) (h : k = w.heap.size) : (w.alloc o).heap[k]? = some o := by subst h; exact heap_alloc_new w o
theorem four_at (w : World) (o1 o2 o3 o4 : Obj) : ((((w.alloc o1).alloc o2).alloc o3).alloc o4).heap[w.heap.size + 1]? = some o2 ∧ ((((w.alloc o1).alloc o2).alloc o3).alloc o4).heap[w.heap.size + 1 + 1]? = some o3 ∧ ((((w.alloc o1).alloc o2).alloc o3).alloc o4).heap[w.heap.size + 1 + 1 + 1]? = some o4 ∧ w.heap.size + 4 ≤ ((((w.alloc o1).alloc o2).alloc o3).alloc o4).heap.size ∧ Below w.heap.size w ((((w.alloc o1).alloc o2).alloc o3).alloc o4) := by
  refine ⟨?_, ?_, ?_, by simp only [World.size_alloc]; omega, ?_⟩
  · repeat (first | exact nw _ _ _ (by simp only [World.size_alloc]) | refine (Lib.alloc_old _ _ _ (by simp only [World.size_alloc]; omega)).trans ?_)
  · repeat (first | exact nw _ _ _ (by simp only [World.size_alloc]) | refine (Lib.alloc_old _ _ _ (by simp only [World.size_alloc]; omega)).trans ?_)
  · repeat (first | exact nw _ _ _ (by simp only [World.size_alloc]) | refine (Lib.alloc_old _ _ _ (by simp only [World.size_alloc]; omega)).trans ?_)
  · exact ((((Below.refl _ _).alloc (Nat.le_refl _) _).alloc (by simp only [World.size_alloc]; omega) _).alloc (by simp only [World.size_alloc]; omega) _).alloc (by simp only [World.size_alloc]; omega) _
abbrev MA (b : Nat) : Obj := .cells #[.slice none 0 0, .slice none 0 0, .slice (some ⟨b, 0, none⟩) 1 1, .slice none 0 0] 30
abbrev IA : Obj := .cells #[.int .i64 18, .int .i64 5, .int .i64 1, .int .i64 0, .int .i64 0, .int .i64 18, .int .i64 10, .int .i64 0, .int .i64 0, .int .i64 0] TIn
abbrev SA : Obj := .cells #[.string mainB, .int .i64 1, .int .i64 0, .int .i64 0, .bool true] TSy
theorem ci_start {w w1 : World} (hb : Below w.heap.size w w1) (ns : List Nat) : CI w w1.heap.size ns 0 0 2 ((preL 0).flatMap insV) 0 (.slice (some ⟨w1.heap.size + 1 + 1 + 1, 0, none⟩) 1 1) (.slice (some ⟨w1.heap.size + 1, 0, none⟩) 2 2) (.slice none 0 0) (.slice (some ⟨w1.heap.size + 1 + 1, 0, none⟩) 1 1) (.slice none 0 0) [] ((((w1.alloc (MA (w1.heap.size + 1 + 1))).alloc IA).alloc SA).alloc (MA (w1.heap.size + 1 + 1))) := by
  obtain ⟨h2, h3, h4, h5, h6⟩ := four_at w1 (MA (w1.heap.size + 1 + 1)) IA SA (MA (w1.heap.size + 1 + 1))
  have hd : ∀ {a b : Nat} {n c m d : Nat}, a ≠ b → D (.slice (some ⟨a, 0, none⟩) n c) (.slice (some ⟨b, 0, none⟩) m d) := fun h => .inr (fun e => h (by injection e))
  have hd0 : ∀ {v : Value}, D (.slice none 0 0) v := .inl rfl
  refine ⟨hb.trans (h6.mono hb.size), hb.size, by omega, own_blk h4 (by omega) rfl (by decide), own_blk h3 (by omega) rfl (by decide), World.ownsRow_nil _ _ _ _, own_blk h2 (by omega) rfl (by decide), rfl, fun i p hp => by simp at hp, hd (by omega), hd0.symm, hd (by omega), hd0.symm, hd (by omega), hd0⟩
theorem is_fun (w : World) (x : Nat) : Is (w.alloc (.cells #[.int .i64 18, .int .i64 10, .int .i64 10, .int .i64 0, .int .i64 (x : Int), .int .i64 41, .int .i64 0, .int .i64 1, .int .i64 0, .int .i64 0] TIn)) (.slice (some ⟨w.heap.size, 0, none⟩) 2 2) (funL x) := by
  have hg := heap_alloc_new w (.cells #[.int .i64 18, .int .i64 10, .int .i64 10, .int .i64 0, .int .i64 (x : Int), .int .i64 41, .int .i64 0, .int .i64 1, .int .i64 0, .int .i64 0] TIn)
  refine ⟨w.heap.size, 2, rfl, by simp, fun k a b c d e hk => ?_⟩
  have c := fun j => cell_of_row _ w.heap.size j _ _ _ hg
  match k, hk with
  | 0, hk => cases hk; exact ⟨c 0, c 1, c 2, c 3, c 4⟩
  | 1, hk => cases hk; exact ⟨c 5, c 6, c 7, c 8, c 9⟩
  | (k + 2), hk => simp [funL] at hk
theorem obj_step {w0 w8 w9 w10 w11 : World} {H ks kr nl ko : Nat} {li : List Value} {ns : List Nat} {ov lv xv sv rv : Value} {vs : List (Value × Value)} {t ct g c go co : Nat} (h : CI w0 H ns ks kr nl li ko ov lv xv sv rv vs w8) (ho : ov = .slice (some ⟨go, 0, none⟩) (ko + 1) co) (hb9 : Below w8.heap.size w8 w9) (ht : w8.heap.size ≤ t) (ht9 : t < w9.heap.size) (hc : 2 ≤ ct) (hc2 : ct ≤ maxLen) (row : Row .u32 w9 t 0 ((funL (ns.getD ko 0)).map wordOf)) (hb10 : Below w9.heap.size w9 w10)
    (hgrow : ((w10.alloc (.cells #[.string (nmB ko), .int .i64 1, .int .i64 0, .int .i64 0, .bool true] TSy)).alloc (.cells #[.slice (some ⟨t, 0, none⟩) 2 ct, .slice none 0 0, .slice (some ⟨w10.heap.size, 0, none⟩) 1 1, .slice none 0 0] KO.TO)).grownBy w11 ov.ownBlock) (hat : ov.ownBlock = some g ∨ g = w10.heap.size + 1 + 1)
    (hown : w11.ownsRow H KO.TO 4 (.slice (some ⟨g, 0, none⟩) (ko + 1 + 1) c) (ko + 1 + 1) (oC xv sv rv vs ++ [.slice (some ⟨t, 0, none⟩) 2 ct, .slice none 0 0, .slice (some ⟨w10.heap.size, 0, none⟩) 1 1, .slice none 0 0])) :
    CI w0 H ns ks kr nl li (ko + 1) (.slice (some ⟨g, 0, none⟩) (ko + 1 + 1) c) lv xv sv rv (vs ++ [(.slice (some ⟨t, 0, none⟩) 2 ct, .slice (some ⟨w10.heap.size, 0, none⟩) 1 1)]) w11 := by
  have s9 := hb9.size
  have s10 := hb10.size
  have hgo : ov.ownBlock = some go := by rw [ho]; rfl
  have hgl := lt_ h.o go hgo
  have s11 := hgrow.size
  simp only [World.size_alloc] at s11
  have b11 : Below w8.heap.size w8 ((w10.alloc (.cells #[.string (nmB ko), .int .i64 1, .int .i64 0, .int .i64 0, .bool true] TSy)).alloc (.cells #[.slice (some ⟨t, 0, none⟩) 2 ct, .slice none 0 0, .slice (some ⟨w10.heap.size, 0, none⟩) 1 1, .slice none 0 0] KO.TO)) := ((hb9.trans (hb10.mono s9)).alloc (by omega) _).alloc (by simp only [World.size_alloc]; omega) _
  have keep : ∀ k, w8.heap.size ≤ k → k < w10.heap.size + 2 → w11.heap[k]? = ((w10.alloc (.cells #[.string (nmB ko), .int .i64 1, .int .i64 0, .int .i64 0, .bool true] TSy)).alloc (.cells #[.slice (some ⟨t, 0, none⟩) 2 ct, .slice none 0 0, .slice (some ⟨w10.heap.size, 0, none⟩) 1 1, .slice none 0 0] KO.TO)).heap[k]? := fun k h1 h2 => hgrow.block k (by simp only [World.size_alloc]; omega) (by rw [hgo]; intro e; injection e with e; omega)
  have ngt : ∀ k, w8.heap.size ≤ k → k < w10.heap.size + 2 → g ≠ k := fun k h1 h2 e => by
    rcases hat with q | q
    · rw [hgo] at q; injection q with q; omega
    · omega
  refine h.obj (gr_trans (gr_none b11 _) hgrow) (at_or hat (by omega)) hown ht (by omega) (ngt _ ht (by omega)) (ngt _ (by omega) (by omega)) (by omega) (by omega) hc hc2 (fun j z hj => ?_) ?_
  · have e : w11.heap[t]? = w9.heap[t]? := (keep t ht (by omega)).trans ((Lib.alloc_old _ _ _ (by simp only [World.size_alloc]; omega)).trans ((Lib.alloc_old _ _ _ (by omega)).trans (hb10.block t ht9)))
    rw [← row j z hj]
    exact cell_same e _
  · exact (keep _ (by omega) (by omega)).trans ((Lib.alloc_old _ _ _ (by simp only [World.size_alloc]; omega)).trans (heap_alloc_new w10 _))

set_option maxRecDepth 100000 in
set_option maxHeartbeats 8000000 in
theorem walk (v0 : Value) (xs0 : List Int) (a1 : Int) (wa1 : (Lit.int .i64 a1).wf = true) (w : World) (ha0 : MO.Arg .u8 w v0 xs0) (hx0 : ∀ x ∈ xs0, (Lit.int .u8 x).wf = true) :
    Calls Tryz.prog 6 #[v0, .int .i64 a1] w fun e w' => e = .returned (.bool true) ∧ Below w.heap.size w w' := by
  obtain ⟨p0, c0, rfl, hs0⟩ := ha0
  have HS0 := Lib.hid hs0
  have HX0 := Lib.hid hx0
  clear hs0 hx0
  by_cases hbig : 10 < xs0.length
  · have g1 : (10 : Int) < (xs0.length : Int) := by omega
    go_enter Tryz.func6, Tryz.ntmps6
    go_wp2_with (go_at_call 10; (first
      | (with_reducible refine (KW.awake_ _).mono ?_; rintro e w2 ⟨rfl, hb2⟩; have HB2 := Lib.hid (HB1.out.trans (hb2.mono HB1.out.size)); clear hb2)
      | (with_reducible refine (KW.awake_ _).mono ?_; rintro e w1 ⟨rfl, hb1⟩; have HB1 := Lib.hid hb1; clear hb1)))
    go_ret
    exact ⟨rfl, HB2.out⟩
  · have g1 : ¬ (10 : Int) < (xs0.length : Int) := by omega
    go_enter Tryz.func6, Tryz.ntmps6
    go_upto_region 4 with (go_at_call 10; with_reducible refine (KW.awake_ _).mono ?_; rintro e w1 ⟨rfl, hb1⟩; have HB1 := Lib.hid hb1; clear hb1)
    clear g1
    go_upto_region 9 with fail
    have hci := ci_start HB1.out (nsOf xs0)
    obtain ⟨W0, hW0⟩ : ∃ W0, W0 = ((((w1.alloc (MA (w1.heap.size + 1 + 1))).alloc IA).alloc SA).alloc (MA (w1.heap.size + 1 + 1))) := ⟨_, rfl⟩
    rw [← hW0] at hci
    simp only [MA, IA, SA, mainB] at hW0
    rw [← hW0]
    clear hW0
    have HCI := Lib.hid hci
    clear hci
    have HNB := Lib.hid (ns_bd HX0.out)
    obtain ⟨is, hs, hs0, hs1, hs2⟩ := info_parts sy_info
    obtain ⟨ir, hr, hr0, hr1, hr2⟩ := info_parts re_info
    obtain ⟨ii, hi, hi0, hi1, hi2⟩ := info_parts in_info
    obtain ⟨io, ho, ho0, ho1, ho2⟩ := info_parts infoO
    have hl10 : xs0.length ≤ 10 := by omega
    clear hbig
    go_wp2_with fail
    go_loopw [7, 8, 9, 36] (fun lv ov sm iv wr => ∃ (k gl cl go co : Nat), k ≤ xs0.length ∧ iv = .int .i64 (k : Int) ∧ sm = .int .u32 (((nsOf xs0).take k).sum : Nat) ∧ lv = .slice (some ⟨gl, 0, none⟩) (k + 2) cl ∧ ov = .slice (some ⟨go, 0, none⟩) (k + 1) co ∧ Hid (∃ (sv rv : Value) (vs : List (Value × Value)), CI w w1.heap.size (nsOf xs0) k k (k + 2) ((preL k).flatMap insV) k (.slice (some ⟨go, 0, none⟩) (k + 1) co) (.slice (some ⟨gl, 0, none⟩) (k + 2) cl) (.slice none 0 0) sv rv vs wr)) (fun _ _ _ iv _ => xs0.length - (intOf iv).toNat)
    case atStart => exact ⟨0, _, _, _, _, Nat.zero_le _, rfl, rfl, rfl, rfl, Lib.hid ⟨_, _, _, HCI.out⟩⟩
    case round =>
      obtain ⟨k, gl, cl, go, co, hk, rfl, rfl, rfl, rfl, HC⟩ := hrel
      by_cases hlt : k < xs0.length
      · obtain ⟨g, o, rfl, -, -, hg, hc⟩ := HS0.out (by intro e; rw [e] at hlt; simp at hlt)
        obtain ⟨sv, rv, vs, hC⟩ := HC.out
        obtain ⟨gs, cs, rfl, -⟩ := own_some hC.s (by omega)
        obtain ⟨pr, cr, rfl⟩ := LV.own_form hC.r
        obtain ⟨⟨m0, m2, m3⟩, mf⟩ := main_cells hC.o
        have hxk := List.getElem?_eq_getElem hlt
        have hck := (hC.bel.cell (p := ⟨g, o + k, none⟩) hg).trans (hc k _ hxk)
        have hnk : (nsOf xs0).getD k 0 = (xs0[k]).toNat := by unfold nsOf; rw [List.getD_eq_getElem?_getD, List.getElem?_map, hxk]; rfl
        have hbd := Go.bounds_u8 (HX0.out _ (List.getElem_mem hlt))
        have hnl : (nsOf xs0).length = xs0.length := by simp [nsOf]
        have HSU := Lib.hid (take_sum (ns := nsOf xs0) (j := k) (by omega))
        have hsb := KH.sum_bd (ns := (nsOf xs0).take k) fun n hn => HNB.out n (List.mem_of_mem_take hn)
        have htl : ((nsOf xs0).take k).length ≤ 10 := by rw [List.length_take]; omega
        have mf2 := mf 2
        have HNK := Lib.hid hnk
        have HCI2 := Lib.hid hC
        have hwl := hC.le
        clear hc hxk hnk mf m0 m3 hC
        generalize ((nsOf xs0).take k).sum = S at *
        generalize xs0[k] = x at *
        obtain ⟨xn, rfl⟩ : ∃ xn : Nat, x = (xn : Int) := ⟨x.toNat, by omega⟩
        have hS : S ≤ 2550 := by omega
        clear hsb htl
        go_upto_region 12 with fail
        go_cut [11] (fun s11 wx => s11 = .int .u8 (xn : Int) ∧ Cu12 w w1.heap.size (nsOf xs0) k gl cl go co (.slice pr k cr) vs wx)
        case first =>
          go_region_law ((first
            | (refine step_append_lies _ (by rfl) _ _ _ (by rfl) w1.heap.size TSy is (.agg #[.string ByteArray.empty, .int .i64 0, .int .i64 0, .int .i64 0, .bool false]) 5 48 Tryz.underlying27 hs hs0 hs1 hs2 rfl (by decide) (.slice (some ⟨gs, 0, none⟩) (k + 1) cs) (k + 1) ((mSyms k).flatMap symC) (by rfl) (HC5.out.s.alloc _) ⟨w5.heap.size, 0, none⟩ 1 1 [.string (nmB k), .int .i64 0, .int .i64 0, .int .i64 0, .bool true] (by rfl) (by rfl) (World.news_of_block (cs := #[.string (nmB k), .int .i64 0, .int .i64 0, .int .i64 0, .bool true]) (t := TSy) (fr := (0, 0)) (heap_alloc_new w5 _)) (by simp [Value.oneCell']) (by decide) (by unfold maxLen; omega) (by omega) (by simp only [World.size_alloc]; omega) (w5.heap.size + 1) (by simp only [World.size_alloc]) ?_; intro g6 c6 w6 hown6 hgrow6 hat6 hlt6; have HC5a := Lib.hid (HC5.out.below ((Below.refl w5.heap.size w5).alloc (Nat.le_refl _) (.cells #[.string (nmB k), .int .i64 0, .int .i64 0, .int .i64 0, .bool true] TSy))); have o6 := main_cells (HC5a.out.o.kept hgrow6 HC5a.out.os); have q6 := o6.1.2.1; have f6 := o6.2 2; clear o6; rw [← syms_succ] at hown6; have HC6 := Lib.hid (CI.sym HC5a.out rfl hgrow6 (at_or hat6 (by simp only [World.size_alloc]; omega)) hown6); clear hown6 hgrow6 hat6)
            | (go_simp; (with_reducible refine (name_ k (by omega) _).mono ?_); rintro e w5 ⟨rfl, hb5⟩; have hb5' : Below wr.heap.size wr w5 := ((Below.refl wr.heap.size wr).drew).trans hb5; have HC5 := Lib.hid (HCI2.out.below hb5'); have q2 : w5.cell? ⟨go, 2, none⟩ = some _ := (main_cells HC5.out.o).1.2.1; have hw5 := hb5'.size; have q2a : (w5.alloc (.cells #[.string (nmB k), .int .i64 0, .int .i64 0, .int .i64 0, .bool true] TSy)).cell? ⟨go, 2, none⟩ = some _ := (main_cells (HC5.out.below ((Below.refl w5.heap.size w5).alloc (Nat.le_refl _) _)).o).1.2.1; clear hb5 hb5')))
          all_goals (go_wp2; go_meet; exact ⟨rfl, g6, c6, HC6.out⟩)
        case rest =>
        obtain ⟨rfl, gs6, cs6, hC⟩ := hcut
        clear m2 mf2 hck hg
        obtain ⟨⟨-, -, m3⟩, mf⟩ := main_cells hC.o
        have mf3 := mf 3
        have hwl := hC.le
        have HC6 := Lib.hid hC
        clear mf hC HCI2 HC
        go_upto_region 14 with (at_builtin; refine wpList_append_lies _ rfl _ _ 28 rfl w1.heap.size TRe ir (.agg #[.int .i64 0, .int .i64 0, .int .i64 0, .int .i64 0, .int .i64 0]) 5 40 Tryz.underlying28 hr hr0 hr1 hr2 rfl (by decide) (.slice pr k cr) k ((mRels k).flatMap relC) rfl (HC6.out.r.alloc _) ⟨wc.heap.size, 0, none⟩ 1 1 [.int .i64 1, .int .i64 ((k : Int) + 2), .int .i64 4, .int .i64 ((k : Int) + 1), .int .i64 0] rfl rfl (World.news_of_block (cs := #[.int .i64 1, .int .i64 ((k : Int) + 2), .int .i64 4, .int .i64 ((k : Int) + 1), .int .i64 0]) (t := TRe) (fr := (0, 0)) (heap_alloc_new wc _)) (by simp [Value.oneCell']) (by decide) (by unfold maxLen; omega) (by omega) (by simp only [World.size_alloc]; omega) (wc.heap.size + 1) (by simp only [World.size_alloc]) ?_; go_must (intro g7 c7 w7 hown7 hgrow7 hat7 hlt7; have HC6a := Lib.hid (HC6.out.below ((Below.refl wc.heap.size wc).alloc (Nat.le_refl _) (.cells #[.int .i64 1, .int .i64 ((k : Int) + 2), .int .i64 4, .int .i64 ((k : Int) + 1), .int .i64 0] TRe))); have o7 := main_cells (HC6a.out.o.kept hgrow7 HC6a.out.or_); have q7 := o7.1.2.2; have f7 := o7.2 3; clear o7; have HC7 := Lib.hid (CI.rel HC6a.out rfl hgrow7 (at_or hat7 (by simp only [World.size_alloc]; omega)) (rels_own hown7)); clear hown7 hgrow7 hat7))
        obtain ⟨wd, hwd⟩ : ∃ wd, wd = w7.setCell ⟨go, 3, none⟩ (.slice (some ⟨g7, 0, none⟩) (k + 1) c7) := ⟨_, rfl⟩
        have hC7 := HC7.out
        rw [← hwd] at hC7
        rw [← hwd]
        clear hwd q7 f7 m3 mf3 HC6a HC6 HC7
        have HC7 := Lib.hid hC7
        have hwl7 := hC7.le
        clear hC7
        go_upto_region 15 with (at_builtin; refine wpList_append_lies _ rfl _ _ 55 rfl w1.heap.size TIn ii (.agg #[.int .i64 0, .int .i64 0, .int .i64 0, .int .i64 0, .int .i64 0]) 5 40 Tryz.underlying55 hi hi0 hi1 hi2 rfl (by decide) (.slice (some ⟨gl, 0, none⟩) (k + 2) cl) (k + 2) ((preL k).flatMap insV) rfl (HC7.out.l.alloc _) ⟨wd.heap.size, 0, none⟩ 1 1 [.int .i64 40, .int .i64 1, .int .i64 0, .int .i64 0, .int .i64 0] rfl rfl (World.news_of_block (cs := #[.int .i64 40, .int .i64 1, .int .i64 0, .int .i64 0, .int .i64 0]) (t := TIn) (fr := (0, 0)) (heap_alloc_new wd _)) (by simp [Value.oneCell']) (by decide) (by unfold maxLen; omega) (by omega) (by simp only [World.size_alloc]; omega) (wd.heap.size + 1) (by simp only [World.size_alloc]) ?_; go_must (intro g8 c8 w8 hown8 hgrow8 hat8 hlt8; have HC8 := Lib.hid (CI.ins (HC7.out.below ((Below.refl wd.heap.size wd).alloc (Nat.le_refl _) (.cells #[.int .i64 40, .int .i64 1, .int .i64 0, .int .i64 0, .int .i64 0] TIn))) hgrow8 (at_or hat8 (by simp only [World.size_alloc]; omega)) hown8); clear hown8 hgrow8 hat8))
        have hgo8 := (lt_ HC8.out.o) go rfl
        have hxe := HNK.out
        rw [Int.toNat_natCast] at hxe
        have cw := words_ _ _ (funL xn) (by simp [funL]) (is_fun w8 xn) (fun_good (by omega))
        go_upto_region 16 with (first
          | (go_at_call 19; go_must (with_reducible refine cw.mono ?_); rintro e w9 ⟨v9, rfl, ho9, hb9⟩; obtain ⟨t, ct, rfl, htb, ht9, hct, hct2, hr9⟩ := row_of (n := 2) ho9 (by decide); have HR9 := Lib.hid hr9; have HB9 := Lib.hid (((Below.refl w8.heap.size w8).alloc (Nat.le_refl _) (.cells #[.int .i64 18, .int .i64 10, .int .i64 10, .int .i64 0, .int .i64 (xn : Int), .int .i64 41, .int .i64 0, .int .i64 1, .int .i64 0, .int .i64 0] TIn)).trans (hb9.mono (by simp))); rw [World.size_alloc] at htb; clear ho9 hb9 cw hr9)
          | (go_at_call 18; go_must (with_reducible refine (name_ k (by omega) _).mono ?_); rintro e w10 ⟨rfl, hb10⟩; have HB10 := Lib.hid hb10; have hs10 := hb10.size; have HC11 := Lib.hid (HC8.out.below (((HB9.out.trans (hb10.mono HB9.out.size)).alloc (Nat.le_trans HB9.out.size hb10.size) (.cells #[.string (nmB k), .int .i64 1, .int .i64 0, .int .i64 0, .bool true] TSy)).alloc (by simp only [World.size_alloc]; have := HB9.out.size; omega) (.cells #[.slice (some ⟨t, 0, none⟩) 2 ct, .slice none 0 0, .slice (some ⟨w10.heap.size, 0, none⟩) 1 1, .slice none 0 0] KO.TO))); have hw11 := HC11.out.le; simp only [World.size_alloc] at hw11; clear hb10)
          | (at_builtin; refine wpList_append_lies _ rfl _ _ 22 rfl w1.heap.size KO.TO io (.agg #[.slice none 0 0, .slice none 0 0, .slice none 0 0, .slice none 0 0]) 4 96 Tryz.underlying22 ho ho0 ho1 ho2 rfl (by decide) (.slice (some ⟨go, 0, none⟩) (k + 1) co) (k + 1) _ rfl HC11.out.o ⟨w10.heap.size + 1, 0, none⟩ 1 1 [.slice (some ⟨t, 0, none⟩) 2 ct, .slice none 0 0, .slice (some ⟨w10.heap.size, 0, none⟩) 1 1, .slice none 0 0] rfl rfl (World.news_of_block (cs := #[.slice (some ⟨t, 0, none⟩) 2 ct, .slice none 0 0, .slice (some ⟨w10.heap.size, 0, none⟩) 1 1, .slice none 0 0]) (t := KO.TO) (fr := (0, 0)) (nw _ _ _ (by simp only [World.size_alloc]))) (by simp [Value.oneCell']) (by decide) (by unfold maxLen; omega) (by omega) (by simp only [World.size_alloc]; omega) (w10.heap.size + 1 + 1) (by simp only [World.size_alloc]) ?_; go_must (intro g11 c11 w11 hown11 hgrow11 hat11 hlt11; have HC12 := Lib.hid (obj_step HC8.out rfl HB9.out (by omega) ht9 hct hct2 (by rw [hxe]; exact HR9.out) HB10.out hgrow11 hat11 hown11); clear hown11 hgrow11 hat11)))
        go_wp2
        have fin : ∃ (sv rv : Value) (vs : List (Value × Value)), CI w w1.heap.size (nsOf xs0) (k + 1) (k + 1) (k + 1 + 2) ((preL (k + 1)).flatMap insV) (k + 1) (.slice (some ⟨g11, 0, none⟩) (k + 1 + 1) c11) (.slice (some ⟨g8, 0, none⟩) (k + 1 + 2) c8) (.slice none 0 0) sv rv vs w11 := by
          rw [pre_succ, show k + 1 + 2 = k + 2 + 1 by omega]
          exact ⟨_, _, _, HC12.out⟩
        refine ⟨⟨k + 1, g8, c8, g11, c11, by omega, by go_num, ?_, by rw [show k + 1 + 2 = k + 2 + 1 by omega], rfl, Lib.hid fin⟩, by simp [intOf]; omega⟩
        rw [HSU.out, hxe]
        go_num
      · obtain rfl : k = xs0.length := by omega
        obtain ⟨sv, rv, vs, hC⟩ := HC.out
        have hnl : (nsOf xs0).length = xs0.length := by simp [nsOf]
        have hsum : ((nsOf xs0).take xs0.length).sum = (nsOf xs0).sum := by rw [← hnl, List.take_length]
        rw [hsum]
        have hwl := hC.le
        have HC8 := Lib.hid hC
        have HNL := Lib.hid hnl
        clear hsum hC HC hnl HCI
        go_upto_region 19 with (at_builtin; refine wpList_append_lies _ rfl _ _ 55 rfl w1.heap.size TIn ii (.agg #[.int .i64 0, .int .i64 0, .int .i64 0, .int .i64 0, .int .i64 0]) 5 40 Tryz.underlying55 hi hi0 hi1 hi2 rfl (by decide) (.slice (some ⟨gl, 0, none⟩) (xs0.length + 2) cl) (xs0.length + 2) ((preL xs0.length).flatMap insV) rfl (HC8.out.l.alloc _) ⟨wr.heap.size, 0, none⟩ 1 1 [.int .i64 41, .int .i64 0, .int .i64 5, .int .i64 0, .int .i64 0] rfl rfl (World.news_of_block (cs := #[.int .i64 41, .int .i64 0, .int .i64 5, .int .i64 0, .int .i64 0]) (t := TIn) (fr := (0, 0)) (heap_alloc_new wr _)) (by simp [Value.oneCell']) (by decide) (by unfold maxLen; omega) (by omega) (by simp only [World.size_alloc]; omega) (wr.heap.size + 1) (by simp only [World.size_alloc]) ?_; go_must (intro g8 c8 w8 hown8 hgrow8 hat8 hlt8; rw [pre_all] at hown8; have HC9 := Lib.hid (CI.ins (HC8.out.below ((Below.refl wr.heap.size wr).alloc (Nat.le_refl _) (.cells #[.int .i64 41, .int .i64 0, .int .i64 5, .int .i64 0, .int .i64 0] TIn))) hgrow8 (at_or hat8 (by simp only [World.size_alloc]; omega)) hown8); clear hown8 hgrow8 hat8))
        have his := is_of HC9.out.l (by rw [call_len]) (by omega)
        have cw := words_ _ _ (callL xs0.length) (by rw [call_len]; omega) his (call_good _)
        have hul : (u32s ((callL xs0.length).map wordOf)).length = xs0.length + 3 := by unfold u32s; rw [List.length_map, List.length_map, call_len]
        have HUL := Lib.hid hul
        clear his hul
        go_upto_region 20 with (go_at_call 19; go_must (with_reducible refine cw.mono ?_); rintro e w9 ⟨v9, rfl, ho9, hb9⟩; rw [HUL.out] at ho9; obtain ⟨tx, cx, rfl, htb, ht9, hct, hct2, hr9⟩ := row_of ho9 (by omega); have HR9 := Lib.hid hr9; have HC10 := Lib.hid (HC9.out.below hb9); have o9 := main_cells HC10.out.o; have q9 := o9.1.1; have f9 := o9.2 0; clear o9 ho9 hb9 cw hr9)
        obtain ⟨W9, hW9⟩ : ∃ W9, W9 = w9.setCell ⟨go, 0, none⟩ (.slice (some ⟨tx, 0, none⟩) (xs0.length + 3) cx) := ⟨_, rfl⟩
        have hC11 := HC10.out.text rfl (.slice (some ⟨tx, 0, none⟩) (xs0.length + 3) cx)
        have hr11 : Row .u32 W9 tx 0 ((callL xs0.length).map wordOf) := fun j z hj => by
          rw [hW9, ← HR9.out j z hj]
          have hgt : go ≠ tx := by have := (lt_ HC9.out.o) go rfl; omega
          exact cell_same (heap_setCell_other w9 ⟨go, 0, none⟩ tx _ (Ne.symm hgt)) _
        have hx11 : tx < W9.heap.size := by rw [hW9]; simpa using ht9
        rw [← hW9] at hC11
        rw [← hW9]
        clear hW9 q9 f9 htb ht9
        have hall := hC11.objs HNL.out.symm hx11 hct hct2 hr11
        obtain ⟨g4, c4, e4, hgo2, hgo3, hcc, hcc2⟩ := own_some hC11.o (by omega)
        cases e4
        have hocell := fun j u e => hC11.o.cells (g := go) rfl j u e
        simp only [OO.add_plain, Nat.zero_add] at hocell
        have hocl := oC_len (.slice (some ⟨tx, 0, none⟩) (xs0.length + 3) cx) sv rv vs
        rw [hC11.n] at hocl
        have hone : ∀ u ∈ oC (.slice (some ⟨tx, 0, none⟩) (xs0.length + 3) cx) sv rv vs, u.oneCell' = true := by
          obtain ⟨gs, cs, rfl, -⟩ := own_some hC11.s (by omega)
          obtain ⟨pr, cr, rfl⟩ := LV.own_form hC11.r
          intro u hu
          unfold oC at hu
          rcases List.mem_append.1 hu with hu | hu
          · simp only [List.mem_cons, List.not_mem_nil, or_false] at hu
            rcases hu with rfl | rfl | rfl | rfl <;> rfl
          · obtain ⟨p, hp, hu⟩ := List.mem_flatMap.1 hu
            obtain ⟨i, hi⟩ := List.getElem?_of_mem hp
            obtain ⟨t, c, y, rfl, -⟩ := (hC11.f i p hi).ex
            simp only [List.mem_cons, List.not_mem_nil, or_false] at hu
            rcases hu with rfl | rfl | rfl | rfl <;> rfl
        have HB11 := Lib.hid hC11.bel
        generalize oC (.slice (some ⟨tx, 0, none⟩) (xs0.length + 3) cx) sv rv vs = oc at *
        obtain ⟨kk, hkn, hK⟩ : ∃ kk : Nat, kk < xs0.length + 1 ∧ wrap64 ((IntKind.u64.wrap a1).tmod ((xs0.length : Int) + 1)) = (kk : Int) := by
          have hn : (0 : Int) < (xs0.length : Int) + 1 := by omega
          have h1 := Int.emod_lt_of_pos (a1 % 18446744073709551616) hn
          have h2 := Int.emod_nonneg (a1 % 18446744073709551616) (Int.ne_of_gt hn)
          refine ⟨((a1 % 18446744073709551616) % ((xs0.length : Int) + 1)).toNat, by omega, ?_⟩
          rw [show IntKind.u64.wrap a1 = a1 % 18446744073709551616 by simp [IntKind.wrap, IntKind.bits, IntKind.signed], Int.tmod_eq_emod_of_nonneg (by omega), IntWalk.wrap64_in _ (by omega)]
          omega
        have HK := Lib.hid hK
        have HHALL := Lib.hid hall
        have HOCE := Lib.hid hocell
        have HONE := Lib.hid hone
        clear hK hall hocell hone hC11 hr11 HC10 HC9 HC8 HR9 HUL hwl
        go_upto_region 21 with fail
        rw [HK.out]
        clear HK
        have d1 : (kk : Int) ≤ (xs0.length : Int) + 1 := by omega
        have d2 : (0 : Int) ≤ (kk : Int) := by omega
        have d3 : (kk : Int) ≤ (co : Int) := by omega
        have d4 : (xs0.length : Int) + 1 ≤ (co : Int) := by omega
        have d5 : ¬ co = kk := by omega
        have e2 : ((xs0.length + 1 - kk : Nat) : Int) = (xs0.length : Int) + 1 - kk := by omega
        clear e2
        have hl1 : (oc.drop (kk * 4)).length = (xs0.length + 1 - kk) * 4 := by rw [List.length_drop, hocl]; omega
        have hl2 : (oc.take (kk * 4)).length = kk * 4 := by rw [List.length_take, hocl]; omega
        have hg1 : ∀ (W : World), Below W9.heap.size W9 W → ∀ j u, (oc.drop (kk * 4))[j]? = some u → W.cell? ⟨go, kk * 4 + j, none⟩ = some u := fun W hW j u hu => by
          rw [List.getElem?_drop] at hu
          exact (hW.cell (p := ⟨go, kk * 4 + j, none⟩) hgo2).trans (HOCE.out _ _ hu)
        have hg2 : ∀ (W : World), Below W9.heap.size W9 W → ∀ j u, (oc.take (kk * 4))[j]? = some u → W.cell? ⟨go, 0 + j, none⟩ = some u := fun W hW j u hu => by
          have hj : j < kk * 4 := by have := (List.getElem?_eq_some_iff.1 hu).1; omega
          rw [List.getElem?_take, if_pos hj] at hu
          rw [Nat.zero_add]
          exact (hW.cell (p := ⟨go, j, none⟩) hgo2).trans (HOCE.out _ _ hu)
        have HG1 := Lib.hid hg1
        have HG2 := Lib.hid hg2
        clear hg1 hg2
        go_region_held3 (fun w' => True) (first | trivial | go_keep)
          ((first
            | (refine step_append_sl0 _ (by rfl) _ _ _ (by rfl) W9.heap.size KO.TO io (.agg #[.slice none 0 0, .slice none 0 0, .slice none 0 0, .slice none 0 0]) 4 96 Tryz.underlying22 ho ho0 ho1 ho2 rfl (by decide) (W9.heap.size) (by rfl) ((own0 W9 W9.heap.size rfl (Nat.le_refl _)).drew) (some ⟨go, kk * 4, none⟩) (xs0.length + 1 - kk) (co - kk) (oc.drop (kk * 4)) (by rfl) hl1 (fun _ => ⟨go, kk * 4, rfl, HG1.out _ ((Below.refl W9.heap.size W9).alloc (Nat.le_refl _) _).drew⟩) (fun u hu => HONE.out u (List.mem_of_mem_drop hu)) (by unfold maxLen; omega) (by omega) (by simp) ?_; intro pA cA wa hownA hgrowA; have HBA := Lib.hid (((Below.refl W9.heap.size W9).alloc (Nat.le_refl _) _).drew.grown hgrowA (by simp) (fun g hg => by cases hg; exact Nat.le_refl _)); have HOA := Lib.hid hownA)
            | (refine step_append_sl _ (by simp [Region.wanted]) _ _ _ (by rfl) W9.heap.size KO.TO io (.agg #[.slice none 0 0, .slice none 0 0, .slice none 0 0, .slice none 0 0]) 4 96 Tryz.underlying22 ho ho0 ho1 ho2 rfl (by decide) (.slice pA (xs0.length + 1 - kk) cA) (xs0.length + 1 - kk) (oc.drop (kk * 4)) (by rfl) HOA.out (some ⟨go, 0, none⟩) kk co (oc.take (kk * 4)) (by rfl) hl2 (fun _ => ⟨go, 0, rfl, HG2.out _ HBA.out⟩) (fun u hu => HONE.out u (List.mem_of_mem_take hu)) (by unfold maxLen; omega) (by omega) HBA.out.size ?_; intro pB cB wb hownB hgrowB _; have HBB := Lib.hid (HBA.out.grown hgrowB HBA.out.size (fun g hg => (HOA.out.lt g hg).1)); have HOB := Lib.hid hownB)))
        have hnk : xs0.length + 1 - kk + kk = xs0.length + 1 := by omega
        rw [hnk] at hownB
        rw [hnk]
        have hbw : Below W9.heap.size W9 wb := HBB.out
        have htu : ObjsAt wb.heap.size wb (.slice pB (xs0.length + 1) cB) (turned (cObjs (nsOf xs0)) kk) := by
          refine objs_of (by rw [turned_len, c_len, HNL.out]) hownB (turned_cells (by rw [c_len, HNL.out]; omega) (by rw [hocl, c_len, HNL.out]) fun i x hx => ?_)
          obtain ⟨v0, v1, v2, v3, e0, e1, e2, e3, ho⟩ := HHALL.out i x hx
          exact ⟨v0, v1, v2, v3, e0, e1, e2, e3, (ho.below hbw).up hbw.size⟩
        have R := turn_of (ns := nsOf xs0) (by rw [HNL.out]; omega) HNB.out (k := kk) (by rw [c_len, HNL.out]; omega)
        obtain ⟨bs, hl, hdo⟩ := t_does R
        have hd := (t_size R).1
        obtain ⟨nn, hnn⟩ : ∃ nn, LM.dend (szL (turned (cObjs (nsOf xs0)) kk)) = nn := ⟨_, rfl⟩
        rw [hnn] at hdo hd
        have cl := link_ok (w := wb) (n₀ := wb.heap.size) (Nat.le_refl _) htu (t_wf R) (by rw [turned_len, c_len, HNL.out]; omega) (fun o ho => by
          rcases c_mem (R.mem o ho) with rfl | ⟨i, hi, rfl⟩
          · refine ⟨?_, by simp [mainC], by simp [mainC]; rw [HNL.out]; omega, by simp [mainC]; rw [HNL.out]; omega⟩
            show ((callL _).map wordOf).length ≤ _
            rw [List.length_map, call_len, HNL.out]; omega
          · exact ⟨by simp [fO, oneO, funL], by simp [fO, oneO], by simp [fO, oneO], by simp [fO, oneO]⟩) hl hnn
        obtain ⟨N, hN⟩ : ∃ N : Nat, MW.up (MW.up (nn : Int) + 16) = N := ⟨(MW.up (MW.up (nn : Int) + 16)).toNat, by unfold MW.up; omega⟩
        have hN1 : nn ≤ N ∧ N ≤ 2097152 ∧ 0 ≤ MW.up (nn : Int) ∧ MW.up (nn : Int) ≤ 4294967295 := by unfold MW.up at hN ⊢; omega
        obtain ⟨T, hT, hT1, hT2, hT3, hT4⟩ := hdo N (MW.up (nn : Int)) hN1.1 hN1.2.1
        rw [HNL.out] at hT3
        have HT := Lib.hid (⟨hT, hT1, hT2, hT3, hT4⟩ : _ ∧ _ ∧ _ ∧ _ ∧ _)
        have HNN := Lib.hid (⟨hN, hN1, (by omega : nn ≤ 100000)⟩ : _ ∧ _ ∧ _)
        have hS := KH.sum_bd HNB.out
        rw [HNL.out] at hS
        have hS2 : (nsOf xs0).sum ≤ 2550 := by omega
        have HB9 := Lib.hid (HB11.out.trans (hbw.mono HB11.out.size))
        clear hS htu R hl hdo hd hnn hN hN1 hT hT1 hT2 hT3 hT4 hbw hownA hgrowA hownB hgrowB HOA HOB HBA HBB HOCE HONE HHALL HG1 HG2 hl1 hl2 hocl hnk d1 d2 d3 d4 d5 hx11 hgo2 hgo3 hcc hcc2
        generalize (nsOf xs0).sum = S at *
        go_wp2_with (first
          | (go_at_call 13; go_must (with_reducible refine cl.mono ?_); rintro e w9 ⟨g9, rfl, hg9, hbl, hby, hb9⟩; have HG9 := Lib.hid hg9; have HBY := Lib.hid hby; have HB10 := Lib.hid hb9; have cl2 := load_img hg9 hbl HNN.out.2.2 16 (by omega) (by omega) HNN.out.1; clear hg9 hbl hby hb9 cl)
          | (go_at_call 20; go_must (with_reducible refine cl2.mono ?_); rintro e w11 ⟨b, bm, rfl, A, hb, hbm, hb11⟩; have cg := run_img (F := 1000) A HBY.out HNN.out.2.1.2.2 HNN.out.2.1.2.1 (by omega) HT.out.1 HT.out.2.1 HT.out.2.2.1 HT.out.2.2.2.1 (by omega) HT.out.2.2.2.2; have HB12 := Lib.hid hb11; have HBC := Lib.hid (⟨hb, hbm⟩ : _ ∧ _); clear A hb11 hb hbm cl2)
          | (go_at_call 21; go_must (with_reducible refine cg.mono ?_); rintro e w12 ⟨p5, l5, c5, rfl, O12⟩; have HO12 := Lib.hid O12; clear cg O12))
        go_ret
        have z9 := HB9.out.size
        have c9 := HB9.out.trans (HB10.out.mono z9)
        have z10 := c9.size
        have c11 := (c9.alloc c9.size (.cells #[.int .i64 0, .slice (some ⟨g9, 0, none⟩) nn nn] KG.TI)).trans (HB12.out.mono (by omega))
        have q3 := HBC.out
        have c12 := c11.trans (HO12.out.below c11.size (by omega) (by omega))
        exact ⟨rfl, c12.alloc c12.size _⟩

set_option maxRecDepth 100000 in
theorem lifted (os : Os) (started : os.Started) (H : Type) (enc : TypeId × Value → H) :
    ReturnsInHanded {} Tryz.checked os 6 .any (Rows.linkCallsSpec.pre6 enc Tryz.prog Tryz.f6 Rows.linkCallsRow.domain false) (Rows.linkCallsSpec.post enc Tryz.prog Tryz.f6 false true false false) := by
  refine returnsInHanded_of_change (C := Tryz.checked) own started (by kernel_rfl) Tryz.func6
    (ChangeSpec.witness6 (enc := enc) (C := Tryz.checked) false ⟨#[], #[.slice none 0 0, .int .i64 0], []⟩ 8 (by kernel_rfl) (by kernel_rfl) (by kernel_rfl) (by kernel_rfl)) ?_
  intro W base args ds gs before hval0 hW hcnd _
  have hval : ∀ (j : Nat) t v, Tryz.f6.params[j]? = some t → args[j]? = some v → Value.okWide Tryz.prog W .any base t v := hval0
  have hW' := hW
  obtain ⟨p, q, hA0, hV, rfl, hfz, hnd⟩ := hW
  have hA : DataW.TrodAll enc Tryz.prog W 0 (fun _ => true) true Tryz.f6.params.toList args.toList ds p := hA0
  rw [Tryz.params6] at hA hval
  obtain ⟨v0, vs0, d0, ds0, p0, q0, hargs, rfl, rfl, h0, r0⟩ := trodAll_cons hA
  obtain ⟨v1, vs1, d1, ds1, p1, q1, rfl, rfl, rfl, h1, r1⟩ := trodAll_cons r0
  obtain ⟨rfl, rfl, rfl⟩ := trodAll_nil r1
  obtain rfl : args = #[v0, v1] := by cases args; simp_all
  obtain ⟨rfl, rfl⟩ := trodVars_none hV
  obtain ⟨xs0, ha0, hx0, sh0⟩ := MO.open_nums Tryz.underlying26 Tryz.underlying5 (by kernel_rfl) (hval 0 26 v0 rfl rfl) h0
  obtain ⟨a1, rfl, rfl, rfl, wa1⟩ := open_int Tryz.underlying3 (hval 1 3 v1 rfl rfl) h1
  clear hA0 hval0
  simp only [List.append_nil] at hW'
  refine (walk v0 xs0 a1 wa1 W ha0 hx0).mono fun e W' ⟨he, hg⟩ => ?_
  subst he
  exact ⟨_, rfl, _, _, _, [], _, _, hW', (trodAll_cons_mk (shut_bool Tryz.underlying4 _) trodAll_mk0), (trodAll_cons_mk (sh0 _ _ (fun b hb => decide_eq_true hb) hg) (trodAll_cons_mk (shut_int Tryz.underlying3 wa1) trodAll_mk0)), rfl, hg.frame _, fun h => by cases h⟩

theorem over : Rows.linkCallsRow.holds Tryz.pinned (OpenSpec.ofChange Rows.linkCallsSpec) :=
  OpenClaim.holds_of_wide 6 Tryz.f6 rfl rfl rfl rfl rfl rfl rfl ⟨rfl, rfl, rfl, rfl, rfl⟩ rfl rfl rfl rfl rfl (by kernel_rfl) Tryz.func6 (by kernel_rfl)
    (of_decide_eq_true (by kernel_rfl)) (by unfold Func.isWrapper; first | (rw [if_pos (by decide +kernel)]; kernel_rfl) | (rw [if_neg (by decide +kernel)]; exact ⟨rfl, rfl⟩))
    (fun os started H enc _ => lifted os started H enc)

/-- The statement. -/
theorem proved : Rows.LinkCallsSaid :=
  over
end Go.Proofs.YtlmblfkcmhgdaaaGreat.linkCalls
