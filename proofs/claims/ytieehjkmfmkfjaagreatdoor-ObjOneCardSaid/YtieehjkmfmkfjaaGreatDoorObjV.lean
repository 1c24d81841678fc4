/-
  What the listed variables of Go's library hold, out of the row's list. Condition: the row's list of variables, and that the world is of the program's shape.
-/
import Derived.Test.YtieehjkmfmkfjaaGreatDoorRows
import Derived.Test.YtieehjkmfmkfjaaGreatDoorObjA
import Derived.Lib.LaidU8
import Derived.Lib.LaidTab
import Derived.ChangeArms
import Derived.FnData
import Derived.LaidMore
import Derived.LaidLaws
import Derived.OpenShut
import Derived.Handed
namespace Go.Proofs.YtieehjkmfmkfjaaGreatDoor
open Go.RowKit
set_option linter.unusedVariables false
namespace OV
open OS
theorem cell_in {w : World} {g i : Nat} {v : Value} (h : w.cell? ⟨g, i, none⟩ = some v) : g < w.heap.size := by
  rcases Nat.lt_or_ge g w.heap.size with h' | h'
  · exact h'
  · unfold World.cell? at h
    simp [Array.getElem?_eq_none h'] at h
set_option maxRecDepth 100000 in
/-- an array of bytes that is listed holds its bytes -/
theorem bits_cell {w : World} (h : Lib.VarReads Tryz.prog w "math/bits.deBruijn64tab" Rows.laid_math_bits_deBruijn64tab) : w.cell? ⟨5, 15, none⟩ = some (.int .u8 4) := by
  obtain ⟨g, t, cs, fuel, p, hg, ht, hv, hd⟩ := h
  obtain rfl := Option.some.inj ((show Tryz.prog.globalNamed "math/bits.deBruijn64tab" = some 5 by kernel_rfl).symm.trans hg)
  obtain rfl := Option.some.inj ((show (Tryz.prog.globals[5]?).map (·.type) = some 201 by kernel_rfl).symm.trans ht)
  obtain ⟨xs, n, rfl, hx, hl, hxl, hall⟩ := DataW.trod_array Tryz.underlying201 hd
  have h0 := hall 15 (by omega)
  have hc : Tryz.prog.cellsOf 5 = 1 := by kernel_rfl
  obtain ⟨y, hy⟩ : ∃ y, xs[15]? = some y := ⟨xs[15]'(by rw [hxl]; decide), List.getElem?_eq_getElem _⟩
  rw [hy] at h0
  obtain ⟨z, hcz, hz, _⟩ := DataW.trod_int Tryz.underlying5 h0
  rw [hc] at hcz
  have hxs : (xs.map (·.1))[15]? = some (.lit (.int .u8 4)) := by
    have := congrArg Prod.fst hx
    have e : DataW.agg (xs.map (·.1)) = Rows.laid_math_bits_deBruijn64tab := this.symm
    have e2 : ∃ l, (Rows.laid_math_bits_deBruijn64tab : DataW Unit) = .agg l ∧ l[15]? = some (.lit (.int .u8 4)) := ⟨_, rfl, rfl⟩
    obtain ⟨l, el, hl15⟩ := e2
    rw [el] at e
    injection e with e
    rw [e]; exact hl15
  rw [List.getElem?_map, hy, hz] at hxs
  have hz2 : z = 4 := by
    simp only [Option.map_some, Option.some.injEq, DataW.lit.injEq, Lit.int.injEq, true_and] at hxs
    exact hxs
  rw [World.var?_cell hg hv 15, ← Array.getElem?_toList]
  have := congrArg (·[0]?) hcz
  rw [hz2] at this
  simpa [List.getElem?_take, List.getElem?_drop] using this

theorem tab_is {w : World} (h : Lib.VarReads Tryz.prog w "internal/strconv.uint64pow10" Rows.laid_internal_strconv_uint64pow10) : Lib.TabIs Tryz.prog w "internal/strconv.uint64pow10" .u64 Lib.pow10Tab := by
  obtain ⟨g, t, cs, fuel, p, hg, ht, hv, hd⟩ := h
  obtain rfl := Option.some.inj ((show (Tryz.prog.globals[0]?).map (·.type) = some 163 by kernel_rfl).symm.trans (by rw [Option.some.inj ((show Tryz.prog.globalNamed "internal/strconv.uint64pow10" = some 0 by kernel_rfl).symm.trans hg)]; exact ht))
  have hd' : DataW.trod (fun _ => ()) Tryz.prog w 0 (fun _ => true) false fuel 163 cs.toList = some (Lib.tabData .u64 Lib.pow10Tab, p) := hd
  unfold Lib.TabIs
  rw [hv, ← Lib.cells_of_tab Tryz.underlying163 Tryz.underlying66 (by kernel_rfl) (by kernel_rfl) hd']
theorem err_syntax {w : World} (h : Lib.VarReads Tryz.prog w "strconv.ErrSyntax" Rows.laid_strconv_ErrSyntax) : ∃ te pe, w.cell? ⟨2, 0, none⟩ = some (.iface te pe) := by
  obtain ⟨g, t, cs, fuel, p, hg, ht, hv, hd⟩ := h
  obtain rfl := Option.some.inj ((show Tryz.prog.globalNamed "strconv.ErrSyntax" = some 2 by kernel_rfl).symm.trans hg)
  obtain rfl := Option.some.inj ((show (Tryz.prog.globals[2]?).map (·.type) = some 104 by kernel_rfl).symm.trans ht)
  obtain ⟨f1, u, v, hc, hn, h1⟩ := iface_of_trod Tryz.underlying104 hd
  refine ⟨u, v, ?_⟩
  rw [World.var?_cell hg hv 0, ← Array.getElem?_toList, hc]
  rfl
theorem err_range {w : World} (h : Lib.VarReads Tryz.prog w "strconv.ErrRange" Rows.laid_strconv_ErrRange) : ∃ te pe, w.cell? ⟨3, 0, none⟩ = some (.iface te pe) := by
  obtain ⟨g, t, cs, fuel, p, hg, ht, hv, hd⟩ := h
  obtain rfl := Option.some.inj ((show Tryz.prog.globalNamed "strconv.ErrRange" = some 3 by kernel_rfl).symm.trans hg)
  obtain rfl := Option.some.inj ((show (Tryz.prog.globals[3]?).map (·.type) = some 104 by kernel_rfl).symm.trans ht)
  obtain ⟨f1, u, v, hc, hn, h1⟩ := iface_of_trod Tryz.underlying104 hd
  refine ⟨u, v, ?_⟩
  rw [World.var?_cell hg hv 0, ← Array.getElem?_toList, hc]
  rfl
theorem laid {w : World} (hs : w.ShapedOpen Tryz.prog) (h1 : Lib.VarReads Tryz.prog w "math/bits.deBruijn64tab" Rows.laid_math_bits_deBruijn64tab) (h2 : Lib.VarReads Tryz.prog w "internal/strconv.uint64pow10" Rows.laid_internal_strconv_uint64pow10) (h3 : Lib.VarReads Tryz.prog w "strconv.ErrRange" Rows.laid_strconv_ErrRange) (h4 : Lib.VarReads Tryz.prog w "strconv.ErrSyntax" Rows.laid_strconv_ErrSyntax) : Laid w := by
  obtain ⟨m, hm⟩ := Tryz.laysM145.s1_3 w hs
  obtain ⟨a, b, hr⟩ := err_range h3
  obtain ⟨c, d, hy⟩ := err_syntax h4
  have hb := bits_cell h1
  exact ⟨tab_is h2, ⟨cell_in hb, hb⟩, ⟨m, hm⟩, cell_in (g := 1) hm, ⟨c, d, hy⟩, cell_in hy, ⟨a, b, hr⟩, cell_in hr⟩
/-- a law's contract, the world's shape handed over too -/
theorem returns {H : Type} {enc : TypeId × Value → H} {C : Checked} {os : Os} {f : FuncId} {fn : Func} {s : ChangeSpec} {conds : List PathCond} {apart fresh handsOn again : Bool} {X : World → Array Value → Prop}
    (hX : ∀ (w w' : World) (args : Array Value), w.heap = w'.heap → X w args → X w' args)
    (own : ownKnob C.prog.godebug = none) (started : os.Started) (noInit : C.prog.inits.idxOf? f = none) (hfn : C.prog.funcs[f]? = some fn)
    (witness : ∃ (w : World) (tape : Tape) (i : Input), w.os = os ∧ (w.forCall tape i).Shaped C.prog ∧ i.vars = [] ∧ Input.okWide C.prog (w.forCall tape i) .any w.heap.size f i ∧
      ((s.pre enc C.prog fn conds apart (w.forCall tape i).memory i.args ∧ X (w.forCall tape i).memory i.args) ∧ sizedMet enc C.prog fn (OpenSpec.ofChange s) apart (w.forCall tape i).memory i.args) ∧ ({} : Assume).holds C.prog (lone (Frame.enter C.prog f i.args .normal) [] (w.forCall tape i)))
    (contract : ∀ (W : World) (base : Nat) (args : Array Value) (ds gs : List (DataW H)) (before : List MemPlace), W.ShapedOpen C.prog →
      (∀ (j : Nat) t v, fn.params[j]? = some t → args[j]? = some v → Value.okWide C.prog W .any base t v) →
      DataW.Whole enc C.prog fn.params.toList s.vars apart W args.toList ds gs before → X W args →
      Calls C.prog f args W fun e W' => ∃ v, e = .returned v ∧ s.post enc C.prog fn apart fresh handsOn again W args v W') :
    ReturnsInHanded {} C os f .any (fun w args => (s.pre enc C.prog fn conds apart w args ∧ X w args) ∧ sizedMet enc C.prog fn (OpenSpec.ofChange s) apart w args) (s.post enc C.prog fn apart fresh handsOn again) := by
  refine returnsInHanded_of_calls own started noInit witness fun w tape i _ hsh _ hok hpre _ => ?_
  obtain ⟨-, -, -, fn', hfn', -, -, -, -, hval⟩ := hok
  obtain rfl : fn' = fn := Option.some.inj (hfn'.symm.trans hfn)
  obtain ⟨⟨⟨ds, gs, before, hw, -⟩, hx⟩, -⟩ := hpre
  refine (contract _ w.heap.size i.args ds gs before hsh hval (DataW.Whole.of_heap (w' := w.forCall tape i) (by rfl) hw) (hX _ _ _ (by rfl) hx)).mono fun e W' ⟨v, he, hp⟩ => ?_
  subst he
  exact ChangeSpec.post_blind hp
end OV
end Go.Proofs.YtieehjkmfmkfjaaGreatDoor
