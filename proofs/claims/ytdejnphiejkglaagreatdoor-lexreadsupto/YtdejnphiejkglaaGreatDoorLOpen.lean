/- What opens a row of lex: its tables and variables, out of what is laid. -/
import Derived.Test.YtdejnphiejkglaaGreatDoorCards
import Derived.Test.YtdejnphiejkglaaGreatDoorTie
import Derived.ProofKit
import Derived.OpenShut
import Derived.Deep.Slices
import Derived.Deep.DeepHandedRow
import Derived.SizedLaws
import Derived.Lib.LaidU8T
import Derived.Lay
import Derived.Deep.DeepWitnessRowRef
import Derived.Test.YtdejnphiejkglaaGreatDoorLxQ
import Derived.HandedShaped
namespace Go.Proofs.YtdejnphiejkglaaGreatDoor
open Go.ChangeShapes Go.WideShapes Go.ChangeAt Go.RowKit
theorem u8x : U8Extra Tryz.prog Tryz.laysValid_ren := ⟨by kernel_rfl, by kernel_rfl, by kernel_rfl, by kernel_rfl, by kernel_rfl, by kernel_rfl, by kernel_rfl⟩
theorem first_is : Rows.laid_unicode_utf8_first = Lib.firstData := by kernel_rfl
theorem accept_is : (Rows.laid_unicode_utf8_acceptRanges : DataW Unit) = Lib.acceptData := by kernel_rfl
theorem own : ownKnob Tryz.prog.godebug = none := by kernel_rfl
theorem laidOut : laidOutB Tryz.prog = true := by kernel_rfl
/-- what every law's contract ends in: true is handed back, and each argument reads as it did -/
theorem law_post {H : Type} {enc : TypeId × Value → H} {f : Func} {sp : ChangeSpec} {W W' : World} {args : Array Value} {ds gs : List (DataW H)} {before pa : List MemPlace}
    (hW : DataW.Whole enc Tryz.prog f.params.toList sp.vars false W args.toList ds gs before) (hb : Below W.heap.size W W')
    (hres : f.resultTypes = #[4]) (hfr : (sp.fn H (ds ++ gs)).results = [.lit (.bool true)]) (hfa : (sp.fn H (ds ++ gs)).args = ds) (hfv : sp.vars = []) (hfv2 : (sp.fn H (ds ++ gs)).vars = [])
    (hargs : DataW.TrodAll enc Tryz.prog W' 0 (fun b => decide (b < W.heap.size)) true f.params.toList args.toList ds pa) :
    sp.post enc Tryz.prog f false true false false W args (.bool true) W' := by
  refine ⟨ds, gs, before, [], pa, [], hW, ?_, ?_, ?_, hb.frame _, fun h => by cases h⟩
  · rw [hres, hfr]
    exact trodAll_cons_mk (shut_bool Tryz.underlying4 _) trodAll_mk0
  · rw [hfa]; exact hargs
  · rw [hfv, hfv2]; rfl
theorem met_of {W : World} {L : List (String × DataW Unit)} (hn : (L.filter fun x => x.2.handleName?.isSome) = []) (h : laidMetH Tryz.prog L W) : laidMet Tryz.prog L W := by
  unfold laidMetH at h
  rw [hn] at h
  exact h
theorem pow_is : (Rows.laid_internal_strconv_uint64pow10 : DataW Unit) = Lib.tabData .u64 Lib.pow10Tab := by kernel_rfl
theorem gPowL : Tryz.prog.globalNamed "internal/strconv.uint64pow10" = some 2 := by kernel_rfl
theorem gSynL : Tryz.prog.globalNamed "strconv.ErrSyntax" = some 3 := by kernel_rfl
theorem gRngL : Tryz.prog.globalNamed "strconv.ErrRange" = some 4 := by kernel_rfl
theorem ySyn : (Tryz.prog.globals[3]?).map (·.type) = some 58 := by kernel_rfl
theorem yRng : (Tryz.prog.globals[4]?).map (·.type) = some 58 := by kernel_rfl
theorem yPow : (Tryz.prog.globals[2]?).map (·.type) = some 109 := by kernel_rfl
set_option maxRecDepth 100000 in
theorem open_iface {H : Type} {enc : TypeId × Value → H} {W : World} {base : Nat} {sp : Nat → Bool} {held : Bool} {fuel : Nat} {cs : List Value} {x : DataW H × List MemPlace} (h : DataW.trod enc Tryz.prog W base sp held fuel 58 cs = some x) : ∃ c, cs = [c] ∧ (c = .nilIface ∨ ∃ u v, c = .iface u v) := by
  cases fuel with
  | zero => simp [DataW.trod] at h
  | succ n =>
    unfold DataW.trod at h
    rw [Tryz.underlying58] at h
    split at h <;> simp_all
set_option maxRecDepth 100000 in
theorem err_of {W : World} {name : String} {g : Nat} (hn : Tryz.prog.globalNamed name = some g) (hy : (Tryz.prog.globals[g]?).map (·.type) = some 58) {d : DataW Unit} (h : Lib.VarReads Tryz.prog W name d) : ∃ ev, W.cell? ⟨g, 0, none⟩ = some ev ∧ (ev = .nilIface ∨ ∃ te pe, ev = .iface te pe) := by
  obtain ⟨g', t, cs, fuel, p, hg, hty, hvar, hd⟩ := h
  obtain rfl := Option.some.inj (hn.symm.trans hg)
  obtain rfl := Option.some.inj (hy.symm.trans hty)
  obtain ⟨c, hc, hor⟩ := open_iface hd
  refine ⟨c, ?_, hor⟩
  have := World.var?_cell hg hvar 0
  rw [this, ← Array.getElem?_toList, hc]
  rfl
set_option maxRecDepth 100000 in
/-- out of the list of a row -/
theorem hasL_of {W : World} {L : List (String × DataW Unit)} (h : laidMet Tryz.prog L W) (h1 : ("unicode/utf8.first", Rows.laid_unicode_utf8_first) ∈ L) (h2 : ("unicode/utf8.acceptRanges", (Rows.laid_unicode_utf8_acceptRanges : DataW Unit)) ∈ L) (h3 : ("strconv.ErrSyntax", (Rows.laid_strconv_ErrSyntax : DataW Unit)) ∈ L) (h4 : ("strconv.ErrRange", (Rows.laid_strconv_ErrRange : DataW Unit)) ∈ L) (h5 : ("internal/strconv.uint64pow10", (Rows.laid_internal_strconv_uint64pow10 : DataW Unit)) ∈ L) (hSh : W.ShapedOpen Tryz.prog) : HasL W := by
  have r1 := Lib.laidMet.reads h h1
  have r2 := Lib.laidMet.reads h h2
  have r3 := Lib.laidMet.reads h h3
  have r4 := Lib.laidMet.reads h h4
  have r5 := Lib.laidMet.reads h h5
  rw [first_is] at r1
  rw [accept_is] at r2
  rw [pow_is] at r5
  refine ⟨utf8Tabs_of_readsT (U8Types.of196 Tryz.laysValid) u8x r1 r2, ?_, err_of gSynL ySyn r3, err_of gRngL yRng r4, Tryz.laysM219.s1_3 W hSh⟩
  obtain ⟨g, t, cs, fuel, p, hg, hty, hvar, hd⟩ := r5
  obtain rfl := Option.some.inj (gPowL.symm.trans hg)
  obtain rfl := Option.some.inj (yPow.symm.trans hty)
  have hcs := Lib.cells_of_tab (n := 20) (e := 75) Tryz.underlying109 Tryz.underlying75 (by kernel_rfl) (by kernel_rfl) hd
  unfold Lib.TabIs
  rw [hvar]
  congr 1
  rw [← hcs]
end Go.Proofs.YtdejnphiejkglaaGreatDoor
