/- What the rows list of the library's variables, as the walks want it. -/
import Derived.Test.YtbogggnnmbjlfaaDoorOpen
import Derived.Lib.LaidU8T
namespace Go.Proofs.YtbogggnnmbjlfaaDoor
open Go.ChangeShapes Go.WideShapes Go.ChangeAt Go.RowKit
open Vl (V)
theorem u8x : U8Extra Tryd.prog Tryd.laysValid_ren := ⟨by kernel_rfl, by kernel_rfl, by kernel_rfl, by kernel_rfl, by kernel_rfl, by kernel_rfl, by kernel_rfl⟩
theorem first_is : Rows.laid_unicode_utf8_first = Lib.firstData := by kernel_rfl
theorem accept_is : (Rows.laid_unicode_utf8_acceptRanges : DataW Unit) = Lib.acceptData := by kernel_rfl
theorem pow_is : (Rows.laid_internal_strconv_uint64pow10 : DataW Unit) = Lib.tabData .u64 Lib.pow10Tab := by kernel_rfl
theorem y3 : (Tryd.prog.globals[3]?).map (·.type) = some 114 := by kernel_rfl
theorem y4 : (Tryd.prog.globals[4]?).map (·.type) = some 114 := by kernel_rfl
theorem y5 : (Tryd.prog.globals[5]?).map (·.type) = some 152 := by kernel_rfl
set_option maxRecDepth 100000 in
theorem open_iface {H : Type} {enc : TypeId × Value → H} {W : World} {base : Nat} {sp : Nat → Bool} {held : Bool} {fuel : Nat} {cs : List Value} {x : DataW H × List MemPlace} (h : DataW.trod enc Tryd.prog W base sp held fuel 114 cs = some x) : ∃ c, cs = [c] ∧ (c = .nilIface ∨ ∃ u v, c = .iface u v) := by
  cases fuel with
  | zero => simp [DataW.trod] at h
  | succ n =>
    unfold DataW.trod at h
    rw [Tryd.underlying114] at h
    split at h <;> simp_all
theorem err_of {W : World} {name : String} {g : Nat} (hn : Tryd.prog.globalNamed name = some g) (hy : (Tryd.prog.globals[g]?).map (·.type) = some 114) {d : DataW Unit} (h : Lib.VarReads Tryd.prog W name d) : ∃ ev, W.cell? ⟨g, 0, none⟩ = some ev ∧ (ev = .nilIface ∨ ∃ te pe, ev = .iface te pe) := by
  obtain ⟨g', t, cs, fuel, p, hg, hty, hvar, hd⟩ := h
  obtain rfl := Option.some.inj (hn.symm.trans hg)
  obtain rfl := Option.some.inj (hy.symm.trans hty)
  obtain ⟨c, hc, hor⟩ := open_iface hd
  refine ⟨c, ?_, hor⟩
  have := World.var?_cell hg hvar 0
  rw [this, ← Array.getElem?_toList, hc]
  rfl
/-- out of the list of a row -/
theorem hasT_of {W : World} (h : laidMet Tryd.prog Rows.valueOwnRow.laid W) : HasT W := by
  have r1 : Lib.VarReads Tryd.prog W "unicode/utf8.first" Rows.laid_unicode_utf8_first := Lib.laidMet.reads h (by simp [Rows.valueOwnRow])
  have r2 : Lib.VarReads Tryd.prog W "unicode/utf8.acceptRanges" Rows.laid_unicode_utf8_acceptRanges := Lib.laidMet.reads h (by simp [Rows.valueOwnRow])
  have r3 : Lib.VarReads Tryd.prog W "strconv.ErrSyntax" Rows.laid_strconv_ErrSyntax := Lib.laidMet.reads h (by simp [Rows.valueOwnRow])
  have r4 : Lib.VarReads Tryd.prog W "strconv.ErrRange" Rows.laid_strconv_ErrRange := Lib.laidMet.reads h (by simp [Rows.valueOwnRow])
  have r5 : Lib.VarReads Tryd.prog W "internal/strconv.uint64pow10" Rows.laid_internal_strconv_uint64pow10 := Lib.laidMet.reads h (by simp [Rows.valueOwnRow])
  rw [first_is] at r1
  rw [accept_is] at r2
  rw [pow_is] at r5
  refine ⟨utf8Tabs_of_readsT (U8Types.of196 Tryd.laysValid) u8x r1 r2, ?_, err_of gSyn y3 r3, err_of gRng y4 r4⟩
  obtain ⟨g, t, cs, fuel, p, hg, hty, hvar, hd⟩ := r5
  obtain rfl := Option.some.inj (gPow.symm.trans hg)
  obtain rfl := Option.some.inj (y5.symm.trans hty)
  have hcs := Lib.cells_of_tab (n := 20) (e := 45) Tryd.underlying152 Tryd.underlying45 (by kernel_rfl) (by kernel_rfl) hd
  unfold Lib.TabIs
  rw [hvar]
  congr 1
  rw [← hcs]
end Go.Proofs.YtbogggnnmbjlfaaDoor
