/- What the library's tables and errors must be; whether a text is UTF-8; place, walked: the number that a name is, or -1. -/
import Derived.Test.YtbogggnnmbjlfaaDoorFind
import Derived.Lib.SmallJoins
import Derived.Lib.LaidTab
namespace Go.Proofs.YtbogggnnmbjlfaaDoor
open Go.RowKit
open Vl (V)
theorem gPow : Tryd.prog.globalNamed "internal/strconv.uint64pow10" = some 5 := by kernel_rfl
theorem gFirst : Tryd.prog.globalNamed "unicode/utf8.first" = some 1 := by kernel_rfl
theorem gAcc : Tryd.prog.globalNamed "unicode/utf8.acceptRanges" = some 2 := by kernel_rfl
theorem gSyn : Tryd.prog.globalNamed "strconv.ErrSyntax" = some 3 := by kernel_rfl
theorem gRng : Tryd.prog.globalNamed "strconv.ErrRange" = some 4 := by kernel_rfl
/-- the tables and errors of the library lie as they are laid -/
structure HasT (w : World) : Prop where
  utf : Lib.Utf8Tabs 1 2 w
  pow : Lib.TabIs Tryd.prog w "internal/strconv.uint64pow10" .u64 Lib.pow10Tab
  syn : ∃ ev, w.cell? ⟨3, 0, none⟩ = some ev ∧ (ev = .nilIface ∨ ∃ te pe, ev = .iface te pe)
  rng : ∃ ev, w.cell? ⟨4, 0, none⟩ = some ev ∧ (ev = .nilIface ∨ ∃ te pe, ev = .iface te pe)
theorem cell_lt {w : World} {g o : Nat} {v : Value} (h : w.cell? ⟨g, o, none⟩ = some v) : g < w.heap.size := by
  unfold World.cell? at h
  cases hh : w.heap[g]? with
  | none => simp [hh] at h
  | some o => exact (Array.getElem?_eq_some_iff.1 hh).1
theorem HasT.stays {w w' : World} (h : HasT w) (hb : Below w.heap.size w w') : HasT w' := by
  have keep : ∀ (g o : Nat) (v : Value), w.cell? ⟨g, o, none⟩ = some v → w'.cell? ⟨g, o, none⟩ = some v := fun g o v hv => (hb.cell (p := ⟨g, o, none⟩) (cell_lt hv)).trans hv
  refine ⟨⟨fun c hc => keep _ _ _ (h.utf.1 c hc), fun i hi => ⟨keep _ _ _ (h.utf.2 i hi).1, keep _ _ _ (h.utf.2 i hi).2⟩⟩, ?_, ?_, ?_⟩
  · have h5 : 5 < w.heap.size := cell_lt (h.pow.cell gPow 0 (by decide))
    have hp := h.pow
    unfold Lib.TabIs World.var? at hp ⊢
    rw [gPow] at hp ⊢
    simp only [Option.bind_some] at hp ⊢
    rw [hb.block 5 h5]
    exact hp
  · obtain ⟨ev, h1, h2⟩ := h.syn
    exact ⟨ev, keep _ _ _ h1, h2⟩
  · obtain ⟨ev, h1, h2⟩ := h.rng
    exact ⟨ev, keep _ _ _ h1, h2⟩
/-- whether a text is UTF-8 -/
def utf (s : ByteArray) : Bool := Lib.validD s.data.toList
theorem hasUtf : Utf utf HasT where
  stays := fun _ _ h hb => h.stays hb
  says := fun s w hs hT => Any.utf8_ValidString Tryd.laysValid s w (by unfold maxLen at hs; omega) hT.utf
theorem below_drewN (w : World) : ∀ k, Below w.heap.size w (w.drewN k)
  | 0 => Below.refl _ _
  | k + 1 => (below_drewN w k).drew
theorem below_grow {w W : World} (h : Below w.heap.size w W) (os : Array Obj) : Below w.heap.size w (Go.Sort.grow W os) := by
  refine ⟨h.os, h.tape, h.output, ?_, fun k hk => ?_⟩
  · have := h.size
    simp only [Go.Sort.grow, Array.size_append]
    omega
  · have h1 : k < W.heap.size := Nat.lt_of_lt_of_le hk h.size
    have e : (Go.Sort.grow W os).heap[k]? = W.heap[k]? := by
      simp only [Go.Sort.grow]
      rw [Array.getElem?_append_left h1]
    exact e.trans (h.block k hk)
/-- the number that a name is -/
def placeOf (m : ByteArray) : Int := match Lib.atoiAll m.data.toList with
  | .ok v => if (⟨(Lib.itoa v).toArray⟩ : ByteArray) = m then v else -1
  | _ => -1
end Go.Proofs.YtbogggnnmbjlfaaDoor
