/- A list of texts, a list of revisions, as arguments. -/
import Derived.Test.YtipekiknmgbdgaaGreatDoorJnOpenM
namespace Go.Proofs.YtipekiknmgbdgaaGreatDoor
open Go.ChangeShapes Go.WideShapes Go.ChangeAt Go.RowKit
open Vl (V)
set_option maxRecDepth 100000 in
theorem open_strs {H : Type} {enc : TypeId × Value → H} {W : World} {r : Reach} {b0 base : Nat} {sp : Nat → Bool} {held : Bool} {v : Value} {d : DataW H} {p : List MemPlace}
    (hv : Value.okWide Tryz.prog W r b0 23 v) (h : DataW.Trod enc Tryz.prog W base sp held 23 v d p) : ∃ a n c, ∃ l : List ByteArray, v = .slice a n c ∧ Sl W W.heap.size (.slice a n c) (l.map fun s => s.data.toList) ∧ ∀ s ∈ l, s.size ≤ maxLen := by
  obtain ⟨a0, len0, cap0, rfl⟩ := okWide_slice Tryz.underlying23 hv
  obtain ⟨fuel, hf⟩ := h
  exact open_sts (v := .slice a0 len0 cap0) hf
end Go.Proofs.YtipekiknmgbdgaaGreatDoor
