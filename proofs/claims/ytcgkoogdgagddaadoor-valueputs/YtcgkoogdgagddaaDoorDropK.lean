/- For slices.DeleteFunc: what stays when one row turns; those that stay of the first fields. -/
import Derived.Test.YtcgkoogdgagddaaDoorDrop0
import Derived.Test.YtcgkoogdgagddaaDoorPutsM
namespace Go.Proofs.YtcgkoogdgagddaaDoor
open Go.RowKit
open Vl (V)
/-- nothing turned but one row; new blocks came -/
structure KP (w w' : World) (F : Nat) : Prop where
  below : Below F w w'
  size : w.heap.size ≤ w'.heap.size
  same : ∀ g, g ≠ F → g < w.heap.size → w'.heap[g]? = w.heap[g]?
theorem KP.call {w W W' : World} {F : Nat} (h : KP w W F) (hF : F < w.heap.size) (hb : Below W.heap.size W W') : KP w W' F :=
  ⟨h.below.trans (hb.mono (by have := h.size; omega)), Nat.le_trans h.size hb.size, fun g hg hl => (hb.block g (by have := h.size; omega)).trans (h.same g hg hl)⟩
theorem KP.set {w W : World} {F : Nat} (h : KP w W F) (o : Nat) (vs : List Value) : KP w (W.setCells F o vs) F :=
  ⟨below_setCells (Nat.le_refl _) _ _ h.below, by rw [size_setCells']; exact h.size, fun g hg hl => (heap_setCells_ne F g hg _ _ _).trans (h.same g hg hl)⟩
theorem KP.refl (w : World) (F : Nat) : KP w w F := ⟨Below.refl _ _, Nat.le_refl _, fun _ _ _ => rfl⟩
namespace Vl
theorem drop_take (name : ByteArray) (f : List (ByteArray × V)) (j : Nat) (m : ByteArray) (x : V) (h : f[j]? = some (m, x)) : dropF (f.take (j + 1)) name = dropF (f.take j) name ++ (if m = name then [] else [(m, x)]) := by
  rw [List.take_add_one, h, dropF, dropF, List.filter_append]
  congr 1
  by_cases hm : m = name
  · rw [if_pos hm]; simp [hm]
  · rw [if_neg hm]; simp [hm]
theorem drop_low (name : ByteArray) (f : List (ByteArray × V)) : dropF (f.take (place (fun m => decide (m = name)) f)) name = f.take (place (fun m => decide (m = name)) f) := by
  rw [dropF, List.filter_eq_self]
  intro a ha
  obtain ⟨i, hi⟩ := List.getElem?_of_mem ha
  have h1 : i < place (fun m => decide (m = name)) f := by have := (List.getElem?_eq_some_iff.1 hi).1; rw [List.length_take] at this; omega
  rw [List.getElem?_take_of_lt h1] at hi
  have h2 : i < f.length := (List.getElem?_eq_some_iff.1 hi).1
  have h3 := List.not_of_lt_findIdx (p := fun b : ByteArray × V => decide (b.1 = name)) (xs := f) h1
  rw [List.getElem?_eq_getElem h2] at hi
  have h4 := Option.some.inj hi
  rw [h4] at h3
  simpa using h3
end Vl
end Go.Proofs.YtcgkoogdgagddaaDoor
