/- What a walk knows of memory, as a list: boxes of six cells, values below a bound; calls and new blocks leave it. -/
import Derived.Test.YtcgkoogdgagddaaDoorLivesW
namespace Go.Proofs.YtcgkoogdgagddaaDoor
open Go.RowKit
open Vl (V)
inductive Fc
  | row (b : Nat) (c0 c1 c2 c3 c4 c5 : Value)
  | rep (K : Nat) (t : V) (v : Value)
def Fc.at (W : World) : Fc → Prop
  | .row b c0 c1 c2 c3 c4 c5 => Row6 W b c0 c1 c2 c3 c4 c5
  | .rep K t v => K ≤ W.heap.size ∧ Rep W K t v
/-- what is known of a world behind another one -/
structure Fs (w W : World) (L : List Fc) : Prop where
  below : Below w.heap.size w W
  t : HasT W
  facts : ∀ φ ∈ L, φ.at W
section
variable {w W W' : World} {L : List Fc}
theorem Fs.hid (h : Fs w W L) : Hid (Fs w W L) := h
theorem Fs.call (h : Fs w W L) (hb : Below W.heap.size W W') : Fs w W' L := by
  refine ⟨h.below.trans (hb.mono h.below.size), h.t.stays hb, fun φ hφ => ?_⟩
  have h1 := h.facts φ hφ
  cases φ with
  | row b c0 c1 c2 c3 c4 c5 => exact Row6.call h1 hb
  | rep K t v => exact ⟨Nat.le_trans h1.1 hb.size, rep_stays (hb.mono h1.1) (Nat.le_refl _) t v h1.2⟩
theorem Fs.row (h : Fs w W L) (i : Nat) {b : Nat} {c0 c1 c2 c3 c4 c5 : Value} (hi : L[i]? = some (.row b c0 c1 c2 c3 c4 c5)) : Row6 W b c0 c1 c2 c3 c4 c5 := h.facts _ (List.mem_of_getElem? hi)
theorem Fs.rep (h : Fs w W L) (i : Nat) {K : Nat} {t : V} {v : Value} (hi : L[i]? = some (.rep K t v)) : K ≤ W.heap.size ∧ Rep W K t v := h.facts _ (List.mem_of_getElem? hi)
/-- .. raised to the whole memory -/
theorem Fs.up (h : Fs w W L) (i : Nat) {K : Nat} {t : V} {v : Value} (hi : L[i]? = some (.rep K t v)) : Rep W W.heap.size t v := rep_stays (Below.refl _ _) (h.rep i hi).1 t v (h.rep i hi).2
theorem Fs.add (h : Fs w W L) {φ : Fc} (hφ : φ.at W) : Fs w W (φ :: L) := ⟨h.below, h.t, fun ψ hψ => by
  cases List.mem_cons.1 hψ with
  | inl e => rw [e]; exact hφ
  | inr e => exact h.facts ψ e⟩
/-- a value that was answered is laid into a new box -/
theorem Fs.box (h : Fs w W L) {t : V} {c0 c1 c2 c3 c4 c5 : Value} (hr : Rep W W.heap.size t (.agg #[c0, c1, c2, c3, c4, c5])) : Fs w (W.alloc (.cells #[c0, c1, c2, c3, c4, c5] 26)) (.row W.heap.size c0 c1 c2 c3 c4 c5 :: .rep W.heap.size t (.agg #[c0, c1, c2, c3, c4, c5]) :: L) := by
  refine Fs.add (Fs.add (h.call (below_new _ _)) ?_) ?_
  · exact ⟨(below_new _ _).size, rep_stays (below_new _ _) (Nat.le_refl _) t _ hr⟩
  · exact ⟨by simp, heap_alloc_new W _⟩
end
end Go.Proofs.YtcgkoogdgagddaaDoor
