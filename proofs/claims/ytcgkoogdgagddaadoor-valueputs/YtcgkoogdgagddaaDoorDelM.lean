/- How far slices.DeleteFunc has come at fields and a name: those that stay of the first ones, and those that are still to come. -/
import Derived.Test.YtcgkoogdgagddaaDoorDropK
namespace Go.Proofs.YtcgkoogdgagddaaDoor
open Go.RowKit
open Vl (V)
/-- a of the first b fields stay -/
structure DL (w W : World) (F G : Nat) (f : List (ByteArray × V)) (name : ByteArray) (a b : Nat) : Prop where
  keep : KP w W F
  row : ∃ C, W.heap[F]? = some (.cells C 44 (0, 0)) ∧ C.size = f.length * 7
  many : a = (Vl.dropF (f.take b) name).length
  low : ∀ (q : Nat) (m : ByteArray) (x : V), (Vl.dropF (f.take b) name)[q]? = some (m, x) → Fld W F G q m x
  high : ∀ (q : Nat) (m : ByteArray) (x : V), b ≤ q → f[q]? = some (m, x) → Fld W F G q m x
section
variable {w W W' : World} {F G : Nat} {f : List (ByteArray × V)} {name : ByteArray} {a b : Nat}
theorem DL.call (h : DL w W F G f name a b) (hF : F < w.heap.size) (hG : G ≤ w.heap.size) (hb : Below W.heap.size W W') : DL w W' F G f name a b := by
  have hs := h.keep.size
  have e : ∀ g, g < w.heap.size → W'.heap[g]? = W.heap[g]? := fun g hg => hb.block g (by omega)
  have k : ∀ q m x, Fld W F G q m x → Fld W' F G q m x := fun q m x hx => hx.same (fun r _ => cell_block (e F hF)) (fun g _ hg => e g (by omega))
  obtain ⟨C, h1, h2⟩ := h.row
  exact ⟨h.keep.call hF hb, ⟨C, (e F hF).trans h1, h2⟩, h.many, fun q m x hx => k q m x (h.low q m x hx), fun q m x hq hx => k q m x (h.high q m x hq hx)⟩
theorem DL.skip (h : DL w W F G f name a b) {m : ByteArray} {x : V} (hx : f[b]? = some (m, x)) (hm : m = name) : DL w W F G f name a (b + 1) := by
  have e : Vl.dropF (f.take (b + 1)) name = Vl.dropF (f.take b) name := by rw [Vl.drop_take name f b m x hx, if_pos hm, List.append_nil]
  exact ⟨h.keep, h.row, by rw [e]; exact h.many, by rw [e]; exact h.low, fun q m x hq hx => h.high q m x (by omega) hx⟩
theorem DL.put (h : DL w W F G f name a b) (hab : a < b) {m : ByteArray} {x : V} (hx : f[b]? = some (m, x)) (hm : ¬ m = name) {c0 c1 c2 c3 c4 c5 : Value} (hr : RepA W (fun g => F < g ∧ g < G) x (.agg #[c0, c1, c2, c3, c4, c5])) :
    DL w (W.setCells F (a * 7) [.string m, c0, c1, c2, c3, c4, c5]) F G f name (a + 1) (b + 1) := by
  have e : Vl.dropF (f.take (b + 1)) name = Vl.dropF (f.take b) name ++ [(m, x)] := by rw [Vl.drop_take name f b m x hx, if_neg hm]
  have hbl : b < f.length := (List.getElem?_eq_some_iff.1 hx).1
  obtain ⟨C, h1, h2⟩ := h.row
  have hrow := heap_setCells_put F 44 [.string m, c0, c1, c2, c3, c4, c5] (a * 7) W C h1
  refine ⟨h.keep.set _ _, ⟨_, hrow, by rw [putAll_size]; exact h2⟩, by rw [e, List.length_append, ← h.many]; rfl, fun q m' x' hq => ?_, fun q m' x' hq hx' => ?_⟩
  · rw [e] at hq
    by_cases hqa : q < a
    · rw [List.getElem?_append_left (by rw [← h.many]; exact hqa)] at hq
      exact (h.low q m' x' hq).out h1 (Or.inl (by omega))
    · rw [List.getElem?_append_right (by rw [← h.many]; omega), ← h.many] at hq
      have hq0 : q - a = 0 := by
        have := (List.getElem?_eq_some_iff.1 hq).1
        simp at this
        exact this
      rw [hq0] at hq
      simp only [List.getElem?_cons_zero, Option.some.injEq, Prod.mk.injEq] at hq
      obtain ⟨rfl, rfl⟩ := hq
      have hqe : q = a := by omega
      subst hqe
      exact Fld.put h1 (by rw [h2]; omega) hr
  · exact (h.high q m' x' (by omega) hx').out h1 (Or.inr (by simp only [List.length_cons, List.length_nil]; omega))
/-- the room behind those that stay is cleared -/
theorem DL.clear (h : DL w W F G f name a b) (vs : List Value) : KP w (W.setCells F (a * 7) vs) F ∧ (∃ C, (W.setCells F (a * 7) vs).heap[F]? = some (.cells C 44 (0, 0)) ∧ C.size = f.length * 7) ∧ ∀ (q : Nat) (m : ByteArray) (x : V), (Vl.dropF (f.take b) name)[q]? = some (m, x) → Fld (W.setCells F (a * 7) vs) F G q m x := by
  obtain ⟨C, h1, h2⟩ := h.row
  refine ⟨h.keep.set _ _, ⟨_, heap_setCells_put F 44 vs (a * 7) W C h1, by rw [putAll_size]; exact h2⟩, fun q m x hx => (h.low q m x hx).out h1 (Or.inl ?_)⟩
  have := (List.getElem?_eq_some_iff.1 hx).1
  rw [← h.many] at this
  omega
theorem DL.start {C : Array Value} (hC : w.heap[F]? = some (.cells C 44 (0, 0))) (hs : C.size = f.length * 7) (hf : ∀ (q : Nat) (m : ByteArray) (x : V), f[q]? = some (m, x) → Fld w F G q m x) (hp : Vl.place (fun m => decide (m = name)) f < f.length) :
    DL w w F G f name (Vl.place (fun m => decide (m = name)) f) (Vl.place (fun m => decide (m = name)) f + 1) := by
  obtain ⟨y, hy⟩ := place_name name f hp
  have e : Vl.dropF (f.take (Vl.place (fun m => decide (m = name)) f + 1)) name = f.take (Vl.place (fun m => decide (m = name)) f) := by rw [Vl.drop_take name f _ name y hy, if_pos rfl, List.append_nil, Vl.drop_low]
  refine ⟨KP.refl _ _, ⟨C, hC, hs⟩, by rw [e, List.length_take]; omega, fun q m x hq => ?_, fun q m x _ hx => hf q m x hx⟩
  rw [e] at hq
  have hq' := (List.getElem?_eq_some_iff.1 hq).1
  rw [List.length_take] at hq'
  rw [List.getElem?_take_of_lt (by omega)] at hq
  exact hf q m x hq
/-- the cells of the field that comes next, and where the row's other cells may be stored -/
theorem DL.next (h : DL w W F G f name a b) {m : ByteArray} {x : V} (hx : f[b]? = some (m, x)) : Fld W F G b m x := h.high b m x (Nat.le_refl _) hx
theorem DL.cells (h : DL w W F G f name a b) : (∀ r, W.frozen? ⟨F, r, none⟩ = false) ∧ ∀ q, q < f.length * 7 → ∃ v, W.cell? ⟨F, q, none⟩ = some v := by
  obtain ⟨C, h1, h2⟩ := h.row
  refine ⟨row_free h1, fun q hq => ?_⟩
  rw [cell_of_row _ _ _ _ _ _ h1]
  exact ⟨C[q]'(by rw [h2]; exact hq), Array.getElem?_eq_getElem _⟩
end
end Go.Proofs.YtcgkoogdgagddaaDoor
