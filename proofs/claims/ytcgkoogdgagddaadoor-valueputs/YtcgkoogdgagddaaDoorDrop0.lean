/- clear of elements of several cells; a field in a row, what a store elsewhere leaves of it. -/
import Derived.Test.YtcgkoogdgagddaaDoorPutG
import Derived.Test.YtcgkoogdgagddaaDoorIndex
namespace Go.Proofs.YtcgkoogdgagddaaDoor
open Go.RowKit
open Vl (V)
theorem run_clear_wide {P : Program} (w : World) (t e ty : TypeId) (z : Value) (ht : P.underlying t = some (.slice e)) (hv : ∀ w, (zeroValue e).run P w = .ok z w) (b o n c : Nat) (hn : 0 < n)
    (hc : ∀ j, j < n * z.cells.size → (w.cell? ⟨b, o + j, none⟩).isSome = true) (hf : ∀ j, j < n * z.cells.size → w.frozen? ⟨b, o + j, none⟩ = false) (h1 : ∀ v ∈ (Builtin.zeroCells z.cells n).toList, v.oneCell' = true) :
    (Builtin.clear_ #[t] ty #[.slice (some ⟨b, o, none⟩) n c]).run P w = .ok (.tuple #[]) (w.setCells b o (Builtin.zeroCells z.cells n).toList) := by
  have hl : (Builtin.zeroCells z.cells n).toList.length = n * z.cells.size := by rw [Array.length_toList, size_zeroCells']
  have hst := run_storeCells_cells (P := P) b o (Builtin.zeroCells z.cells n).toList 0 w (by rw [hl]; simpa using hc) (by rw [hl]; simpa using hf) h1
  obtain ⟨k, rfl⟩ : ∃ k, n = k + 1 := ⟨n - 1, by omega⟩
  simp [Builtin.clear_, run_underlying ht, hv, hst]
/-- a field at a place of a row -/
def Fld (W : World) (F G q : Nat) (m : ByteArray) (x : V) : Prop := W.cell? ⟨F, q * 7, none⟩ = some (.string m) ∧ ∃ c0 c1 c2 c3 c4 c5, Six W F (q * 7 + 1) c0 c1 c2 c3 c4 c5 ∧ RepA W (fun g => F < g ∧ g < G) x (.agg #[c0, c1, c2, c3, c4, c5])
theorem Fld.same {W W' : World} {F G q : Nat} {m : ByteArray} {x : V} (h : Fld W F G q m x) (hc : ∀ r, r < 7 → W'.cell? ⟨F, q * 7 + r, none⟩ = W.cell? ⟨F, q * 7 + r, none⟩) (hb : ∀ g, F < g → g < G → W'.heap[g]? = W.heap[g]?) : Fld W' F G q m x := by
  obtain ⟨a0, c0, c1, c2, c3, c4, c5, ⟨d0, d1, d2, d3, d4, d5⟩, a2⟩ := h
  exact ⟨(hc 0 (by omega)).trans a0, c0, c1, c2, c3, c4, c5, ⟨(hc 1 (by omega)).trans d0, (hc 2 (by omega)).trans d1, (hc 3 (by omega)).trans d2, (hc 4 (by omega)).trans d3, (hc 5 (by omega)).trans d4, (hc 6 (by omega)).trans d5⟩, repA_stays (fun g hg => hb g hg.1 hg.2) (fun _ hg => hg) x _ a2⟩
/-- cells stored from a place on: what lies elsewhere in the row stays -/
theorem Fld.out {W : World} {F G q p : Nat} {C : Array Value} {vs : List Value} {m : ByteArray} {x : V} (h : Fld W F G q m x) (hC : W.heap[F]? = some (.cells C 44 (0, 0))) (hq : q * 7 + 7 ≤ p ∨ p + vs.length ≤ q * 7) : Fld (W.setCells F p vs) F G q m x := by
  have hrow := heap_setCells_put F 44 vs p W C hC
  refine h.same (fun r hr => ?_) (fun g hg _ => heap_setCells_ne F g (by omega) _ _ _)
  rw [cell_of_row _ _ _ _ _ _ hrow, cell_of_row _ _ _ _ _ _ hC]
  exact putAll_other _ _ _ _ (by omega)
/-- a field stored at a place -/
theorem Fld.put {W : World} {F G p : Nat} {C : Array Value} {m : ByteArray} {x : V} {c0 c1 c2 c3 c4 c5 : Value} (hC : W.heap[F]? = some (.cells C 44 (0, 0))) (hp : p * 7 + 7 ≤ C.size) (hr : RepA W (fun g => F < g ∧ g < G) x (.agg #[c0, c1, c2, c3, c4, c5])) : Fld (W.setCells F (p * 7) [.string m, c0, c1, c2, c3, c4, c5]) F G p m x := by
  have hrow := heap_setCells_put F 44 [.string m, c0, c1, c2, c3, c4, c5] (p * 7) W C hC
  have e : ∀ (r : Nat) (v : Value), [.string m, c0, c1, c2, c3, c4, c5][r]? = some v → (W.setCells F (p * 7) [.string m, c0, c1, c2, c3, c4, c5]).cell? ⟨F, p * 7 + r, none⟩ = some v := fun r v hv => by
    rw [cell_of_row _ _ _ _ _ _ hrow]
    exact putAll_at _ _ _ r v (by simp only [List.length_cons, List.length_nil]; omega) hv
  exact ⟨e 0 _ rfl, c0, c1, c2, c3, c4, c5, ⟨e 1 _ rfl, e 2 _ rfl, e 3 _ rfl, e 4 _ rfl, e 5 _ rfl, e 6 _ rfl⟩, repA_stays (fun g hg => heap_setCells_ne F g (by omega) _ _ _) (fun _ hg => hg) x _ hr⟩
end Go.Proofs.YtcgkoogdgagddaaDoor
