/- A region that draws its order, by an invariant: one obligation for each operation, whatever was carried out ahead of it. -/
import Derived.Test.YtoldfepeldbcpaaDoorMkUc
import Derived.Orders
namespace Go.Proofs.YtoldfepeldbcpaaDoor
open Go.RowKit
section
variable {P : Program} {md : Region.Mode} {ops : Array Oper} {Q : Exit → Act → World → Prop}
theorem ready_open {listed : Array Bool} {i : Nat} (h : i ∈ Region.ready md ops listed) : i < ops.size ∧ listed.getD i true = false := by
  unfold Region.ready at h
  rw [List.mem_filter, List.mem_range] at h
  refine ⟨h.1, ?_⟩
  have := h.2
  simp only [Bool.and_eq_true, Bool.not_eq_true'] at this
  exact this.1
theorem getD_set (listed : Array Bool) (i j : Nat) (h : (listed.setIfInBounds i true).getD j true = false) : j ≠ i ∧ listed.getD j true = false := by
  simp only [Array.getD_eq_getD_getElem?, Array.getElem?_setIfInBounds] at h ⊢
  by_cases e : i = j
  · subst e
    rw [if_pos rfl] at h
    split at h
    · cases h
    · cases h
  · rw [if_neg e] at h
    exact ⟨fun q => e q.symm, h⟩
theorem wpAny_inv (Inv : Array Bool → Act → World → Prop) (hdone : ∀ listed a w, Inv listed a w → Region.ready md ops listed = [] → Q .normal a w)
    (hstep : ∀ listed a w i, Inv listed a w → i ∈ Region.ready md ops listed → wpOp P ops Q i (Inv (listed.setIfInBounds i true)) a w) :
    ∀ (fuel : Nat) (L : List Nat) (listed : Array Bool) (a : Act) (w : World), (∀ j, j < ops.size → listed.getD j true = false → j ∈ L) → L.length ≤ fuel → Inv listed a w → wpAny P md ops Q fuel listed a w
  | 0, L, listed, a, w, hL, hl, hI => by
    have h0 : Region.ready md ops listed = [] := by
      cases hr : Region.ready md ops listed with
      | nil => rfl
      | cons i r =>
        exfalso
        have hi : i ∈ Region.ready md ops listed := by rw [hr]; simp
        have := hL i (ready_open hi).1 (ready_open hi).2
        have hn : L = [] := List.eq_nil_of_length_eq_zero (by omega)
        rw [hn] at this
        cases this
    exact ⟨h0, hdone _ _ _ hI h0⟩
  | fuel + 1, L, listed, a, w, hL, hl, hI => by
    refine ⟨hdone _ _ _ hI, fun i hi => wpOp_mono (fun a' w' h' => ?_) (hstep _ _ _ i hI hi)⟩
    have hm := hL i (ready_open hi).1 (ready_open hi).2
    refine wpAny_inv Inv hdone hstep fuel (L.erase i) _ a' w' (fun j hj hd => ?_) ?_ h'
    · obtain ⟨h1, h2⟩ := getD_set _ _ _ hd
      exact (List.mem_erase_of_ne h1).2 (hL j hj h2)
    · rw [List.length_erase_of_mem hm]; omega
theorem wpOp_of {i : Nat} {o : Oper} {a : Act} {w : World} {K : Act → World → Prop} (ho : ops[i]? = some o) (hg : o.guard = none) (h : ∀ K' : Act → World → Prop, (∀ a w, K a w → K' a w) → o.wp P a w K' Q) : wpOp P ops Q i K a w := by
  unfold wpOp
  rw [ho]
  have hw : Region.wanted o (yielded ops a.tmps) = true := by simp [Region.wanted, hg]
  simp only [hw, if_true]
  exact .inl (h K fun _ _ q => q)
/-- one obligation for each operation -/
theorem wp_region_inv {id : Nat} {a : Act} {w : World} (hm : P.follows .mixedOrders = true) (Inv : Array Bool → Act → World → Prop) (h0 : Inv (Array.replicate ops.size false) a w.drew)
    (hdone : ∀ listed a w, Inv listed a w → Region.ready .any ops listed = [] → Q .normal a w)
    (hstep : ∀ listed a w i, Inv listed a w → i ∈ Region.ready .any ops listed → wpOp P ops Q i (Inv (listed.setIfInBounds i true)) a w) :
    (Code.region id ops true).wp P Q a w :=
  wp_region_any hm (wpAny_inv Inv hdone hstep ops.size (List.range ops.size) _ a _ (fun j hj _ => List.mem_range.2 hj) (by simp) h0)
end
end Go.Proofs.YtoldfepeldbcpaaDoor
