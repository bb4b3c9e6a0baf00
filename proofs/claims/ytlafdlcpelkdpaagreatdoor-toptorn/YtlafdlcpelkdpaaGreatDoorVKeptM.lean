/- Values that are kept in a row. -/
import Derived.Test.YtlafdlcpelkdpaaGreatDoorJLM
namespace Go.Proofs.YtlafdlcpelkdpaaGreatDoor
open Go.RowKit
open Vl (V)
/-- cells that hold values, one behind the other -/
def Kept (w : World) (H : Nat) (cs : List Value) (K : List V) : Prop :=
  cs.length = K.length * 6 ∧ ∀ j t, K[j]? = some t → ∃ c0 c1 c2 c3 c4 c5, cs[j * 6]? = some c0 ∧ cs[j * 6 + 1]? = some c1 ∧ cs[j * 6 + 2]? = some c2 ∧ cs[j * 6 + 3]? = some c3 ∧ cs[j * 6 + 4]? = some c4 ∧ cs[j * 6 + 5]? = some c5 ∧ Rep w H t (.agg #[c0, c1, c2, c3, c4, c5])
theorem Kept.none (w : World) (H : Nat) : Kept w H [] [] := ⟨rfl, fun j t h => by simp at h⟩
theorem Kept.more {w : World} {H : Nat} {cs : List Value} {K : List V} {t : V} {c0 c1 c2 c3 c4 c5 : Value} (h : Kept w H cs K) (hr : Rep w H t (.agg #[c0, c1, c2, c3, c4, c5])) : Kept w H (cs ++ [c0, c1, c2, c3, c4, c5]) (K ++ [t]) := by
  refine ⟨by simp [h.1]; omega, fun j u hj => ?_⟩
  rcases Nat.lt_or_ge j K.length with hlt | hge
  · rw [List.getElem?_append_left hlt] at hj
    obtain ⟨d0, d1, d2, d3, d4, d5, e0, e1, e2, e3, e4, e5, hd⟩ := h.2 j u hj
    have hl := h.1
    exact ⟨d0, d1, d2, d3, d4, d5, by rw [List.getElem?_append_left (by omega)]; exact e0, by rw [List.getElem?_append_left (by omega)]; exact e1, by rw [List.getElem?_append_left (by omega)]; exact e2, by rw [List.getElem?_append_left (by omega)]; exact e3, by rw [List.getElem?_append_left (by omega)]; exact e4, by rw [List.getElem?_append_left (by omega)]; exact e5, hd⟩
  · have hj2 : j = K.length := by
      have := (List.getElem?_eq_some_iff.1 hj).1
      simp at this; omega
    subst hj2
    rw [List.getElem?_append_right (Nat.le_refl _), Nat.sub_self] at hj
    simp at hj
    subst hj
    have hl := h.1
    refine ⟨c0, c1, c2, c3, c4, c5, ?_, ?_, ?_, ?_, ?_, ?_, hr⟩
    all_goals
      rw [List.getElem?_append_right (by omega), ← hl]
      simp
/-- rows of two types lie apart -/
theorem own_apart {W W' : World} {base base' e e' sz sz' n n' : Nat} {v v' : Value} {xs xs' : List Value} (h : W.ownsRow base e sz v n xs) (h' : W.ownsRow base' e' sz' v' n' xs') (he : e ≠ e') (hg : W.grownBy W' v'.ownBlock) : W'.ownsRow base e sz v n xs := by
  refine ⟨h.1, ?_⟩
  rcases h.2 with h2 | ⟨g, cap, cur, h1, h3, h4, h5⟩
  · exact .inl h2
  · refine .inr ⟨g, cap, cur, h1, h3, (hg.block g (Array.getElem?_eq_some_iff.1 h4).1 (fun q => ?_)).trans h4, h5⟩
    rcases h'.2 with ⟨rfl, _⟩ | ⟨g', cap', cur', rfl, _, k4, _⟩
    · simp [Value.ownBlock] at q
    · simp [Value.ownBlock] at q
      subst q
      rw [k4] at h4
      simp at h4
      exact he h4.2.symm
theorem row6_apart {W W' : World} {B base n : Nat} {c0 c1 c2 c3 c4 c5 v : Value} {xs : List Value} (h : Row6 W B c0 c1 c2 c3 c4 c5) (h' : W.ownsRow base 9 1 v n xs) (hg : W.grownBy W' v.ownBlock) : Row6 W' B c0 c1 c2 c3 c4 c5 := by
  refine h.keep hg.size (hg.block B h.1 (fun q => ?_))
  rcases h'.2 with ⟨rfl, _⟩ | ⟨g', cap', cur', rfl, _, k4, _⟩
  · simp [Value.ownBlock] at q
  · simp [Value.ownBlock] at q
    subst q
    have := h.2
    rw [k4] at this
    simp at this
theorem own_cell {W : World} {base e sz g n cap q : Nat} {xs : List Value} {x : Value} (h : W.ownsRow base e sz (.slice (some ⟨g, 0, none⟩) n cap) n xs) (hq : xs[q]? = some x) : W.cell? ⟨g, q, none⟩ = some x := by
  rcases h.2 with ⟨h1, _⟩ | ⟨g', cap', cur, h1, _, h4, _, _, _, h7⟩
  · cases h1
  · injection h1 with h1
    injection h1 with h1
    injection h1 with h1
    subst h1
    rw [cell_of_row W _ _ _ _ _ h4]
    rw [← h7, List.getElem?_take] at hq
    split at hq
    · simpa using hq
    · cases hq
/-- a row of one value, just made -/
theorem six_new (w : World) (c0 c1 c2 c3 c4 c5 : Value) (t : TypeId) (j : Nat) (x : Value) (hj : [c0, c1, c2, c3, c4, c5][j]? = some x) : (w.alloc (.cells #[c0, c1, c2, c3, c4, c5] t)).cell? ((⟨w.heap.size, 0, none⟩ : Addr).add j) = some x :=
  World.news_of_block (heap_alloc_new w _) j x hj
end Go.Proofs.YtlafdlcpelkdpaaGreatDoor
