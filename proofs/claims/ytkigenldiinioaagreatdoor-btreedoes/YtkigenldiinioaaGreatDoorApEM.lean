/- Entries that lie anywhere, appended to a row of entries; what a range that is cut comes to. -/
import Derived.Test.YtkigenldiinioaaGreatDoorRfCM
import Derived.Deep.Upon
namespace Go.Proofs.YtkigenldiinioaaGreatDoor
open Go.RowKit
open Vl (V)
namespace Bt
end Bt
section
variable {w W W5 : World} {A : Nat → Prop} {L M : Bt.KL} {lv v' : Value}
theorem EntsA.cells {a : Option Addr} (h : EntsA w A a M) (hm : M ≠ []) : ∃ (g : Nat) (ds : List (List Value)), a = some ⟨g, 0, none⟩ ∧ ds.length = M.length ∧ (∀ (j : Nat) (p : V × List Nat) (c : List Value), M[j]? = some p → ds[j]? = some c → EntV w A p c) ∧ ∀ (j : Nat) (u : Value), ds.flatten[j]? = some u → w.cell? ((⟨g, 0, none⟩ : Addr).add j) = some u := by
  have h0 : ∀ i, i < M.length → ∃ c : List Value, (∃ g, a = some ⟨g, 0, none⟩ ∧ ∀ r u, c[r]? = some u → w.cell? ⟨g, i * 7 + r, none⟩ = some u) ∧ ∃ p, M[i]? = some p ∧ EntV w A p c := fun i hi => by
    obtain ⟨g, c, e, _, hE, hc⟩ := h i _ (List.getElem?_eq_getElem hi)
    exact ⟨c, ⟨g, e, hc⟩, _, List.getElem?_eq_getElem hi, hE⟩
  have gath : ∀ n, n ≤ M.length → ∃ ds : List (List Value), ds.length = n ∧ ∀ (i : Nat) c, ds[i]? = some c → (∃ g, a = some ⟨g, 0, none⟩ ∧ ∀ r u, c[r]? = some u → w.cell? ⟨g, i * 7 + r, none⟩ = some u) ∧ ∃ p, M[i]? = some p ∧ EntV w A p c := by
    intro n
    induction n with
    | zero => intro _; exact ⟨[], rfl, fun i c h => by simp at h⟩
    | succ n ih =>
      intro hn
      obtain ⟨ds, h1, h2⟩ := ih (by omega)
      obtain ⟨c, hc⟩ := h0 n (by omega)
      refine ⟨ds ++ [c], by simp [h1], fun i d hd => ?_⟩
      rcases Nat.lt_or_ge i n with q | q
      · rw [List.getElem?_append_left (by omega)] at hd; exact h2 i d hd
      · have : i = n := by
          have := (List.getElem?_eq_some_iff.1 hd).1
          simp at this
          omega
        subst this
        rw [List.getElem?_append_right (by omega), h1, Nat.sub_self] at hd
        simp at hd
        subst hd
        exact hc
  obtain ⟨ds, h1, h2⟩ := gath M.length (Nat.le_refl _)
  have hpos : 0 < M.length := List.length_pos_iff.2 hm
  obtain ⟨⟨g, hg, _⟩, _⟩ := h2 0 _ (List.getElem?_eq_getElem (by omega))
  have h7 : ∀ c ∈ ds, c.length = 7 := fun c hc => by
    obtain ⟨m, hm⟩ := List.getElem?_of_mem hc
    obtain ⟨_, _, _, hE⟩ := h2 m c hm
    exact hE.len
  refine ⟨g, ds, hg, h1, fun j p c hp hc => ?_, fun j u hu => ?_⟩
  · obtain ⟨_, q, hq, hE⟩ := h2 j c hc
    rw [hp] at hq
    cases hq
    exact hE
  · have hfl : ∀ {l : List (List Value)}, (∀ c ∈ l, c.length = 7) → l.flatten.length = l.length * 7 := by
      intro l
      induction l with
      | nil => intro _; rfl
      | cons x r ih => intro hh; rw [List.flatten_cons, List.length_append, hh x (by simp), ih fun c hc => hh c (by simp [hc]), List.length_cons]; omega
    have hj := (List.getElem?_eq_some_iff.1 hu).1
    rw [hfl h7] at hj
    have hd : j / 7 < ds.length := by omega
    obtain ⟨c, hc⟩ : ∃ c, ds[j / 7]? = some c := ⟨_, List.getElem?_eq_getElem hd⟩
    obtain ⟨⟨g2, hg2, hcell⟩, _⟩ := h2 _ c hc
    rw [hg] at hg2
    cases hg2
    have h8 := flat7 h7 hc (r := j % 7) (by omega)
    rw [show j / 7 * 7 + j % 7 = j by omega, hu] at h8
    have := hcell (j % 7) u h8.symm
    rw [show j / 7 * 7 + j % 7 = j by omega] at this
    rw [Addr.add_mid, Nat.zero_add]
    exact this
/-- more entries at once -/
theorem EO.many {cs ds : List (List Value)} (h : EO w A L lv W) (h1 : cs.length = L.length) (h2 : W.ownsRow w.heap.size 49 7 lv L.length cs.flatten) (h3 : ∀ (j : Nat) (p : V × List Nat) (c : List Value), L[j]? = some p → cs[j]? = some c → EntV W (OA A w.heap.size lv W) p c)
    (hd : ds.length = M.length) (hE : ∀ (j : Nat) (p : V × List Nat) (c : List Value), M[j]? = some p → ds[j]? = some c → EntV W A p c) (hg : W.grownBy W5 lv.ownBlock) (hv : v'.ownBlock = lv.ownBlock ∨ v'.ownBlock = some W.heap.size) (ho : W5.ownsRow w.heap.size 49 7 v' (L.length + M.length) (cs.flatten ++ ds.flatten)) : EO w A (L ++ M) v' W5 := by
  have s := h.below.size
  have s5 := hg.size
  have hown := EO.own_lt h2
  have mv : ∀ g, OA A w.heap.size lv W g → W5.heap[g]? = W.heap[g]? ∧ OA A w.heap.size v' W5 g := fun g hg' => by
    have hne : lv.ownBlock ≠ some g := by
      rcases hg' with q | q
      · intro e; have := h.lt g q; have := (hown g e).1; omega
      · exact q.2.2
    have hlt : g < W.heap.size := by
      rcases hg' with q | q
      · have := h.lt g q; omega
      · exact q.2.1
    refine ⟨hg.block g hlt fun e => hne e.symm, ?_⟩
    rcases hg' with q | q
    · exact .inl q
    · refine .inr ⟨q.1, by omega, ?_⟩
      rcases hv with q2 | q2
      · rw [q2]; exact q.2.2
      · rw [q2]; intro q3; injection q3 with q3; omega
  refine ⟨h.below.grown hg s (fun k e => (hown k e).1), h.lt, cs ++ ds, by simp [h1, hd], ?_, fun j f d hf hd' => ?_⟩
  · rw [List.flatten_append, List.length_append]
    exact ho
  · rcases Nat.lt_or_ge j L.length with q | q
    · rw [List.getElem?_append_left q] at hf
      rw [List.getElem?_append_left (by omega)] at hd'
      exact (h3 j f d hf hd').stays (fun g p => (mv g p).1) fun g p => (mv g p).2
    · rw [List.getElem?_append_right q] at hf
      rw [List.getElem?_append_right (by omega), h1] at hd'
      exact (hE _ f d hf hd').stays (fun g p => (mv g (.inl p)).1) fun g p => .inl p
theorem EntV.one {p : V × List Nat} {c : List Value} (h : EntV w A p c) : ∀ u ∈ c, u.oneCell' = true := by
  obtain ⟨k0, k1, k2, k3, k4, k5, pi, cap, rfl, hr, _⟩ := h
  obtain ⟨k, b, n, s, ao, ll, lc, fo, fl, fc, e⟩ := repA_form hr
  simp only [Value.agg.injEq, Array.mk.injEq, List.cons.injEq, and_true] at e
  obtain ⟨rfl, rfl, rfl, rfl, rfl, rfl⟩ := e
  intro u hu
  simp at hu
  rcases hu with rfl | rfl | rfl | rfl | rfl | rfl | rfl <;> rfl
/-- an empty row of one's own -/
theorem EO.empty (h : Below w.heap.size w W) (hA : ∀ g, A g → g < w.heap.size) : EO w A [] (.slice (some ⟨W.heap.size, 0, none⟩) 0 0) (W.alloc (.cells #[] 49)) :=
  ⟨h.trans ((below_new W _).mono h.size), hA, [], rfl, ⟨rfl, .inr ⟨W.heap.size, 0, #[], rfl, h.size, heap_alloc_new W _, Nat.le_refl _, by decide, rfl, rfl⟩⟩, fun j p c h => by simp at h⟩
/-- entries as they are read lie below -/
theorem EntsAt.a {a : Option Addr} (h : EntsAt w a M) (hK : ∀ (p : V × List Nat) v, Rep w w.heap.size p.1 v → RepA w (fun g => g < w.heap.size) p.1 v) : EntsA w (fun g => g < w.heap.size) a M := fun j p hp => by
  obtain ⟨g, k0, k1, k2, k3, k4, k5, pi, cap, h1, h2, ⟨c0, c1, c2, c3, c4, c5, c6⟩, h4, h5, h6⟩ := h j p hp
  refine ⟨g, _, h1, h2, ⟨k0, k1, k2, k3, k4, k5, pi, cap, rfl, hK p _ h4, h5⟩, fun r u hr => ?_⟩
  have hr7 : r < 7 := (List.getElem?_eq_some_iff.1 hr).1
  rcases (show r = 0 ∨ r = 1 ∨ r = 2 ∨ r = 3 ∨ r = 4 ∨ r = 5 ∨ r = 6 by omega) with rfl | rfl | rfl | rfl | rfl | rfl | rfl <;> (simp at hr; subst hr; assumption)
end
end Go.Proofs.YtkigenldiinioaaGreatDoor
