/- What Range hands out: entries in memory of their own, in a row that grows. -/
import Derived.Test.YtkigenldiinioabGreatDoorGGM
import Derived.Test.YtkigenldiinioabGreatDoorBtPM
import Derived.Test.YtkigenldiinioabGreatDoorCellAM
namespace Go.Proofs.YtkigenldiinioabGreatDoor
open Go.RowKit Go.Shelf
open Vl (V)
/-- blocks of cells behind a border, but not the row itself -/
def RA (B : Nat) (v : Value) (W : World) (g : Nat) : Prop := (B + 1 ≤ g ∧ g < W.heap.size ∧ v.ownBlock ≠ some g) ∧ CellsAt W g
/-- an entry's seven cells -/
def EntC (W : World) (A : Nat → Prop) (k : V) (l : List Nat) (c : List Value) : Prop :=
  ∃ k0 k1 k2 k3 k4 k5 i cap, c = [k0, k1, k2, k3, k4, k5, .slice (some ⟨i, 0, none⟩) l.length cap] ∧ RepA W A k (.agg #[k0, k1, k2, k3, k4, k5]) ∧ A i ∧ IdsAt W (.slice (some ⟨i, 0, none⟩) l.length cap) l
theorem EntC.stays {W W' : World} {A A' : Nat → Prop} {k : V} {l : List Nat} {c : List Value} (h : EntC W A k l c) (hb : ∀ g, A g → W'.heap[g]? = W.heap[g]?) (hA : ∀ g, A g → A' g) : EntC W' A' k l c := by
  obtain ⟨k0, k1, k2, k3, k4, k5, i, cap, h1, h2, h3, h4⟩ := h
  refine ⟨k0, k1, k2, k3, k4, k5, i, cap, h1, repA_stays hb hA _ _ h2, hA i h3, owns_stays h4 fun g hg => ?_⟩
  obtain rfl : g = i := by injection hg with hg; exact hg.symm
  exact hb g h3
theorem EntC.cells {W : World} {A : Nat → Prop} {k : V} {l : List Nat} {c : List Value} (h : EntC W A k l c) : EntC W (fun g => A g ∧ CellsAt W g) k l c := by
  obtain ⟨k0, k1, k2, k3, k4, k5, i, cap, h1, h2, h3, h4⟩ := h
  refine ⟨k0, k1, k2, k3, k4, k5, i, cap, h1, repA_cells _ _ h2, ⟨h3, ?_⟩, h4⟩
  rcases h4.2 with ⟨h5, _⟩ | ⟨g', cap2, cur, h5, _, h6, _⟩
  · cases h5
  · cases h5; exact ⟨_, _, _, h6⟩
/-- what has been handed out so far -/
structure RI (w : World) (B : Nat) (key : Nat → V) (ids : Nat → List Nat) (es : List Nat) (v : Value) (W : World) : Prop where
  below : Below w.heap.size w W
  box : W.heap[B]? = some (.cells #[v] 22 (0, 0))
  ents : ∃ cs : List (List Value), cs.length = es.length ∧ W.ownsRow (B + 1) 43 7 v es.length cs.flatten ∧ ∀ (j e : Nat) (c : List Value), es[j]? = some e → cs[j]? = some c → EntC W (RA B v W) (key e) (ids e) c
theorem RI.start {w W : World} {B : Nat} {key : Nat → V} {ids : Nat → List Nat} (hb : Below w.heap.size w W) (hx : W.heap[B]? = some (.cells #[.slice none 0 0] 22 (0, 0))) : RI w B key ids [] (.slice none 0 0) W :=
  ⟨hb, hx, [], rfl, ⟨rfl, .inl ⟨rfl, rfl⟩⟩, fun j e c h => by simp at h⟩
theorem RI.own {β : Type} {w : World} {B C : Nat} {key : Nat → V} {ids : Nat → List Nat} (f : β → List Nat) (hC : w.heap.size ≤ C) : OwnFrom C (fun s W => ∃ v, RI w B key ids (f s) v W) := by
  rintro s W W' row ⟨v, h⟩ hg hr
  have cel : ∀ g, CellsAt W g → W'.heap[g]? = W.heap[g]? := fun g ⟨cs, t, fr, h0⟩ => by
    refine hg.block g (lt_of_row h0) fun e => ?_
    obtain ⟨_, o, h2, h3⟩ := hr g e.symm
    rw [h0] at h2
    injection h2 with h2
    subst h2
    cases h3
  obtain ⟨cs, h1, h2, h3⟩ := h.ents
  refine ⟨v, h.below.grown hg h.below.size (fun k e => Nat.le_trans hC (hr k e).1), (cel _ ⟨_, _, _, h.box⟩).trans h.box, cs, h1, owns_stays h2 fun g hg' => ?_, fun j e c he hc => (h3 j e c he hc).stays (fun g q => cel g q.2) fun g q => ⟨⟨q.1.1, Nat.lt_of_lt_of_le q.1.2.1 hg.size, q.1.2.2⟩, q.2.keep (cel g q.2)⟩⟩
  rcases h2.2 with ⟨rfl, _⟩ | ⟨g', cap, cur, rfl, _, h5, _⟩
  · cases hg'
  · cases hg'; exact cel _ ⟨_, _, _, h5⟩
/-- one more is handed out -/
theorem RI.step {w W0 W W' : World} {B H C : Nat} {key : Nat → V} {ids : Nat → List Nat} {es : List Nat} {v v' : Value} {e : Nat} {c : List Value} {cs : List (List Value)} (h : RI w B key ids es v W0) (hB : w.heap.size ≤ B) (hH : H ≤ B) (hC : B + 1 ≤ C) (hs0 : B + 1 ≤ W0.heap.size)
    (h1 : cs.length = es.length) (h2 : W0.ownsRow (B + 1) 43 7 v es.length cs.flatten) (h3 : ∀ (j e : Nat) (c : List Value), es[j]? = some e → cs[j]? = some c → EntC W0 (RA B v W0) (key e) (ids e) c)
    (hW : Below W0.heap.size W0 W) (hE : EntC W (fun g => W0.heap.size ≤ g ∧ g < W.heap.size) (key e) (ids e) c) (ho : W'.ownsRow (B + 1) 43 7 v' (es.length + 1) (cs.flatten ++ c)) (hg : W.grownBy W' v.ownBlock) (hv : v'.ownBlock = v.ownBlock ∨ v'.ownBlock = some W.heap.size) :
    W'.heap[B]? = some (.cells #[v] 22 (0, 0)) ∧ KeepsFrom C W0 (W'.setCell ⟨B, 0, none⟩ v') ∧ Kq H W0 (W'.setCell ⟨B, 0, none⟩ v') ∧ RI w B key ids (es ++ [e]) v' (W'.setCell ⟨B, 0, none⟩ v') := by
  have hown : ∀ k, v.ownBlock = some k → B + 1 ≤ k ∧ k < W0.heap.size ∧ ∃ cur, W0.heap[k]? = some (.cells cur 43 (0, 0)) := fun k hk => by
    rcases h2.2 with ⟨rfl, _⟩ | ⟨g, cap, cur, rfl, q2, q3, _⟩
    · cases hk
    · cases hk; exact ⟨q2, lt_of_row q3, cur, q3⟩
  have s1 := hW.size
  have s2 := hg.size
  have hbl := lt_of_row h.box
  have hbx1 : W.heap[B]? = some (.cells #[v] 22 (0, 0)) := (hW.block _ hbl).trans h.box
  have hbx : W'.heap[B]? = some (.cells #[v] 22 (0, 0)) := (hg.block _ (lt_of_row hbx1) fun q => by have := (hown _ q.symm).1; omega).trans hbx1
  have blk : ∀ k, k < W.heap.size → k ≠ B → v.ownBlock ≠ some k → (W'.setCell ⟨B, 0, none⟩ v').heap[k]? = W.heap[k]? := fun k p1 p2 p3 => by
    rw [heap_setCell_other _ _ _ _ p2]
    exact hg.block k p1 fun q => p3 q.symm
  have hss : (W'.setCell ⟨B, 0, none⟩ v').heap.size = W'.heap.size := by simp
  refine ⟨hbx, ⟨by rw [hss]; omega, fun k o hk h0 ho' => ?_⟩, ⟨?_, fun k ks ty fr h0 ht => ?_⟩, ⟨?_, heap_setCell_same W' B 0 _ 22 v' hbx, cs ++ [c], by simp [h1], ?_, fun j f d hf hd => ?_⟩⟩
  · have hk2 := lt_of_row h0
    rw [blk k (by omega) (by omega) fun q => ?_, hW.block k hk2, h0]
    obtain ⟨_, _, cur, q2⟩ := hown k q
    rw [h0] at q2
    injection q2 with q2
    subst q2
    cases ho'
  · have g3 : Below H W0 W' := (hW.mono (by omega)).grown hg (by omega) (fun k q => by have := (hown k q).1; omega)
    exact g3.setCell (p := ⟨B, 0, none⟩) (by show H ≤ B; omega) _
  · have hk2 := lt_of_row h0
    rw [blk k (by omega) (fun q => ?_) fun q => ?_, hW.block k hk2]
    · rw [q, h.box] at h0
      simp only [Option.some.injEq, Obj.cells.injEq] at h0
      exact ht (by rw [← h0.2.1]; decide)
    · obtain ⟨_, _, cur, q2⟩ := hown k q
      rw [h0] at q2
      simp only [Option.some.injEq, Obj.cells.injEq] at q2
      exact ht (by rw [q2.2.1]; decide)
  · have g3 : Below w.heap.size w W' := (h.below.trans (hW.mono h.below.size)).grown hg (Nat.le_trans h.below.size s1) (fun k q => by have := (hown k q).1; omega)
    exact g3.setCell (p := ⟨B, 0, none⟩) (by show w.heap.size ≤ B; omega) _
  · rw [List.flatten_append, List.flatten_singleton, List.length_append, List.length_singleton]
    refine owns_stays ho fun g hg' => ?_
    rcases ho.2 with ⟨rfl, _⟩ | ⟨g2, cap, cur, rfl, q2, q3, _⟩
    · cases hg'
    · cases hg'
      exact heap_setCell_other _ _ _ _ (show g2 ≠ B by omega)
  · rcases Nat.lt_or_ge j es.length with q | q
    · rw [List.getElem?_append_left q] at hf
      rw [List.getElem?_append_left (by omega)] at hd
      refine (h3 j f d hf hd).stays (fun g p => ?_) fun g p => ?_
      · exact (blk g (by have := p.1.2.1; omega) (by have := p.1.1; omega) p.1.2.2).trans (hW.block g p.1.2.1)
      · have pb := p.1.1
        have pl := p.1.2.1
        refine ⟨⟨pb, by rw [hss]; omega, ?_⟩, p.2.keep ((blk g (by omega) (by omega) p.1.2.2).trans (hW.block g pl))⟩
        rcases hv with q2 | q2
        · rw [q2]; exact p.1.2.2
        · rw [q2]; intro q3; injection q3 with q3; omega
    · have hj : j = es.length := by
        have := (List.getElem?_eq_some_iff.1 hf).1
        simp at this
        omega
      subst hj
      rw [List.getElem?_append_right (Nat.le_refl _), Nat.sub_self] at hf
      rw [List.getElem?_append_right (by omega), h1, Nat.sub_self] at hd
      simp at hf hd
      subst hf hd
      refine hE.cells.stays (fun g p => ?_) fun g p => ?_
      · exact blk g p.1.2 (by have := p.1.1; omega) fun q2 => by have := (hown g q2).2.1; have := p.1.1; omega
      · have pl := p.1.1
        have pu := p.1.2
        have hne : v.ownBlock ≠ some g := fun q2 => by have := (hown g q2).2.1; omega
        refine ⟨⟨by omega, by rw [hss]; omega, ?_⟩, p.2.keep (blk g pu (by omega) hne)⟩
        rcases hv with q2 | q2
        · rw [q2]; exact hne
        · rw [q2]; intro q3; injection q3 with q3; omega
end Go.Proofs.YtkigenldiinioabGreatDoor
