/- What a tree yields within bounds, whatever the tree. -/
import Derived.Test.YtkigenldiinioabGreatDoorBtWM
namespace Go.Proofs.YtkigenldiinioabGreatDoor
open Go.RowKit Go.Shelf
open Vl (V)
theorem flat_entries {g r : Nat} {es : List Nat} {a b c d : Bt.T} (h : Bt.wf (.node g r es a b c d)) : es.Sublist (Bt.flat (.node g r es a b c d)) ∧ (Bt.flat a).Sublist (Bt.flat (.node g r es a b c d)) ∧ (Bt.flat b).Sublist (Bt.flat (.node g r es a b c d)) ∧ (Bt.flat c).Sublist (Bt.flat (.node g r es a b c d)) ∧ (Bt.flat d).Sublist (Bt.flat (.node g r es a b c d)) := by
  obtain ⟨h1, h2, h3, _⟩ := h
  by_cases hl : es.length < 3
  · obtain ⟨rfl, rfl, rfl, rfl⟩ := h3 hl
    rw [Bt.flat_one _ _ _ (by omega)]
    exact ⟨List.Sublist.refl _, List.nil_sublist _, List.nil_sublist _, List.nil_sublist _, List.nil_sublist _⟩
  · match es, h2, hl with
    | [e, f, x], _, _ =>
      rw [Bt.flat_three]
      refine ⟨?_, List.sublist_append_left _ _, ?_, ?_, ?_⟩
      · exact (List.Sublist.cons_cons e ((List.Sublist.cons_cons f ((List.Sublist.cons_cons x (List.nil_sublist _)).trans (List.sublist_append_right _ _))).trans (List.sublist_append_right _ _))).trans (List.sublist_append_right _ _)
      · exact ((List.sublist_append_left _ _).trans (List.sublist_cons_self _ _)).trans (List.sublist_append_right _ _)
      · exact ((((List.sublist_append_left _ _).trans (List.sublist_cons_self _ _)).trans (List.sublist_append_right _ _)).trans (List.sublist_cons_self _ _)).trans (List.sublist_append_right _ _)
      · exact (((((List.sublist_cons_self _ _).trans (List.sublist_append_right _ _)).trans (List.sublist_cons_self _ _)).trans (List.sublist_append_right _ _)).trans (List.sublist_cons_self _ _)).trans (List.sublist_append_right _ _)
    | [], _, hl => simp at hl
    | [_], _, hl => simp at hl
    | [_, _], _, hl => simp at hl
/-- what a tree yields within bounds -/
theorem within1_seq (key : Nat → V) (lo hi : Option (Bool × V)) (H : Nat) (Q : Nat → Prop) (l0 l1 l2 l3 l4 l5 l6 l7 h0 h1 h2 h3 h4 h5 h6 h7 : Value) : ∀ (t : Bt.T), Bt.wf t → Bt.Rises key (Bt.flat t) → (∀ e ∈ Bt.flat t, Q e) → WSeq key lo hi H Q #[l0, l1, l2, l3, l4, l5, l6, l7] #[h0, h1, h2, h3, h4, h5, h6, h7] t
  | .nil, _, _, _ => within1_nil key lo hi H Q _ _
  | .node g r es a b c d, hw, hr, hq => by
    obtain ⟨s0, sa, sb, sc, sd⟩ := flat_entries hw
    obtain ⟨w1, w2, w3, wa, wb, wc, wd⟩ := hw
    exact within1_node key lo hi H Q l0 l1 l2 l3 l4 l5 l6 l7 h0 h1 h2 h3 h4 h5 h6 h7 g r es a b c d w2 (List.Pairwise.sublist s0 hr) (fun e he => hq e (s0.subset he))
      (within1_seq key lo hi H Q l0 l1 l2 l3 l4 l5 l6 l7 h0 h1 h2 h3 h4 h5 h6 h7 a wa (List.Pairwise.sublist sa hr) (fun e he => hq e (sa.subset he)))
      (within1_seq key lo hi H Q l0 l1 l2 l3 l4 l5 l6 l7 h0 h1 h2 h3 h4 h5 h6 h7 b wb (List.Pairwise.sublist sb hr) (fun e he => hq e (sb.subset he)))
      (within1_seq key lo hi H Q l0 l1 l2 l3 l4 l5 l6 l7 h0 h1 h2 h3 h4 h5 h6 h7 c wc (List.Pairwise.sublist sc hr) (fun e he => hq e (sc.subset he)))
      (within1_seq key lo hi H Q l0 l1 l2 l3 l4 l5 l6 l7 h0 h1 h2 h3 h4 h5 h6 h7 d wd (List.Pairwise.sublist sd hr) (fun e he => hq e (sd.subset he)))
end Go.Proofs.YtkigenldiinioabGreatDoor
