/- The document's own Compare, walked, whatever the values are: it answers as the program's does. -/
import Derived.Test.YtcgkoogdgagddaaDoorRCmpF
namespace Go.Proofs.YtcgkoogdgagddaaDoor
open Go.RowKit
open Vl (V)
theorem rcompare20 : ∀ (N : Nat) (a : V), Vl.count a ≤ N → ∀ (b : V) (w : World) (H : Nat) (va vb : Value), H ≤ w.heap.size → Rep w H a va → Rep w H b vb →
    Calls Tryd.prog 20 #[va, vb] w fun e w' => e = .returned (.int .i64 (Vl.cmp a b)) ∧ Below w.heap.size w w' := by
  intro N
  induction N with
  | zero => intro t ht; obtain ⟨k, b, n, s, l, f⟩ := t; rw [Vl.count] at ht; omega
  | succ N ih =>
    rintro ⟨k, b, n, s, l, f⟩ ht ⟨k2, b2, n2, s2, l2, f2⟩ w H va vb hH hA hB
    rw [Rep] at hA hB
    obtain ⟨ao, ac, fo, fc, rfl, h2, h3, h4, h5, h6, h7, h8⟩ := hA
    obtain ⟨ao2, ac2, fo2, fc2, rfl, g2, g3, g4, g5, g6, g7, g8⟩ := hB
    rw [Vl.cmp]
    by_cases hk : k = k2
    · subst hk
      rw [if_neg (by simp)]
      by_cases k1 : k = 1
      · subst k1
        rw [if_pos rfl]
        exact rcompare20_bool b n s _ _ b2 n2 s2 _ _ w
      rw [if_neg k1]
      by_cases k2 : k = 2
      · subst k2
        rw [if_pos rfl]
        exact rcompare20_int b n s _ _ b2 n2 s2 _ _ w
      rw [if_neg k2]
      by_cases k3 : k = 3 ∨ k = 4
      · rw [if_pos k3]
        exact rcompare20_text k k3 b n s _ _ b2 n2 s2 _ _ w
      rw [if_neg k3]
      by_cases k5 : k = 5
      · subst k5
        rw [if_pos rfl]
        exact rcompare20_list N ih b n s l l2 f ao l.length ac _ b2 n2 s2 ao2 l2.length ac2 _ w H hH ht ⟨rfl, rfl⟩ (by unfold maxLen at h5; omega) (by unfold maxLen at g5; omega) h7 g7
      rw [if_neg k5]
      by_cases k6 : k = 6
      · subst k6
        rw [if_pos rfl]
        exact rcompare20_struct N ih b n s l f f2 _ fo f.length fc b2 n2 s2 _ fo2 f2.length fc2 w H hH ht ⟨rfl, rfl⟩ (by unfold maxLen at h6; omega) (by unfold maxLen at g6; omega) h8 g8
      rw [if_neg k6]
      exact rcompare20_else k k1 k2 (fun h => k3 (.inl h)) (fun h => k3 (.inr h)) k5 k6 b n s _ _ b2 n2 s2 _ _ w
    · rw [if_pos hk]
      exact rcompare20_kinds k b n s _ _ k2 b2 n2 s2 _ _ w hk
end Go.Proofs.YtcgkoogdgagddaaDoor
