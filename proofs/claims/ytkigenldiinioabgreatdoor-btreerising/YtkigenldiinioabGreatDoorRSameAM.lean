/- The document's own Same, walked, whatever the values are: it answers as the program's does. -/
import Derived.Test.YtkigenldiinioabGreatDoorRSameTM
namespace Go.Proofs.YtkigenldiinioabGreatDoor
open Go.RowKit
open Vl (V)
namespace Vl
theorem sameL_eqlen : ∀ (l l2 : List V), sameL l l2 = true → l.length = l2.length
  | [], [], _ => rfl
  | [], _ :: _, h => by simp [sameL] at h
  | _ :: _, [], h => by simp [sameL] at h
  | x :: r, y :: r2, h => by
    rw [sameL, Bool.and_eq_true] at h
    simp [sameL_eqlen r r2 h.2]
theorem sameF_eqlen : ∀ (l l2 : List (ByteArray × V)), sameF l l2 = true → l.length = l2.length
  | [], [], _ => rfl
  | [], _ :: _, h => by simp [sameF] at h
  | _ :: _, [], h => by simp [sameF] at h
  | (m, x) :: r, (p, y) :: r2, h => by
    rw [sameF, Bool.and_eq_true] at h
    simp [sameF_eqlen r r2 h.2]
end Vl
theorem rsame17 : ∀ (N : Nat) (a : V), Vl.count a ≤ N → ∀ (b : V) (w : World) (H : Nat) (va vb : Value), H ≤ w.heap.size → Rep w H a va → Rep w H b vb →
    Calls Tryz.prog 24 #[va, vb] w fun e w' => e = .returned (.bool (Vl.same a b)) ∧ Below w.heap.size w w' := by
  intro N
  induction N with
  | zero => intro t ht; obtain ⟨k, b, n, s, l, f⟩ := t; rw [Vl.count] at ht; omega
  | succ N ih =>
    rintro ⟨k, b, n, s, l, f⟩ ht ⟨k2, b2, n2, s2, l2, f2⟩ w H va vb hH hA hB
    rw [Rep] at hA hB
    obtain ⟨ao, ac, fo, fc, rfl, h2, h3, h4, h5, h6, h7, h8⟩ := hA
    obtain ⟨ao2, ac2, fo2, fc2, rfl, g2, g3, g4, g5, g6, g7, g8⟩ := hB
    by_cases hd : k = k2 ∧ b = b2 ∧ n = n2 ∧ s = s2 ∧ l.length = l2.length ∧ f.length = f2.length
    · obtain ⟨rfl, rfl, rfl, rfl, hl, hf⟩ := hd
      have e : Vl.same ⟨k, b, n, s, l, f⟩ ⟨k, b, n, s, l2, f2⟩ = (Vl.sameL l l2 && Vl.sameF f f2) := by rw [Vl.same]; simp
      rw [e]
      have := rsame17_tail N ih k b n s l l2 f f2 ao fo l.length ac f.length fc ao2 fo2 ac2 fc2 w H hH ht ⟨rfl, hl⟩ ⟨rfl, hf⟩ (by unfold maxLen at h5; omega) (by unfold maxLen at h6; omega) h7 h8 g7 g8
      rw [← hl, ← hf]
      exact this
    · have e : Vl.same ⟨k, b, n, s, l, f⟩ ⟨k2, b2, n2, s2, l2, f2⟩ = false := by
        rw [Vl.same]
        apply Bool.eq_false_iff.2
        intro h
        simp only [Bool.and_eq_true, decide_eq_true_eq] at h
        exact hd ⟨h.1.1.1.1.1, h.1.1.1.1.2, h.1.1.1.2, h.1.1.2, Vl.sameL_eqlen _ _ h.1.2, Vl.sameF_eqlen _ _ h.2⟩
      rw [e]
      exact rsame17_head k b n s ao fo l.length ac f.length fc k2 b2 n2 s2 ao2 fo2 l2.length ac2 f2.length fc2 w hd
end Go.Proofs.YtkigenldiinioabGreatDoor
