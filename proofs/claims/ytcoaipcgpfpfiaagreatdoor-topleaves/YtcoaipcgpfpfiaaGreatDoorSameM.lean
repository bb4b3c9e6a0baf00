/- Same, walked: whatever two values are, it answers whether they are the same, and changes nothing that lay there. -/
import Derived.Test.YtcoaipcgpfpfiaaGreatDoorSameLM
namespace Go.Proofs.YtcoaipcgpfpfiaaGreatDoor
open Go.RowKit
open Vl (V)
set_option maxHeartbeats 4000000 in
set_option maxRecDepth 100000 in
theorem same12 : ∀ (N : Nat) (a : V), Vl.count a ≤ N → ∀ (b : V) (w : World) (H : Nat) (va vb : Value), H ≤ w.heap.size → Rep w H a va → Rep w H b vb →
    Calls Tryz.prog 9 #[va, vb] w fun e w' => e = .returned (.bool (Vl.same a b)) ∧ Below w.heap.size w w' := by
  intro N
  induction N with
  | zero => intro t ht; obtain ⟨k, b, n, s, l, f⟩ := t; rw [Vl.count] at ht; omega
  | succ N ih =>
    rintro ⟨k, b, n, s, l, f⟩ ht ⟨k2, b2, n2, s2, l2, f2⟩ w H va vb hH hA hB
    rw [Rep] at hA hB
    obtain ⟨ao, ac, fo, fc, rfl, h2, h3, h4, h5, h6, h7, h8⟩ := hA
    obtain ⟨ao2, ac2, fo2, fc2, rfl, g2, g3, g4, g5, g6, g7, g8⟩ := hB
    have C27 : Hid (∀ W, Below w.heap.size w W → Calls Tryz.prog 23 #[.slice ao l.length ac, .slice ao2 l2.length ac2, .func (.func 9) #[] #[]] W fun e w' => e = .returned (.bool (Vl.sameL l l2)) ∧ Below W.heap.size W w') := fun W hW =>
      sames31 l l2 ao ao2 ac ac2 W H (by have := hW.size; omega) (LiesL.stays ⟨h5, h7⟩ (hW.mono hH) (Nat.le_refl _)) (LiesL.stays ⟨g5, g7⟩ (hW.mono hH) (Nat.le_refl _))
        (fun x hx y _ W va vb hW ha hb => ih x (by have := Vl.count_memL (k := k) (b := b) (n := n) (s := s) (f := f) hx; omega) y W H va vb hW ha hb)
    have C28 : Hid (∀ W, Below w.heap.size w W → Calls Tryz.prog 24 #[.slice fo f.length fc, .slice fo2 f2.length fc2, .func (.func 25) #[] #[]] W fun e w' => e = .returned (.bool (Vl.sameF f f2)) ∧ Below W.heap.size W w') := fun W hW =>
      sames32 f f2 fo fo2 fc fc2 W H (by have := hW.size; omega) (LiesF.stays ⟨h6, h8⟩ (hW.mono hH) (Nat.le_refl _)) (LiesF.stays ⟨g6, g8⟩ (hW.mono hH) (Nat.le_refl _))
        (fun x hx y _ W va vb hW ha hb => ih x.2 (by have := Vl.count_memF (k := k) (b := b) (n := n) (s := s) (l := l) hx; omega) y.2 W H va vb hW ha hb)
    obtain ⟨cl, hcl⟩ : ∃ c, c = Vl.sameL l l2 := ⟨_, rfl⟩
    obtain ⟨cf, hcf⟩ : ∃ c, c = Vl.sameF f f2 := ⟨_, rfl⟩
    have HR : Hid (Vl.same ⟨k, b, n, s, l, f⟩ ⟨k2, b2, n2, s2, l2, f2⟩ = (decide (k = k2) && decide (b = b2) && decide (n = n2) && decide (s = s2) && cl && cf)) := by
      show _ = _
      rw [Vl.same, hcl, hcf]
    obtain ⟨r, hr⟩ : ∃ r, r = Vl.same ⟨k, b, n, s, l, f⟩ ⟨k2, b2, n2, s2, l2, f2⟩ := ⟨_, rfl⟩
    rw [← hr] at HR ⊢
    rw [← hcl] at C27
    rw [← hcf] at C28
    obtain ⟨ll, hll⟩ : ∃ n, n = l.length := ⟨_, rfl⟩
    obtain ⟨ll2, hll2⟩ : ∃ n, n = l2.length := ⟨_, rfl⟩
    obtain ⟨fl, hfl⟩ : ∃ n, n = f.length := ⟨_, rfl⟩
    obtain ⟨fl2, hfl2⟩ : ∃ n, n = f2.length := ⟨_, rfl⟩
    rw [← hll, ← hll2] at C27
    rw [← hfl, ← hfl2] at C28
    rw [← hll, ← hll2, ← hfl, ← hfl2]
    clear ih ht hr hcl hcf h5 h6 h7 h8 g5 g6 g7 g8 hll hll2 hfl hfl2 h3 g3 h4 g4
    have HS : Hid (s = s2 ↔ s.toList = s2.toList) := ⟨fun h => by rw [h], fun h => Decidable.byContradiction fun hn => Vl.toList_ne hn h⟩
    go_enter Tryz.func9, Tryz.ntmps9
    go_wp2_with (first
      | (go_at_call 23; refine (C27.out _ (below_new2 _ _ _)).mono ?_; rintro e w3 ⟨rfl, hb3⟩
         have q1 : w3.cell? ⟨w.heap.size, 5, none⟩ = some (.slice fo fl fc) := (hb3.cell (p := ⟨w.heap.size, 5, none⟩) (by simp; omega)).trans (boxA _ _ _ _ _ _ _ rfl)
         have q2 : w3.cell? ⟨w.heap.size + 1, 5, none⟩ = some (.slice fo2 fl2 fc2) := (hb3.cell (p := ⟨w.heap.size + 1, 5, none⟩) (by simp)).trans (boxB _ _ _ _ _ _ _ rfl))
      | (go_at_call 24; refine (C28.out _ ((below_new2 _ _ _).trans (hb3.mono (below_new2 _ _ _).size))).mono ?_; rintro e w4 ⟨rfl, hb4⟩))
    all_goals
      refine ⟨rfl, _, results_tmp (by rfl) _ _ _, ?_, ?_⟩
      · refine congrArg (fun z => Ending.returned (Value.bool z)) (Eq.symm ?_)
        have hS := HS.out
        rw [HR.out]
        simp_all <;> omega
      · first
          | exact below_new2 _ _ _
          | exact (below_new2 _ _ _).trans ((hb3.trans (hb4.mono hb3.size)).mono (below_new2 _ _ _).size)
          | exact (below_new2 _ _ _).trans (hb3.mono (below_new2 _ _ _).size)
end Go.Proofs.YtcoaipcgpfpfiaaGreatDoor
