/- Compare, walked: whatever two values are, it answers how they are held against each other, and changes nothing that lay there. -/
import Derived.Test.YtkigenldiinioabGreatDoorCmpFM
namespace Go.Proofs.YtkigenldiinioabGreatDoor
open Go.RowKit
open Vl (V)
namespace Vl
end Vl
set_option maxHeartbeats 4000000 in
set_option maxRecDepth 100000 in
theorem compare10 : ∀ (N : Nat) (a : V), Vl.count a ≤ N → ∀ (b : V) (w : World) (H : Nat) (va vb : Value), H ≤ w.heap.size → Rep w H a va → Rep w H b vb →
    Calls Tryz.prog 64 #[va, vb] w fun e w' => e = .returned (.int .i64 (Vl.cmp a b)) ∧ Below w.heap.size w w' := by
  intro N
  induction N with
  | zero => intro t ht; obtain ⟨k, b, n, s, l, f⟩ := t; rw [Vl.count] at ht; omega
  | succ N ih =>
    rintro ⟨k, b, n, s, l, f⟩ ht ⟨k2, b2, n2, s2, l2, f2⟩ w H va vb hH hA hB
    rw [Rep] at hA hB
    obtain ⟨ao, ac, fo, fc, rfl, h2, h3, h4, h5, h6, h7, h8⟩ := hA
    obtain ⟨ao2, ac2, fo2, fc2, rfl, g2, g3, g4, g5, g6, g7, g8⟩ := hB
    have C27 : Hid (∀ W, Below w.heap.size w W → Calls Tryz.prog 82 #[.slice ao l.length ac, .slice ao2 l2.length ac2, .func (.func 64) #[] #[]] W fun e w' => e = .returned (.int .i64 (Vl.cmpL l l2)) ∧ Below W.heap.size W w') := fun W hW =>
      lists27 l l2 ao ao2 ac ac2 W H (by have := hW.size; omega) (LiesL.stays ⟨h5, h7⟩ (hW.mono hH) (Nat.le_refl _)) (LiesL.stays ⟨g5, g7⟩ (hW.mono hH) (Nat.le_refl _))
        (fun x hx y _ W va vb hW ha hb => ih x (by have := Vl.count_memL (k := k) (b := b) (n := n) (s := s) (f := f) hx; omega) y W H va vb hW ha hb)
    have C28 : Hid (∀ W, Below w.heap.size w W → Calls Tryz.prog 83 #[.slice fo f.length fc, .slice fo2 f2.length fc2, .func (.func 84) #[] #[]] W fun e w' => e = .returned (.int .i64 (Vl.cmpF f f2)) ∧ Below W.heap.size W w') := fun W hW =>
      lists28 f f2 fo fo2 fc fc2 W H (by have := hW.size; omega) (LiesF.stays ⟨h6, h8⟩ (hW.mono hH) (Nat.le_refl _)) (LiesF.stays ⟨g6, g8⟩ (hW.mono hH) (Nat.le_refl _))
        (fun x hx y _ W va vb hW ha hb => ih x.2 (by have := Vl.count_memF (k := k) (b := b) (n := n) (s := s) (l := l) hx; omega) y.2 W H va vb hW ha hb)
    obtain ⟨r, hr⟩ : ∃ r, r = Vl.cmp ⟨k, b, n, s, l, f⟩ ⟨k2, b2, n2, s2, l2, f2⟩ := ⟨_, rfl⟩
    have HR : Hid (r = Vl.cmp ⟨k, b, n, s, l, f⟩ ⟨k2, b2, n2, s2, l2, f2⟩) := hr
    rw [← hr]
    obtain ⟨cl, hcl⟩ : ∃ c, c = Vl.cmpL l l2 := ⟨_, rfl⟩
    obtain ⟨cf, hcf⟩ : ∃ c, c = Vl.cmpF f f2 := ⟨_, rfl⟩
    have HCL : Hid (cl = Vl.cmpL l l2) := hcl
    have HCF : Hid (cf = Vl.cmpF f f2) := hcf
    rw [← hcl] at C27
    rw [← hcf] at C28
    obtain ⟨ll, hll⟩ : ∃ n, n = l.length := ⟨_, rfl⟩
    obtain ⟨ll2, hll2⟩ : ∃ n, n = l2.length := ⟨_, rfl⟩
    obtain ⟨fl, hfl⟩ : ∃ n, n = f.length := ⟨_, rfl⟩
    obtain ⟨fl2, hfl2⟩ : ∃ n, n = f2.length := ⟨_, rfl⟩
    rw [← hll, ← hll2] at C27
    rw [← hfl, ← hfl2] at C28
    rw [← hll, ← hll2, ← hfl, ← hfl2]
    clear ih ht hr hcl hcf h5 h6 h7 h8 g5 g6 g7 g8 hll hll2 hfl hfl2 h3 g3 h4 g4
    go_enter Tryz.func64, Tryz.ntmps64
    go_wp2_with (first
      | (go_at_call 78; refine (kinds23 _ _ _).mono ?_; rintro e w' ⟨rfl, rfl⟩)
      | (go_at_call 79; refine (bools24 _ _ _).mono ?_; rintro e w' ⟨rfl, rfl⟩)
      | (go_at_call 80; refine (whole25 _ _ _).mono ?_; rintro e w' ⟨rfl, rfl⟩)
      | (go_at_call 81; refine (strs26 _ _ _).mono ?_; rintro e w' ⟨rfl, rfl⟩)
      | (go_at_call 82; refine (C27.out _ (below_new2 _ _ _)).mono ?_; rintro e w' ⟨rfl, hbx⟩)
      | (go_at_call 83; refine (C28.out _ (below_new2 _ _ _)).mono ?_; rintro e w' ⟨rfl, hbx⟩))
    all_goals
      have hr := HR.out
      rw [Vl.cmp, ← HCL.out, ← HCF.out] at hr
      simp only [bne_iff_ne, beq_iff_eq, bne_eq_false_iff_eq, beq_eq_false_iff_ne, ne_eq] at *
      refine ⟨rfl, _, results_tmp (by rfl) _ _ _, ?_, ?_⟩
      · refine congrArg (fun z => Ending.returned (Value.int .i64 z)) (Eq.symm ?_)
        rw [hr]
        (repeat' split) <;> first | rfl | (exfalso; omega)
      · first | exact below_new2 _ _ _ | exact (below_new2 _ _ _).trans (hbx.mono (below_new2 _ _ _).size)
end Go.Proofs.YtkigenldiinioabGreatDoor
