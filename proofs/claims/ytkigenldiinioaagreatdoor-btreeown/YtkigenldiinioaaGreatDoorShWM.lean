/- Keys lie on few levels, rise, and have numbers that rise: walked. -/
import Derived.Test.YtkigenldiinioaaGreatDoorFlAM
import Derived.Test.YtkigenldiinioaaGreatDoorQ44M
namespace Go.Proofs.YtkigenldiinioaaGreatDoor
open Go.RowKit Go.Shelf
open Vl (V)
attribute [local go_sem ↓] Go.wp_at_zero Go.wp_at_succ
theorem InEs.up {w : World} {H K : Nat} {a : Option Addr} {l : List (V × List Nat)} (h : InEs w H a l) (hK : H ≤ K) : InEs w K a l := fun hl => by
  obtain ⟨g, o, h1, h2, h3⟩ := h hl
  refine ⟨g, o, h1, by omega, fun i p hp => ?_⟩
  obtain ⟨k0, k1, k2, k3, k4, k5, pi, cap, hc, h4, h5, h6⟩ := h3 i p hp
  refine ⟨k0, k1, k2, k3, k4, k5, pi, cap, hc, rep_stays (Below.refl _ _) hK _ _ h4, h5, fun hq => ?_⟩
  obtain ⟨g', o', e1, e2, e3⟩ := h6 hq
  exact ⟨g', o', e1, by omega, e3⟩
/-- filled, behind other calls -/
theorem filled_at (w W : World) (hU : Bn.HasU w) (hW : Below w.heap.size w W) (l : List (V × List Nat)) (la : Option Addr) (lc : Nat) (hl : l.length ≤ maxLen) (hI : InEs w w.heap.size la l) : Calls Tryz.prog 9 #[.slice la l.length lc] W fun e w' => ∃ tb L a c, e = .returned (.tuple #[.pointer (some ⟨tb, 0, none⟩), .slice a (List.length L) c, .bool true]) ∧ FS W tb L L a (fun _ _ => False) w' ∧ Below w.heap.size w w' := by
  refine (filled_c W (hU.stays hW) l la lc hl ((hI.stays hW).up hW.size)).mono ?_
  rintro e w' ⟨tb, L, a, c, rfl, h⟩
  exact ⟨tb, L, a, c, rfl, h, hW.trans (h.below.mono hW.size)⟩
namespace Bt
end Bt
end Go.Proofs.YtkigenldiinioaaGreatDoor
