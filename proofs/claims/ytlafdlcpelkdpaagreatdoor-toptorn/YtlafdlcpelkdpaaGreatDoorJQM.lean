/- Several texts, joined: SameL, Same, RSame, RSameT, RSameA -/
import Derived.Test.YtlafdlcpelkdpaaGreatDoorJAM
import Derived.Deep.QuietTactic
import Derived.BigQuiet
/- sameLists at values and at fields, and Same itself, walked: whatever two values are, the answer is whether they are the same. -/
namespace Go.Proofs.YtlafdlcpelkdpaaGreatDoor
open Go.RowKit
open Vl (V)
namespace Vl
end Vl
end Go.Proofs.YtlafdlcpelkdpaaGreatDoor
/- Same, walked: whatever two values are, it answers whether they are the same, and changes nothing that lay there. -/
namespace Go.Proofs.YtlafdlcpelkdpaaGreatDoor
open Go.RowKit
open Vl (V)
end Go.Proofs.YtlafdlcpelkdpaaGreatDoor
/- The document's own Same, walked: it answers as the program's does. -/
namespace Go.Proofs.YtlafdlcpelkdpaaGreatDoor
open Go.RowKit
open Vl (V)
end Go.Proofs.YtlafdlcpelkdpaaGreatDoor
/- The document's own Same, walked to its end. -/
namespace Go.Proofs.YtlafdlcpelkdpaaGreatDoor
open Go.RowKit
open Vl (V)
theorem drawn_below (w : World) (n : Nat) : Below w.heap.size w (w.drewN n) := by
  induction n with
  | zero => exact Below.refl _ _
  | succ n ih => exact ih.drew
/-- what a round over fields looks at -/
structure FR (P : Nat) (W0 W : World) (g o g2 o2 i : Nat) (sa sb : Value) (ma mb : ByteArray) (c0 c1 c2 c3 c4 c5 b0 b1 b2 b3 b4 b5 : Value) : Prop where
  low : P + 1 < W0.heap.size ∧ g < W0.heap.size ∧ g2 < W0.heap.size
  below : Below W0.heap.size W0 W
  a5 : W.cell? ⟨P, 5, none⟩ = some sa
  x5 : W.cell? ⟨P + 1, 5, none⟩ = some sb
  dm : W.cell? ⟨g, o + i * 7, none⟩ = some (.string ma)
  em : W.cell? ⟨g2, o2 + i * 7, none⟩ = some (.string mb)
  d0 : W.cell? ⟨g, o + i * 7 + 1, none⟩ = some c0
  d1 : W.cell? ⟨g, o + i * 7 + 2, none⟩ = some c1
  d2 : W.cell? ⟨g, o + i * 7 + 3, none⟩ = some c2
  d3 : W.cell? ⟨g, o + i * 7 + 4, none⟩ = some c3
  d4 : W.cell? ⟨g, o + i * 7 + 5, none⟩ = some c4
  d5 : W.cell? ⟨g, o + i * 7 + 6, none⟩ = some c5
  e0 : W.cell? ⟨g2, o2 + i * 7 + 1, none⟩ = some b0
  e1 : W.cell? ⟨g2, o2 + i * 7 + 2, none⟩ = some b1
  e2 : W.cell? ⟨g2, o2 + i * 7 + 3, none⟩ = some b2
  e3 : W.cell? ⟨g2, o2 + i * 7 + 4, none⟩ = some b3
  e4 : W.cell? ⟨g2, o2 + i * 7 + 5, none⟩ = some b4
  e5 : W.cell? ⟨g2, o2 + i * 7 + 6, none⟩ = some b5
theorem FR.call {P : Nat} {W0 W W' : World} {g o g2 o2 i : Nat} {sa sb : Value} {ma mb : ByteArray} {c0 c1 c2 c3 c4 c5 b0 b1 b2 b3 b4 b5 : Value} (h : FR P W0 W g o g2 o2 i sa sb ma mb c0 c1 c2 c3 c4 c5 b0 b1 b2 b3 b4 b5) (hb : Below W.heap.size W W') : FR P W0 W' g o g2 o2 i sa sb ma mb c0 c1 c2 c3 c4 c5 b0 b1 b2 b3 b4 b5 := by
  have hs := h.below.size
  obtain ⟨l1, l2, l3⟩ := h.low
  exact ⟨h.low, h.below.trans (hb.mono hs), (hb.cell (p := ⟨P, 5, none⟩) (by simp; omega)).trans h.a5, (hb.cell (p := ⟨P + 1, 5, none⟩) (by simp; omega)).trans h.x5, (hb.cell (p := ⟨g, o + i * 7, none⟩) (by simp; omega)).trans h.dm, (hb.cell (p := ⟨g2, o2 + i * 7, none⟩) (by simp; omega)).trans h.em, (hb.cell (p := ⟨g, o + i * 7 + 1, none⟩) (by simp; omega)).trans h.d0, (hb.cell (p := ⟨g, o + i * 7 + 2, none⟩) (by simp; omega)).trans h.d1, (hb.cell (p := ⟨g, o + i * 7 + 3, none⟩) (by simp; omega)).trans h.d2, (hb.cell (p := ⟨g, o + i * 7 + 4, none⟩) (by simp; omega)).trans h.d3, (hb.cell (p := ⟨g, o + i * 7 + 5, none⟩) (by simp; omega)).trans h.d4, (hb.cell (p := ⟨g, o + i * 7 + 6, none⟩) (by simp; omega)).trans h.d5, (hb.cell (p := ⟨g2, o2 + i * 7 + 1, none⟩) (by simp; omega)).trans h.e0, (hb.cell (p := ⟨g2, o2 + i * 7 + 2, none⟩) (by simp; omega)).trans h.e1, (hb.cell (p := ⟨g2, o2 + i * 7 + 3, none⟩) (by simp; omega)).trans h.e2, (hb.cell (p := ⟨g2, o2 + i * 7 + 4, none⟩) (by simp; omega)).trans h.e3, (hb.cell (p := ⟨g2, o2 + i * 7 + 5, none⟩) (by simp; omega)).trans h.e4, (hb.cell (p := ⟨g2, o2 + i * 7 + 6, none⟩) (by simp; omega)).trans h.e5⟩
end Go.Proofs.YtlafdlcpelkdpaaGreatDoor
/- The document's own Same, walked, whatever the values are: it answers as the program's does. -/
namespace Go.Proofs.YtlafdlcpelkdpaaGreatDoor
open Go.RowKit
open Vl (V)
namespace Vl
theorem sameL_eqlen : ∀ (l l2 : List V), sameL l l2 = true → l.length = l2.length
  | [], [], _ => rfl
  | [], _ :: _, h => by simp [sameL] at h
  | _ :: _, [], h => by simp [sameL] at h
  | x :: r, y :: r2, h => by
    rw [sameL, Bool.and_eq_true] at h
    simp [sameL_eqlen r r2 h.2]
theorem sameF_eqlen : ∀ (l l2 : List (ByteArray × V)), sameF l l2 = true → l.length = l2.length
  | [], [], _ => rfl
  | [], _ :: _, h => by simp [sameF] at h
  | _ :: _, [], h => by simp [sameF] at h
  | (m, x) :: r, (p, y) :: r2, h => by
    rw [sameF, Bool.and_eq_true] at h
    simp [sameF_eqlen r r2 h.2]
end Vl
end Go.Proofs.YtlafdlcpelkdpaaGreatDoor
