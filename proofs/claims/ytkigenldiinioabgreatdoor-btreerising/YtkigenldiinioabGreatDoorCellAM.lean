/- Rows lie in blocks of cells. -/
import Derived.Test.YtkigenldiinioabGreatDoorRepAM
namespace Go.Proofs.YtkigenldiinioabGreatDoor
open Go.RowKit
open Vl (V)
/-- a block of cells lies there -/
def CellsAt (W : World) (g : Nat) : Prop := ∃ cs t fr, W.heap[g]? = some (.cells cs t fr)
theorem CellsAt.of_cell {W : World} {g o : Nat} {v : Value} (h : W.cell? ⟨g, o, none⟩ = some v) : CellsAt W g := by
  unfold World.cell? at h
  unfold CellsAt
  cases hg : W.heap[g]? with
  | none => simp [hg] at h
  | some ob =>
    cases ob with
    | cells cs t fr => exact ⟨cs, t, fr, rfl⟩
    | _ => simp [hg] at h
theorem CellsAt.keep {W W' : World} {g : Nat} (h : CellsAt W g) (hb : W'.heap[g]? = W.heap[g]?) : CellsAt W' g := by
  obtain ⟨cs, t, fr, e⟩ := h
  exact ⟨cs, t, fr, hb.trans e⟩
mutual
/-- rows lie in blocks of cells -/
theorem repA_cells {W : World} {A : Nat → Prop} : ∀ (t : V) (v : Value), RepA W A t v → RepA W (fun g => A g ∧ CellsAt W g) t v
  | ⟨k, b, n, s, l, f⟩, v, h => by
    rw [RepA] at h ⊢
    obtain ⟨ao, lc, fo, fc, h1, h2, h3, h4, h5, h6, h7, h8⟩ := h
    refine ⟨ao, lc, fo, fc, h1, h2, h3, h4, h5, h6, fun hp => ?_, fun hp => ?_⟩
    · obtain ⟨g, o, e, hg, hr⟩ := h7 hp
      refine ⟨g, o, e, ⟨hg, ?_⟩, repLA_cells l o hr⟩
      cases l with
      | nil => simp at hp
      | cons x r =>
        rw [RepLA] at hr
        obtain ⟨⟨c0, c1, c2, c3, c4, c5, h6', _⟩, _⟩ := hr
        exact CellsAt.of_cell h6'.1
    · obtain ⟨g, o, e, hg, hr, hz⟩ := h8 hp
      refine ⟨g, o, e, ⟨hg, ?_⟩, repFA_cells f o hr, hz⟩
      cases f with
      | nil => simp at hp
      | cons x r =>
        obtain ⟨m, x⟩ := x
        rw [RepFA] at hr
        exact CellsAt.of_cell hr.1.1
theorem repLA_cells {W : World} {A : Nat → Prop} {g : Nat} : ∀ (l : List V) (o : Nat), RepLA W A g o l → RepLA W (fun g => A g ∧ CellsAt W g) g o l
  | [], _, _ => by rw [RepLA]; trivial
  | x :: r, o, h => by
    rw [RepLA] at h ⊢
    obtain ⟨⟨c0, c1, c2, c3, c4, c5, h1, h2⟩, h3⟩ := h
    exact ⟨⟨c0, c1, c2, c3, c4, c5, h1, repA_cells x _ h2⟩, repLA_cells r _ h3⟩
theorem repFA_cells {W : World} {A : Nat → Prop} {g : Nat} : ∀ (l : List (ByteArray × V)) (o : Nat), RepFA W A g o l → RepFA W (fun g => A g ∧ CellsAt W g) g o l
  | [], _, _ => by rw [RepFA]; trivial
  | (m, x) :: r, o, h => by
    rw [RepFA] at h ⊢
    obtain ⟨⟨h0, hm, c0, c1, c2, c3, c4, c5, h1, h2⟩, h3⟩ := h
    exact ⟨⟨h0, hm, c0, c1, c2, c3, c4, c5, h1, repA_cells x _ h2⟩, repFA_cells r _ h3⟩
end
end Go.Proofs.YtkigenldiinioabGreatDoor
