/- Entries in a row, as they are read; the document's Same of two rows of the same entries: walked. -/
import Derived.Test.YtkigenldiinioabGreatDoorRSameAM
import Derived.Test.YtkigenldiinioabGreatDoorGFM
namespace Go.Proofs.YtkigenldiinioabGreatDoor
open Go.RowKit
open Vl (V)
attribute [local go_sem ↓] Go.wp_at_zero Go.wp_at_succ
/-- numbers in a row -/
def NumsAt (w : World) (pi : Option Addr) (l : List Nat) : Prop := ∀ (m x : Nat), l[m]? = some x → ∃ g, pi = some ⟨g, 0, none⟩ ∧ g < w.heap.size ∧ w.cell? ⟨g, m, none⟩ = some (.int .u64 (x : Int))
/-- entries in a row -/
def EntsAt (w : World) (a : Option Addr) (L : List (V × List Nat)) : Prop := ∀ (j : Nat) (p : V × List Nat), L[j]? = some p → ∃ g k0 k1 k2 k3 k4 k5 pi cap, a = some ⟨g, 0, none⟩ ∧ g < w.heap.size ∧
  (w.cell? ⟨g, j * 7, none⟩ = some k0 ∧ w.cell? ⟨g, j * 7 + 1, none⟩ = some k1 ∧ w.cell? ⟨g, j * 7 + 2, none⟩ = some k2 ∧ w.cell? ⟨g, j * 7 + 3, none⟩ = some k3 ∧ w.cell? ⟨g, j * 7 + 4, none⟩ = some k4 ∧ w.cell? ⟨g, j * 7 + 5, none⟩ = some k5 ∧ w.cell? ⟨g, j * 7 + 6, none⟩ = some (.slice pi p.2.length cap)) ∧ Rep w w.heap.size p.1 (.agg #[k0, k1, k2, k3, k4, k5]) ∧ NumsAt w pi p.2 ∧ p.2.length ≤ 1000000
theorem NumsAt.stays {w w' : World} {pi : Option Addr} {l : List Nat} (h : NumsAt w pi l) (hb : Below w.heap.size w w') : NumsAt w' pi l := fun m x hx => by
  obtain ⟨g, h1, h2, h3⟩ := h m x hx
  exact ⟨g, h1, Nat.lt_of_lt_of_le h2 hb.size, (hb.cell (p := ⟨g, m, none⟩) h2).trans h3⟩
theorem EntsAt.stays {w w' : World} {a : Option Addr} {L : List (V × List Nat)} (h : EntsAt w a L) (hb : Below w.heap.size w w') : EntsAt w' a L := fun j p hp => by
  obtain ⟨g, k0, k1, k2, k3, k4, k5, pi, cap, h1, h2, ⟨c0, c1, c2, c3, c4, c5, c6⟩, h4, h5, h6⟩ := h j p hp
  have cl : ∀ o, w'.cell? ⟨g, o, none⟩ = w.cell? ⟨g, o, none⟩ := fun o => hb.cell (p := ⟨g, o, none⟩) h2
  exact ⟨g, k0, k1, k2, k3, k4, k5, pi, cap, h1, Nat.lt_of_lt_of_le h2 hb.size, ⟨(cl _).trans c0, (cl _).trans c1, (cl _).trans c2, (cl _).trans c3, (cl _).trans c4, (cl _).trans c5, (cl _).trans c6⟩, rep_stays hb hb.size _ _ h4, h5.stays hb, h6⟩
set_option maxHeartbeats 4000000 in
set_option maxRecDepth 100000 in
theorem sameE_c (L : List (V × List Nat)) (a b : Option Addr) (ca cb : Nat) (w : World) (hL : L.length ≤ 1000000) (ha : EntsAt w a L) (hb : EntsAt w b L) :
    Calls Tryz.prog 9 #[.slice a L.length ca, .slice b L.length cb] w fun e w' => e = .returned (.bool true) ∧ Below w.heap.size w w' := by
  obtain ⟨n, hn⟩ : ∃ n, n = L.length := ⟨_, rfl⟩
  rw [← hn] at hL ⊢
  have HN : Hid (n = L.length ∧ n ≤ 1000000) := ⟨hn, hL⟩
  have HA : Hid (EntsAt w a L ∧ EntsAt w b L) := ⟨ha, hb⟩
  have hl := hL
  clear hn ha hb hL
  go_enter Tryz.func9, Tryz.ntmps9
  go_wp2_with fail
  go_loopw [13] (fun i wr => ∃ (j : Nat), i = .int .i64 (j : Int) ∧ j ≤ n ∧ Below w.heap.size w wr) (fun i _ => n - (intOf i).toNat)
  case atStart => exact ⟨0, rfl, by omega, Below.refl _ _⟩
  case round =>
    obtain ⟨j, rfl, hj, hbr⟩ := hrel
    have HR : Hid (Below w.heap.size w wr) := hbr
    clear hbr
    by_cases hjn : j = n
    · subst hjn
      have q0 : ¬ (j : Int) < (j : Int) := by omega
      go_wp2
      go_ret
      exact ⟨rfl, HR.out⟩
    · have hlt : j < n := by omega
      have q0 : (j : Int) < (n : Int) := by omega
      have q1 : (0 : Int) ≤ (j : Int) := by omega
      obtain ⟨p, hp⟩ : ∃ p, L[j]? = some p := ⟨_, List.getElem?_eq_getElem (by have := HN.out; omega)⟩
      obtain ⟨g, k0, k1, k2, k3, k4, k5, pi, cap, rfl, h2, ⟨c0, c1, c2, c3, c4, c5, c6⟩, h4, h5, h6⟩ := HA.out.1 j p hp
      obtain ⟨g', m0, m1, m2, m3, m4, m5, pi', cap', rfl, h2', ⟨e0, e1, e2, e3, e4, e5, e6⟩, h4', h5', h6'⟩ := HA.out.2 j p hp
      obtain ⟨ln, hln⟩ : ∃ ln, ln = p.2.length := ⟨_, rfl⟩
      obtain ⟨o, ho⟩ : ∃ o, o = j * 7 := ⟨_, rfl⟩
      rw [← ho] at c0 c1 c2 c3 c4 c5 c6 e0 e1 e2 e3 e4 e5 e6
      rw [← hln] at c6 e6
      have CS : Hid (∀ W, Below w.heap.size w W → Calls Tryz.prog 24 #[.agg #[k0, k1, k2, k3, k4, k5], .agg #[m0, m1, m2, m3, m4, m5]] W fun e w' => e = .returned (.bool true) ∧ Below W.heap.size W w') := fun W hW => by
        have h := rsame17 _ p.1 (Nat.le_refl _) p.1 W w.heap.size _ _ hW.size (rep_stays hW (Nat.le_refl _) _ _ h4) (rep_stays hW (Nat.le_refl _) _ _ h4')
        rw [Vl.same_refl] at h
        exact h
      have CI : Hid (∀ W, Below w.heap.size w W → Calls Tryz.prog 10 #[.slice pi ln cap, .slice pi' ln cap'] W fun e w' => e = .returned (.bool true) ∧ Below W.heap.size W w') := fun W hW => by
        have h := ids_c p.2 p.2 pi pi' cap cap' W h6 (h5.stays hW) (h5'.stays hW)
        rw [← hln] at h
        simpa using h
      have CB : Hid (∀ W, Below wr.heap.size wr W → Below w.heap.size w W) := fun W hW => HR.out.trans (hW.mono HR.out.size)
      have cl : ∀ (p : BelowOf wr.heap.size wr) (o : Nat), p.W.cell? ⟨g, o, none⟩ = w.cell? ⟨g, o, none⟩ := fun p o => (CB.out _ p.h).cell (p := ⟨g, o, none⟩) h2
      have cl' : ∀ (p : BelowOf wr.heap.size wr) (o : Nat), p.W.cell? ⟨g', o, none⟩ = w.cell? ⟨g', o, none⟩ := fun p o => (CB.out _ p.h).cell (p := ⟨g', o, none⟩) h2'
      have a0 : ∀ p : BelowOf wr.heap.size wr, p.W.cell? ⟨g, o, none⟩ = some k0 := fun p => (cl p _).trans c0
      have a1 : ∀ p : BelowOf wr.heap.size wr, p.W.cell? ⟨g, o + 1, none⟩ = some k1 := fun p => (cl p _).trans c1
      have a2 : ∀ p : BelowOf wr.heap.size wr, p.W.cell? ⟨g, o + 2, none⟩ = some k2 := fun p => (cl p _).trans c2
      have a3 : ∀ p : BelowOf wr.heap.size wr, p.W.cell? ⟨g, o + 3, none⟩ = some k3 := fun p => (cl p _).trans c3
      have a4 : ∀ p : BelowOf wr.heap.size wr, p.W.cell? ⟨g, o + 4, none⟩ = some k4 := fun p => (cl p _).trans c4
      have a5 : ∀ p : BelowOf wr.heap.size wr, p.W.cell? ⟨g, o + 5, none⟩ = some k5 := fun p => (cl p _).trans c5
      have a6 : ∀ p : BelowOf wr.heap.size wr, p.W.cell? ⟨g, o + 6, none⟩ = some (.slice pi ln cap) := fun p => (cl p _).trans c6
      have b0 : ∀ p : BelowOf wr.heap.size wr, p.W.cell? ⟨g', o, none⟩ = some m0 := fun p => (cl' p _).trans e0
      have b1 : ∀ p : BelowOf wr.heap.size wr, p.W.cell? ⟨g', o + 1, none⟩ = some m1 := fun p => (cl' p _).trans e1
      have b2 : ∀ p : BelowOf wr.heap.size wr, p.W.cell? ⟨g', o + 2, none⟩ = some m2 := fun p => (cl' p _).trans e2
      have b3 : ∀ p : BelowOf wr.heap.size wr, p.W.cell? ⟨g', o + 3, none⟩ = some m3 := fun p => (cl' p _).trans e3
      have b4 : ∀ p : BelowOf wr.heap.size wr, p.W.cell? ⟨g', o + 4, none⟩ = some m4 := fun p => (cl' p _).trans e4
      have b5 : ∀ p : BelowOf wr.heap.size wr, p.W.cell? ⟨g', o + 5, none⟩ = some m5 := fun p => (cl' p _).trans e5
      have b6 : ∀ p : BelowOf wr.heap.size wr, p.W.cell? ⟨g', o + 6, none⟩ = some (.slice pi' ln cap') := fun p => (cl' p _).trans e6
      have ho' := ho.symm
      obtain ⟨j1, hj1⟩ : ∃ j1, j1 = j + 1 := ⟨_, rfl⟩
      obtain ⟨v1, v2⟩ : IntKind.i64.wrap ((j : Int) + 1) = (j1 : Int) ∧ wrap64 ((j : Int) + 1) = (j1 : Int) := succs hj1 (by omega)
      have HJ : Hid (j1 = j + 1 ∧ j < n) := ⟨hj1, hlt⟩
      clear c0 c1 c2 c3 c4 c5 c6 e0 e1 e2 e3 e4 e5 e6 cl cl' h2 h2' h4 h4' h5 h5' h6 h6' hp hln ho hj1 hjn hj hlt hl
      go_upto_region 6 with fail
      refine wp_region_below wr.heap.size wr (Below.refl _ _) (by kernel_rfl) (by kernel_rfl) ?_
      repeat (go_big_quiet_step (first | (go_at_call 24; exact below_call _ (Nat.le_refl _) (CS.out _ (CB.out _ (BelowOf.h _)))) | (go_at_call 10; exact below_call _ (Nat.le_refl _) (CI.out _ (CB.out _ (BelowOf.h _))))))
      refine wpQuiet_nil ?_
      intro _ hw'
      obtain ⟨pq, hw''⟩ := hw'
      subst hw''
      have HB2 : Hid (Below w.heap.size w pq.W) := CB.out _ pq.h
      go_wp2
      go_roundw
      case rel => first | exact ⟨j1, rfl, by have := HJ.out; omega, HB2.out⟩ | ((repeat apply Exists.intro); exact ⟨⟨j1, rfl, by have := HJ.out; omega, HB2.out⟩, rfl⟩)
      case measure =>
        simp only [intOf]
        have := HJ.out
        omega
end Go.Proofs.YtkigenldiinioabGreatDoor
