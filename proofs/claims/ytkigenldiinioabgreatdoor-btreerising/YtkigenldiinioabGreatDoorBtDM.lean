/- Where a number lies among an entry's: walked. -/
import Derived.Test.YtkigenldiinioabGreatDoorBtOM
namespace Go.Proofs.YtkigenldiinioabGreatDoor
open Go.RowKit
open Vl (V)
attribute [local go_sem ↓] Go.wp_at_zero Go.wp_at_succ
namespace Bt
/-- how many numbers come ahead of one -/
def nspot (id : Nat) (l : List Nat) : Nat := (l.takeWhile fun x => decide (x < id)).length
theorem nspot_cut {id : Nat} {l : List Nat} (h : l.Pairwise (· < ·)) : Cut (fun x => decide (x < id)) l (nspot id l) :=
  cut_while _ (h.imp fun {a b} hab hb => by
    rw [decide_eq_true_eq] at hb ⊢
    exact Nat.lt_trans hab hb)
/-- whether it is there -/
def nhas (id : Nat) (l : List Nat) : Bool := decide (l[nspot id l]? = some id)
end Bt
set_option maxHeartbeats 1000000 in
theorem less_c (x id B : Nat) (W : World) (h : W.cell? ⟨B, 0, none⟩ = some (.int .u64 (id : Int))) :
    Calls Tryz.prog 51 #[.int .u64 (x : Int), .pointer (some ⟨B, 0, none⟩)] W fun e w' => e = .returned (.bool (decide (x < id))) ∧ Below W.heap.size W w' := by
  by_cases hl : x < id
  · have q : decide ((x : Int) < (id : Int)) = true := decide_eq_true (Int.ofNat_lt.2 hl)
    have e : Hid (decide (x < id) = true) := decide_eq_true hl
    clear hl
    go_enter Tryz.func51, Tryz.ntmps51
    go_wp2
    go_ret
    exact ⟨by rw [e.out]; first | rfl | simp [q], Below.refl _ _⟩
  · have q : decide ((x : Int) < (id : Int)) = false := decide_eq_false fun h => hl (Int.ofNat_lt.1 h)
    have e : Hid (decide (x < id) = false) := decide_eq_false hl
    clear hl
    go_enter Tryz.func51, Tryz.ntmps51
    go_wp2
    go_ret
    exact ⟨by rw [e.out]; first | rfl | simp [q], Below.refl _ _⟩
set_option maxHeartbeats 1000000 in
theorem eplace_nil (id : Nat) (w : World) : Calls Tryz.prog 25 #[.pointer none, .int .u64 (id : Int)] w fun e w' => e = .returned (.tuple #[.int .i64 0, .bool false]) ∧ Below w.heap.size w w' := by
  go_enter Tryz.func25, Tryz.ntmps25
  go_wp2
  go_ret2
  exact ⟨rfl, below_new _ _⟩
/-- an entry's numbers in memory -/
def IdsAt (w : World) (v : Value) (l : List Nat) : Prop := w.ownsRow 0 45 1 v l.length (l.map fun (x : Nat) => Value.int .u64 (x : Int))
theorem ids_cells {w : World} {g n cap : Nat} {l : List Nat} (h : IdsAt w (.slice (some ⟨g, 0, none⟩) n cap) l) : n = l.length ∧ g < w.heap.size ∧ ∀ (j x : Nat), l[j]? = some x → w.cell? ⟨g, 0 + j, none⟩ = some (.int .u64 (x : Int)) := by
  rcases h.2 with ⟨h1, _⟩ | ⟨g', cap', cur, h1, _, hc, _, _, _, htk⟩
  · cases h1
  · injection h1 with e1 e2 e3
    injection e1 with e1
    injection e1 with e1
    subst e1
    refine ⟨e2, lt_of_row hc, fun j x hj => ?_⟩
    rw [Nat.zero_add]
    refine cells_at hc j _ ?_
    have hlt := (List.getElem?_eq_some_iff.1 hj).1
    have : (l.map fun (x : Nat) => Value.int .u64 (x : Int))[j]? = some (.int .u64 (x : Int)) := by rw [List.getElem?_map, hj]; rfl
    rw [← htk, List.getElem?_take_of_lt (by omega), Array.getElem?_toList] at this
    exact this
set_option maxHeartbeats 4000000 in
set_option maxRecDepth 100000 in
theorem eplace_c (e id g n cap : Nat) (l : List Nat) (c0 c1 c2 c3 c4 c5 : Value) (w : World) (he : w.heap[e]? = some (.cells #[c0, c1, c2, c3, c4, c5, .slice (some ⟨g, 0, none⟩) n cap] 63 (0, 0))) (hI : IdsAt w (.slice (some ⟨g, 0, none⟩) n cap) l) (hl : l.length ≤ 1000000) (hr : l.Pairwise (· < ·)) :
    Calls Tryz.prog 25 #[.pointer (some ⟨e, 0, none⟩), .int .u64 (id : Int)] w fun ex w' => ex = .returned (.tuple #[.int .i64 (Bt.nspot id l : Int), .bool (Bt.nhas id l)]) ∧ Below w.heap.size w w' := by
  obtain ⟨hn, hg, hc⟩ := ids_cells hI
  obtain ⟨k, hk⟩ : ∃ k, k = Bt.nspot id l := ⟨_, rfl⟩
  have hcut := Bt.nspot_cut (id := id) hr
  rw [← hk] at hcut ⊢
  obtain ⟨w1, hw1⟩ : ∃ w1, w1 = w.alloc (.cells #[.int .u64 (id : Int)] 45) := ⟨_, rfl⟩
  obtain ⟨B, hBe⟩ : ∃ B, B = w.heap.size := ⟨_, rfl⟩
  have b1 : Below w.heap.size w w1 := by rw [hw1]; exact below_new _ _
  have hB : w1.heap[B]? = some (.cells #[.int .u64 (id : Int)] 45 (0, 0)) := by rw [hw1, hBe]; exact heap_alloc_new w _
  have hel := lt_of_row he
  have CP : Hid (Calls Tryz.prog 50 #[.slice (some ⟨g, 0, none⟩) n cap, .func (.func 51) #[] #[.pointer (some ⟨B, 0, none⟩)]] w1 fun e w' => e = .returned (.int .i64 (k : Int)) ∧ Below w1.heap.size w1 w') :=
    placeU_c _ (fun x => decide (x < id)) l g 0 n cap k w1 hn (by omega) (by have := b1.size; omega) (fun j x hj => (b1.cell (p := ⟨g, 0 + j, none⟩) hg).trans (hc j x hj)) hcut (fun x W hx hW => less_c x id B W (cells_at ((hW.block _ (lt_of_row hB)).trans hB) 0 _ rfl))
  have HA : Hid (∀ W, Below w1.heap.size w1 W → Below w.heap.size w W ∧ W.cell? ⟨e, 6, none⟩ = some (.slice (some ⟨g, 0, none⟩) n cap) ∧ W.cell? ⟨B, 0, none⟩ = some (.int .u64 (id : Int)) ∧ ∀ (j x : Nat), l[j]? = some x → W.cell? ⟨g, j, none⟩ = some (.int .u64 (x : Int))) := fun W hW => by
    have hb := b1.trans (hW.mono b1.size)
    refine ⟨hb, cells_at ((hb.block _ hel).trans he) 6 _ rfl, cells_at ((hW.block _ (lt_of_row hB)).trans hB) 0 _ rfl, fun j x hj => ?_⟩
    have := (hb.cell (p := ⟨g, 0 + j, none⟩) hg).trans (hc j x hj)
    rw [Nat.zero_add] at this
    exact this
  have HN : Hid (n = l.length ∧ n ≤ 1000000 ∧ k ≤ l.length ∧ k = Bt.nspot id l) := ⟨hn, by omega, hcut.1, hk⟩
  have p6 := (HA.out w1 (Below.refl _ _)).2.1
  clear hI hl hr hn hg hc hk hcut b1 hB hel he
  go_enter Tryz.func25, Tryz.ntmps25
  go_upto_region 1 with fail
  rw [← hw1, ← hBe]
  clear hw1 hBe
  go_wp2_with fail
  refine CP.out.mono ?_
  rintro ex w2 ⟨rfl, hb2⟩
  have HB2 : Hid (Below w1.heap.size w1 w2) := hb2
  clear hb2 CP p6
  go_upto_region 4 with fail
  have e6 : ∀ p : BelowOf w2.heap.size w2, p.W.cell? ⟨e, 6, none⟩ = some (.slice (some ⟨g, 0, none⟩) n cap) := fun p => (HA.out _ (HB2.out.trans (p.h.mono HB2.out.size))).2.1
  have b0 : ∀ p : BelowOf w2.heap.size w2, p.W.cell? ⟨B, 0, none⟩ = some (.int .u64 (id : Int)) := fun p => (HA.out _ (HB2.out.trans (p.h.mono HB2.out.size))).2.2.1
  rcases hlook : l[k]? with _ | x
  · have hkn : k = n := by have := HN.out; rw [List.getElem?_eq_none_iff] at hlook; omega
    have E : Hid (Bt.nhas id l = false) := by show _ = _; rw [Bt.nhas, ← HN.out.2.2.2, hlook]; rfl
    clear hlook
    subst hkn
    have q0 : ¬ (k : Int) < (k : Int) := by omega
    have q : decide ((k : Int) < (k : Int)) = false := by simp
    refine wp_region_below w2.heap.size w2 (Below.refl _ _) (by kernel_rfl) (by kernel_rfl) ?_
    repeat (go_big_quiet_step (fail))
    refine wpQuiet_nil ?_
    intro _ hw'
    obtain ⟨pq, hw''⟩ := hw'
    subst hw''
    have HF := (HA.out _ (HB2.out.trans (pq.h.mono HB2.out.size))).1
    go_wp2
    go_ret2
    exact ⟨by rw [E.out]; rfl, HF⟩
  · have c0 : ∀ p : BelowOf w2.heap.size w2, p.W.cell? ⟨g, k, none⟩ = some (.int .u64 (x : Int)) := fun p => (HA.out _ (HB2.out.trans (p.h.mono HB2.out.size))).2.2.2 k x hlook
    have E : Hid (Bt.nhas id l = decide (x = id)) := by show _ = _; rw [Bt.nhas, ← HN.out.2.2.2, hlook]; simp
    have q0 : (0 : Int) ≤ (k : Int) := by omega
    have q1 : (k : Int) < (n : Int) := by have := (List.getElem?_eq_some_iff.1 hlook).1; have := HN.out; omega
    have q : decide ((k : Int) < (n : Int)) = true := decide_eq_true q1
    clear hlook
    by_cases hx : x = id
    · subst hx
      refine wp_region_below w2.heap.size w2 (Below.refl _ _) (by kernel_rfl) (by kernel_rfl) ?_
      repeat (go_big_quiet_step (fail))
      refine wpQuiet_nil ?_
      intro _ hw'
      obtain ⟨pq, hw''⟩ := hw'
      subst hw''
      have HF := (HA.out _ (HB2.out.trans (pq.h.mono HB2.out.size))).1
      go_wp2
      go_ret2
      exact ⟨by rw [E.out]; simp, HF⟩
    · have qx : ((x : Int) == (id : Int)) = false := by simp; omega
      have qi : ¬ ((x : Int) = (id : Int)) := by omega
      have E2 : Hid (Bt.nhas id l = false) := E.out.trans (decide_eq_false hx)
      clear hx
      refine wp_region_below w2.heap.size w2 (Below.refl _ _) (by kernel_rfl) (by kernel_rfl) ?_
      repeat (go_big_quiet_step (fail))
      refine wpQuiet_nil ?_
      intro _ hw'
      obtain ⟨pq, hw''⟩ := hw'
      subst hw''
      have HF := (HA.out _ (HB2.out.trans (pq.h.mono HB2.out.size))).1
      go_wp2
      go_ret2
      exact ⟨by rw [E2.out]; rfl, HF⟩
end Go.Proofs.YtkigenldiinioabGreatDoor
