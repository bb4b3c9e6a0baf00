/- Several texts, joined: BtI, BtJ -/
import Derived.Test.YtkigenldiinioaaGreatDoorQ05M
import Derived.Test.YtkigenldiinioaaGreatDoorQ01M
import Derived.Shelf.Abstract
import Derived.Shelf.RegionOpen
import Derived.WalkKit
import Derived.OwnWalkIn
import Derived.TacticsInMore
import Derived.LoopNIn
import Derived.LoopIn
/- What lies below or above a bound: walked. -/
namespace Go.Proofs.YtkigenldiinioaaGreatDoor
open Go.RowKit
open Vl (V)
attribute [local go_sem ↓] Go.wp_at_zero Go.wp_at_succ
/-- a bound in memory -/
def Bnd (W : World) (H : Nat) (o : Option (Bool × V)) (v : Value) : Prop := ∃ (has opn : Bool) (d0 d1 d2 d3 d4 d5 : Value) (x : V), v = .agg #[.bool has, .bool opn, d0, d1, d2, d3, d4, d5] ∧ Rep W H x (.agg #[d0, d1, d2, d3, d4, d5]) ∧ o = if has = true then some (opn, x) else none
theorem Bnd.stays {W W' : World} {H : Nat} {o : Option (Bool × V)} {v : Value} (h : Bnd W H o v) (hb : Below H W W') : Bnd W' H o v := by
  obtain ⟨has, opn, d0, d1, d2, d3, d4, d5, x, h1, h2, h3⟩ := h
  exact ⟨has, opn, d0, d1, d2, d3, d4, d5, x, h1, rep_stays hb (Nat.le_refl _) _ _ h2, h3⟩
theorem Bnd.up {W : World} {H K : Nat} {o : Option (Bool × V)} {v : Value} (h : Bnd W H o v) (hK : H ≤ K) : Bnd W K o v := by
  obtain ⟨has, opn, d0, d1, d2, d3, d4, d5, x, h1, h2, h3⟩ := h
  exact ⟨has, opn, d0, d1, d2, d3, d4, d5, x, h1, rep_stays (Below.refl _ _) hK _ _ h2, h3⟩
theorem Bnd.form {W : World} {H : Nat} {o : Option (Bool × V)} {v : Value} (h : Bnd W H o v) : ∃ d0 d1 d2 d3 d4 d5 d6 d7, v = .agg #[d0, d1, d2, d3, d4, d5, d6, d7] := by
  obtain ⟨has, opn, d0, d1, d2, d3, d4, d5, x, h1, h2, h3⟩ := h
  exact ⟨_, _, _, _, _, _, _, _, h1⟩
set_option maxHeartbeats 4000000 in
set_option maxRecDepth 100000 in
theorem liesBelow_c (H : Nat) (k : V) (o : Option (Bool × V)) (v bv : Value) (W : World) (hH : H ≤ W.heap.size) (hv : Rep W H k v) (hb : Bnd W H o bv) :
    Calls Tryz.prog 53 #[v, bv] W fun ex w' => ex = .returned (.bool (Bt.lb o k)) ∧ Below W.heap.size W w' := by
  obtain ⟨c0, c1, c2, c3, c4, c5, rfl⟩ := repV_box hv
  obtain ⟨has, opn, d0, d1, d2, d3, d4, d5, x, rfl, hx, ho⟩ := hb
  obtain ⟨z, hz⟩ : ∃ z, z = Vl.cmp k x := ⟨_, rfl⟩
  have C : Hid (∀ W', Below W.heap.size W W' → Calls Tryz.prog 73 #[.agg #[c0, c1, c2, c3, c4, c5], .agg #[d0, d1, d2, d3, d4, d5]] W' fun ex w' => ex = .returned (.int .i64 z) ∧ Below W'.heap.size W' w') := fun W' hW => by
    rw [hz]
    exact compare10 _ k (Nat.le_refl _) x W' H _ _ (Nat.le_trans hH hW.size) (rep_stays (hW.mono hH) (Nat.le_refl _) _ _ hv) (rep_stays (hW.mono hH) (Nat.le_refl _) _ _ hx)
  have E : Hid (Bt.lb o k = (has && (decide (z < 0) || (decide (z = 0) && opn)))) := by
    show _ = _
    rw [ho, hz]
    cases has <;> rfl
  have HB : Hid (Below W.heap.size W ((W.alloc (.cells #[c0, c1, c2, c3, c4, c5] 27)).alloc (.cells #[.bool has, .bool opn, d0, d1, d2, d3, d4, d5] 29))) := below_new2 _ _ _
  clear hz ho hx hv
  cases has with
  | false =>
    go_enter Tryz.func53, Tryz.ntmps53
    go_wp2
    go_ret
    exact ⟨by rw [E.out]; rfl, HB.out⟩
  | true =>
    by_cases h1 : z < 0
    · have q1 : decide (z < 0) = true := decide_eq_true h1
      have E2 : Hid (Bt.lb o k = true) := by show _ = _; rw [E.out, q1]; rfl
      go_enter Tryz.func53, Tryz.ntmps53
      go_wp2_with (go_at_call 73; refine (C.out _ (below_new2 _ _ _)).mono ?_; rintro e w' ⟨rfl, hbx⟩)
      go_ret
      exact ⟨by rw [E2.out]; rfl, HB.out.trans (hbx.mono HB.out.size)⟩
    · have q1 : decide (z < 0) = false := decide_eq_false h1
      by_cases h2 : z = 0
      · subst h2
        have E2 : Hid (Bt.lb o k = opn) := by show _ = _; rw [E.out, q1]; simp
        have HO : Hid (∀ w', Below ((W.alloc (.cells #[c0, c1, c2, c3, c4, c5] 27)).alloc (.cells #[.bool true, .bool opn, d0, d1, d2, d3, d4, d5] 29)).heap.size ((W.alloc (.cells #[c0, c1, c2, c3, c4, c5] 27)).alloc (.cells #[.bool true, .bool opn, d0, d1, d2, d3, d4, d5] 29)) w' → w'.cell? ⟨W.heap.size + 1, 1, none⟩ = some (.bool opn)) := fun w' h' => by
          refine (h'.cell (p := ⟨W.heap.size + 1, 1, none⟩) (by simp)).trans ?_
          have := heap_alloc_new (W.alloc (.cells #[c0, c1, c2, c3, c4, c5] 27)) (.cells #[.bool true, .bool opn, d0, d1, d2, d3, d4, d5] 29)
          rw [World.size_alloc] at this
          exact cells_at this 1 _ rfl
        go_enter Tryz.func53, Tryz.ntmps53
        go_wp2_with (go_at_call 73; refine (C.out _ (below_new2 _ _ _)).mono ?_; rintro e w' ⟨rfl, hbx⟩; have c1 := HO.out _ hbx)
        go_ret
        exact ⟨by rw [E2.out]; rfl, HB.out.trans (hbx.mono HB.out.size)⟩
      · have q2 : (z == 0) = false := by simpa using h2
        have E2 : Hid (Bt.lb o k = false) := by show _ = _; rw [E.out, q1, decide_eq_false h2]; rfl
        go_enter Tryz.func53, Tryz.ntmps53
        go_wp2_with (go_at_call 73; refine (C.out _ (below_new2 _ _ _)).mono ?_; rintro e w' ⟨rfl, hbx⟩)
        go_ret
        exact ⟨by rw [E2.out]; rfl, HB.out.trans (hbx.mono HB.out.size)⟩
set_option maxHeartbeats 2000000 in
set_option maxRecDepth 100000 in
theorem keyBelow_c (e B H : Nat) (k : V) (o : Option (Bool × V)) (d0 d1 d2 d3 d4 d5 d6 d7 : Value) (W : World) (hH : H ≤ W.heap.size) (he : EK W H k e) (hB : W.heap[B]? = some (.cells #[d0, d1, d2, d3, d4, d5, d6, d7] 29 (0, 0))) (hx : Bnd W H o (.agg #[d0, d1, d2, d3, d4, d5, d6, d7])) :
    Calls Tryz.prog 52 #[.pointer (some ⟨e, 0, none⟩), .pointer (some ⟨B, 0, none⟩)] W fun ex w' => ex = .returned (.bool (Bt.lb o k)) ∧ Below W.heap.size W w' := by
  obtain ⟨hel, c0, c1, c2, c3, c4, c5, row, h1, h2⟩ := he
  have hBl := lt_of_row hB
  have hel' : e < W.heap.size := Nat.lt_of_lt_of_le hel hH
  have p0 : ∀ p : BelowOf W.heap.size W, p.W.cell? ⟨e, 0, none⟩ = some c0 := fun p => cells_at ((p.h.block _ hel').trans h1) 0 _ rfl
  have p1 : ∀ p : BelowOf W.heap.size W, p.W.cell? ⟨e, 1, none⟩ = some c1 := fun p => cells_at ((p.h.block _ hel').trans h1) 1 _ rfl
  have p2 : ∀ p : BelowOf W.heap.size W, p.W.cell? ⟨e, 2, none⟩ = some c2 := fun p => cells_at ((p.h.block _ hel').trans h1) 2 _ rfl
  have p3 : ∀ p : BelowOf W.heap.size W, p.W.cell? ⟨e, 3, none⟩ = some c3 := fun p => cells_at ((p.h.block _ hel').trans h1) 3 _ rfl
  have p4 : ∀ p : BelowOf W.heap.size W, p.W.cell? ⟨e, 4, none⟩ = some c4 := fun p => cells_at ((p.h.block _ hel').trans h1) 4 _ rfl
  have p5 : ∀ p : BelowOf W.heap.size W, p.W.cell? ⟨e, 5, none⟩ = some c5 := fun p => cells_at ((p.h.block _ hel').trans h1) 5 _ rfl
  have b0 : ∀ p : BelowOf W.heap.size W, p.W.cell? ⟨B, 0, none⟩ = some d0 := fun p => cells_at ((p.h.block _ hBl).trans hB) 0 _ rfl
  have b1 : ∀ p : BelowOf W.heap.size W, p.W.cell? ⟨B, 1, none⟩ = some d1 := fun p => cells_at ((p.h.block _ hBl).trans hB) 1 _ rfl
  have b2 : ∀ p : BelowOf W.heap.size W, p.W.cell? ⟨B, 2, none⟩ = some d2 := fun p => cells_at ((p.h.block _ hBl).trans hB) 2 _ rfl
  have b3 : ∀ p : BelowOf W.heap.size W, p.W.cell? ⟨B, 3, none⟩ = some d3 := fun p => cells_at ((p.h.block _ hBl).trans hB) 3 _ rfl
  have b4 : ∀ p : BelowOf W.heap.size W, p.W.cell? ⟨B, 4, none⟩ = some d4 := fun p => cells_at ((p.h.block _ hBl).trans hB) 4 _ rfl
  have b5 : ∀ p : BelowOf W.heap.size W, p.W.cell? ⟨B, 5, none⟩ = some d5 := fun p => cells_at ((p.h.block _ hBl).trans hB) 5 _ rfl
  have b6 : ∀ p : BelowOf W.heap.size W, p.W.cell? ⟨B, 6, none⟩ = some d6 := fun p => cells_at ((p.h.block _ hBl).trans hB) 6 _ rfl
  have b7 : ∀ p : BelowOf W.heap.size W, p.W.cell? ⟨B, 7, none⟩ = some d7 := fun p => cells_at ((p.h.block _ hBl).trans hB) 7 _ rfl
  obtain ⟨z, hz⟩ : ∃ z, z = Bt.lb o k := ⟨_, rfl⟩
  have C : Hid (∀ W', Below W.heap.size W W' → Calls Tryz.prog 53 #[.agg #[c0, c1, c2, c3, c4, c5], .agg #[d0, d1, d2, d3, d4, d5, d6, d7]] W' fun ex w' => ex = .returned (.bool z) ∧ Below W'.heap.size W' w') := fun W' hW => by
    rw [hz]
    exact liesBelow_c H k o _ _ W' (Nat.le_trans hH hW.size) (rep_stays (hW.mono hH) (Nat.le_refl _) _ _ h2) (hx.stays (hW.mono hH))
  rw [← hz]
  clear hz hx h1 h2 hB hel hel' hBl hH
  go_enter Tryz.func52, Tryz.ntmps52
  go_upto_region 1 with fail
  refine wp_region_below W.heap.size W (Below.refl _ _) (by kernel_rfl) (by kernel_rfl) ?_
  repeat (go_big_quiet_step (first | (go_at_call 53; exact below_call _ (Nat.le_refl _) (C.out _ (BelowOf.h _)))))
  refine wpQuiet_nil ?_
  intro _ hw'
  obtain ⟨pq, hw''⟩ := hw'
  subst hw''
  have HF := pq.h
  go_wp2
  go_ret
  exact ⟨rfl, HF⟩
set_option maxHeartbeats 4000000 in
set_option maxRecDepth 100000 in
theorem liesAbove_c (H : Nat) (k : V) (o : Option (Bool × V)) (v bv : Value) (W : World) (hH : H ≤ W.heap.size) (hv : Rep W H k v) (hb : Bnd W H o bv) :
    Calls Tryz.prog 55 #[v, bv] W fun ex w' => ex = .returned (.bool (Bt.ub o k)) ∧ Below W.heap.size W w' := by
  obtain ⟨c0, c1, c2, c3, c4, c5, rfl⟩ := repV_box hv
  obtain ⟨has, opn, d0, d1, d2, d3, d4, d5, x, rfl, hx, ho⟩ := hb
  obtain ⟨z, hz⟩ : ∃ z, z = Vl.cmp k x := ⟨_, rfl⟩
  have C : Hid (∀ W', Below W.heap.size W W' → Calls Tryz.prog 73 #[.agg #[c0, c1, c2, c3, c4, c5], .agg #[d0, d1, d2, d3, d4, d5]] W' fun ex w' => ex = .returned (.int .i64 z) ∧ Below W'.heap.size W' w') := fun W' hW => by
    rw [hz]
    exact compare10 _ k (Nat.le_refl _) x W' H _ _ (Nat.le_trans hH hW.size) (rep_stays (hW.mono hH) (Nat.le_refl _) _ _ hv) (rep_stays (hW.mono hH) (Nat.le_refl _) _ _ hx)
  have E : Hid (Bt.ub o k = (has && (decide (0 < z) || (decide (z = 0) && opn)))) := by
    show _ = _
    rw [ho, hz]
    cases has <;> rfl
  have HB : Hid (Below W.heap.size W ((W.alloc (.cells #[c0, c1, c2, c3, c4, c5] 27)).alloc (.cells #[.bool has, .bool opn, d0, d1, d2, d3, d4, d5] 29))) := below_new2 _ _ _
  clear hz ho hx hv
  cases has with
  | false =>
    go_enter Tryz.func55, Tryz.ntmps55
    go_wp2
    go_ret
    exact ⟨by rw [E.out]; rfl, HB.out⟩
  | true =>
    by_cases h1 : 0 < z
    · have q1 : decide (0 < z) = true := decide_eq_true h1
      have E2 : Hid (Bt.ub o k = true) := by show _ = _; rw [E.out, q1]; rfl
      go_enter Tryz.func55, Tryz.ntmps55
      go_wp2_with (go_at_call 73; refine (C.out _ (below_new2 _ _ _)).mono ?_; rintro e w' ⟨rfl, hbx⟩)
      go_ret
      exact ⟨by rw [E2.out]; rfl, HB.out.trans (hbx.mono HB.out.size)⟩
    · have q1 : decide (0 < z) = false := decide_eq_false h1
      by_cases h2 : z = 0
      · subst h2
        have E2 : Hid (Bt.ub o k = opn) := by show _ = _; rw [E.out, q1]; simp
        have HO : Hid (∀ w', Below ((W.alloc (.cells #[c0, c1, c2, c3, c4, c5] 27)).alloc (.cells #[.bool true, .bool opn, d0, d1, d2, d3, d4, d5] 29)).heap.size ((W.alloc (.cells #[c0, c1, c2, c3, c4, c5] 27)).alloc (.cells #[.bool true, .bool opn, d0, d1, d2, d3, d4, d5] 29)) w' → w'.cell? ⟨W.heap.size + 1, 1, none⟩ = some (.bool opn)) := fun w' h' => by
          refine (h'.cell (p := ⟨W.heap.size + 1, 1, none⟩) (by simp)).trans ?_
          have := heap_alloc_new (W.alloc (.cells #[c0, c1, c2, c3, c4, c5] 27)) (.cells #[.bool true, .bool opn, d0, d1, d2, d3, d4, d5] 29)
          rw [World.size_alloc] at this
          exact cells_at this 1 _ rfl
        go_enter Tryz.func55, Tryz.ntmps55
        go_wp2_with (go_at_call 73; refine (C.out _ (below_new2 _ _ _)).mono ?_; rintro e w' ⟨rfl, hbx⟩; have c1 := HO.out _ hbx)
        go_ret
        exact ⟨by rw [E2.out]; rfl, HB.out.trans (hbx.mono HB.out.size)⟩
      · have q2 : (z == 0) = false := by simpa using h2
        have E2 : Hid (Bt.ub o k = false) := by show _ = _; rw [E.out, q1, decide_eq_false h2]; rfl
        go_enter Tryz.func55, Tryz.ntmps55
        go_wp2_with (go_at_call 73; refine (C.out _ (below_new2 _ _ _)).mono ?_; rintro e w' ⟨rfl, hbx⟩)
        go_ret
        exact ⟨by rw [E2.out]; rfl, HB.out.trans (hbx.mono HB.out.size)⟩
set_option maxHeartbeats 2000000 in
set_option maxRecDepth 100000 in
theorem keyAbove_c (e B H : Nat) (k : V) (o : Option (Bool × V)) (d0 d1 d2 d3 d4 d5 d6 d7 : Value) (W : World) (hH : H ≤ W.heap.size) (he : EK W H k e) (hB : W.heap[B]? = some (.cells #[d0, d1, d2, d3, d4, d5, d6, d7] 29 (0, 0))) (hx : Bnd W H o (.agg #[d0, d1, d2, d3, d4, d5, d6, d7])) :
    Calls Tryz.prog 54 #[.pointer (some ⟨e, 0, none⟩), .pointer (some ⟨B, 0, none⟩)] W fun ex w' => ex = .returned (.bool (!Bt.ub o k)) ∧ Below W.heap.size W w' := by
  obtain ⟨hel, c0, c1, c2, c3, c4, c5, row, h1, h2⟩ := he
  have hBl := lt_of_row hB
  have hel' : e < W.heap.size := Nat.lt_of_lt_of_le hel hH
  have p0 : ∀ p : BelowOf W.heap.size W, p.W.cell? ⟨e, 0, none⟩ = some c0 := fun p => cells_at ((p.h.block _ hel').trans h1) 0 _ rfl
  have p1 : ∀ p : BelowOf W.heap.size W, p.W.cell? ⟨e, 1, none⟩ = some c1 := fun p => cells_at ((p.h.block _ hel').trans h1) 1 _ rfl
  have p2 : ∀ p : BelowOf W.heap.size W, p.W.cell? ⟨e, 2, none⟩ = some c2 := fun p => cells_at ((p.h.block _ hel').trans h1) 2 _ rfl
  have p3 : ∀ p : BelowOf W.heap.size W, p.W.cell? ⟨e, 3, none⟩ = some c3 := fun p => cells_at ((p.h.block _ hel').trans h1) 3 _ rfl
  have p4 : ∀ p : BelowOf W.heap.size W, p.W.cell? ⟨e, 4, none⟩ = some c4 := fun p => cells_at ((p.h.block _ hel').trans h1) 4 _ rfl
  have p5 : ∀ p : BelowOf W.heap.size W, p.W.cell? ⟨e, 5, none⟩ = some c5 := fun p => cells_at ((p.h.block _ hel').trans h1) 5 _ rfl
  have b0 : ∀ p : BelowOf W.heap.size W, p.W.cell? ⟨B, 0, none⟩ = some d0 := fun p => cells_at ((p.h.block _ hBl).trans hB) 0 _ rfl
  have b1 : ∀ p : BelowOf W.heap.size W, p.W.cell? ⟨B, 1, none⟩ = some d1 := fun p => cells_at ((p.h.block _ hBl).trans hB) 1 _ rfl
  have b2 : ∀ p : BelowOf W.heap.size W, p.W.cell? ⟨B, 2, none⟩ = some d2 := fun p => cells_at ((p.h.block _ hBl).trans hB) 2 _ rfl
  have b3 : ∀ p : BelowOf W.heap.size W, p.W.cell? ⟨B, 3, none⟩ = some d3 := fun p => cells_at ((p.h.block _ hBl).trans hB) 3 _ rfl
  have b4 : ∀ p : BelowOf W.heap.size W, p.W.cell? ⟨B, 4, none⟩ = some d4 := fun p => cells_at ((p.h.block _ hBl).trans hB) 4 _ rfl
  have b5 : ∀ p : BelowOf W.heap.size W, p.W.cell? ⟨B, 5, none⟩ = some d5 := fun p => cells_at ((p.h.block _ hBl).trans hB) 5 _ rfl
  have b6 : ∀ p : BelowOf W.heap.size W, p.W.cell? ⟨B, 6, none⟩ = some d6 := fun p => cells_at ((p.h.block _ hBl).trans hB) 6 _ rfl
  have b7 : ∀ p : BelowOf W.heap.size W, p.W.cell? ⟨B, 7, none⟩ = some d7 := fun p => cells_at ((p.h.block _ hBl).trans hB) 7 _ rfl
  obtain ⟨z, hz⟩ : ∃ z, z = Bt.ub o k := ⟨_, rfl⟩
  have C : Hid (∀ W', Below W.heap.size W W' → Calls Tryz.prog 55 #[.agg #[c0, c1, c2, c3, c4, c5], .agg #[d0, d1, d2, d3, d4, d5, d6, d7]] W' fun ex w' => ex = .returned (.bool z) ∧ Below W'.heap.size W' w') := fun W' hW => by
    rw [hz]
    exact liesAbove_c H k o _ _ W' (Nat.le_trans hH hW.size) (rep_stays (hW.mono hH) (Nat.le_refl _) _ _ h2) (hx.stays (hW.mono hH))
  rw [← hz]
  clear hz hx h1 h2 hB hel hel' hBl hH
  go_enter Tryz.func54, Tryz.ntmps54
  go_upto_region 1 with fail
  refine wp_region_below W.heap.size W (Below.refl _ _) (by kernel_rfl) (by kernel_rfl) ?_
  repeat (go_big_quiet_step (first | (go_at_call 55; exact below_call _ (Nat.le_refl _) (C.out _ (BelowOf.h _)))))
  refine wpQuiet_nil ?_
  intro _ hw'
  obtain ⟨pq, hw''⟩ := hw'
  subst hw''
  have HF := pq.h
  go_wp2
  go_ret
  exact ⟨rfl, HF⟩
end Go.Proofs.YtkigenldiinioaaGreatDoor
/- A tree as it is read; what a loop over it leaves alone; the closure that is ranged over. -/
namespace Go.Proofs.YtkigenldiinioaaGreatDoor
open Go.RowKit Go.Shelf
open Vl (V)
attribute [local go_sem ↓] Go.wp_at_zero Go.wp_at_succ
/-- the types of rows and variables that a loop over a tree may have of its own -/
def Bt.bad : List Nat := [92, 71, 22, 49]
/-- what a round leaves alone: all that lay below a border, and whatever cells are of no such type -/
structure Kq (H : Nat) (W W' : World) : Prop where
  below : Below H W W'
  cells : ∀ (g : Nat) (cs : Array Value) (t : TypeId) (fr : Nat × Nat), W.heap[g]? = some (Obj.cells cs t fr) → t ∉ Bt.bad → W'.heap[g]? = W.heap[g]?
theorem Kq.refl (H : Nat) (W : World) : Kq H W W := ⟨Below.refl _ _, fun _ _ _ _ _ _ => rfl⟩
theorem Kq.trans {H : Nat} {A B C : World} (h : Kq H A B) (k : Kq H B C) : Kq H A C :=
  ⟨h.below.trans k.below, fun g cs t fr h0 ht => (k.cells g cs t fr ((h.cells g cs t fr h0 ht).trans h0) ht).trans (h.cells g cs t fr h0 ht)⟩
theorem Kq.of_below {H : Nat} {W W' : World} (h : Below W.heap.size W W') (hH : H ≤ W.heap.size) : Kq H W W' := ⟨h.mono hH, fun _ _ _ _ h0 _ => h.block _ (lt_of_row h0)⟩
theorem Kq.turn {H B : Nat} {W0 W W' : World} {row : Option Nat} (h : Kq H W0 W) (hH : H ≤ W0.heap.size) (hB : H ≤ B) (hg : W.grownBy W' row) (hr : ∀ r, row = some r → B ≤ r ∧ ∃ o : Obj, W.heap[r]? = some o ∧ o.isCells = false) : Kq H W0 W' := by
  refine ⟨h.below.grown hg (Nat.le_trans hH h.below.size) (fun k e => Nat.le_trans hB (hr k e).1), fun g cs t fr h0 ht => ?_⟩
  have h1 := (h.cells g cs t fr h0 ht).trans h0
  refine (hg.block g (lt_of_row h1) fun e => ?_).trans (h1.trans h0.symm)
  obtain ⟨_, o, h2, h3⟩ := hr g e.symm
  rw [h1] at h2
  injection h2 with h2
  subst h2
  cases h3
theorem Kq.own {β : Type} {H B : Nat} {W0 : World} (hH : H ≤ W0.heap.size) (hB : H ≤ B) : OwnFrom B (fun (_ : β) W => Kq H W0 W) := fun _ _ _ _ hs hg hr => hs.turn hH hB hg hr
theorem Kq.put {H : Nat} {w : World} (hH : H ≤ w.heap.size) (W : World) (l : Nat) (o o' : Obj) (hl : w.heap.size ≤ l) (h : W.heap[l]? = some o) (ho : o.isCells = false) (_ : o.isWalk = false) : Kq H W (W.putObj l o') :=
  (Kq.refl H W).turn (B := w.heap.size) (by have := lt_of_row h; omega) hH (grownBy_putObj' W l o') (fun r e => by cases e; exact ⟨hl, o, h, ho⟩)
theorem Kq.box {H : Nat} {W W' : World} (h : Kq H W W') {g : Nat} {cs : Array Value} {t : TypeId} {fr : Nat × Nat} (h0 : W.heap[g]? = some (.cells cs t fr)) (ht : t ∉ Bt.bad) : W'.heap[g]? = some (.cells cs t fr) := (h.cells g cs t fr h0 ht).trans h0
/-- a tree that can be read -/
def RT (W : World) (H : Nat) (key : Nat → V) : Bt.T → Prop
  | .nil => True
  | .node g r es a b c d => (g < H ∧ r < H ∧ (∃ cap, W.heap[g]? = some (.cells #[.slice (some ⟨r, 0, none⟩) es.length cap, Bt.ptr (Bt.top a), Bt.ptr (Bt.top b), Bt.ptr (Bt.top c), Bt.ptr (Bt.top d), .int .i64 ((Bt.flat (.node g r es a b c d)).length : Int)] 95 (0, 0))) ∧ (∀ j e, es[j]? = some e → W.cell? ⟨r, 0 + j, none⟩ = some (.pointer (some ⟨e, 0, none⟩))) ∧ ∀ e ∈ es, EK W H (key e) e) ∧ RT W H key a ∧ RT W H key b ∧ RT W H key c ∧ RT W H key d
theorem RT.stays {W W' : World} {H : Nat} {key : Nat → V} (hb : Below H W W') : ∀ {t : Bt.T}, RT W H key t → RT W' H key t
  | .nil, _ => trivial
  | .node g r es a b c d, h => by
    obtain ⟨⟨h1, h2, ⟨cap, h3⟩, h4, h5⟩, ha, hbb, hc, hd⟩ := h
    exact ⟨⟨h1, h2, ⟨cap, (hb.block _ h1).trans h3⟩, fun j e he => (hb.cell (p := ⟨r, 0 + j, none⟩) h2).trans (h4 j e he), fun e he => (h5 e he).stays hb⟩, RT.stays hb ha, RT.stays hb hbb, RT.stays hb hc, RT.stays hb hd⟩
/-- where no depth is asked all numbers of frames are one -/
theorem round_any {m m' : Nat} {P : Program} {l l' : Nat} {f : FuncId} {tmps : Array Value} {assign body : Code} {w : World} {R : Ending → World → Prop}
    (h : RoundIn Fence.wide m P l f tmps assign body w R) : RoundIn (Fence.wide.inRound l') m' P l f tmps assign body w R := ⟨h.1, fun c cs _ => h.2 c cs (fun d hd => by cases hd)⟩
theorem round_wide {m m' : Nat} {P : Program} {l : Nat} {f : FuncId} {tmps : Array Value} {assign body : Code} {w : World} {R : Ending → World → Prop}
    (h : RoundIn Fence.wide m P l f tmps assign body w R) : RoundIn Fence.wide m' P l f tmps assign body w R := ⟨h.1, fun c cs _ => h.2 c cs (fun d hd => by cases hd)⟩
/-- the marks of loops, given back one by one -/
def Bt.marks (Ds : List Nat) : List Deferred := Ds.map fun D => { target := .collected D, args := #[] }
theorem leaves_marks {F : Fence} {n : Nat} {P : Program} {fn : Func} {tmps : Array Value} {R : Ending → World → Prop} {β : Type} {J : β → World → Prop} {s : β} {B : Nat} (hJ : OwnFrom B J) (hf : fn.results = #[]) (hR : ∀ w, J s w → R (.returned (.tuple #[])) w) :
    ∀ (Ds : List Nat) (w : World), Ds.Nodup → (∀ D ∈ Ds, B ≤ D ∧ w.heap[D]? = some (.deferred (some []))) → J s w → LeavesInM F n P fn tmps R (Bt.marks Ds) .returning w
  | [], w, _, _, h => ⟨_, results_none hf tmps P w, hR w h⟩
  | D :: r, w, hn, hD, h => by
    obtain ⟨h1, h2⟩ := hD D (by simp)
    obtain ⟨n1, n2⟩ := List.nodup_cons.1 hn
    refine ⟨by simp, .inl ⟨D, _, rfl, run_takeDeferred h2, leaves_marks hJ hf hR r _ n2 (fun E hE => ?_) (hJ.putObj _ h h1 h2 rfl)⟩⟩
    obtain ⟨k1, k2⟩ := hD E (by simp [hE])
    exact ⟨k1, (World.putObj_heap_other (fun e => n1 (by rw [← e]; exact hE))).trans k2⟩
set_option maxHeartbeats 1000000 in
theorem within_c (p lv hv : Value) (w : World) (l0 l1 l2 l3 l4 l5 l6 l7 h0 h1 h2 h3 h4 h5 h6 h7 : Value) (hl : lv = .agg #[l0, l1, l2, l3, l4, l5, l6, l7]) (hh : hv = .agg #[h0, h1, h2, h3, h4, h5, h6, h7]) (o : Option Addr) (hp : p = .pointer o) :
    Calls Tryz.prog 31 #[p, lv, hv] w fun e w' => e = .returned (.func (.func 50) #[] #[.pointer (some ⟨w.heap.size, 0, none⟩), .pointer (some ⟨w.heap.size + 1, 0, none⟩), .pointer (some ⟨w.heap.size + 2, 0, none⟩)]) ∧
      w' = ((w.alloc (.cells #[p] 67)).alloc (.cells #[l0, l1, l2, l3, l4, l5, l6, l7] 29)).alloc (.cells #[h0, h1, h2, h3, h4, h5, h6, h7] 29) := by
  subst hl hh hp
  go_enter Tryz.func31, Tryz.ntmps31
  go_wp2
  go_ret
  exact ⟨rfl, rfl⟩
end Go.Proofs.YtkigenldiinioaaGreatDoor
