/- What lies below or above a bound: walked. -/
import Derived.Test.YtkigenldiinioabGreatDoorBtEM
namespace Go.Proofs.YtkigenldiinioabGreatDoor
open Go.RowKit
open Vl (V)
attribute [local go_sem ↓] Go.wp_at_zero Go.wp_at_succ
/-- a bound in memory -/
def Bnd (W : World) (H : Nat) (o : Option (Bool × V)) (v : Value) : Prop := ∃ (has opn : Bool) (d0 d1 d2 d3 d4 d5 : Value) (x : V), v = .agg #[.bool has, .bool opn, d0, d1, d2, d3, d4, d5] ∧ Rep W H x (.agg #[d0, d1, d2, d3, d4, d5]) ∧ o = if has = true then some (opn, x) else none
theorem Bnd.stays {W W' : World} {H : Nat} {o : Option (Bool × V)} {v : Value} (h : Bnd W H o v) (hb : Below H W W') : Bnd W' H o v := by
  obtain ⟨has, opn, d0, d1, d2, d3, d4, d5, x, h1, h2, h3⟩ := h
  exact ⟨has, opn, d0, d1, d2, d3, d4, d5, x, h1, rep_stays hb (Nat.le_refl _) _ _ h2, h3⟩
theorem Bnd.up {W : World} {H K : Nat} {o : Option (Bool × V)} {v : Value} (h : Bnd W H o v) (hK : H ≤ K) : Bnd W K o v := by
  obtain ⟨has, opn, d0, d1, d2, d3, d4, d5, x, h1, h2, h3⟩ := h
  exact ⟨has, opn, d0, d1, d2, d3, d4, d5, x, h1, rep_stays (Below.refl _ _) hK _ _ h2, h3⟩
set_option maxHeartbeats 4000000 in
set_option maxRecDepth 100000 in
theorem liesBelow_c (H : Nat) (k : V) (o : Option (Bool × V)) (v bv : Value) (W : World) (hH : H ≤ W.heap.size) (hv : Rep W H k v) (hb : Bnd W H o bv) :
    Calls Tryz.prog 45 #[v, bv] W fun ex w' => ex = .returned (.bool (Bt.lb o k)) ∧ Below W.heap.size W w' := by
  obtain ⟨c0, c1, c2, c3, c4, c5, rfl⟩ := repV_box hv
  obtain ⟨has, opn, d0, d1, d2, d3, d4, d5, x, rfl, hx, ho⟩ := hb
  obtain ⟨z, hz⟩ : ∃ z, z = Vl.cmp k x := ⟨_, rfl⟩
  have C : Hid (∀ W', Below W.heap.size W W' → Calls Tryz.prog 64 #[.agg #[c0, c1, c2, c3, c4, c5], .agg #[d0, d1, d2, d3, d4, d5]] W' fun ex w' => ex = .returned (.int .i64 z) ∧ Below W'.heap.size W' w') := fun W' hW => by
    rw [hz]
    exact compare10 _ k (Nat.le_refl _) x W' H _ _ (Nat.le_trans hH hW.size) (rep_stays (hW.mono hH) (Nat.le_refl _) _ _ hv) (rep_stays (hW.mono hH) (Nat.le_refl _) _ _ hx)
  have E : Hid (Bt.lb o k = (has && (decide (z < 0) || (decide (z = 0) && opn)))) := by
    show _ = _
    rw [ho, hz]
    cases has <;> rfl
  have HB : Hid (Below W.heap.size W ((W.alloc (.cells #[c0, c1, c2, c3, c4, c5] 27)).alloc (.cells #[.bool has, .bool opn, d0, d1, d2, d3, d4, d5] 36))) := below_new2 _ _ _
  clear hz ho hx hv
  cases has with
  | false =>
    go_enter Tryz.func45, Tryz.ntmps45
    go_wp2
    go_ret
    exact ⟨by rw [E.out]; rfl, HB.out⟩
  | true =>
    by_cases h1 : z < 0
    · have q1 : decide (z < 0) = true := decide_eq_true h1
      have E2 : Hid (Bt.lb o k = true) := by show _ = _; rw [E.out, q1]; rfl
      go_enter Tryz.func45, Tryz.ntmps45
      go_wp2_with (go_at_call 64; refine (C.out _ (below_new2 _ _ _)).mono ?_; rintro e w' ⟨rfl, hbx⟩)
      go_ret
      exact ⟨by rw [E2.out]; rfl, HB.out.trans (hbx.mono HB.out.size)⟩
    · have q1 : decide (z < 0) = false := decide_eq_false h1
      by_cases h2 : z = 0
      · subst h2
        have E2 : Hid (Bt.lb o k = opn) := by show _ = _; rw [E.out, q1]; simp
        have HO : Hid (∀ w', Below ((W.alloc (.cells #[c0, c1, c2, c3, c4, c5] 27)).alloc (.cells #[.bool true, .bool opn, d0, d1, d2, d3, d4, d5] 36)).heap.size ((W.alloc (.cells #[c0, c1, c2, c3, c4, c5] 27)).alloc (.cells #[.bool true, .bool opn, d0, d1, d2, d3, d4, d5] 36)) w' → w'.cell? ⟨W.heap.size + 1, 1, none⟩ = some (.bool opn)) := fun w' h' => by
          refine (h'.cell (p := ⟨W.heap.size + 1, 1, none⟩) (by simp)).trans ?_
          have := heap_alloc_new (W.alloc (.cells #[c0, c1, c2, c3, c4, c5] 27)) (.cells #[.bool true, .bool opn, d0, d1, d2, d3, d4, d5] 36)
          rw [World.size_alloc] at this
          exact cells_at this 1 _ rfl
        go_enter Tryz.func45, Tryz.ntmps45
        go_wp2_with (go_at_call 64; refine (C.out _ (below_new2 _ _ _)).mono ?_; rintro e w' ⟨rfl, hbx⟩; have c1 := HO.out _ hbx)
        go_ret
        exact ⟨by rw [E2.out]; rfl, HB.out.trans (hbx.mono HB.out.size)⟩
      · have q2 : (z == 0) = false := by simpa using h2
        have E2 : Hid (Bt.lb o k = false) := by show _ = _; rw [E.out, q1, decide_eq_false h2]; rfl
        go_enter Tryz.func45, Tryz.ntmps45
        go_wp2_with (go_at_call 64; refine (C.out _ (below_new2 _ _ _)).mono ?_; rintro e w' ⟨rfl, hbx⟩)
        go_ret
        exact ⟨by rw [E2.out]; rfl, HB.out.trans (hbx.mono HB.out.size)⟩
set_option maxHeartbeats 2000000 in
set_option maxRecDepth 100000 in
theorem keyBelow_c (e B H : Nat) (k : V) (o : Option (Bool × V)) (d0 d1 d2 d3 d4 d5 d6 d7 : Value) (W : World) (hH : H ≤ W.heap.size) (he : EK W H k e) (hB : W.heap[B]? = some (.cells #[d0, d1, d2, d3, d4, d5, d6, d7] 36 (0, 0))) (hx : Bnd W H o (.agg #[d0, d1, d2, d3, d4, d5, d6, d7])) :
    Calls Tryz.prog 44 #[.pointer (some ⟨e, 0, none⟩), .pointer (some ⟨B, 0, none⟩)] W fun ex w' => ex = .returned (.bool (Bt.lb o k)) ∧ Below W.heap.size W w' := by
  obtain ⟨hel, c0, c1, c2, c3, c4, c5, row, h1, h2⟩ := he
  have hBl := lt_of_row hB
  have hel' : e < W.heap.size := Nat.lt_of_lt_of_le hel hH
  have p0 : ∀ p : BelowOf W.heap.size W, p.W.cell? ⟨e, 0, none⟩ = some c0 := fun p => cells_at ((p.h.block _ hel').trans h1) 0 _ rfl
  have p1 : ∀ p : BelowOf W.heap.size W, p.W.cell? ⟨e, 1, none⟩ = some c1 := fun p => cells_at ((p.h.block _ hel').trans h1) 1 _ rfl
  have p2 : ∀ p : BelowOf W.heap.size W, p.W.cell? ⟨e, 2, none⟩ = some c2 := fun p => cells_at ((p.h.block _ hel').trans h1) 2 _ rfl
  have p3 : ∀ p : BelowOf W.heap.size W, p.W.cell? ⟨e, 3, none⟩ = some c3 := fun p => cells_at ((p.h.block _ hel').trans h1) 3 _ rfl
  have p4 : ∀ p : BelowOf W.heap.size W, p.W.cell? ⟨e, 4, none⟩ = some c4 := fun p => cells_at ((p.h.block _ hel').trans h1) 4 _ rfl
  have p5 : ∀ p : BelowOf W.heap.size W, p.W.cell? ⟨e, 5, none⟩ = some c5 := fun p => cells_at ((p.h.block _ hel').trans h1) 5 _ rfl
  have b0 : ∀ p : BelowOf W.heap.size W, p.W.cell? ⟨B, 0, none⟩ = some d0 := fun p => cells_at ((p.h.block _ hBl).trans hB) 0 _ rfl
  have b1 : ∀ p : BelowOf W.heap.size W, p.W.cell? ⟨B, 1, none⟩ = some d1 := fun p => cells_at ((p.h.block _ hBl).trans hB) 1 _ rfl
  have b2 : ∀ p : BelowOf W.heap.size W, p.W.cell? ⟨B, 2, none⟩ = some d2 := fun p => cells_at ((p.h.block _ hBl).trans hB) 2 _ rfl
  have b3 : ∀ p : BelowOf W.heap.size W, p.W.cell? ⟨B, 3, none⟩ = some d3 := fun p => cells_at ((p.h.block _ hBl).trans hB) 3 _ rfl
  have b4 : ∀ p : BelowOf W.heap.size W, p.W.cell? ⟨B, 4, none⟩ = some d4 := fun p => cells_at ((p.h.block _ hBl).trans hB) 4 _ rfl
  have b5 : ∀ p : BelowOf W.heap.size W, p.W.cell? ⟨B, 5, none⟩ = some d5 := fun p => cells_at ((p.h.block _ hBl).trans hB) 5 _ rfl
  have b6 : ∀ p : BelowOf W.heap.size W, p.W.cell? ⟨B, 6, none⟩ = some d6 := fun p => cells_at ((p.h.block _ hBl).trans hB) 6 _ rfl
  have b7 : ∀ p : BelowOf W.heap.size W, p.W.cell? ⟨B, 7, none⟩ = some d7 := fun p => cells_at ((p.h.block _ hBl).trans hB) 7 _ rfl
  obtain ⟨z, hz⟩ : ∃ z, z = Bt.lb o k := ⟨_, rfl⟩
  have C : Hid (∀ W', Below W.heap.size W W' → Calls Tryz.prog 45 #[.agg #[c0, c1, c2, c3, c4, c5], .agg #[d0, d1, d2, d3, d4, d5, d6, d7]] W' fun ex w' => ex = .returned (.bool z) ∧ Below W'.heap.size W' w') := fun W' hW => by
    rw [hz]
    exact liesBelow_c H k o _ _ W' (Nat.le_trans hH hW.size) (rep_stays (hW.mono hH) (Nat.le_refl _) _ _ h2) (hx.stays (hW.mono hH))
  rw [← hz]
  clear hz hx h1 h2 hB hel hel' hBl hH
  go_enter Tryz.func44, Tryz.ntmps44
  go_upto_region 1 with fail
  refine wp_region_below W.heap.size W (Below.refl _ _) (by kernel_rfl) (by kernel_rfl) ?_
  repeat (go_big_quiet_step (first | (go_at_call 45; exact below_call _ (Nat.le_refl _) (C.out _ (BelowOf.h _)))))
  refine wpQuiet_nil ?_
  intro _ hw'
  obtain ⟨pq, hw''⟩ := hw'
  subst hw''
  have HF := pq.h
  go_wp2
  go_ret
  exact ⟨rfl, HF⟩
set_option maxHeartbeats 4000000 in
set_option maxRecDepth 100000 in
theorem liesAbove_c (H : Nat) (k : V) (o : Option (Bool × V)) (v bv : Value) (W : World) (hH : H ≤ W.heap.size) (hv : Rep W H k v) (hb : Bnd W H o bv) :
    Calls Tryz.prog 47 #[v, bv] W fun ex w' => ex = .returned (.bool (Bt.ub o k)) ∧ Below W.heap.size W w' := by
  obtain ⟨c0, c1, c2, c3, c4, c5, rfl⟩ := repV_box hv
  obtain ⟨has, opn, d0, d1, d2, d3, d4, d5, x, rfl, hx, ho⟩ := hb
  obtain ⟨z, hz⟩ : ∃ z, z = Vl.cmp k x := ⟨_, rfl⟩
  have C : Hid (∀ W', Below W.heap.size W W' → Calls Tryz.prog 64 #[.agg #[c0, c1, c2, c3, c4, c5], .agg #[d0, d1, d2, d3, d4, d5]] W' fun ex w' => ex = .returned (.int .i64 z) ∧ Below W'.heap.size W' w') := fun W' hW => by
    rw [hz]
    exact compare10 _ k (Nat.le_refl _) x W' H _ _ (Nat.le_trans hH hW.size) (rep_stays (hW.mono hH) (Nat.le_refl _) _ _ hv) (rep_stays (hW.mono hH) (Nat.le_refl _) _ _ hx)
  have E : Hid (Bt.ub o k = (has && (decide (0 < z) || (decide (z = 0) && opn)))) := by
    show _ = _
    rw [ho, hz]
    cases has <;> rfl
  have HB : Hid (Below W.heap.size W ((W.alloc (.cells #[c0, c1, c2, c3, c4, c5] 27)).alloc (.cells #[.bool has, .bool opn, d0, d1, d2, d3, d4, d5] 36))) := below_new2 _ _ _
  clear hz ho hx hv
  cases has with
  | false =>
    go_enter Tryz.func47, Tryz.ntmps47
    go_wp2
    go_ret
    exact ⟨by rw [E.out]; rfl, HB.out⟩
  | true =>
    by_cases h1 : 0 < z
    · have q1 : decide (0 < z) = true := decide_eq_true h1
      have E2 : Hid (Bt.ub o k = true) := by show _ = _; rw [E.out, q1]; rfl
      go_enter Tryz.func47, Tryz.ntmps47
      go_wp2_with (go_at_call 64; refine (C.out _ (below_new2 _ _ _)).mono ?_; rintro e w' ⟨rfl, hbx⟩)
      go_ret
      exact ⟨by rw [E2.out]; rfl, HB.out.trans (hbx.mono HB.out.size)⟩
    · have q1 : decide (0 < z) = false := decide_eq_false h1
      by_cases h2 : z = 0
      · subst h2
        have E2 : Hid (Bt.ub o k = opn) := by show _ = _; rw [E.out, q1]; simp
        have HO : Hid (∀ w', Below ((W.alloc (.cells #[c0, c1, c2, c3, c4, c5] 27)).alloc (.cells #[.bool true, .bool opn, d0, d1, d2, d3, d4, d5] 36)).heap.size ((W.alloc (.cells #[c0, c1, c2, c3, c4, c5] 27)).alloc (.cells #[.bool true, .bool opn, d0, d1, d2, d3, d4, d5] 36)) w' → w'.cell? ⟨W.heap.size + 1, 1, none⟩ = some (.bool opn)) := fun w' h' => by
          refine (h'.cell (p := ⟨W.heap.size + 1, 1, none⟩) (by simp)).trans ?_
          have := heap_alloc_new (W.alloc (.cells #[c0, c1, c2, c3, c4, c5] 27)) (.cells #[.bool true, .bool opn, d0, d1, d2, d3, d4, d5] 36)
          rw [World.size_alloc] at this
          exact cells_at this 1 _ rfl
        go_enter Tryz.func47, Tryz.ntmps47
        go_wp2_with (go_at_call 64; refine (C.out _ (below_new2 _ _ _)).mono ?_; rintro e w' ⟨rfl, hbx⟩; have c1 := HO.out _ hbx)
        go_ret
        exact ⟨by rw [E2.out]; rfl, HB.out.trans (hbx.mono HB.out.size)⟩
      · have q2 : (z == 0) = false := by simpa using h2
        have E2 : Hid (Bt.ub o k = false) := by show _ = _; rw [E.out, q1, decide_eq_false h2]; rfl
        go_enter Tryz.func47, Tryz.ntmps47
        go_wp2_with (go_at_call 64; refine (C.out _ (below_new2 _ _ _)).mono ?_; rintro e w' ⟨rfl, hbx⟩)
        go_ret
        exact ⟨by rw [E2.out]; rfl, HB.out.trans (hbx.mono HB.out.size)⟩
set_option maxHeartbeats 2000000 in
set_option maxRecDepth 100000 in
theorem keyAbove_c (e B H : Nat) (k : V) (o : Option (Bool × V)) (d0 d1 d2 d3 d4 d5 d6 d7 : Value) (W : World) (hH : H ≤ W.heap.size) (he : EK W H k e) (hB : W.heap[B]? = some (.cells #[d0, d1, d2, d3, d4, d5, d6, d7] 36 (0, 0))) (hx : Bnd W H o (.agg #[d0, d1, d2, d3, d4, d5, d6, d7])) :
    Calls Tryz.prog 46 #[.pointer (some ⟨e, 0, none⟩), .pointer (some ⟨B, 0, none⟩)] W fun ex w' => ex = .returned (.bool (!Bt.ub o k)) ∧ Below W.heap.size W w' := by
  obtain ⟨hel, c0, c1, c2, c3, c4, c5, row, h1, h2⟩ := he
  have hBl := lt_of_row hB
  have hel' : e < W.heap.size := Nat.lt_of_lt_of_le hel hH
  have p0 : ∀ p : BelowOf W.heap.size W, p.W.cell? ⟨e, 0, none⟩ = some c0 := fun p => cells_at ((p.h.block _ hel').trans h1) 0 _ rfl
  have p1 : ∀ p : BelowOf W.heap.size W, p.W.cell? ⟨e, 1, none⟩ = some c1 := fun p => cells_at ((p.h.block _ hel').trans h1) 1 _ rfl
  have p2 : ∀ p : BelowOf W.heap.size W, p.W.cell? ⟨e, 2, none⟩ = some c2 := fun p => cells_at ((p.h.block _ hel').trans h1) 2 _ rfl
  have p3 : ∀ p : BelowOf W.heap.size W, p.W.cell? ⟨e, 3, none⟩ = some c3 := fun p => cells_at ((p.h.block _ hel').trans h1) 3 _ rfl
  have p4 : ∀ p : BelowOf W.heap.size W, p.W.cell? ⟨e, 4, none⟩ = some c4 := fun p => cells_at ((p.h.block _ hel').trans h1) 4 _ rfl
  have p5 : ∀ p : BelowOf W.heap.size W, p.W.cell? ⟨e, 5, none⟩ = some c5 := fun p => cells_at ((p.h.block _ hel').trans h1) 5 _ rfl
  have b0 : ∀ p : BelowOf W.heap.size W, p.W.cell? ⟨B, 0, none⟩ = some d0 := fun p => cells_at ((p.h.block _ hBl).trans hB) 0 _ rfl
  have b1 : ∀ p : BelowOf W.heap.size W, p.W.cell? ⟨B, 1, none⟩ = some d1 := fun p => cells_at ((p.h.block _ hBl).trans hB) 1 _ rfl
  have b2 : ∀ p : BelowOf W.heap.size W, p.W.cell? ⟨B, 2, none⟩ = some d2 := fun p => cells_at ((p.h.block _ hBl).trans hB) 2 _ rfl
  have b3 : ∀ p : BelowOf W.heap.size W, p.W.cell? ⟨B, 3, none⟩ = some d3 := fun p => cells_at ((p.h.block _ hBl).trans hB) 3 _ rfl
  have b4 : ∀ p : BelowOf W.heap.size W, p.W.cell? ⟨B, 4, none⟩ = some d4 := fun p => cells_at ((p.h.block _ hBl).trans hB) 4 _ rfl
  have b5 : ∀ p : BelowOf W.heap.size W, p.W.cell? ⟨B, 5, none⟩ = some d5 := fun p => cells_at ((p.h.block _ hBl).trans hB) 5 _ rfl
  have b6 : ∀ p : BelowOf W.heap.size W, p.W.cell? ⟨B, 6, none⟩ = some d6 := fun p => cells_at ((p.h.block _ hBl).trans hB) 6 _ rfl
  have b7 : ∀ p : BelowOf W.heap.size W, p.W.cell? ⟨B, 7, none⟩ = some d7 := fun p => cells_at ((p.h.block _ hBl).trans hB) 7 _ rfl
  obtain ⟨z, hz⟩ : ∃ z, z = Bt.ub o k := ⟨_, rfl⟩
  have C : Hid (∀ W', Below W.heap.size W W' → Calls Tryz.prog 47 #[.agg #[c0, c1, c2, c3, c4, c5], .agg #[d0, d1, d2, d3, d4, d5, d6, d7]] W' fun ex w' => ex = .returned (.bool z) ∧ Below W'.heap.size W' w') := fun W' hW => by
    rw [hz]
    exact liesAbove_c H k o _ _ W' (Nat.le_trans hH hW.size) (rep_stays (hW.mono hH) (Nat.le_refl _) _ _ h2) (hx.stays (hW.mono hH))
  rw [← hz]
  clear hz hx h1 h2 hB hel hel' hBl hH
  go_enter Tryz.func46, Tryz.ntmps46
  go_upto_region 1 with fail
  refine wp_region_below W.heap.size W (Below.refl _ _) (by kernel_rfl) (by kernel_rfl) ?_
  repeat (go_big_quiet_step (first | (go_at_call 47; exact below_call _ (Nat.le_refl _) (C.out _ (BelowOf.h _)))))
  refine wpQuiet_nil ?_
  intro _ hw'
  obtain ⟨pq, hw''⟩ := hw'
  subst hw''
  have HF := pq.h
  go_wp2
  go_ret
  exact ⟨rfl, HF⟩
end Go.Proofs.YtkigenldiinioabGreatDoor
