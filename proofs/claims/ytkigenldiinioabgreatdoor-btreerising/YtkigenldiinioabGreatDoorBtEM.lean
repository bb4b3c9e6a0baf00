/- Where a key lies among entries: walked. -/
import Derived.Test.YtkigenldiinioabGreatDoorGDM
import Derived.Test.YtkigenldiinioabGreatDoorBtUM
import Derived.Deep.CutRange
import Derived.Deep.CutBlock
import Derived.Test.YtkigenldiinioabGreatDoorGCM
import Derived.Test.YtkigenldiinioabGreatDoorCompareM
namespace Go.Proofs.YtkigenldiinioabGreatDoor
open Go.RowKit
open Vl (V)
attribute [local go_sem ↓] Go.wp_at_zero Go.wp_at_succ
/-- an entry's key in memory -/
def EK (w : World) (H : Nat) (k : V) (e : Nat) : Prop := e < H ∧ ∃ c0 c1 c2 c3 c4 c5 row, w.heap[e]? = some (.cells #[c0, c1, c2, c3, c4, c5, row] 63 (0, 0)) ∧ Rep w H k (.agg #[c0, c1, c2, c3, c4, c5])
theorem EK.stays {w w' : World} {H : Nat} {k : V} {e : Nat} (h : EK w H k e) (hb : Below H w w') : EK w' H k e := by
  obtain ⟨he, c0, c1, c2, c3, c4, c5, row, h1, h2⟩ := h
  exact ⟨he, c0, c1, c2, c3, c4, c5, row, (hb.block _ he).trans h1, rep_stays hb (Nat.le_refl _) _ _ h2⟩
theorem EK.up {w : World} {H K : Nat} {k : V} {e : Nat} (h : EK w H k e) (hK : H ≤ K) : EK w K k e := by
  obtain ⟨he, c0, c1, c2, c3, c4, c5, row, h1, h2⟩ := h
  exact ⟨Nat.lt_of_lt_of_le he hK, c0, c1, c2, c3, c4, c5, row, h1, rep_stays (Below.refl _ _) hK _ _ h2⟩
theorem lt_of_row {w : World} {g : Nat} {o : Obj} (h : w.heap[g]? = some o) : g < w.heap.size := (Array.getElem?_eq_some_iff.1 h).1
set_option maxHeartbeats 2000000 in
set_option maxRecDepth 100000 in
theorem keyAhead_c (e B H : Nat) (k x : V) (d0 d1 d2 d3 d4 d5 : Value) (W : World) (hH : H ≤ W.heap.size) (he : EK W H k e) (hB : W.heap[B]? = some (.cells #[d0, d1, d2, d3, d4, d5] 27 (0, 0))) (hx : Rep W H x (.agg #[d0, d1, d2, d3, d4, d5])) :
    Calls Tryz.prog 68 #[.pointer (some ⟨e, 0, none⟩), .pointer (some ⟨B, 0, none⟩)] W fun ex w' => ex = .returned (.bool (decide (Vl.cmp k x < 0))) ∧ Below W.heap.size W w' := by
  obtain ⟨hel, c0, c1, c2, c3, c4, c5, row, h1, h2⟩ := he
  have hBl := lt_of_row hB
  have hel' : e < W.heap.size := Nat.lt_of_lt_of_le hel hH
  have p0 : ∀ p : BelowOf W.heap.size W, p.W.cell? ⟨e, 0, none⟩ = some c0 := fun p => cells_at ((p.h.block _ hel').trans h1) 0 _ rfl
  have p1 : ∀ p : BelowOf W.heap.size W, p.W.cell? ⟨e, 1, none⟩ = some c1 := fun p => cells_at ((p.h.block _ hel').trans h1) 1 _ rfl
  have p2 : ∀ p : BelowOf W.heap.size W, p.W.cell? ⟨e, 2, none⟩ = some c2 := fun p => cells_at ((p.h.block _ hel').trans h1) 2 _ rfl
  have p3 : ∀ p : BelowOf W.heap.size W, p.W.cell? ⟨e, 3, none⟩ = some c3 := fun p => cells_at ((p.h.block _ hel').trans h1) 3 _ rfl
  have p4 : ∀ p : BelowOf W.heap.size W, p.W.cell? ⟨e, 4, none⟩ = some c4 := fun p => cells_at ((p.h.block _ hel').trans h1) 4 _ rfl
  have p5 : ∀ p : BelowOf W.heap.size W, p.W.cell? ⟨e, 5, none⟩ = some c5 := fun p => cells_at ((p.h.block _ hel').trans h1) 5 _ rfl
  have b0 : ∀ p : BelowOf W.heap.size W, p.W.cell? ⟨B, 0, none⟩ = some d0 := fun p => cells_at ((p.h.block _ hBl).trans hB) 0 _ rfl
  have b1 : ∀ p : BelowOf W.heap.size W, p.W.cell? ⟨B, 1, none⟩ = some d1 := fun p => cells_at ((p.h.block _ hBl).trans hB) 1 _ rfl
  have b2 : ∀ p : BelowOf W.heap.size W, p.W.cell? ⟨B, 2, none⟩ = some d2 := fun p => cells_at ((p.h.block _ hBl).trans hB) 2 _ rfl
  have b3 : ∀ p : BelowOf W.heap.size W, p.W.cell? ⟨B, 3, none⟩ = some d3 := fun p => cells_at ((p.h.block _ hBl).trans hB) 3 _ rfl
  have b4 : ∀ p : BelowOf W.heap.size W, p.W.cell? ⟨B, 4, none⟩ = some d4 := fun p => cells_at ((p.h.block _ hBl).trans hB) 4 _ rfl
  have b5 : ∀ p : BelowOf W.heap.size W, p.W.cell? ⟨B, 5, none⟩ = some d5 := fun p => cells_at ((p.h.block _ hBl).trans hB) 5 _ rfl
  obtain ⟨z, hz⟩ : ∃ z, z = Vl.cmp k x := ⟨_, rfl⟩
  have C : Hid (∀ W', Below W.heap.size W W' → Calls Tryz.prog 64 #[.agg #[c0, c1, c2, c3, c4, c5], .agg #[d0, d1, d2, d3, d4, d5]] W' fun ex w' => ex = .returned (.int .i64 z) ∧ Below W'.heap.size W' w') := fun W' hW => by
    rw [hz]
    exact compare10 _ k (Nat.le_refl _) x W' H _ _ (Nat.le_trans hH hW.size) (rep_stays (hW.mono hH) (Nat.le_refl _) _ _ h2) (rep_stays (hW.mono hH) (Nat.le_refl _) _ _ hx)
  rw [← hz]
  clear hz hx h1 h2 hB hel hel' hBl hH
  go_enter Tryz.func68, Tryz.ntmps68
  go_upto_region 1 with fail
  by_cases hlt : z < 0
  · have q : decide (z < 0) = true := decide_eq_true hlt
    refine wp_region_below W.heap.size W (Below.refl _ _) (by kernel_rfl) (by kernel_rfl) ?_
    repeat (go_big_quiet_step (first | (go_at_call 64; exact below_call _ (Nat.le_refl _) (C.out _ (BelowOf.h _)))))
    refine wpQuiet_nil ?_
    intro _ hw'
    obtain ⟨pq, hw''⟩ := hw'
    subst hw''
    have HF := pq.h
    go_wp2
    go_ret
    exact ⟨by first | rfl | (rw [q]; rfl), HF⟩
  · have q : decide (z < 0) = false := decide_eq_false hlt
    refine wp_region_below W.heap.size W (Below.refl _ _) (by kernel_rfl) (by kernel_rfl) ?_
    repeat (go_big_quiet_step (first | (go_at_call 64; exact below_call _ (Nat.le_refl _) (C.out _ (BelowOf.h _)))))
    refine wpQuiet_nil ?_
    intro _ hw'
    obtain ⟨pq, hw''⟩ := hw'
    subst hw''
    have HF := pq.h
    go_wp2
    go_ret
    exact ⟨by first | rfl | (rw [q]; rfl), HF⟩
/-- whether a key is there -/
def Bt.hit (key : Nat → V) (x : V) (l : List Nat) : Bool := match l[Bt.spot key x l]? with
  | some e => decide (Vl.cmp (key e) x = 0)
  | none => false
theorem repV_box {w : World} {H : Nat} {x : V} {v : Value} (h : Rep w H x v) : ∃ d0 d1 d2 d3 d4 d5, v = .agg #[d0, d1, d2, d3, d4, d5] := by
  obtain ⟨k, b, n, s, l, f⟩ := x
  rw [Rep] at h
  obtain ⟨ao, lc, fo, fc, h1, _⟩ := h
  exact ⟨_, _, _, _, _, _, h1⟩
theorem keyAt_of {w W : World} {g o n H : Nat} {es : List Nat} {key : Nat → V} (hb : Below w.heap.size w W) (hg : g < w.heap.size) (hH : H ≤ w.heap.size) (hx : ∀ (j e : Nat), es[j]? = some e → w.cell? ⟨g, o + j, none⟩ = some (.pointer (some ⟨e, 0, none⟩))) (hk : ∀ e ∈ es, EK w H (key e) e) {j e : Nat} (hj : es[j]? = some e) (hn : n = es.length) :
    W.cell? ⟨g, o + j, none⟩ = some (.pointer (some ⟨e, 0, none⟩)) ∧ EK W H (key e) e ∧ j < n :=
  ⟨(hb.cell (p := ⟨g, o + j, none⟩) hg).trans (hx j e hj), (hk e (List.mem_of_getElem? hj)).stays (hb.mono hH), by rw [hn]; exact (List.getElem?_eq_some_iff.1 hj).1⟩
set_option maxHeartbeats 4000000 in
set_option maxRecDepth 100000 in
theorem placeOf_c (g o n c H : Nat) (es : List Nat) (key : Nat → V) (x : V) (v : Value) (w : World) (hn : n = es.length) (hl : n ≤ 1000000) (hg : g < w.heap.size)
    (hx : ∀ (j e : Nat), es[j]? = some e → w.cell? ⟨g, o + j, none⟩ = some (.pointer (some ⟨e, 0, none⟩))) (hk : ∀ e ∈ es, EK w H (key e) e) (hr : Bt.Rises key es) (hH : H ≤ w.heap.size) (hv : Rep w H x v) :
    Calls Tryz.prog 53 #[.slice (some ⟨g, o, none⟩) n c, v] w fun ex w' => ex = .returned (.tuple #[.int .i64 (Bt.spot key x es : Int), .bool (Bt.hit key x es)]) ∧ Below w.heap.size w w' := by
  obtain ⟨d0, d1, d2, d3, d4, d5, rfl⟩ := repV_box hv
  obtain ⟨k, hkk⟩ : ∃ k, k = Bt.spot key x es := ⟨_, rfl⟩
  have hc := Bt.spot_cut (key := key) (x := x) hr
  rw [← hkk] at hc ⊢
  obtain ⟨w1, hw1⟩ : ∃ w1, w1 = w.alloc (.cells #[d0, d1, d2, d3, d4, d5] 27) := ⟨_, rfl⟩
  have b1 : Below w.heap.size w w1 := by rw [hw1]; exact below_new _ _
  have hB : w1.heap[w.heap.size]? = some (.cells #[d0, d1, d2, d3, d4, d5] 27 (0, 0)) := by rw [hw1]; exact heap_alloc_new w _
  have hs1 : w1.heap.size = w.heap.size + 1 := by rw [hw1]; simp
  obtain ⟨B, hBe⟩ : ∃ B, B = w.heap.size := ⟨_, rfl⟩
  have CP : Hid (Calls Tryz.prog 43 #[.slice (some ⟨g, o, none⟩) n c, .func (.func 68) #[] #[.pointer (some ⟨B, 0, none⟩)]] w1 fun e w' => e = .returned (.int .i64 (k : Int)) ∧ Below w1.heap.size w1 w') := by
    show Calls _ _ _ _ _
    rw [hBe]
    refine placeK_c _ (Bt.ahead key x) es g o n c k w1 hn hl (by omega) (fun j e he => (b1.cell (p := ⟨g, o + j, none⟩) hg).trans (hx j e he)) hc (fun e W he hW => ?_)
    have hb := b1.trans (hW.mono b1.size)
    exact keyAhead_c e w.heap.size H (key e) x d0 d1 d2 d3 d4 d5 W (Nat.le_trans hH hb.size) ((hk e he).stays (hb.mono hH)) ((hW.block _ (by omega)).trans hB) (rep_stays (hb.mono hH) (Nat.le_refl _) _ _ hv)
  have HB1 : Hid (Below w.heap.size w w1 ∧ w1.heap[B]? = some (.cells #[d0, d1, d2, d3, d4, d5] 27 (0, 0)) ∧ B < w1.heap.size) := ⟨b1, by rw [hBe]; exact hB, by omega⟩
  have HK : Hid (∀ W, Below w.heap.size w W → ∀ j e, es[j]? = some e → W.cell? ⟨g, o + j, none⟩ = some (.pointer (some ⟨e, 0, none⟩)) ∧ EK W H (key e) e ∧ j < n) := fun W hW j e hj => keyAt_of hW hg hH hx hk hj hn
  have HC : Hid (∀ W, Below w.heap.size w W → ∀ e c0 c1 c2 c3 c4 c5, Rep W H (key e) (.agg #[c0, c1, c2, c3, c4, c5]) → ∀ W', Below W.heap.size W W' → Calls Tryz.prog 64 #[.agg #[c0, c1, c2, c3, c4, c5], .agg #[d0, d1, d2, d3, d4, d5]] W' fun ex w' => ex = .returned (.int .i64 (Vl.cmp (key e) x)) ∧ Below W'.heap.size W' w') := fun W hW e c0 c1 c2 c3 c4 c5 h2 W' hW' => by
    have hb := hW.trans (hW'.mono hW.size)
    exact compare10 _ _ (Nat.le_refl _) x W' H _ _ (Nat.le_trans hH hb.size) (rep_stays (hW'.mono (Nat.le_trans hH hW.size)) (Nat.le_refl _) _ _ h2) (rep_stays (hb.mono hH) (Nat.le_refl _) _ _ hv)
  have HKK : Hid (k = Bt.spot key x es) := hkk
  have HN : Hid (n = es.length ∧ n ≤ 1000000 ∧ k ≤ es.length) := ⟨hn, hl, hc.1⟩
  clear hkk hc hx hk hr hv hB hn hl hg hs1 b1
  go_enter Tryz.func53, Tryz.ntmps53
  go_upto_region 1 with fail
  rw [← hw1, ← hBe]
  clear hw1 hBe
  go_wp2_with fail
  refine CP.out.mono ?_
  rintro e w2 ⟨rfl, hb2⟩
  have HB2 : Hid (Below w.heap.size w w2 ∧ w2.heap[B]? = some (.cells #[d0, d1, d2, d3, d4, d5] 27 (0, 0)) ∧ B < w2.heap.size) := ⟨HB1.out.1.trans (hb2.mono HB1.out.1.size), (hb2.block _ HB1.out.2.2).trans HB1.out.2.1, Nat.lt_of_lt_of_le HB1.out.2.2 hb2.size⟩
  clear hb2 CP
  go_upto_region 2 with fail
  rcases hlook : es[k]? with _ | e
  · have hkn : k = n := by have := HN.out; rw [List.getElem?_eq_none_iff] at hlook; omega
    have E : Hid (Bt.hit key x es = false) := by show _ = _; rw [Bt.hit, ← HKK.out, hlook]
    clear hlook
    subst hkn
    have q0 : ¬ (k : Int) < (k : Int) := by omega
    have q : decide ((k : Int) < (k : Int)) = false := by simp
    refine wp_region_below w2.heap.size w2 (Below.refl _ _) (by kernel_rfl) (by kernel_rfl) ?_
    repeat (go_big_quiet_step (fail))
    refine wpQuiet_nil ?_
    intro _ hw'
    obtain ⟨pq, hw''⟩ := hw'
    subst hw''
    have HF := HB2.out.1.trans (pq.h.mono HB2.out.1.size)
    go_wp2
    go_ret2
    exact ⟨by rw [E.out]; rfl, HF⟩
  · obtain ⟨k1, ⟨hel, c0, c1, c2, c3, c4, c5, row, h1, h2⟩, k3⟩ := HK.out w2 HB2.out.1 k e hlook
    have E : Hid (Bt.hit key x es = decide (Vl.cmp (key e) x = 0)) := by show _ = _; rw [Bt.hit, ← HKK.out, hlook]
    have hel' : e < w2.heap.size := lt_of_row h1
    have hg2 : g < w2.heap.size := by
      rcases Nat.lt_or_ge g w2.heap.size with h | h
      · exact h
      · exfalso
        have : w2.heap[g]? = none := Array.getElem?_eq_none h
        simp [World.cell?, this] at k1
    have l0 : ∀ p : BelowOf w2.heap.size w2, p.W.cell? ⟨g, o + k, none⟩ = some (.pointer (some ⟨e, 0, none⟩)) := fun p => (p.h.cell (p := ⟨g, o + k, none⟩) hg2).trans k1
    have p0 : ∀ p : BelowOf w2.heap.size w2, p.W.cell? ⟨e, 0, none⟩ = some c0 := fun p => cells_at ((p.h.block _ hel').trans h1) 0 _ rfl
    have p1 : ∀ p : BelowOf w2.heap.size w2, p.W.cell? ⟨e, 1, none⟩ = some c1 := fun p => cells_at ((p.h.block _ hel').trans h1) 1 _ rfl
    have p2 : ∀ p : BelowOf w2.heap.size w2, p.W.cell? ⟨e, 2, none⟩ = some c2 := fun p => cells_at ((p.h.block _ hel').trans h1) 2 _ rfl
    have p3 : ∀ p : BelowOf w2.heap.size w2, p.W.cell? ⟨e, 3, none⟩ = some c3 := fun p => cells_at ((p.h.block _ hel').trans h1) 3 _ rfl
    have p4 : ∀ p : BelowOf w2.heap.size w2, p.W.cell? ⟨e, 4, none⟩ = some c4 := fun p => cells_at ((p.h.block _ hel').trans h1) 4 _ rfl
    have p5 : ∀ p : BelowOf w2.heap.size w2, p.W.cell? ⟨e, 5, none⟩ = some c5 := fun p => cells_at ((p.h.block _ hel').trans h1) 5 _ rfl
    have HBB := HB2.out.2
    have b0 : ∀ p : BelowOf w2.heap.size w2, p.W.cell? ⟨B, 0, none⟩ = some d0 := fun p => cells_at ((p.h.block _ HBB.2).trans HBB.1) 0 _ rfl
    have b1 : ∀ p : BelowOf w2.heap.size w2, p.W.cell? ⟨B, 1, none⟩ = some d1 := fun p => cells_at ((p.h.block _ HBB.2).trans HBB.1) 1 _ rfl
    have b2 : ∀ p : BelowOf w2.heap.size w2, p.W.cell? ⟨B, 2, none⟩ = some d2 := fun p => cells_at ((p.h.block _ HBB.2).trans HBB.1) 2 _ rfl
    have b3 : ∀ p : BelowOf w2.heap.size w2, p.W.cell? ⟨B, 3, none⟩ = some d3 := fun p => cells_at ((p.h.block _ HBB.2).trans HBB.1) 3 _ rfl
    have b4 : ∀ p : BelowOf w2.heap.size w2, p.W.cell? ⟨B, 4, none⟩ = some d4 := fun p => cells_at ((p.h.block _ HBB.2).trans HBB.1) 4 _ rfl
    have b5 : ∀ p : BelowOf w2.heap.size w2, p.W.cell? ⟨B, 5, none⟩ = some d5 := fun p => cells_at ((p.h.block _ HBB.2).trans HBB.1) 5 _ rfl
    have C : Hid (∀ W', Below w2.heap.size w2 W' → Calls Tryz.prog 64 #[.agg #[c0, c1, c2, c3, c4, c5], .agg #[d0, d1, d2, d3, d4, d5]] W' fun ex w' => ex = .returned (.int .i64 (Vl.cmp (key e) x)) ∧ Below W'.heap.size W' w') := HC.out w2 HB2.out.1 e _ _ _ _ _ _ h2
    obtain ⟨z, hz⟩ : ∃ z, z = Vl.cmp (key e) x := ⟨_, rfl⟩
    rw [← hz] at C E
    have q0 : (0 : Int) ≤ (k : Int) := by omega
    have q1 : (k : Int) < (n : Int) := by omega
    have q : decide ((k : Int) < (n : Int)) = true := decide_eq_true q1
    clear hz h1 h2 k1 k3 hlook hel hel' hg2 HBB
    by_cases hzz : z = 0
    · subst hzz
      refine wp_region_below w2.heap.size w2 (Below.refl _ _) (by kernel_rfl) (by kernel_rfl) ?_
      repeat (go_big_quiet_step (first | (go_at_call 64; exact below_call _ (Nat.le_refl _) (C.out _ (BelowOf.h _)))))
      refine wpQuiet_nil ?_
      intro _ hw'
      obtain ⟨pq, hw''⟩ := hw'
      subst hw''
      have HF := HB2.out.1.trans (pq.h.mono HB2.out.1.size)
      go_wp2
      go_ret2
      exact ⟨by rw [E.out]; rfl, HF⟩
    · have qz : (z == 0) = false := by simpa using hzz
      have qd : decide (z = 0) = false := by simpa using hzz
      have E2 : Hid (Bt.hit key x es = false) := E.out.trans qd
      refine wp_region_below w2.heap.size w2 (Below.refl _ _) (by kernel_rfl) (by kernel_rfl) ?_
      repeat (go_big_quiet_step (first | (go_at_call 64; exact below_call _ (Nat.le_refl _) (C.out _ (BelowOf.h _)))))
      refine wpQuiet_nil ?_
      intro _ hw'
      obtain ⟨pq, hw''⟩ := hw'
      subst hw''
      have HF := HB2.out.1.trans (pq.h.mono HB2.out.1.size)
      go_wp2
      go_ret2
      exact ⟨by rw [E2.out]; rfl, HF⟩
end Go.Proofs.YtkigenldiinioabGreatDoor
