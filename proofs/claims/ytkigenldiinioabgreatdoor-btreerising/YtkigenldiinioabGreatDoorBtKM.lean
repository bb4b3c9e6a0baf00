/- What a tree has of a key: walked. -/
import Derived.Test.YtkigenldiinioabGreatDoorBtXM
namespace Go.Proofs.YtkigenldiinioabGreatDoor
open Go.RowKit
open Vl (V)
attribute [local go_sem ↓] Go.wp_at_zero Go.wp_at_succ
theorem Bt.ptr_inj {o p : Option Nat} (h : Bt.ptr o = Bt.ptr p) : o = p := by
  cases o <;> cases p <;> simp [Bt.ptr] at h ⊢
  exact h
theorem rt_levels {w : World} {H : Nat} {key : Nat → V} : ∀ {s t : Bt.T}, RT w H key s → RT w H key t → Bt.top s = Bt.top t → Bt.levels s = Bt.levels t
  | .nil, .nil, _, _, _ => rfl
  | .nil, .node _ _ _ _ _ _ _, _, _, h => by simp [Bt.top] at h
  | .node _ _ _ _ _ _ _, .nil, _, _, h => by simp [Bt.top] at h
  | .node g r es a b c d, .node g' r' es' a' b' c' d', h1, h2, h => by
    simp [Bt.top] at h
    subst h
    obtain ⟨⟨_, _, ⟨cap, e1⟩, _⟩, ha, hb, hc, hd⟩ := h1
    obtain ⟨⟨_, _, ⟨cap', e2⟩, _⟩, ha', hb', hc', hd'⟩ := h2
    rw [e1] at e2
    simp only [Option.some.injEq, Obj.cells.injEq, Array.mk.injEq, List.cons.injEq, and_true] at e2
    obtain ⟨_, ea, eb, ec, ed, _⟩ := e2
    rw [Bt.levels, Bt.levels, rt_levels ha ha' (Bt.ptr_inj ea), rt_levels hb hb' (Bt.ptr_inj eb), rt_levels hc hc' (Bt.ptr_inj ec), rt_levels hd hd' (Bt.ptr_inj ed)]
theorem pick_levels {g r : Nat} {es : List Nat} {a b c d : Bt.T} (k : Nat) : Bt.levels (Bt.pick k a b c d) < Bt.levels (.node g r es a b c d) := by
  rw [Bt.levels]
  unfold Bt.pick
  split
  · omega
  split
  · omega
  split
  · omega
  · omega
theorem pick_look {key : Nat → V} {x : V} {a b c d : Bt.T} (k : Nat) : Bt.look key x (Bt.pick k a b c d) = Bt.pick k (Bt.look key x a) (Bt.look key x b) (Bt.look key x c) (Bt.look key x d) := by
  unfold Bt.pick
  split
  · rfl
  split
  · rfl
  split
  · rfl
  · rfl
/-- entries rise in every node -/
def Bt.up (key : Nat → V) : Bt.T → Prop
  | .nil => True
  | .node _ _ es a b c d => (es.length ≤ 3 ∧ Bt.Rises key es) ∧ Bt.up key a ∧ Bt.up key b ∧ Bt.up key c ∧ Bt.up key d
theorem Bt.up_of {key : Nat → V} : ∀ {t : Bt.T}, Bt.wf t → Bt.Rises key (Bt.flat t) → Bt.up key t
  | .nil, _, _ => trivial
  | .node g r es a b c d, hw, hr => by
    obtain ⟨s0, sa, sb, sc, sd⟩ := flat_entries hw
    obtain ⟨w1, w2, w3, wa, wb, wc, wd⟩ := hw
    exact ⟨⟨w2, List.Pairwise.sublist s0 hr⟩, Bt.up_of wa (List.Pairwise.sublist sa hr), Bt.up_of wb (List.Pairwise.sublist sb hr), Bt.up_of wc (List.Pairwise.sublist sc hr), Bt.up_of wd (List.Pairwise.sublist sd hr)⟩
theorem pick_up {key : Nat → V} {g r : Nat} {es : List Nat} {a b c d : Bt.T} (h : Bt.up key (.node g r es a b c d)) (k : Nat) : Bt.up key (Bt.pick k a b c d) := by
  unfold Bt.pick
  split
  · exact h.2.1
  split
  · exact h.2.2.1
  split
  · exact h.2.2.2.1
  · exact h.2.2.2.2
set_option maxHeartbeats 4000000 in
set_option maxRecDepth 100000 in
theorem find_c (t : Bt.T) (H : Nat) (key : Nat → V) (x : V) (v : Value) (w : World) (hH : H ≤ w.heap.size) (hT : RT w H key t) (hu : Bt.up key t) (hv : Rep w H x v) :
    Calls Tryz.prog 49 #[Bt.ptr (Bt.top t), v] w fun e w' => e = .returned (Bt.ptr (Bt.look key x t)) ∧ Below w.heap.size w w' := by
  obtain ⟨d0, d1, d2, d3, d4, d5, rfl⟩ := repV_box hv
  obtain ⟨w1, hw1⟩ : ∃ w1, w1 = w.alloc (.cells #[d0, d1, d2, d3, d4, d5] 27) := ⟨_, rfl⟩
  obtain ⟨B, hBe⟩ : ∃ B, B = w.heap.size := ⟨_, rfl⟩
  have HB1 : Hid (Below w.heap.size w w1 ∧ w1.heap[B]? = some (.cells #[d0, d1, d2, d3, d4, d5] 27 (0, 0)) ∧ B < w1.heap.size) := by
    rw [hw1, hBe]
    exact ⟨below_new _ _, heap_alloc_new w _, by simp⟩
  obtain ⟨M, hM⟩ : ∃ M : Value → Nat, ∀ s, RT w H key s → M (Bt.ptr (Bt.top s)) = Bt.levels s := by
    refine ⟨fun p => Classical.epsilon (fun m => ∃ s, RT w H key s ∧ Bt.ptr (Bt.top s) = p ∧ Bt.levels s = m), fun s hs => ?_⟩
    obtain ⟨s', h1, h2, h3⟩ := Classical.epsilon_spec (p := fun m => ∃ s', RT w H key s' ∧ Bt.ptr (Bt.top s') = Bt.ptr (Bt.top s) ∧ Bt.levels s' = m) ⟨_, s, hs, rfl, rfl⟩
    exact h3.symm.trans (rt_levels h1 hs (Bt.ptr_inj h2))
  have HM : Hid (∀ s, RT w H key s → M (Bt.ptr (Bt.top s)) = Bt.levels s) := hM
  have HT : Hid (RT w H key t ∧ Bt.up key t) := ⟨hT, hu⟩
  have HV : Hid (Rep w H x (.agg #[d0, d1, d2, d3, d4, d5]) ∧ H ≤ w.heap.size) := ⟨hv, hH⟩
  obtain ⟨po, hpo⟩ : ∃ po, Bt.ptr (Bt.top t) = .pointer po := ⟨_, rfl⟩
  have HPO : Hid (Bt.ptr (Bt.top t) = .pointer po) := hpo
  rw [hpo]
  clear hM hT hu hv hH hpo
  go_enter Tryz.func49, Tryz.ntmps49
  go_upto_region 1 with fail
  rw [← hw1, ← hBe]
  clear hw1 hBe
  go_loopw [0] (fun p wr => ∃ s, p = Bt.ptr (Bt.top s) ∧ Hid (RT w H key s ∧ Bt.up key s ∧ Bt.look key x s = Bt.look key x t ∧ Below w.heap.size w wr ∧ wr.heap[B]? = some (.cells #[d0, d1, d2, d3, d4, d5] 27 (0, 0)))) (fun p _ => M p)
  case atStart => exact ⟨t, HPO.out.symm, HT.out.1, HT.out.2, rfl, HB1.out.1, HB1.out.2.1⟩
  case round =>
    obtain ⟨s, rfl, HR⟩ := hrel
    clear HB1 HPO
    cases s with
    | nil =>
      have HE : Hid (Bt.look key x t = none ∧ Below w.heap.size w wr) := ⟨HR.out.2.2.1.symm, HR.out.2.2.2.1⟩
      rw [Bt.top, Bt.ptr_none]
      clear HR HM
      go_wp2
      go_ret
      exact ⟨by rw [HE.out.1]; rfl, HE.out.2⟩
    | node g r es a b c d =>
      obtain ⟨hRs, hUs, hLs, hbw, hBx⟩ := HR.out
      obtain ⟨⟨k1, k2, ⟨cap, k3⟩, k4, k5⟩, _⟩ := RT.stays (hbw.mono HV.out.2) hRs
      obtain ⟨n, hn⟩ : ∃ n, n = es.length := ⟨_, rfl⟩
      obtain ⟨i, hi⟩ : ∃ i, i = Bt.spot key x es := ⟨_, rfl⟩
      have hil : i ≤ es.length := by rw [hi]; exact (Bt.spot_cut hUs.1.2).1
      have hs0 : H ≤ wr.heap.size := Nat.le_trans HV.out.2 hbw.size
      have CP : Hid (∀ W', Below wr.heap.size wr W' → Calls Tryz.prog 53 #[.slice (some ⟨r, 0, none⟩) n cap, .agg #[d0, d1, d2, d3, d4, d5]] W' fun ex w' => ex = .returned (.tuple #[.int .i64 (i : Int), .bool (Bt.hit key x es)]) ∧ Below W'.heap.size W' w') := fun W' hW => by
        rw [hi]
        have hb := hbw.trans (hW.mono hbw.size)
        exact placeOf_c r 0 n cap H es key x _ W' hn (by have := hUs.1.1; omega) (by have := hW.size; omega) (fun j e he => (hW.cell (p := ⟨r, 0 + j, none⟩) (by show r < wr.heap.size; omega)).trans (k4 j e he)) (fun e he => (k5 e he).stays (hW.mono hs0)) hUs.1.2 (Nat.le_trans hs0 hW.size) (rep_stays (hb.mono HV.out.2) (Nat.le_refl _) _ _ HV.out.1)
      have hgl : g < wr.heap.size := lt_of_row k3
      have hBl : B < wr.heap.size := lt_of_row hBx
      rw [← hn] at k3
      have p0 : ∀ p : BelowOf wr.heap.size wr, p.W.cell? ⟨g, 0, none⟩ = some (.slice (some ⟨r, 0, none⟩) n cap) := fun p => cells_at ((p.h.block _ hgl).trans k3) 0 _ rfl
      have b0 : ∀ p : BelowOf wr.heap.size wr, p.W.cell? ⟨B, 0, none⟩ = some d0 := fun p => cells_at ((p.h.block _ hBl).trans hBx) 0 _ rfl
      have b1 : ∀ p : BelowOf wr.heap.size wr, p.W.cell? ⟨B, 1, none⟩ = some d1 := fun p => cells_at ((p.h.block _ hBl).trans hBx) 1 _ rfl
      have b2 : ∀ p : BelowOf wr.heap.size wr, p.W.cell? ⟨B, 2, none⟩ = some d2 := fun p => cells_at ((p.h.block _ hBl).trans hBx) 2 _ rfl
      have b3 : ∀ p : BelowOf wr.heap.size wr, p.W.cell? ⟨B, 3, none⟩ = some d3 := fun p => cells_at ((p.h.block _ hBl).trans hBx) 3 _ rfl
      have b4 : ∀ p : BelowOf wr.heap.size wr, p.W.cell? ⟨B, 4, none⟩ = some d4 := fun p => cells_at ((p.h.block _ hBl).trans hBx) 4 _ rfl
      have b5 : ∀ p : BelowOf wr.heap.size wr, p.W.cell? ⟨B, 5, none⟩ = some d5 := fun p => cells_at ((p.h.block _ hBl).trans hBx) 5 _ rfl
      have HG : Hid (wr.heap[g]? = some (.cells #[.slice (some ⟨r, 0, none⟩) n cap, Bt.ptr (Bt.top a), Bt.ptr (Bt.top b), Bt.ptr (Bt.top c), Bt.ptr (Bt.top d), .int .i64 ((Bt.flat (.node g r es a b c d)).length : Int)] 87 (0, 0)) ∧ g < wr.heap.size ∧ r < wr.heap.size ∧ (∀ j e, es[j]? = some e → wr.cell? ⟨r, 0 + j, none⟩ = some (.pointer (some ⟨e, 0, none⟩))) ∧ n = es.length ∧ i = Bt.spot key x es ∧ i ≤ es.length ∧ es.length ≤ 3) := ⟨k3, hgl, by omega, k4, hn, hi, hil, hUs.1.1⟩
      obtain ⟨ht, hht⟩ : ∃ h, h = Bt.hit key x es := ⟨_, rfl⟩
      rw [← hht] at CP
      have HHT : Hid (ht = Bt.hit key x es) := hht
      rw [Bt.top, Bt.ptr_some]
      clear hRs hUs hLs hbw hBx k1 k2 k3 k4 k5 hn hi hil hs0 hgl hBl hht
      go_upto_region 2 with fail
      refine wp_region_below wr.heap.size wr (Below.refl _ _) (by kernel_rfl) (by kernel_rfl) ?_
      repeat (go_big_quiet_step (first | (go_at_call 53; exact below_call _ (Nat.le_refl _) (CP.out _ (BelowOf.h _)))))
      refine wpQuiet_nil ?_
      intro _ hw'
      obtain ⟨pq, hw''⟩ := hw'
      subst hw''
      clear p0 b0 b1 b2 b3 b4 b5 CP
      have HW : Hid (Below w.heap.size w pq.W ∧ pq.W.heap[B]? = some (.cells #[d0, d1, d2, d3, d4, d5] 27 (0, 0))) := ⟨HR.out.2.2.2.1.trans (pq.h.mono HR.out.2.2.2.1.size), (pq.h.block _ (lt_of_row HR.out.2.2.2.2)).trans HR.out.2.2.2.2⟩
      have c0 : pq.W.cell? ⟨g, 0, none⟩ = some (.slice (some ⟨r, 0, none⟩) n cap) := cells_at ((pq.h.block _ HG.out.2.1).trans HG.out.1) 0 _ rfl
      have q0 : (0 : Int) ≤ (i : Int) := by omega
      cases ht with
      | true =>
        obtain ⟨e, he, hc⟩ : ∃ e, es[i]? = some e ∧ Vl.cmp (key e) x = 0 := by
          have := HHT.out
          rw [Bt.hit, ← HG.out.2.2.2.2.2.1] at this
          cases hl : es[i]? with
          | none => rw [hl] at this; cases this
          | some e => rw [hl] at this; exact ⟨e, rfl, by simpa using this.symm⟩
        have ce : pq.W.cell? ⟨r, i, none⟩ = some (.pointer (some ⟨e, 0, none⟩)) := by
          have := (pq.h.cell (p := ⟨r, 0 + i, none⟩) HG.out.2.2.1).trans (HG.out.2.2.2.1 i e he)
          rw [Nat.zero_add] at this
          exact this
        have HE : Hid (Bt.look key x t = some e) := by
          show _ = _
          rw [← HR.out.2.2.1, Bt.look, ← HG.out.2.2.2.2.2.1, he]
          simp [hc]
        have q1 : (i : Int) < (n : Int) := by have := (List.getElem?_eq_some_iff.1 he).1; have := HG.out.2.2.2.2.1; omega
        have HF := HW.out.1
        clear he hc
        go_wp2
        go_ret
        exact ⟨by rw [HE.out]; rfl, HF⟩
      | false =>
        have q1 : (i : Int) < 4 := by have := HG.out; omega
        obtain ⟨po, hpo⟩ : ∃ po, Bt.ptr (Bt.top (Bt.pick i a b c d)) = .pointer po := ⟨_, rfl⟩
        have cp : pq.W.cell? ⟨g, 1 + i, none⟩ = some (.pointer po) := pick_cell ((pq.h.block _ HG.out.2.1).trans HG.out.1) (by have := HG.out; omega) hpo
        have HE : Hid (Bt.look key x (Bt.pick i a b c d) = Bt.look key x t) := by
          show _ = _
          rw [← HR.out.2.2.1, Bt.look, ← HG.out.2.2.2.2.2.1, pick_look]
          have := HHT.out
          rw [Bt.hit, ← HG.out.2.2.2.2.2.1] at this
          cases hl : es[i]? with
          | none => rfl
          | some e =>
            rw [hl] at this
            have hne : ¬ Vl.cmp (key e) x = 0 := by simpa using this.symm
            simp [hne]
        have HPO : Hid (Bt.ptr (Bt.top (Bt.pick i a b c d)) = .pointer po) := hpo
        clear hpo
        go_wp2
        go_roundw
        case rel => exact ⟨Bt.pick i a b c d, HPO.out.symm, pick_rt HR.out.1 i, pick_up HR.out.2.1 i, HE.out, HW.out⟩
        case measure =>
          have e1 := HM.out _ HR.out.1
          have e2 := HM.out _ (pick_rt HR.out.1 i)
          rw [HPO.out] at e2
          rw [Bt.top, Bt.ptr_some] at e1
          first
          | (rw [e1, e2]; exact pick_levels i)
          | (simp only [e1, e2]; exact pick_levels i)
end Go.Proofs.YtkigenldiinioabGreatDoor
