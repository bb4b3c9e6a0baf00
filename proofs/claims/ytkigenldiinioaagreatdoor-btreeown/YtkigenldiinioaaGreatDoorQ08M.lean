/- Several texts, joined: BtX, BtK, Strange, Alone, CheckM -/
import Derived.Test.YtkigenldiinioaaGreatDoorBtWM
import Derived.Test.YtkigenldiinioaaGreatDoorQ04M
import Derived.Laws.Cover1
/- What a tree yields within bounds, whatever the tree. -/
namespace Go.Proofs.YtkigenldiinioaaGreatDoor
open Go.RowKit Go.Shelf
open Vl (V)
theorem flat_entries {g r : Nat} {es : List Nat} {a b c d : Bt.T} (h : Bt.wf (.node g r es a b c d)) : es.Sublist (Bt.flat (.node g r es a b c d)) ∧ (Bt.flat a).Sublist (Bt.flat (.node g r es a b c d)) ∧ (Bt.flat b).Sublist (Bt.flat (.node g r es a b c d)) ∧ (Bt.flat c).Sublist (Bt.flat (.node g r es a b c d)) ∧ (Bt.flat d).Sublist (Bt.flat (.node g r es a b c d)) := by
  obtain ⟨h1, h2, h3, _⟩ := h
  by_cases hl : es.length < 3
  · obtain ⟨rfl, rfl, rfl, rfl⟩ := h3 hl
    rw [Bt.flat_one _ _ _ (by omega)]
    exact ⟨List.Sublist.refl _, List.nil_sublist _, List.nil_sublist _, List.nil_sublist _, List.nil_sublist _⟩
  · match es, h2, hl with
    | [e, f, x], _, _ =>
      rw [Bt.flat_three]
      refine ⟨?_, List.sublist_append_left _ _, ?_, ?_, ?_⟩
      · exact (List.Sublist.cons_cons e ((List.Sublist.cons_cons f ((List.Sublist.cons_cons x (List.nil_sublist _)).trans (List.sublist_append_right _ _))).trans (List.sublist_append_right _ _))).trans (List.sublist_append_right _ _)
      · exact ((List.sublist_append_left _ _).trans (List.sublist_cons_self _ _)).trans (List.sublist_append_right _ _)
      · exact ((((List.sublist_append_left _ _).trans (List.sublist_cons_self _ _)).trans (List.sublist_append_right _ _)).trans (List.sublist_cons_self _ _)).trans (List.sublist_append_right _ _)
      · exact (((((List.sublist_cons_self _ _).trans (List.sublist_append_right _ _)).trans (List.sublist_cons_self _ _)).trans (List.sublist_append_right _ _)).trans (List.sublist_cons_self _ _)).trans (List.sublist_append_right _ _)
    | [], _, hl => simp at hl
    | [_], _, hl => simp at hl
    | [_, _], _, hl => simp at hl
/-- what a tree yields within bounds -/
theorem within1_seq (key : Nat → V) (lo hi : Option (Bool × V)) (H : Nat) (Q : Nat → Prop) (l0 l1 l2 l3 l4 l5 l6 l7 h0 h1 h2 h3 h4 h5 h6 h7 : Value) : ∀ (t : Bt.T), Bt.wf t → Bt.Rises key (Bt.flat t) → (∀ e ∈ Bt.flat t, Q e) → WSeq key lo hi H Q #[l0, l1, l2, l3, l4, l5, l6, l7] #[h0, h1, h2, h3, h4, h5, h6, h7] t
  | .nil, _, _, _ => within1_nil key lo hi H Q _ _
  | .node g r es a b c d, hw, hr, hq => by
    obtain ⟨s0, sa, sb, sc, sd⟩ := flat_entries hw
    obtain ⟨w1, w2, w3, wa, wb, wc, wd⟩ := hw
    exact within1_node key lo hi H Q l0 l1 l2 l3 l4 l5 l6 l7 h0 h1 h2 h3 h4 h5 h6 h7 g r es a b c d w2 (List.Pairwise.sublist s0 hr) (fun e he => hq e (s0.subset he))
      (within1_seq key lo hi H Q l0 l1 l2 l3 l4 l5 l6 l7 h0 h1 h2 h3 h4 h5 h6 h7 a wa (List.Pairwise.sublist sa hr) (fun e he => hq e (sa.subset he)))
      (within1_seq key lo hi H Q l0 l1 l2 l3 l4 l5 l6 l7 h0 h1 h2 h3 h4 h5 h6 h7 b wb (List.Pairwise.sublist sb hr) (fun e he => hq e (sb.subset he)))
      (within1_seq key lo hi H Q l0 l1 l2 l3 l4 l5 l6 l7 h0 h1 h2 h3 h4 h5 h6 h7 c wc (List.Pairwise.sublist sc hr) (fun e he => hq e (sc.subset he)))
      (within1_seq key lo hi H Q l0 l1 l2 l3 l4 l5 l6 l7 h0 h1 h2 h3 h4 h5 h6 h7 d wd (List.Pairwise.sublist sd hr) (fun e he => hq e (sd.subset he)))
end Go.Proofs.YtkigenldiinioaaGreatDoor
/- What a tree has of a key: walked. -/
namespace Go.Proofs.YtkigenldiinioaaGreatDoor
open Go.RowKit
open Vl (V)
attribute [local go_sem ↓] Go.wp_at_zero Go.wp_at_succ
theorem Bt.ptr_inj {o p : Option Nat} (h : Bt.ptr o = Bt.ptr p) : o = p := by
  cases o <;> cases p <;> simp [Bt.ptr] at h ⊢
  exact h
theorem rt_levels {w : World} {H : Nat} {key : Nat → V} : ∀ {s t : Bt.T}, RT w H key s → RT w H key t → Bt.top s = Bt.top t → Bt.levels s = Bt.levels t
  | .nil, .nil, _, _, _ => rfl
  | .nil, .node _ _ _ _ _ _ _, _, _, h => by simp [Bt.top] at h
  | .node _ _ _ _ _ _ _, .nil, _, _, h => by simp [Bt.top] at h
  | .node g r es a b c d, .node g' r' es' a' b' c' d', h1, h2, h => by
    simp [Bt.top] at h
    subst h
    obtain ⟨⟨_, _, ⟨cap, e1⟩, _⟩, ha, hb, hc, hd⟩ := h1
    obtain ⟨⟨_, _, ⟨cap', e2⟩, _⟩, ha', hb', hc', hd'⟩ := h2
    rw [e1] at e2
    simp only [Option.some.injEq, Obj.cells.injEq, Array.mk.injEq, List.cons.injEq, and_true] at e2
    obtain ⟨_, ea, eb, ec, ed, _⟩ := e2
    rw [Bt.levels, Bt.levels, rt_levels ha ha' (Bt.ptr_inj ea), rt_levels hb hb' (Bt.ptr_inj eb), rt_levels hc hc' (Bt.ptr_inj ec), rt_levels hd hd' (Bt.ptr_inj ed)]
theorem pick_levels {g r : Nat} {es : List Nat} {a b c d : Bt.T} (k : Nat) : Bt.levels (Bt.pick k a b c d) < Bt.levels (.node g r es a b c d) := by
  rw [Bt.levels]
  unfold Bt.pick
  split
  · omega
  split
  · omega
  split
  · omega
  · omega
theorem pick_look {key : Nat → V} {x : V} {a b c d : Bt.T} (k : Nat) : Bt.look key x (Bt.pick k a b c d) = Bt.pick k (Bt.look key x a) (Bt.look key x b) (Bt.look key x c) (Bt.look key x d) := by
  unfold Bt.pick
  split
  · rfl
  split
  · rfl
  split
  · rfl
  · rfl
/-- entries rise in every node -/
def Bt.up (key : Nat → V) : Bt.T → Prop
  | .nil => True
  | .node _ _ es a b c d => (es.length ≤ 3 ∧ Bt.Rises key es) ∧ Bt.up key a ∧ Bt.up key b ∧ Bt.up key c ∧ Bt.up key d
theorem Bt.up_of {key : Nat → V} : ∀ {t : Bt.T}, Bt.wf t → Bt.Rises key (Bt.flat t) → Bt.up key t
  | .nil, _, _ => trivial
  | .node g r es a b c d, hw, hr => by
    obtain ⟨s0, sa, sb, sc, sd⟩ := flat_entries hw
    obtain ⟨w1, w2, w3, wa, wb, wc, wd⟩ := hw
    exact ⟨⟨w2, List.Pairwise.sublist s0 hr⟩, Bt.up_of wa (List.Pairwise.sublist sa hr), Bt.up_of wb (List.Pairwise.sublist sb hr), Bt.up_of wc (List.Pairwise.sublist sc hr), Bt.up_of wd (List.Pairwise.sublist sd hr)⟩
theorem pick_up {key : Nat → V} {g r : Nat} {es : List Nat} {a b c d : Bt.T} (h : Bt.up key (.node g r es a b c d)) (k : Nat) : Bt.up key (Bt.pick k a b c d) := by
  unfold Bt.pick
  split
  · exact h.2.1
  split
  · exact h.2.2.1
  split
  · exact h.2.2.2.1
  · exact h.2.2.2.2
set_option maxHeartbeats 4000000 in
set_option maxRecDepth 100000 in
theorem find_c (t : Bt.T) (H : Nat) (key : Nat → V) (x : V) (v : Value) (w : World) (hH : H ≤ w.heap.size) (hT : RT w H key t) (hu : Bt.up key t) (hv : Rep w H x v) :
    Calls Tryz.prog 57 #[Bt.ptr (Bt.top t), v] w fun e w' => e = .returned (Bt.ptr (Bt.look key x t)) ∧ Below w.heap.size w w' := by
  obtain ⟨d0, d1, d2, d3, d4, d5, rfl⟩ := repV_box hv
  obtain ⟨w1, hw1⟩ : ∃ w1, w1 = w.alloc (.cells #[d0, d1, d2, d3, d4, d5] 27) := ⟨_, rfl⟩
  obtain ⟨B, hBe⟩ : ∃ B, B = w.heap.size := ⟨_, rfl⟩
  have HB1 : Hid (Below w.heap.size w w1 ∧ w1.heap[B]? = some (.cells #[d0, d1, d2, d3, d4, d5] 27 (0, 0)) ∧ B < w1.heap.size) := by
    rw [hw1, hBe]
    exact ⟨below_new _ _, heap_alloc_new w _, by simp⟩
  obtain ⟨M, hM⟩ : ∃ M : Value → Nat, ∀ s, RT w H key s → M (Bt.ptr (Bt.top s)) = Bt.levels s := by
    refine ⟨fun p => Classical.epsilon (fun m => ∃ s, RT w H key s ∧ Bt.ptr (Bt.top s) = p ∧ Bt.levels s = m), fun s hs => ?_⟩
    obtain ⟨s', h1, h2, h3⟩ := Classical.epsilon_spec (p := fun m => ∃ s', RT w H key s' ∧ Bt.ptr (Bt.top s') = Bt.ptr (Bt.top s) ∧ Bt.levels s' = m) ⟨_, s, hs, rfl, rfl⟩
    exact h3.symm.trans (rt_levels h1 hs (Bt.ptr_inj h2))
  have HM : Hid (∀ s, RT w H key s → M (Bt.ptr (Bt.top s)) = Bt.levels s) := hM
  have HT : Hid (RT w H key t ∧ Bt.up key t) := ⟨hT, hu⟩
  have HV : Hid (Rep w H x (.agg #[d0, d1, d2, d3, d4, d5]) ∧ H ≤ w.heap.size) := ⟨hv, hH⟩
  obtain ⟨po, hpo⟩ : ∃ po, Bt.ptr (Bt.top t) = .pointer po := ⟨_, rfl⟩
  have HPO : Hid (Bt.ptr (Bt.top t) = .pointer po) := hpo
  rw [hpo]
  clear hM hT hu hv hH hpo
  go_enter Tryz.func57, Tryz.ntmps57
  go_upto_region 1 with fail
  rw [← hw1, ← hBe]
  clear hw1 hBe
  go_loopw [0] (fun p wr => ∃ s, p = Bt.ptr (Bt.top s) ∧ Hid (RT w H key s ∧ Bt.up key s ∧ Bt.look key x s = Bt.look key x t ∧ Below w.heap.size w wr ∧ wr.heap[B]? = some (.cells #[d0, d1, d2, d3, d4, d5] 27 (0, 0)))) (fun p _ => M p)
  case atStart => exact ⟨t, HPO.out.symm, HT.out.1, HT.out.2, rfl, HB1.out.1, HB1.out.2.1⟩
  case round =>
    obtain ⟨s, rfl, HR⟩ := hrel
    clear HB1 HPO
    cases s with
    | nil =>
      have HE : Hid (Bt.look key x t = none ∧ Below w.heap.size w wr) := ⟨HR.out.2.2.1.symm, HR.out.2.2.2.1⟩
      rw [Bt.top, Bt.ptr_none]
      clear HR HM
      go_wp2
      go_ret
      exact ⟨by rw [HE.out.1]; rfl, HE.out.2⟩
    | node g r es a b c d =>
      obtain ⟨hRs, hUs, hLs, hbw, hBx⟩ := HR.out
      obtain ⟨⟨k1, k2, ⟨cap, k3⟩, k4, k5⟩, _⟩ := RT.stays (hbw.mono HV.out.2) hRs
      obtain ⟨n, hn⟩ : ∃ n, n = es.length := ⟨_, rfl⟩
      obtain ⟨i, hi⟩ : ∃ i, i = Bt.spot key x es := ⟨_, rfl⟩
      have hil : i ≤ es.length := by rw [hi]; exact (Bt.spot_cut hUs.1.2).1
      have hs0 : H ≤ wr.heap.size := Nat.le_trans HV.out.2 hbw.size
      have CP : Hid (∀ W', Below wr.heap.size wr W' → Calls Tryz.prog 64 #[.slice (some ⟨r, 0, none⟩) n cap, .agg #[d0, d1, d2, d3, d4, d5]] W' fun ex w' => ex = .returned (.tuple #[.int .i64 (i : Int), .bool (Bt.hit key x es)]) ∧ Below W'.heap.size W' w') := fun W' hW => by
        rw [hi]
        have hb := hbw.trans (hW.mono hbw.size)
        exact placeOf_c r 0 n cap H es key x _ W' hn (by have := hUs.1.1; omega) (by have := hW.size; omega) (fun j e he => (hW.cell (p := ⟨r, 0 + j, none⟩) (by show r < wr.heap.size; omega)).trans (k4 j e he)) (fun e he => (k5 e he).stays (hW.mono hs0)) hUs.1.2 (Nat.le_trans hs0 hW.size) (rep_stays (hb.mono HV.out.2) (Nat.le_refl _) _ _ HV.out.1)
      have hgl : g < wr.heap.size := lt_of_row k3
      have hBl : B < wr.heap.size := lt_of_row hBx
      rw [← hn] at k3
      have p0 : ∀ p : BelowOf wr.heap.size wr, p.W.cell? ⟨g, 0, none⟩ = some (.slice (some ⟨r, 0, none⟩) n cap) := fun p => cells_at ((p.h.block _ hgl).trans k3) 0 _ rfl
      have b0 : ∀ p : BelowOf wr.heap.size wr, p.W.cell? ⟨B, 0, none⟩ = some d0 := fun p => cells_at ((p.h.block _ hBl).trans hBx) 0 _ rfl
      have b1 : ∀ p : BelowOf wr.heap.size wr, p.W.cell? ⟨B, 1, none⟩ = some d1 := fun p => cells_at ((p.h.block _ hBl).trans hBx) 1 _ rfl
      have b2 : ∀ p : BelowOf wr.heap.size wr, p.W.cell? ⟨B, 2, none⟩ = some d2 := fun p => cells_at ((p.h.block _ hBl).trans hBx) 2 _ rfl
      have b3 : ∀ p : BelowOf wr.heap.size wr, p.W.cell? ⟨B, 3, none⟩ = some d3 := fun p => cells_at ((p.h.block _ hBl).trans hBx) 3 _ rfl
      have b4 : ∀ p : BelowOf wr.heap.size wr, p.W.cell? ⟨B, 4, none⟩ = some d4 := fun p => cells_at ((p.h.block _ hBl).trans hBx) 4 _ rfl
      have b5 : ∀ p : BelowOf wr.heap.size wr, p.W.cell? ⟨B, 5, none⟩ = some d5 := fun p => cells_at ((p.h.block _ hBl).trans hBx) 5 _ rfl
      have HG : Hid (wr.heap[g]? = some (.cells #[.slice (some ⟨r, 0, none⟩) n cap, Bt.ptr (Bt.top a), Bt.ptr (Bt.top b), Bt.ptr (Bt.top c), Bt.ptr (Bt.top d), .int .i64 ((Bt.flat (.node g r es a b c d)).length : Int)] 95 (0, 0)) ∧ g < wr.heap.size ∧ r < wr.heap.size ∧ (∀ j e, es[j]? = some e → wr.cell? ⟨r, 0 + j, none⟩ = some (.pointer (some ⟨e, 0, none⟩))) ∧ n = es.length ∧ i = Bt.spot key x es ∧ i ≤ es.length ∧ es.length ≤ 3) := ⟨k3, hgl, by omega, k4, hn, hi, hil, hUs.1.1⟩
      obtain ⟨ht, hht⟩ : ∃ h, h = Bt.hit key x es := ⟨_, rfl⟩
      rw [← hht] at CP
      have HHT : Hid (ht = Bt.hit key x es) := hht
      rw [Bt.top, Bt.ptr_some]
      clear hRs hUs hLs hbw hBx k1 k2 k3 k4 k5 hn hi hil hs0 hgl hBl hht
      go_upto_region 2 with fail
      refine wp_region_below wr.heap.size wr (Below.refl _ _) (by kernel_rfl) (by kernel_rfl) ?_
      repeat (go_big_quiet_step (first | (go_at_call 64; exact below_call _ (Nat.le_refl _) (CP.out _ (BelowOf.h _)))))
      refine wpQuiet_nil ?_
      intro _ hw'
      obtain ⟨pq, hw''⟩ := hw'
      subst hw''
      clear p0 b0 b1 b2 b3 b4 b5 CP
      have HW : Hid (Below w.heap.size w pq.W ∧ pq.W.heap[B]? = some (.cells #[d0, d1, d2, d3, d4, d5] 27 (0, 0))) := ⟨HR.out.2.2.2.1.trans (pq.h.mono HR.out.2.2.2.1.size), (pq.h.block _ (lt_of_row HR.out.2.2.2.2)).trans HR.out.2.2.2.2⟩
      have c0 : pq.W.cell? ⟨g, 0, none⟩ = some (.slice (some ⟨r, 0, none⟩) n cap) := cells_at ((pq.h.block _ HG.out.2.1).trans HG.out.1) 0 _ rfl
      have q0 : (0 : Int) ≤ (i : Int) := by omega
      cases ht with
      | true =>
        obtain ⟨e, he, hc⟩ : ∃ e, es[i]? = some e ∧ Vl.cmp (key e) x = 0 := by
          have := HHT.out
          rw [Bt.hit, ← HG.out.2.2.2.2.2.1] at this
          cases hl : es[i]? with
          | none => rw [hl] at this; cases this
          | some e => rw [hl] at this; exact ⟨e, rfl, by simpa using this.symm⟩
        have ce : pq.W.cell? ⟨r, i, none⟩ = some (.pointer (some ⟨e, 0, none⟩)) := by
          have := (pq.h.cell (p := ⟨r, 0 + i, none⟩) HG.out.2.2.1).trans (HG.out.2.2.2.1 i e he)
          rw [Nat.zero_add] at this
          exact this
        have HE : Hid (Bt.look key x t = some e) := by
          show _ = _
          rw [← HR.out.2.2.1, Bt.look, ← HG.out.2.2.2.2.2.1, he]
          simp [hc]
        have q1 : (i : Int) < (n : Int) := by have := (List.getElem?_eq_some_iff.1 he).1; have := HG.out.2.2.2.2.1; omega
        have HF := HW.out.1
        clear he hc
        go_wp2
        go_ret
        exact ⟨by rw [HE.out]; rfl, HF⟩
      | false =>
        have q1 : (i : Int) < 4 := by have := HG.out; omega
        obtain ⟨po, hpo⟩ : ∃ po, Bt.ptr (Bt.top (Bt.pick i a b c d)) = .pointer po := ⟨_, rfl⟩
        have cp : pq.W.cell? ⟨g, 1 + i, none⟩ = some (.pointer po) := pick_cell ((pq.h.block _ HG.out.2.1).trans HG.out.1) (by have := HG.out; omega) hpo
        have HE : Hid (Bt.look key x (Bt.pick i a b c d) = Bt.look key x t) := by
          show _ = _
          rw [← HR.out.2.2.1, Bt.look, ← HG.out.2.2.2.2.2.1, pick_look]
          have := HHT.out
          rw [Bt.hit, ← HG.out.2.2.2.2.2.1] at this
          cases hl : es[i]? with
          | none => rfl
          | some e =>
            rw [hl] at this
            have hne : ¬ Vl.cmp (key e) x = 0 := by simpa using this.symm
            simp [hne]
        have HPO : Hid (Bt.ptr (Bt.top (Bt.pick i a b c d)) = .pointer po) := hpo
        clear hpo
        go_wp2
        go_roundw
        case rel => exact ⟨Bt.pick i a b c d, HPO.out.symm, pick_rt HR.out.1 i, pick_up HR.out.2.1 i, HE.out, HW.out⟩
        case measure =>
          have e1 := HM.out _ HR.out.1
          have e2 := HM.out _ (pick_rt HR.out.1 i)
          rw [HPO.out] at e2
          rw [Bt.top, Bt.ptr_some] at e1
          first
          | (rw [e1, e2]; exact pick_levels i)
          | (simp only [e1, e2]; exact pick_levels i)
end Go.Proofs.YtkigenldiinioaaGreatDoor
/- strange, walked: whether a field that the value's kind has not is not zero. -/
namespace Go.Proofs.YtkigenldiinioaaGreatDoor
open Go.RowKit
open Vl (V)
theorem below_new1 (w : World) (o : Obj) : Below w.heap.size w (w.alloc o) := below_new w o
theorem str_nil (s : ByteArray) : s.toList = [] ↔ s.size = 0 := by
  rw [Go.ByteArray.toList_eq, ← List.length_eq_zero_iff]
  rfl
set_option maxHeartbeats 4000000 in
set_option maxRecDepth 100000 in
theorem strange63 (k : Nat) (b : Bool) (n : Int) (s : ByteArray) (l : List V) (f : List (ByteArray × V)) (ao : Option Addr) (ac : Nat) (fo : Option Addr) (fc : Nat) (w : World) :
    Calls Tryz.prog 82 #[.agg #[.int .u8 (k : Int), .bool b, .int .i64 n, .string s, .slice ao l.length ac, .slice fo f.length fc]] w fun e w' => e = .returned (.bool (Vl.strange ⟨k, b, n, s, l, f⟩)) ∧ Below w.heap.size w w' := by
  obtain ⟨ll, hll⟩ : ∃ n, n = l.length := ⟨_, rfl⟩
  obtain ⟨fl, hfl⟩ : ∃ n, n = f.length := ⟨_, rfl⟩
  obtain ⟨r, hr⟩ : ∃ r, r = Vl.strange ⟨k, b, n, s, l, f⟩ := ⟨_, rfl⟩
  have HR : Hid (r = ((b && decide (k ≠ 1)) || (decide (n ≠ 0) && decide (k ≠ 2)) || (decide (s.size ≠ 0) && decide (k ≠ 3) && decide (k ≠ 4)) || (decide (0 < ll) && decide (k ≠ 5)) || (decide (0 < fl) && decide (k ≠ 6)))) := by
    show _ = _
    rw [hr, Vl.strange, hll, hfl]
  rw [← hr, ← hll, ← hfl]
  clear hr hll hfl
  go_enter Tryz.func82, Tryz.ntmps82
  go_wp2
  all_goals
    refine ⟨rfl, _, results_tmp (by rfl) _ _ _, ?_, below_new _ _⟩
    refine congrArg (fun z => Ending.returned (Value.bool z)) (Eq.symm ?_)
    rw [HR.out]
    try simp only [str_nil] at *
    first
      | (simp_all; done)
      | (simp_all; omega)
      | (by_cases h6 : k = 6 <;> simp_all <;> omega)
end Go.Proofs.YtkigenldiinioaaGreatDoor
/- checkAlone and checkName, walked over whatever the library answers of a text's being UTF-8. -/
namespace Go.Proofs.YtkigenldiinioaaGreatDoor
open Go.RowKit
open Vl (V)
/-- what the library answers of texts: u, in worlds in which its tables lie (T); new blocks leave these alone -/
structure Utf (u : ByteArray → Bool) (T : World → Prop) : Prop where
  stays : ∀ w w' : World, T w → Below w.heap.size w w' → T w'
  says : ∀ (s : ByteArray) (w : World), s.size ≤ maxLen → T w → Calls Tryz.prog 83 #[.string s] w fun e w' => e = .returned (.bool (u s)) ∧ Below w.heap.size w w'
set_option maxHeartbeats 4000000 in
set_option maxRecDepth 100000 in
theorem name49 {u : ByteArray → Bool} {T : World → Prop} (hU : Utf u T) (m : ByteArray) (hm : m.size ≤ maxLen) (w : World) (hT : T w) :
    Calls Tryz.prog 72 #[.string m] w fun e w' => e = .returned (.int .i64 ((Vl.nameErr u m : Nat) : Int)) ∧ Below w.heap.size w w' := by
  obtain ⟨q, hq⟩ : ∃ q, q = u m := ⟨_, rfl⟩
  have C64 : Hid (Calls Tryz.prog 83 #[.string m] w fun e w' => e = .returned (.bool q) ∧ Below w.heap.size w w') := by rw [hq]; exact hU.says m w hm hT
  obtain ⟨r, hr⟩ : ∃ r, r = Vl.nameErr u m := ⟨_, rfl⟩
  have HR : Hid (r = if m.size = 0 ∨ 1024 < m.size then 4 else if q = false then 9 else 0) := by
    show _ = _
    rw [hr, Vl.nameErr, hq]
  have HML : Hid (m.size ≤ 9223372036854775807) := maxLen_lt hm
  rw [← hr]
  clear hr hq hm hT hU
  by_cases h0 : m.size = 0
  · have h1 : m.toList = [] := (str_nil m).2 h0
    have h2 : r = 4 := by rw [HR.out, if_pos (Or.inl h0)]
    subst h2
    clear h0
    go_enter Tryz.func72, Tryz.ntmps72
    go_wp2
    exact ⟨rfl, _, results_tmp (by rfl) _ _ _, rfl, Below.refl _ _⟩
  · have h1 : ¬ m.toList = [] := fun h => h0 ((str_nil m).1 h)
    by_cases h3 : 1024 < m.size
    · have h2 : r = 4 := by rw [HR.out, if_pos (Or.inr h3)]
      subst h2
      have h4 := HML.out
      go_enter Tryz.func72, Tryz.ntmps72
      go_wp2
      exact ⟨rfl, _, results_tmp (by rfl) _ _ _, rfl, Below.refl _ _⟩
    · have h2 : r = if q = false then 9 else 0 := by rw [HR.out, if_neg (by omega)]
      have h4 : m.size ≤ 1024 := by omega
      have h5 : m.toList.isEmpty = false := by simpa using h1
      have h6 : decide ((1024 : Int) < (m.size : Int)) = false := by simp; omega
      cases q
      · subst h2
        go_enter Tryz.func72, Tryz.ntmps72
        go_wp2_with (go_at_call 83; refine C64.out.mono ?_; rintro e w3 ⟨rfl, hb3⟩)
        exact ⟨rfl, _, results_tmp (by rfl) _ _ _, rfl, hb3⟩
      · subst h2
        go_enter Tryz.func72, Tryz.ntmps72
        go_wp2_with (go_at_call 83; refine C64.out.mono ?_; rintro e w3 ⟨rfl, hb3⟩)
        exact ⟨rfl, _, results_tmp (by rfl) _ _ _, rfl, hb3⟩
set_option maxHeartbeats 16000000 in
set_option maxRecDepth 100000 in
theorem alone48_five (k : Nat) (b : Bool) (n : Int) (s : ByteArray) (ao : Option Addr) (ll ac : Nat) (fo : Option Addr) (fl fc : Nat) (d : Nat) (w : World) (q st : Bool) (r : Nat)
    (C63 : Hid (∀ W, Calls Tryz.prog 82 #[.agg #[.int .u8 (k : Int), .bool b, .int .i64 n, .string s, .slice ao ll ac, .slice fo fl fc]] W fun e w' => e = .returned (.bool st) ∧ Below W.heap.size W w'))
    (hs : s.size ≤ 9223372036854775807) (hl : ll ≤ 9223372036854775807) (hf : fl ≤ 9223372036854775807) (hd : d ≤ 9223372036854775807)
    (HR : Hid (r = if 7 ≤ k ∨ st = true then 5 else if 1024 < s.size then 4 else if k = 3 ∧ q = false then 9 else if 64 < ll ∨ 64 < fl then 3 else if (k = 5 ∨ k = 6) ∧ 6 ≤ d then 10 else 0)) (hk : k = 5) :
    Calls Tryz.prog 71 #[.agg #[.int .u8 (k : Int), .bool b, .int .i64 n, .string s, .slice ao ll ac, .slice fo fl fc], .int .i64 (d : Int)] w fun e w' => e = .returned (.int .i64 (r : Int)) ∧ Below w.heap.size w w' := by
  subst hk
  go_enter Tryz.func71, Tryz.ntmps71
  go_wp2_with (first
    | (go_at_call 82; refine (C63.out _).mono ?_; rintro e w3 ⟨rfl, hb3⟩
       have q0 : w3.cell? ⟨w.heap.size, 0, none⟩ = some (.int .u8 5) := (hb3.cell (p := ⟨w.heap.size, 0, none⟩) (by simp)).trans (by rw [cell_of_row _ _ _ _ _ _ (heap_alloc_new w _)]; rfl)
       have q3 : w3.cell? ⟨w.heap.size, 3, none⟩ = some (.string s) := (hb3.cell (p := ⟨w.heap.size, 3, none⟩) (by simp)).trans (by rw [cell_of_row _ _ _ _ _ _ (heap_alloc_new w _)]; rfl)
       have q4 : w3.cell? ⟨w.heap.size, 4, none⟩ = some (.slice ao ll ac) := (hb3.cell (p := ⟨w.heap.size, 4, none⟩) (by simp)).trans (by rw [cell_of_row _ _ _ _ _ _ (heap_alloc_new w _)]; rfl)
       have q5 : w3.cell? ⟨w.heap.size, 5, none⟩ = some (.slice fo fl fc) := (hb3.cell (p := ⟨w.heap.size, 5, none⟩) (by simp)).trans (by rw [cell_of_row _ _ _ _ _ _ (heap_alloc_new w _)]; rfl)
       have HB3 : Hid (Below w.heap.size w w3) := (below_new _ _).trans (hb3.mono (below_new _ _).size)
       have HS3 : Hid (w.heap.size + 1 ≤ w3.heap.size) := by have := hb3.size; simp at this; exact this
       clear hb3))
  all_goals
    refine ⟨rfl, _, results_tmp (by rfl) _ _ _, ?_, ?_⟩
    · refine congrArg (fun z => Ending.returned (Value.int .i64 z)) (Eq.symm ?_)
      rw [HR.out]
      clear HR
      try clear q0 q3 q4 q5
      (repeat' split) <;> first | rfl | (exfalso; simp_all; done) | (exfalso; simp_all; omega)
    · first | exact HB3.out | exact below_new _ _
set_option maxHeartbeats 16000000 in
set_option maxRecDepth 100000 in
theorem alone48_six (k : Nat) (b : Bool) (n : Int) (s : ByteArray) (ao : Option Addr) (ll ac : Nat) (fo : Option Addr) (fl fc : Nat) (d : Nat) (w : World) (q st : Bool) (r : Nat)
    (C63 : Hid (∀ W, Calls Tryz.prog 82 #[.agg #[.int .u8 (k : Int), .bool b, .int .i64 n, .string s, .slice ao ll ac, .slice fo fl fc]] W fun e w' => e = .returned (.bool st) ∧ Below W.heap.size W w'))
    (hs : s.size ≤ 9223372036854775807) (hl : ll ≤ 9223372036854775807) (hf : fl ≤ 9223372036854775807) (hd : d ≤ 9223372036854775807)
    (HR : Hid (r = if 7 ≤ k ∨ st = true then 5 else if 1024 < s.size then 4 else if k = 3 ∧ q = false then 9 else if 64 < ll ∨ 64 < fl then 3 else if (k = 5 ∨ k = 6) ∧ 6 ≤ d then 10 else 0)) (hk : k = 6) :
    Calls Tryz.prog 71 #[.agg #[.int .u8 (k : Int), .bool b, .int .i64 n, .string s, .slice ao ll ac, .slice fo fl fc], .int .i64 (d : Int)] w fun e w' => e = .returned (.int .i64 (r : Int)) ∧ Below w.heap.size w w' := by
  subst hk
  go_enter Tryz.func71, Tryz.ntmps71
  go_wp2_with (first
    | (go_at_call 82; refine (C63.out _).mono ?_; rintro e w3 ⟨rfl, hb3⟩
       have q0 : w3.cell? ⟨w.heap.size, 0, none⟩ = some (.int .u8 6) := (hb3.cell (p := ⟨w.heap.size, 0, none⟩) (by simp)).trans (by rw [cell_of_row _ _ _ _ _ _ (heap_alloc_new w _)]; rfl)
       have q3 : w3.cell? ⟨w.heap.size, 3, none⟩ = some (.string s) := (hb3.cell (p := ⟨w.heap.size, 3, none⟩) (by simp)).trans (by rw [cell_of_row _ _ _ _ _ _ (heap_alloc_new w _)]; rfl)
       have q4 : w3.cell? ⟨w.heap.size, 4, none⟩ = some (.slice ao ll ac) := (hb3.cell (p := ⟨w.heap.size, 4, none⟩) (by simp)).trans (by rw [cell_of_row _ _ _ _ _ _ (heap_alloc_new w _)]; rfl)
       have q5 : w3.cell? ⟨w.heap.size, 5, none⟩ = some (.slice fo fl fc) := (hb3.cell (p := ⟨w.heap.size, 5, none⟩) (by simp)).trans (by rw [cell_of_row _ _ _ _ _ _ (heap_alloc_new w _)]; rfl)
       have HB3 : Hid (Below w.heap.size w w3) := (below_new _ _).trans (hb3.mono (below_new _ _).size)
       have HS3 : Hid (w.heap.size + 1 ≤ w3.heap.size) := by have := hb3.size; simp at this; exact this
       clear hb3))
  all_goals
    refine ⟨rfl, _, results_tmp (by rfl) _ _ _, ?_, ?_⟩
    · refine congrArg (fun z => Ending.returned (Value.int .i64 z)) (Eq.symm ?_)
      rw [HR.out]
      clear HR
      try clear q0 q3 q4 q5
      (repeat' split) <;> first | rfl | (exfalso; simp_all; done) | (exfalso; simp_all; omega)
    · first | exact HB3.out | exact below_new _ _
set_option maxHeartbeats 16000000 in
set_option maxRecDepth 100000 in
theorem alone48_three (k : Nat) (b : Bool) (n : Int) (s : ByteArray) (ao : Option Addr) (ll ac : Nat) (fo : Option Addr) (fl fc : Nat) (d : Nat) (w : World) (q st : Bool) (r : Nat)
    (C64 : Hid (∀ W, Below w.heap.size w W → Calls Tryz.prog 83 #[.string s] W fun e w' => e = .returned (.bool q) ∧ Below W.heap.size W w'))
    (C63 : Hid (∀ W, Calls Tryz.prog 82 #[.agg #[.int .u8 (k : Int), .bool b, .int .i64 n, .string s, .slice ao ll ac, .slice fo fl fc]] W fun e w' => e = .returned (.bool st) ∧ Below W.heap.size W w'))
    (hs : s.size ≤ 9223372036854775807) (hl : ll ≤ 9223372036854775807) (hf : fl ≤ 9223372036854775807)
    (HR : Hid (r = if 7 ≤ k ∨ st = true then 5 else if 1024 < s.size then 4 else if k = 3 ∧ q = false then 9 else if 64 < ll ∨ 64 < fl then 3 else if (k = 5 ∨ k = 6) ∧ 6 ≤ d then 10 else 0)) (hk : k = 3) :
    Calls Tryz.prog 71 #[.agg #[.int .u8 (k : Int), .bool b, .int .i64 n, .string s, .slice ao ll ac, .slice fo fl fc], .int .i64 (d : Int)] w fun e w' => e = .returned (.int .i64 (r : Int)) ∧ Below w.heap.size w w' := by
  subst hk
  go_enter Tryz.func71, Tryz.ntmps71
  go_wp2_with (first
    | (go_at_call 82; refine (C63.out _).mono ?_; rintro e w3 ⟨rfl, hb3⟩
       have q0 : w3.cell? ⟨w.heap.size, 0, none⟩ = some (.int .u8 3) := (hb3.cell (p := ⟨w.heap.size, 0, none⟩) (by simp)).trans (by rw [cell_of_row _ _ _ _ _ _ (heap_alloc_new w _)]; rfl)
       have q3 : w3.cell? ⟨w.heap.size, 3, none⟩ = some (.string s) := (hb3.cell (p := ⟨w.heap.size, 3, none⟩) (by simp)).trans (by rw [cell_of_row _ _ _ _ _ _ (heap_alloc_new w _)]; rfl)
       have q4 : w3.cell? ⟨w.heap.size, 4, none⟩ = some (.slice ao ll ac) := (hb3.cell (p := ⟨w.heap.size, 4, none⟩) (by simp)).trans (by rw [cell_of_row _ _ _ _ _ _ (heap_alloc_new w _)]; rfl)
       have q5 : w3.cell? ⟨w.heap.size, 5, none⟩ = some (.slice fo fl fc) := (hb3.cell (p := ⟨w.heap.size, 5, none⟩) (by simp)).trans (by rw [cell_of_row _ _ _ _ _ _ (heap_alloc_new w _)]; rfl)
       have HB3 : Hid (Below w.heap.size w w3) := (below_new _ _).trans (hb3.mono (below_new _ _).size)
       have HS3 : Hid (w.heap.size + 1 ≤ w3.heap.size) := by have := hb3.size; simp at this; exact this
       clear hb3)
    | (go_at_call 83; refine (C64.out _ HB3.out).mono ?_; rintro e w4 ⟨rfl, hb4⟩
       have p4 : w4.cell? ⟨w.heap.size, 4, none⟩ = some (.slice ao ll ac) := (hb4.cell (p := ⟨w.heap.size, 4, none⟩) HS3.out).trans q4
       have p5 : w4.cell? ⟨w.heap.size, 5, none⟩ = some (.slice fo fl fc) := (hb4.cell (p := ⟨w.heap.size, 5, none⟩) HS3.out).trans q5
       have HB4 : Hid (Below w.heap.size w w4) := HB3.out.trans (hb4.mono HB3.out.size)
       clear hb4))
  all_goals
    refine ⟨rfl, _, results_tmp (by rfl) _ _ _, ?_, ?_⟩
    · refine congrArg (fun z => Ending.returned (Value.int .i64 z)) (Eq.symm ?_)
      rw [HR.out]
      clear HR
      try clear p4 p5
      try clear q0 q3 q4 q5
      (repeat' split) <;> first | rfl | (exfalso; simp_all; done) | (exfalso; simp_all; omega)
    · first | exact HB4.out | exact HB3.out | exact below_new _ _
set_option maxHeartbeats 16000000 in
set_option maxRecDepth 100000 in
theorem alone48_else (k : Nat) (b : Bool) (n : Int) (s : ByteArray) (ao : Option Addr) (ll ac : Nat) (fo : Option Addr) (fl fc : Nat) (d : Nat) (w : World) (q st : Bool) (r : Nat)
    (C63 : Hid (∀ W, Calls Tryz.prog 82 #[.agg #[.int .u8 (k : Int), .bool b, .int .i64 n, .string s, .slice ao ll ac, .slice fo fl fc]] W fun e w' => e = .returned (.bool st) ∧ Below W.heap.size W w'))
    (hs : s.size ≤ 9223372036854775807) (hl : ll ≤ 9223372036854775807) (hf : fl ≤ 9223372036854775807)
    (HR : Hid (r = if 7 ≤ k ∨ st = true then 5 else if 1024 < s.size then 4 else if k = 3 ∧ q = false then 9 else if 64 < ll ∨ 64 < fl then 3 else if (k = 5 ∨ k = 6) ∧ 6 ≤ d then 10 else 0)) (hk3 : ¬ (k : Int) = 3) (hk5 : ¬ (k : Int) = 5) (hk6 : ¬ (k : Int) = 6) :
    Calls Tryz.prog 71 #[.agg #[.int .u8 (k : Int), .bool b, .int .i64 n, .string s, .slice ao ll ac, .slice fo fl fc], .int .i64 (d : Int)] w fun e w' => e = .returned (.int .i64 (r : Int)) ∧ Below w.heap.size w w' := by
  go_enter Tryz.func71, Tryz.ntmps71
  go_wp2_with (first
    | (go_at_call 82; refine (C63.out _).mono ?_; rintro e w3 ⟨rfl, hb3⟩
       have q0 : w3.cell? ⟨w.heap.size, 0, none⟩ = some (.int .u8 (k : Int)) := (hb3.cell (p := ⟨w.heap.size, 0, none⟩) (by simp)).trans (by rw [cell_of_row _ _ _ _ _ _ (heap_alloc_new w _)]; rfl)
       have q3 : w3.cell? ⟨w.heap.size, 3, none⟩ = some (.string s) := (hb3.cell (p := ⟨w.heap.size, 3, none⟩) (by simp)).trans (by rw [cell_of_row _ _ _ _ _ _ (heap_alloc_new w _)]; rfl)
       have q4 : w3.cell? ⟨w.heap.size, 4, none⟩ = some (.slice ao ll ac) := (hb3.cell (p := ⟨w.heap.size, 4, none⟩) (by simp)).trans (by rw [cell_of_row _ _ _ _ _ _ (heap_alloc_new w _)]; rfl)
       have q5 : w3.cell? ⟨w.heap.size, 5, none⟩ = some (.slice fo fl fc) := (hb3.cell (p := ⟨w.heap.size, 5, none⟩) (by simp)).trans (by rw [cell_of_row _ _ _ _ _ _ (heap_alloc_new w _)]; rfl)
       have HB3 : Hid (Below w.heap.size w w3) := (below_new _ _).trans (hb3.mono (below_new _ _).size)
       have HS3 : Hid (w.heap.size + 1 ≤ w3.heap.size) := by have := hb3.size; simp at this; exact this
       clear hb3))
  all_goals
    refine ⟨rfl, _, results_tmp (by rfl) _ _ _, ?_, ?_⟩
    · refine congrArg (fun z => Ending.returned (Value.int .i64 z)) (Eq.symm ?_)
      rw [HR.out]
      clear HR
      try clear q0 q3 q4 q5
      (repeat' split) <;> first | rfl | (exfalso; simp_all; done) | (exfalso; simp_all; omega)
    · first | exact HB3.out | exact below_new _ _
theorem alone48 {u : ByteArray → Bool} {T : World → Prop} (hU : Utf u T) (k : Nat) (b : Bool) (n : Int) (s : ByteArray) (l : List V) (f : List (ByteArray × V)) (ao : Option Addr) (ac : Nat) (fo : Option Addr) (fc : Nat) (d : Nat) (w : World) (hT : T w)
    (hs : s.size ≤ maxLen) (hl : l.length ≤ maxLen) (hf : f.length ≤ maxLen) (hd : d ≤ 9223372036854775807) :
    Calls Tryz.prog 71 #[.agg #[.int .u8 (k : Int), .bool b, .int .i64 n, .string s, .slice ao l.length ac, .slice fo f.length fc], .int .i64 (d : Int)] w fun e w' => e = .returned (.int .i64 ((Vl.alone u d ⟨k, b, n, s, l, f⟩ : Nat) : Int)) ∧ Below w.heap.size w w' := by
  have C64 : Hid (∀ W, Below w.heap.size w W → Calls Tryz.prog 83 #[.string s] W fun e w' => e = .returned (.bool (u s)) ∧ Below W.heap.size W w') := fun W hW => hU.says s W hs (hU.stays w W hT hW)
  have C63 : Hid (∀ W, Calls Tryz.prog 82 #[.agg #[.int .u8 (k : Int), .bool b, .int .i64 n, .string s, .slice ao l.length ac, .slice fo f.length fc]] W fun e w' => e = .returned (.bool (Vl.strange ⟨k, b, n, s, l, f⟩)) ∧ Below W.heap.size W w') := fun W => strange63 k b n s l f ao ac fo fc W
  have HR : Hid (Vl.alone u d ⟨k, b, n, s, l, f⟩ = if 7 ≤ k ∨ Vl.strange ⟨k, b, n, s, l, f⟩ = true then 5 else if 1024 < s.size then 4 else if k = 3 ∧ u s = false then 9 else if 64 < l.length ∨ 64 < f.length then 3 else if (k = 5 ∨ k = 6) ∧ 6 ≤ d then 10 else 0) := by
    show _ = _
    rw [Vl.alone]
  by_cases h5 : k = 5
  · exact alone48_five k b n s ao l.length ac fo f.length fc d w (u s) _ _ C63 (maxLen_lt hs) (maxLen_lt hl) (maxLen_lt hf) hd HR h5
  by_cases h6 : k = 6
  · exact alone48_six k b n s ao l.length ac fo f.length fc d w (u s) _ _ C63 (maxLen_lt hs) (maxLen_lt hl) (maxLen_lt hf) hd HR h6
  by_cases h3 : k = 3
  · exact alone48_three k b n s ao l.length ac fo f.length fc d w (u s) _ _ C64 C63 (maxLen_lt hs) (maxLen_lt hl) (maxLen_lt hf) HR h3
  · exact alone48_else k b n s ao l.length ac fo f.length fc d w (u s) _ _ C63 (maxLen_lt hs) (maxLen_lt hl) (maxLen_lt hf) HR (by omega) (by omega) (by omega)
end Go.Proofs.YtkigenldiinioaaGreatDoor
/- Plain mathematics of check: the first part that is not right tells. -/
namespace Go.Proofs.YtkigenldiinioaaGreatDoor
namespace Vl
theorem bytes_le : ∀ a b : List UInt8, (Op.bytesLess a b || a == b) = decide (Lib.compareBytes a b ≤ 0)
  | [], [] => rfl
  | [], _ :: _ => rfl
  | _ :: _, [] => rfl
  | x :: r, y :: q => by
    rw [Lib.compareBytes, Op.bytesLess]
    by_cases h1 : x < y
    · simp [h1]
    · by_cases h2 : y < x
      · have h3 : ¬ x = y := fun e => by subst e; exact h1 h2
        simp [h1, h2, h3]
      · have e : x = y := UInt8.le_antisymm (UInt8.not_lt.1 h2) (UInt8.not_lt.1 h1)
        subst e
        have ih := bytes_le r q
        simp only [h1, if_false, decide_false, Bool.false_or]
        rw [← ih]
        simp
theorem str_le (m p : ByteArray) : (Op.bytesLess m.toList p.toList || m.toList == p.toList) = decide (cmpS m p ≤ 0) := by
  rw [bytes_le, Go.ByteArray.toList_eq, Go.ByteArray.toList_eq]
  rfl
section
variable (u : ByteArray → Bool)
theorem checkL_stop (d : Nat) : ∀ (l : List V) (j : Nat) (x : V), (∀ (i : Nat) (x : V), i < j → l[i]? = some x → check u d x = 0) → l[j]? = some x → check u d x ≠ 0 → checkL u d l = check u d x
  | [], _, _, _, h, _ => by simp at h
  | y :: r, 0, x, _, h, h1 => by
    simp only [List.getElem?_cons_zero, Option.some.injEq] at h
    subst h
    rw [checkL, if_pos h1]
  | y :: r, j + 1, x, h0, h, h1 => by
    rw [checkL, if_neg (by simp [h0 0 y (by omega) rfl])]
    exact checkL_stop d r j x (fun i x hi hx => h0 (i + 1) x (by omega) (by simpa using hx)) (by simpa using h) h1
theorem checkL_all (d : Nat) : ∀ (l : List V), (∀ (i : Nat) (x : V), l[i]? = some x → check u d x = 0) → checkL u d l = 0
  | [], _ => by rw [checkL]
  | y :: r, h => by
    rw [checkL, if_neg (by simp [h 0 y rfl])]
    exact checkL_all d r (fun i x hx => h (i + 1) x (by simpa using hx))
/-- why a field is not right, the name ahead of it at hand -/
def check1 (d : Nat) (p : Option ByteArray) (a : ByteArray × V) : Nat :=
  if nameErr u a.1 ≠ 0 then nameErr u a.1 else if notUp a.1 p = true then 18 else check u d a.2
theorem checkF_cons (d : Nat) (p : Option ByteArray) (a : ByteArray × V) (r : List (ByteArray × V)) : checkF u d p (a :: r) = if check1 u d p a ≠ 0 then check1 u d p a else checkF u d (some a.1) r := by
  obtain ⟨m, x⟩ := a
  rw [checkF, check1]
  by_cases h : nameErr u m = 0
  · by_cases h1 : notUp m p = true
    · simp [h, h1]
    · simp [h, h1]
  · simp [h]
end
/-- the name ahead of a place -/
def prevAt (p : Option ByteArray) : List (ByteArray × V) → Nat → Option ByteArray
  | _, 0 => p
  | [], _ + 1 => none
  | a :: r, i + 1 => prevAt (some a.1) r i
theorem prevAt_succ : ∀ (f : List (ByteArray × V)) (p : Option ByteArray) (i : Nat) (a : ByteArray × V), f[i]? = some a → prevAt p f (i + 1) = some a.1
  | [], _, _, _, h => by simp at h
  | b :: r, p, 0, a, h => by
    simp only [List.getElem?_cons_zero, Option.some.injEq] at h
    subst h
    rw [prevAt, prevAt]
  | b :: r, p, i + 1, a, h => by
    rw [prevAt]
    exact prevAt_succ r (some b.1) i a (by simpa using h)
section
variable (u : ByteArray → Bool)
theorem checkF_stop (d : Nat) : ∀ (f : List (ByteArray × V)) (p : Option ByteArray) (j : Nat) (a : ByteArray × V), (∀ (i : Nat) (a : ByteArray × V), i < j → f[i]? = some a → check1 u d (prevAt p f i) a = 0) → f[j]? = some a → check1 u d (prevAt p f j) a ≠ 0 → checkF u d p f = check1 u d (prevAt p f j) a
  | [], _, _, _, _, h, _ => by simp at h
  | b :: r, p, 0, a, _, h, h1 => by
    simp only [List.getElem?_cons_zero, Option.some.injEq] at h
    subst h
    rw [prevAt] at h1 ⊢
    rw [checkF_cons, if_pos h1]
  | b :: r, p, j + 1, a, h0, h, h1 => by
    have h2 := h0 0 b (by omega) rfl
    rw [prevAt] at h2
    rw [prevAt] at h1 ⊢
    rw [checkF_cons, if_neg (by simp [h2])]
    exact checkF_stop d r (some b.1) j a (fun i x hi hx => by have := h0 (i + 1) x (by omega) (by simpa using hx); rwa [prevAt] at this) (by simpa using h) h1
theorem checkF_all (d : Nat) : ∀ (f : List (ByteArray × V)) (p : Option ByteArray), (∀ (i : Nat) (a : ByteArray × V), f[i]? = some a → check1 u d (prevAt p f i) a = 0) → checkF u d p f = 0
  | [], _, _ => by rw [checkF]
  | b :: r, p, h => by
    have h2 := h 0 b rfl
    rw [prevAt] at h2
    rw [checkF_cons, if_neg (by simp [h2])]
    exact checkF_all d r (some b.1) (fun i x hx => by have := h (i + 1) x (by simpa using hx); rwa [prevAt] at this)
/-- parts are looked at only within six -/
theorem alone_depth {d k : Nat} {b : Bool} {n : Int} {s : ByteArray} {l : List V} {f : List (ByteArray × V)} (h : alone u d ⟨k, b, n, s, l, f⟩ = 0) (hp : 0 < l.length ∨ 0 < f.length) : d < 6 := by
  rw [alone] at h
  by_cases h3 : 7 ≤ k ∨ strange ⟨k, b, n, s, l, f⟩ = true
  · rw [if_pos h3] at h; cases h
  · rw [if_neg h3] at h
    rw [not_or] at h3
    have h4 := h3.2
    simp only [strange, Bool.or_eq_true, Bool.and_eq_true, decide_eq_true_eq, not_or, not_and, ne_eq, Decidable.not_not] at h4
    obtain ⟨⟨⟨⟨a1, a2⟩, a3⟩, a4⟩, a5⟩ := h4
    have hk : k = 5 ∨ k = 6 := by
      rcases hp with hp | hp
      · exact Or.inl (a4 hp)
      · exact Or.inr (a5 hp)
    split at h
    · cases h
    · split at h
      · cases h
      · split at h
        · cases h
        · split at h
          · cases h
          · rename_i c; omega
end
end Vl
end Go.Proofs.YtkigenldiinioaaGreatDoor
