/- Several texts, joined: BtXm, BtXo -/
import Derived.Test.YtkigenldiinioaaGreatDoorQ27M
/- A key taken out of a tree: where it lies, as mathematics; what it leaves in memory. -/
namespace Go.Proofs.YtkigenldiinioaaGreatDoor
open Go.RowKit
open Vl (V)
namespace Bt
/-- keys without one -/
def kdel (key : Nat → V) (x : V) (l : List Nat) : List Nat := less l (spot key x l)
theorem kdel_low {key : Nat → V} {x : V} {A B : List Nat} (h : ∀ y ∈ A, Vl.cmp (key y) x < 0) : kdel key x (A ++ B) = A ++ kdel key x B := by
  unfold kdel less
  rw [spot_low h, List.take_append, List.drop_append, List.take_of_length_le (by omega), List.drop_of_length_le (by omega), show A.length + spot key x B - A.length = spot key x B by omega, show A.length + spot key x B + 1 - A.length = spot key x B + 1 by omega]
  simp
theorem kdel_cons {key : Nat → V} {x : V} {y : Nat} {B : List Nat} (h : Vl.cmp (key y) x < 0) : kdel key x (y :: B) = y :: kdel key x B :=
  kdel_low (A := [y]) (by simpa using h)
theorem spot_in {key : Nat → V} {x : V} {l : List Nat} {f : Nat} (hf : f ∈ l) (hc : ¬ Vl.cmp (key f) x < 0) : spot key x l < l.length := by
  unfold spot
  induction l with
  | nil => cases hf
  | cons a r ih =>
    by_cases q : ahead key x a = true
    · rw [List.takeWhile_cons_of_pos q, List.length_cons, List.length_cons]
      rcases List.mem_cons.1 hf with q2 | q2
      · exfalso
        rw [ahead, decide_eq_true_eq, ← q2] at q
        exact hc q
      · have := ih q2
        omega
    · rw [List.takeWhile_cons_of_neg q]
      simp
theorem kdel_high {key : Nat → V} {x : V} {A B : List Nat} {f : Nat} (hf : f ∈ A) (hc : ¬ Vl.cmp (key f) x < 0) (h : ∀ y ∈ B, ¬ Vl.cmp (key y) x < 0) : kdel key x (A ++ B) = kdel key x A ++ B := by
  unfold kdel less
  have hl := spot_in hf hc
  rw [spot_high h, List.take_append_of_le_length (by omega), List.drop_append_of_le_length (by omega)]
  simp
theorem hit_none {key : Nat → V} {x : V} {es : List Nat} (hr : Rises key es) (hh : hit key x es = false) : ∀ f ∈ es, Vl.cmp (key f) x ≠ 0 := fun f hf q => by
  have h1 := at_unique hr hf q
  rw [at_spot hr] at h1
  unfold hit at hh
  rcases hd : es[spot key x es]? with _ | y
  · rw [hd] at h1; cases h1
  · rw [hd] at h1 hh
    by_cases q2 : Vl.cmp (key y) x = 0
    · simp [q2] at hh
    · simp [q2] at h1
theorem wo_three {key : Nat → V} {v : V} {x y z f : Nat} {a b c d : T} {g r : Nat} (hr : Rises key (flat (.node g r [x, y, z] a b c d))) (hf : f ∈ flat (.node g r [x, y, z] a b c d)) (hc : Vl.cmp (key f) v = 0) (hh : ∀ e ∈ [x, y, z], Vl.cmp (key e) v ≠ 0) {i : Nat} (hi : i = spot key v [x, y, z]) :
    (∀ t', flat t' = kdel key v (flat (pick i a b c d)) → flat (put4 i t' a b c d g r [x, y, z]) = kdel key v (flat (.node g r [x, y, z] a b c d))) ∧ f ∈ flat (pick i a b c d) ∧ Rises key (flat (pick i a b c d)) ∧ ∀ e ∈ flat (pick i a b c d), e ∈ flat (.node g r [x, y, z] a b c d) := by
  rw [flat_three] at hr hf ⊢
  obtain ⟨ra, r1, m1⟩ := rises_app.1 hr
  obtain ⟨m2, r2⟩ := rises_cons.1 r1
  obtain ⟨rb, r3, m3⟩ := rises_app.1 r2
  obtain ⟨m4, r4⟩ := rises_cons.1 r3
  obtain ⟨rc, r5, m5⟩ := rises_app.1 r4
  obtain ⟨m6, rd⟩ := rises_cons.1 r5
  have nx := hh x (by simp)
  have ny := hh y (by simp)
  have nz := hh z (by simp)
  have hcf : ¬ Vl.cmp (key f) v < 0 := by omega
  have hlow : ∀ l : List Nat, (∀ e ∈ l, Vl.cmp (key e) v < 0) → f ∉ l := fun l h q => hcf (h f q)
  simp only [List.mem_append, List.mem_cons] at hf
  have fx : f ≠ x := fun q => nx (q ▸ hc)
  have fy : f ≠ y := fun q => ny (q ▸ hc)
  have fz : f ≠ z := fun q => nz (q ▸ hc)
  rw [spot_three] at hi
  by_cases k1 : Vl.cmp (key x) v < 0
  · have la : ∀ e ∈ flat a, Vl.cmp (key e) v < 0 := fun e he => lt_trans (m1 e he x (by simp)) k1
    rw [if_pos k1] at hi
    by_cases k2 : Vl.cmp (key y) v < 0
    · have lb : ∀ e ∈ flat b, Vl.cmp (key e) v < 0 := fun e he => lt_trans (m3 e he y (by simp)) k2
      rw [if_pos k2] at hi
      by_cases k3 : Vl.cmp (key z) v < 0
      · have lc : ∀ e ∈ flat c, Vl.cmp (key e) v < 0 := fun e he => lt_trans (m5 e he z (by simp)) k3
        rw [if_pos k3] at hi
        subst hi
        have fd : f ∈ flat d := by
          rcases hf with q | q | q | q | q | q | q
          · exact absurd q (hlow _ la)
          · exact absurd q fx
          · exact absurd q (hlow _ lb)
          · exact absurd q fy
          · exact absurd q (hlow _ lc)
          · exact absurd q fz
          · exact q
        refine ⟨fun t' ht => ?_, fd, rd, fun e he => ?_⟩
        · rw [kdel_low la, kdel_cons k1, kdel_low lb, kdel_cons k2, kdel_low lc, kdel_cons k3, put4, flat_three]
          simp only [pick] at ht
          simp [ht]
        · simp only [pick] at he; simp at he; simp [he]
      · rw [if_neg k3] at hi
        subst hi
        have hd : ∀ e ∈ z :: flat d, ¬ Vl.cmp (key e) v < 0 := fun e he q => by
          rcases List.mem_cons.1 he with rfl | he
          · exact k3 q
          · exact k3 (lt_trans (m6 e he) q)
        have fc : f ∈ flat c := by
          rcases hf with q | q | q | q | q | q | q
          · exact absurd q (hlow _ la)
          · exact absurd q fx
          · exact absurd q (hlow _ lb)
          · exact absurd q fy
          · exact q
          · exact absurd q fz
          · have := gt_of (m6 f q) k3; omega
        refine ⟨fun t' ht => ?_, fc, rc, fun e he => ?_⟩
        · rw [kdel_low la, kdel_cons k1, kdel_low lb, kdel_cons k2, kdel_high fc hcf hd, put4, flat_three]
          simp only [pick] at ht
          simp at ht
          simp [ht]
        · simp only [pick] at he; simp at he; simp [he]
    · rw [if_neg k2] at hi
      subst hi
      have hd : ∀ e ∈ y :: (flat c ++ z :: flat d), ¬ Vl.cmp (key e) v < 0 := fun e he q => by
        rcases List.mem_cons.1 he with rfl | he
        · exact k2 q
        · exact k2 (lt_trans (m4 e he) q)
      have fb : f ∈ flat b := by
        rcases hf with q | q | q | q | q
        · exact absurd q (hlow _ la)
        · exact absurd q fx
        · exact q
        · exact absurd q fy
        · have := gt_of (m4 f (by simp [q])) k2; omega
      refine ⟨fun t' ht => ?_, fb, rb, fun e he => ?_⟩
      · rw [kdel_low la, kdel_cons k1, kdel_high fb hcf hd, put4, flat_three]
        simp only [pick] at ht
        simp at ht
        simp [ht]
      · simp only [pick] at he; simp at he; simp [he]
  · rw [if_neg k1] at hi
    subst hi
    have hd : ∀ e ∈ x :: (flat b ++ y :: (flat c ++ z :: flat d)), ¬ Vl.cmp (key e) v < 0 := fun e he q => by
      rcases List.mem_cons.1 he with rfl | he
      · exact k1 q
      · exact k1 (lt_trans (m2 e he) q)
    have fa : f ∈ flat a := by
      rcases hf with q | q | q
      · exact q
      · exact absurd q fx
      · have := gt_of (m2 f (by simp [q])) k1; omega
    refine ⟨fun t' ht => ?_, fa, ra, fun e he => ?_⟩
    · rw [kdel_high fa hcf hd, put4, flat_three]
      simp only [pick] at ht
      simp at ht
      simp [ht]
    · simp only [pick] at he; simp at he; simp [he]
end Bt
/-- a node, one of whose four was put anew -/
theorem node_put {w W0 W1 w6 : World} {g r x y z l1 i m : Nat} {a b c d t' : Bt.T} (hN : NT w (.node g r [x, y, z] a b c d)) (hw : Bt.wf (.node g r [x, y, z] a b c d)) (hnd : (Bt.blocks (.node g r [x, y, z] a b c d)).Nodup) (hlv : Bt.levels (.node g r [x, y, z] a b c d) ≤ l1 + 1) (hi : i < 4) (h0 : Below w.heap.size w W0) (hO : Only (Bt.blocks (Bt.pick i a b c d)) W0 W1) (hN1 : NT W1 t') (hw1 : Bt.wf t') (hl1 : Bt.levels t' ≤ l1) (hnd1 : (Bt.blocks t').Nodup) (hnew1 : ∀ g ∈ Bt.blocks t', g ∈ Bt.blocks (Bt.pick i a b c d) ∨ W0.heap.size ≤ g) (hf : (Bt.flat (Bt.put4 i t' a b c d g r [x, y, z])).length = m)
    (h6 : w6 = (W1.setCell ⟨g, 1 + i, none⟩ (Bt.ptr (Bt.top t'))).setCell ⟨g, 5, none⟩ (.int .i64 (m : Int))) :
    Only (Bt.blocks (.node g r [x, y, z] a b c d)) w w6 ∧ NT w6 (Bt.put4 i t' a b c d g r [x, y, z]) ∧ Bt.wf (Bt.put4 i t' a b c d g r [x, y, z]) ∧ Bt.levels (Bt.put4 i t' a b c d g r [x, y, z]) ≤ l1 + 1 ∧ (Bt.blocks (Bt.put4 i t' a b c d g r [x, y, z])).Nodup ∧ ∀ k ∈ Bt.blocks (Bt.put4 i t' a b c d g r [x, y, z]), k ∈ Bt.blocks (.node g r [x, y, z] a b c d) ∨ w.heap.size ≤ k := by
  obtain ⟨hgr, hpt, hdis⟩ := Bt.nodup_parts hnd
  have hlt := nt_lt hN
  obtain ⟨⟨cap, hc, ho⟩, _⟩ := id hN
  have hrow := ptr_cells (es := [x, y, z]) ho
  have hgl := lt_of_row hc
  have k1 : ∀ k, k < w.heap.size → k ∉ Bt.blocks (Bt.pick i a b c d) → W1.heap[k]? = w.heap[k]? := fun k hk hm => (hO.block k (Nat.lt_of_lt_of_le hk h0.size) hm).trans (h0.block k hk)
  have k6 : ∀ k, k ≠ g → w6.heap[k]? = W1.heap[k]? := fun k hk => by rw [h6, heap_setCell_other _ _ _ _ hk, heap_setCell_other _ _ _ _ hk]
  have n1 := (k1 g hgl (hpt i).1).trans hc
  obtain ⟨ts, hts⟩ : ∃ ts : Nat → Bt.T, ts = fun j => if i = j then t' else Bt.pick j a b c d := ⟨_, rfl⟩
  have hsame : ts i = t' := by rw [hts]; simp
  have hoth : ∀ j, j ≠ i → ts j = Bt.pick j a b c d := fun j hj => by rw [hts]; exact if_neg fun q => hj q.symm
  have hput : Bt.put4 i t' a b c d g r [x, y, z] = .node g r [x, y, z] (ts 0) (ts 1) (ts 2) (ts 3) := by rw [hts]; rfl
  have hg6 : w6.heap[g]? = some (.cells #[.slice (some ⟨r, 0, none⟩) 3 cap, Bt.ptr (Bt.top (ts 0)), Bt.ptr (Bt.top (ts 1)), Bt.ptr (Bt.top (ts 2)), Bt.ptr (Bt.top (ts 3)), .int .i64 (m : Int)] 95 (0, 0)) := by
    have e5 := heap_setCell_same W1 g (1 + i) _ 95 (Bt.ptr (Bt.top t')) n1
    have e6 := heap_setCell_same _ g 5 _ 95 (.int .i64 (m : Int)) e5
    rw [h6, e6]
    rcases (show i = 0 ∨ i = 1 ∨ i = 2 ∨ i = 3 by omega) with q | q | q | q <;> (subst q; rw [hts]; simp [Bt.pick])
  have hnt : ∀ j, j < 4 → NT w6 (ts j) := fun j hj => by
    by_cases q : j = i
    · subst q
      rw [hsame]
      refine nt_stays hN1 fun k hk => k6 k fun q2 => ?_
      subst q2
      rcases hnew1 k hk with q3 | q3
      · exact (hpt j).1 q3
      · have := h0.size; omega
    · rw [hoth j q]
      refine nt_stays (pick_nt hN j) fun k hk => ?_
      have hkl := hlt k (Bt.node_mem hk)
      exact (k6 k fun q2 => (hpt j).1 (q2 ▸ hk)).trans (k1 k hkl (hdis j i hj hi q k hk))
  rw [hput] at hf ⊢
  refine ⟨⟨?_, ?_, ?_, ?_, fun k hk hm => ?_⟩, ⟨⟨cap, ?_, ?_⟩, hnt 0 (by omega), hnt 1 (by omega), hnt 2 (by omega), hnt 3 (by omega)⟩, ?_, ?_, ?_, fun k hk => ?_⟩
  · rw [h6]; exact hO.os.trans h0.os
  · rw [h6]; exact hO.tape.trans h0.tape
  · rw [h6]; exact hO.output.trans h0.output
  · rw [h6]; simpa using Nat.le_trans h0.size hO.size
  · exact (k6 k fun q => hm (by rw [q]; simp [Bt.blocks])).trans (k1 k hk fun q => hm (Bt.node_mem q))
  · rw [hf]
    exact hg6
  · refine owns_stays ho fun k hk => ?_
    obtain rfl : k = r := (Option.some.inj (show some r = some k from hk)).symm
    exact (k6 k fun q => hgr q.symm).trans (k1 k hrow.2.1 (hpt i).2.1)
  · have hwt : ∀ j, Bt.wf (ts j) := fun j => by
      by_cases q : j = i
      · rw [q, hsame]; exact hw1
      · rw [hoth j q]; exact Bt.pick_wf hw j
    exact ⟨by simp, by simp, fun h => absurd h (by simp), hwt 0, hwt 1, hwt 2, hwt 3⟩
  · have hlt : ∀ j, Bt.levels (ts j) ≤ l1 := fun j => by
      by_cases q : j = i
      · rw [q, hsame]; exact hl1
      · rw [hoth j q]; exact Bt.pick_lev hlv j
    have := hlt 0; have := hlt 1; have := hlt 2; have := hlt 3
    rw [Bt.levels]
    omega
  · have hx : ∀ k, k ∈ Bt.blocks t' → (k ∈ Bt.blocks (Bt.pick i a b c d) ∨ w.heap.size ≤ k) := fun k hk => (hnew1 k hk).imp id (fun q => Nat.le_trans h0.size q)
    refine Bt.nodup_node hgr (fun j hj => ?_) (fun j k hjk hk4 u hu hu2 => ?_)
    · by_cases q : j = i
      · rw [q, hsame]
        refine ⟨fun q2 => ?_, fun q2 => ?_, hnd1⟩
        · rcases hx g q2 with q3 | q3
          · exact (hpt i).1 q3
          · omega
        · rcases hx r q2 with q3 | q3
          · exact (hpt i).2.1 q3
          · have := hrow.2.1; omega
      · rw [hoth j q]; exact hpt j
    · by_cases q1 : j = i
      · rw [q1, hsame] at hu
        rw [hoth k (by omega)] at hu2
        rcases hx u hu with q3 | q3
        · exact hdis i k hi hk4 (by omega) u q3 hu2
        · have := hlt u (Bt.node_mem hu2); omega
      · rw [hoth j q1] at hu
        by_cases q2 : k = i
        · rw [q2, hsame] at hu2
          rcases hx u hu2 with q3 | q3
          · exact hdis j i (by omega) hi q1 u hu q3
          · have := hlt u (Bt.node_mem hu); omega
        · rw [hoth k q2] at hu2
          exact hdis j k (by omega) hk4 (by omega) u hu hu2
  · rcases Bt.mem_node hk with q | q | ⟨j, hj, q⟩
    · exact .inl (by rw [q]; simp [Bt.blocks])
    · exact .inl (by rw [q]; simp [Bt.blocks])
    · by_cases q2 : j = i
      · rw [q2, hsame] at q
        exact (hnew1 k q).imp Bt.node_mem (fun q => Nat.le_trans h0.size q)
      · rw [hoth j q2] at q
        exact .inl (Bt.node_mem q)
end Go.Proofs.YtkigenldiinioaaGreatDoor
/- A key taken out of a tree: walked. -/
namespace Go.Proofs.YtkigenldiinioaaGreatDoor
open Go.RowKit
open Vl (V)
attribute [local go_sem ↓] Go.wp_at_zero Go.wp_at_succ
/-- what one key less makes -/
def Outs (key : Nat → V) (x : V) (t : Bt.T) (W : World) (t' : Bt.T) (w' : World) : Prop := Only (Bt.blocks t) W w' ∧ NT w' t' ∧ Bt.wf t' ∧ Bt.flat t' = Bt.kdel key x (Bt.flat t) ∧ Bt.levels t' ≤ Bt.levels t ∧ (Bt.blocks t').Nodup ∧ ∀ g ∈ Bt.blocks t', g ∈ Bt.blocks t ∨ W.heap.size ≤ g
/-- what node.without makes -/
def WoG (t : Bt.T) : Prop := ∀ (key : Nat → V) (W : World) (x : V) (v : Value) (f : Nat), NT W t → Bt.wf t → Bt.Rises key (Bt.flat t) → (∀ e ∈ Bt.flat t, EK W W.heap.size (key e) e) → Rep W W.heap.size x v → f ∈ Bt.flat t → Vl.cmp (key f) x = 0 → (Bt.flat t).length ≤ 1024 → (Bt.blocks t).Nodup →
  Calls Tryz.prog 45 #[Bt.ptr (Bt.top t), v] W fun ex w' => ∃ t', ex = .returned (Bt.ptr (Bt.top t')) ∧ Outs key x t W t' w'
set_option maxHeartbeats 4000000 in
set_option maxRecDepth 100000 in
theorem without_here (key : Nat → V) (w : World) (g r  f : Nat) (es : List Nat) (x : V) (v : Value) (a b c d : Bt.T) (hN : NT w (.node g r es a b c d)) (hw : Bt.wf (.node g r es a b c d)) (hr : Bt.Rises key (Bt.flat (.node g r es a b c d))) (hk : ∀ f ∈ Bt.flat (.node g r es a b c d), EK w w.heap.size (key f) f) (hv : Rep w w.heap.size x v) (hf : f ∈ Bt.flat (.node g r es a b c d)) (hcf : Vl.cmp (key f) x = 0) (hl : (Bt.flat (.node g r es a b c d)).length ≤ 1024) (hh : Bt.hit key x es = true) :
    Calls Tryz.prog 45 #[.pointer (some ⟨g, 0, none⟩), v] w fun ex w' => ∃ t', ex = .returned (Bt.ptr (Bt.top t')) ∧ Outs key x (.node g r es a b c d) w t' w' := by
  obtain ⟨⟨cap, hcell, ho⟩, _⟩ := id hN
  obtain ⟨s1, _⟩ := flat_entries hw
  obtain ⟨t, ht⟩ : ∃ t, t = Bt.T.node g r es a b c d := ⟨_, rfl⟩
  obtain ⟨tl, htl⟩ : ∃ tl, tl = (Bt.flat t).length := ⟨_, rfl⟩
  rw [← ht] at hN hw hr hk hf hl s1 ⊢
  rw [← ht, ← htl] at hcell
  have hres : Bt.Rises key es := List.Pairwise.sublist s1 hr
  have hkes : ∀ f ∈ es, EK w w.heap.size (key f) f := fun f hf => hk f (s1.subset hf)
  obtain ⟨i, hi⟩ : ∃ i, i = Bt.spot key x es := ⟨_, rfl⟩
  have hgl := lt_of_row hcell
  obtain ⟨_, hrl, _, _, hcl⟩ := ptr_cells (es := es) ho
  obtain ⟨en, hel⟩ : ∃ en, en = es.length := ⟨_, rfl⟩
  rw [← hel] at hcell
  have hen : en ≤ 3 := by rw [hel]; rw [ht] at hw; exact hw.2.1
  obtain ⟨d0, d1, d2, d3, d4, d5, rfl⟩ := repV_box hv
  obtain ⟨w1, hw1⟩ : ∃ w1, w1 = w.alloc (.cells #[d0, d1, d2, d3, d4, d5] 27) := ⟨_, rfl⟩
  obtain ⟨B, hBe⟩ : ∃ B, B = w.heap.size := ⟨_, rfl⟩
  have hB1 : w1.heap[B]? = some (.cells #[d0, d1, d2, d3, d4, d5] 27 (0, 0)) := by rw [hw1, hBe]; exact heap_alloc_new w _
  have b1 : Below w.heap.size w w1 := by rw [hw1]; exact below_new _ _
  have HB : Hid (∀ (W : World), Below w1.heap.size w1 W → Below w.heap.size w W) := fun W hW => b1.trans (hW.mono b1.size)
  have HE : Hid (∀ (W : World), Below w1.heap.size w1 W → W.cell? ⟨B, 0, none⟩ = some d0 ∧ W.cell? ⟨B, 1, none⟩ = some d1 ∧ W.cell? ⟨B, 2, none⟩ = some d2 ∧ W.cell? ⟨B, 3, none⟩ = some d3 ∧ W.cell? ⟨B, 4, none⟩ = some d4 ∧ W.cell? ⟨B, 5, none⟩ = some d5) := fun W hW => by
    have h1 := (hW.block B (lt_of_row hB1)).trans hB1
    exact ⟨cells_at h1 0 _ rfl, cells_at h1 1 _ rfl, cells_at h1 2 _ rfl, cells_at h1 3 _ rfl, cells_at h1 4 _ rfl, cells_at h1 5 _ rfl⟩
  have CP : Hid (∀ (W' : World), Below w1.heap.size w1 W' → Calls Tryz.prog 64 #[.slice (some ⟨r, 0, none⟩) en cap, .agg #[d0, d1, d2, d3, d4, d5]] W' fun ex w' => ex = .returned (.tuple #[.int .i64 (i : Int), .bool true]) ∧ Below W'.heap.size W' w') := fun W' hW1 => by
    have hW := HB.out W' hW1
    rw [hi, ← hh]
    exact placeOf_c r 0 en cap w.heap.size es key x _ W' hel (by omega) (Nat.lt_of_lt_of_le hrl hW.size) (fun j f hf => (hW.cell (p := ⟨r, 0 + j, none⟩) hrl).trans (hcl j f hf)) (fun f hf => (hkes f hf).stays hW) hres hW.size (rep_stays hW (Nat.le_refl _) _ _ hv)
  have p0 : ∀ p : BelowOf w1.heap.size w1, p.W.cell? ⟨g, 0, none⟩ = some (.slice (some ⟨r, 0, none⟩) en cap) := fun p => cells_at (((HB.out _ p.h).block _ hgl).trans hcell) 0 _ rfl
  have a0 : ∀ p : BelowOf w1.heap.size w1, p.W.cell? ⟨B, 0, none⟩ = some d0 := fun p => (HE.out _ p.h).1
  have a1 : ∀ p : BelowOf w1.heap.size w1, p.W.cell? ⟨B, 1, none⟩ = some d1 := fun p => (HE.out _ p.h).2.1
  have a2 : ∀ p : BelowOf w1.heap.size w1, p.W.cell? ⟨B, 2, none⟩ = some d2 := fun p => (HE.out _ p.h).2.2.1
  have a3 : ∀ p : BelowOf w1.heap.size w1, p.W.cell? ⟨B, 3, none⟩ = some d3 := fun p => (HE.out _ p.h).2.2.2.1
  have a4 : ∀ p : BelowOf w1.heap.size w1, p.W.cell? ⟨B, 4, none⟩ = some d4 := fun p => (HE.out _ p.h).2.2.2.2.1
  have a5 : ∀ p : BelowOf w1.heap.size w1, p.W.cell? ⟨B, 5, none⟩ = some d5 := fun p => (HE.out _ p.h).2.2.2.2.2
  have hpg : Bt.ptr (Bt.top t) = .pointer (some ⟨g, 0, none⟩) := by rw [ht]; rfl
  have CA : Hid (∀ (W : World), Below w1.heap.size w1 W → Calls Tryz.prog 67 #[.pointer (some ⟨g, 0, none⟩)] W fun ex w' => ∃ r2 cap2, ex = .returned (.slice (some ⟨r2, 0, none⟩) tl cap2) ∧ Hid (Below w1.heap.size w1 w' ∧ w'.ownsRow w1.heap.size 71 1 (.slice (some ⟨r2, 0, none⟩) tl cap2) tl (Bt.ptrs (Bt.flat t)))) := fun W hW1 => by
    have hW := HB.out W hW1
    rw [← hpg]
    have hRT : RT W w.heap.size key t := RT.stays hW (rt_of hw hN hk)
    refine (all_c key w.heap.size t hw hr (by omega) W hW.size hRT).mono ?_
    rintro ex w' ⟨v, rfl, hb, ho2⟩
    rw [← htl] at ho2
    have hs := hW1.size
    rcases ho2.2 with ⟨_, q⟩ | ⟨r2, cap2, cur, rfl, h2, h4, h5⟩
    · exact absurd q (by rw [htl]; have := List.length_pos_of_mem hf; omega)
    · exact ⟨r2, cap2, rfl, hW1.trans (hb.mono hs), ho2.1, .inr ⟨r2, cap2, cur, rfl, by omega, h4, h5⟩⟩
  obtain ⟨i2, hi2⟩ : ∃ i2, i2 = Bt.spot key x (Bt.flat t) := ⟨_, rfl⟩
  obtain ⟨ht2, hht2⟩ : ∃ h, h = Bt.hit key x (Bt.flat t) := ⟨_, rfl⟩
  have hilt : i2 < tl := by rw [hi2, htl]; exact Bt.spot_in hf (by omega)
  have CP2 : Hid (∀ (W : World) (r2 cap2 : Nat), Below w1.heap.size w1 W → W.ownsRow w1.heap.size 71 1 (.slice (some ⟨r2, 0, none⟩) tl cap2) tl (Bt.ptrs (Bt.flat t)) → Calls Tryz.prog 64 #[.slice (some ⟨r2, 0, none⟩) tl cap2, .agg #[d0, d1, d2, d3, d4, d5]] W fun ex w' => ex = .returned (.tuple #[.int .i64 (i2 : Int), .bool ht2]) ∧ Hid (Below w1.heap.size w1 w' ∧ w'.ownsRow w1.heap.size 71 1 (.slice (some ⟨r2, 0, none⟩) tl cap2) tl (Bt.ptrs (Bt.flat t)))) := fun W r2 cap2 hW1 ho2 => by
    have hW := HB.out W hW1
    obtain ⟨_, h2, _, h4, h5⟩ := ptr_cells ho2
    rw [hi2, hht2]
    refine (placeOf_c r2 0 tl cap2 w.heap.size (Bt.flat t) key x _ W htl (by omega) h2 h5 (fun f hf => (hk f hf).stays hW) hr hW.size (rep_stays hW (Nat.le_refl _) _ _ hv)).mono ?_
    rintro ex w' ⟨rfl, hb⟩
    exact ⟨rfl, hW1.trans (hb.mono hW1.size), owns_stays ho2 fun k hk => hb.block k (own_lt ho2 hk).2⟩
  obtain ⟨n1, hn1⟩ : ∃ n1, n1 = tl - 1 := ⟨_, rfl⟩
  obtain ⟨i3, hi3⟩ : ∃ i3, i3 = i2 + 1 := ⟨_, rfl⟩
  have CI : Hid (∀ (W : World) (r2 cap2 : Nat), Below w1.heap.size w1 W → W.ownsRow w1.heap.size 71 1 (.slice (some ⟨r2, 0, none⟩) tl cap2) tl (Bt.ptrs (Bt.flat t)) → Calls Tryz.prog 70 #[.slice (some ⟨r2, 0, none⟩) tl cap2, .int .i64 (i2 : Int), .int .i64 (i3 : Int)] W fun ex w' => ex = .returned (.slice (some ⟨r2, 0, none⟩) n1 cap2) ∧ Hid (Below w1.heap.size w1 w' ∧ w'.ownsRow 0 71 1 (.slice (some ⟨r2, 0, none⟩) n1 cap2) n1 (Bt.ptrs (Bt.kdel key x (Bt.flat t))))) := fun W r2 cap2 hW1 ho2 => by
    obtain ⟨hr2, hr2l, _⟩ := ptr_cells ho2
    have ho0 : W.ownsRow 0 71 1 (.slice (some ⟨r2, 0, none⟩) tl cap2) tl (Bt.ptrs (Bt.flat t)) := by
      refine ⟨ho2.1, ?_⟩
      rcases ho2.2 with ⟨h, _⟩ | ⟨g', cap', cur', h, h2, h4, h5⟩
      · cases h
      · exact .inr ⟨g', cap', cur', h, Nat.zero_le _, h4, h5⟩
    rw [hi3, hn1]
    refine (delE_c r2 tl cap2 i2 (Bt.flat t) W ho0 hilt (by omega)).mono ?_
    rintro ex w' ⟨rfl, h1, h2⟩
    refine ⟨rfl, hW1.trans (h2.below (fun k hk => by rw [hk]; exact hr2) hW1.size), ?_⟩
    rw [Bt.kdel, ← hi2]
    exact h1
  have CL : Hid (∀ (W : World) (r3 cap3 : Nat), Below w1.heap.size w1 W → W.ownsRow 0 71 1 (.slice (some ⟨r3, 0, none⟩) n1 cap3) n1 (Bt.ptrs (Bt.kdel key x (Bt.flat t))) → Calls Tryz.prog 63 #[.slice (some ⟨r3, 0, none⟩) n1 cap3] W fun ex w' => ∃ t', ex = .returned (Bt.ptr (Bt.top t')) ∧ Outs key x t w t' w') := fun W r3 cap3 hW1 ho3 => by
    have hW := HB.out W hW1
    obtain ⟨_, h2, h3, h4, h5⟩ := ptr_cells ho3
    refine (lay_ok n1 (by omega) r3 0 cap3 (Bt.kdel key x (Bt.flat t)) W h4.symm h3 h2 h5).mono ?_
    rintro ex w' ⟨t', rfl, hb, hL⟩
    have hB := hW.trans (hb.mono hW.size)
    refine ⟨t', rfl, ⟨hB.os, hB.tape, hB.output, hB.size, fun k hk _ => hB.block k hk⟩, hL.nt, hL.wf, hL.flat, ?_, hL.nd, fun k hk => .inr (Nat.le_trans hW.size (hL.new k hk))⟩
    rw [hL.lev, ← h4]
    exact Nat.le_trans (Bt.fewest_mono (by omega)) (Bt.fewest_levels hw)
  obtain ⟨v1, v2⟩ : IntKind.i64.wrap ((i2 : Int) + 1) = (i3 : Int) ∧ wrap64 ((i2 : Int) + 1) = (i3 : Int) := succs hi3 (by omega)
  clear hi hh hl hres hkes hcl hcell ho s1 hN hw hr hk hv hf hcf hgl hrl ht htl hpg hi2 hht2 hn1 hi3 hilt hel hen hB1 b1
  go_enter Tryz.func45, Tryz.ntmps45
  go_upto_region 1 with fail
  rw [← hw1, ← hBe]
  clear hw1 hBe
  refine wp_region_below w1.heap.size w1 (Below.refl _ _) (by kernel_rfl) (by kernel_rfl) ?_
  repeat (go_big_quiet_step (first | (go_at_call 64; exact below_call _ (Nat.le_refl _) (CP.out _ (BelowOf.h _)))))
  refine wpQuiet_nil ?_
  intro _ hw'
  obtain ⟨pq, hw''⟩ := hw'
  subst hw''
  have HB2 : Hid (Below w1.heap.size w1 pq.W) := pq.h
  clear p0 a0 a1 a2 a3 a4 a5 CP
  go_wp2_with fail
  refine (CA.out _ HB2.out).mono ?_
  rintro ex w2 ⟨r2, cap2, rfl, HV2⟩
  obtain ⟨b0, b1, b2, b3, b4, b5⟩ := HE.out _ HV2.out.1
  clear CA
  go_wp2_with fail
  refine (CP2.out _ _ _ HV2.out.1 HV2.out.2).mono ?_
  rintro ex w3 ⟨rfl, HV3⟩
  clear CP2 HV2 b0 b1 b2 b3 b4 b5
  go_wp2_with fail
  refine (CI.out _ _ _ HV3.out.1 HV3.out.2).mono ?_
  rintro ex w4 ⟨rfl, HV4⟩
  clear CI HV3
  go_wp2_with fail
  refine (CL.out _ _ _ HV4.out.1 HV4.out.2).mono ?_
  rintro ex w5 ⟨t', rfl, HV5⟩
  have HV6 : Hid (Outs key x t w t' w5) := HV5
  clear CL HV4 HV5
  go_wp2
  clear v1 v2
  go_ret
  exact ⟨t', rfl, HV6.out⟩
end Go.Proofs.YtkigenldiinioaaGreatDoor
