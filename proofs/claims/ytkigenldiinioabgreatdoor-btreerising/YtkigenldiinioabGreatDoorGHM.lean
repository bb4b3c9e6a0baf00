/- Several texts, joined: BtLy, BtLz -/
import Derived.Test.YtkigenldiinioabGreatDoorGGM
/- A list, cut into four parts with three keys between: what is laid of it, as mathematics. -/
namespace Go.Proofs.YtkigenldiinioabGreatDoor
open Vl (V)
namespace Bt
/-- where a part begins -/
def frm (n i : Nat) : Nat := if i = 0 then 0 else upto n (i - 1) + 1
theorem frm_succ (n i : Nat) : frm n (i + 1) = upto n i + 1 := rfl
/-- a part -/
def part (l : List Nat) (i : Nat) : List Nat := (l.drop (frm l.length i)).take (upto l.length i - frm l.length i)
/-- a key between -/
def mid (l : List Nat) (i : Nat) : Nat := l.getD (upto l.length i) 0
theorem upto_lt {n i : Nat} (h : 3 < n) (hi : i < 3) : upto n i < n := by have := upto_le (n := n) (i := i) (by omega); omega
theorem upto_most {n i : Nat} (h : 3 < n) (hi : i < 4) : upto n i ≤ n := by have := upto_le (n := n) (i := i) hi; omega
theorem frm_le {n i : Nat} (h : 3 < n) (hi : i < 4) : frm n i ≤ upto n i := by
  cases i with
  | zero => exact Nat.zero_le _
  | succ i => rw [frm_succ]; exact (part_next h (by omega)).1
theorem frm_lt {n i : Nat} (h : 3 < n) (hi : i < 4) : frm n i < n := by
  have h1 := frm_le h hi
  rcases (show i < 3 ∨ i = 3 by omega) with q | q
  · have := upto_lt h q; omega
  · subst q
    have h2 := part_some h
    have h3 := upto_last h
    rw [frm_succ]; omega
theorem mid_at {l : List Nat} {i : Nat} (h : 3 < l.length) (hi : i < 3) : l[upto l.length i]? = some (mid l i) := by
  have := upto_lt h hi
  rw [mid, List.getD_eq_getElem?_getD, List.getElem?_eq_getElem this]
  rfl
theorem part_length {l : List Nat} {i : Nat} (h : 3 < l.length) (hi : i < 4) : (part l i).length = upto l.length i - frm l.length i := by
  have := upto_most h hi
  have := frm_le h hi
  rw [part, List.length_take, List.length_drop]; omega
theorem part_small {l : List Nat} {i : Nat} (h : 3 < l.length) (hi : i < 4) : (part l i).length ≤ l.length / 4 := by
  rw [part_length h hi]
  cases i with
  | zero => have := part_first (n := l.length); omega
  | succ i => rw [frm_succ]; exact (part_next h (by omega)).2
theorem part_full {l : List Nat} (h : 3 < l.length) : (part l 3).length = l.length / 4 := by
  rw [part_length h (by omega), frm_succ]; exact part_some h
theorem part_at {l : List Nat} {i j x : Nat} (hj : (part l i)[j]? = some x) : l[frm l.length i + j]? = some x := by
  have hlt := (List.getElem?_eq_some_iff.1 hj).1
  rw [part, List.length_take] at hlt
  rw [part, List.getElem?_take_of_lt (by omega), List.getElem?_drop] at hj
  exact hj
theorem cut_one {l : List Nat} {s u x : Nat} (hs : s ≤ u) (hx : l[u]? = some x) : l.drop s = (l.drop s).take (u - s) ++ x :: l.drop (u + 1) := by
  have hlt := (List.getElem?_eq_some_iff.1 hx).1
  have hy := (List.getElem?_eq_some_iff.1 hx).2
  conv => lhs; rw [← List.take_append_drop (u - s) (l.drop s)]
  rw [List.drop_drop, show s + (u - s) = u by omega, List.drop_eq_getElem_cons hlt, hy]
theorem parts_all {l : List Nat} (h : 3 < l.length) : part l 0 ++ mid l 0 :: (part l 1 ++ mid l 1 :: (part l 2 ++ mid l 2 :: part l 3)) = l := by
  have c0 := cut_one (frm_le h (i := 0) (by omega)) (mid_at h (i := 0) (by omega))
  have c1 := cut_one (frm_le h (i := 1) (by omega)) (mid_at h (i := 1) (by omega))
  have c2 := cut_one (frm_le h (i := 2) (by omega)) (mid_at h (i := 2) (by omega))
  have c3 : part l 3 = l.drop (frm l.length 3) := by
    rw [part, List.take_of_length_le]
    rw [List.length_drop, upto_last h]
    omega
  rw [c3, show frm l.length 3 = upto l.length 2 + 1 from rfl]
  have e2 : part l 2 ++ mid l 2 :: l.drop (upto l.length 2 + 1) = l.drop (frm l.length 2) := c2.symm
  have e1 : part l 1 ++ mid l 1 :: l.drop (upto l.length 1 + 1) = l.drop (frm l.length 1) := c1.symm
  have e0 : part l 0 ++ mid l 0 :: l.drop (upto l.length 0 + 1) = l.drop (frm l.length 0) := c0.symm
  rw [e2, show frm l.length 2 = upto l.length 1 + 1 from rfl, e1, show frm l.length 1 = upto l.length 0 + 1 from rfl, e0]
  rfl
theorem laid_flat {l : List Nat} (h : 3 < l.length) {g r : Nat} {ts : Nat → T} (hf : ∀ j, j < 4 → flat (ts j) = part l j) : flat (.node g r [mid l 0, mid l 1, mid l 2] (ts 0) (ts 1) (ts 2) (ts 3)) = l := by
  rw [flat_three, hf 0 (by omega), hf 1 (by omega), hf 2 (by omega), hf 3 (by omega)]
  exact parts_all h
theorem laid_levels {l : List Nat} (h : 3 < l.length) {g r : Nat} {ts : Nat → T} (hf : ∀ j, j < 4 → levels (ts j) = fewest (part l j).length) : levels (.node g r [mid l 0, mid l 1, mid l 2] (ts 0) (ts 1) (ts 2) (ts 3)) = fewest l.length := by
  have k0 := fewest_mono (part_small h (i := 0) (by omega))
  have k1 := fewest_mono (part_small h (i := 1) (by omega))
  have k2 := fewest_mono (part_small h (i := 2) (by omega))
  have k3 := congrArg fewest (part_full h)
  rw [levels, hf 0 (by omega), hf 1 (by omega), hf 2 (by omega), hf 3 (by omega), fewest_pos (n := l.length) (by omega)]
  omega
theorem laid_wf {l : List Nat} {g r : Nat} {ts : Nat → T} (hf : ∀ j, j < 4 → wf (ts j)) : wf (.node g r [mid l 0, mid l 1, mid l 2] (ts 0) (ts 1) (ts 2) (ts 3)) :=
  ⟨by simp, by simp, fun h => absurd h (by simp), hf 0 (by omega), hf 1 (by omega), hf 2 (by omega), hf 3 (by omega)⟩
/-- the keys between, ahead of a part -/
def mids (l : List Nat) (i : Nat) : List Nat := (List.range i).map (mid l)
theorem mids_succ (l : List Nat) (i : Nat) : mids l (i + 1) = mids l i ++ [mid l i] := by rw [mids, List.range_succ, List.map_append]; rfl
end Bt
end Go.Proofs.YtkigenldiinioabGreatDoor
/- A list laid as a tree: what each round leaves. -/
namespace Go.Proofs.YtkigenldiinioabGreatDoor
open Go.RowKit
open Vl (V)
/-- what is laid -/
structure Laid (s : Nat) (l : List Nat) (t : Bt.T) (W : World) : Prop where
  nt : NT W t
  wf : Bt.wf t
  flat : Bt.flat t = l
  lev : Bt.levels t = Bt.fewest l.length
  nd : (Bt.blocks t).Nodup
  new : ∀ g ∈ Bt.blocks t, s ≤ g
theorem Laid.stays {s s' : Nat} {l : List Nat} {t : Bt.T} {W W' : World} (h : Laid s l t W) (hb : ∀ g ∈ Bt.blocks t, W'.heap[g]? = W.heap[g]?) (hs : ∀ g ∈ Bt.blocks t, s' ≤ g) : Laid s' l t W' :=
  ⟨nt_stays h.nt hb, h.wf, h.flat, h.lev, h.nd, hs⟩
/-- a node while it is laid -/
structure LL (w : World) (g : Nat) (l : List Nat) (i m : Nat) (ts : Nat → Bt.T) (sv : Value) (W : World) : Prop where
  below : Below w.heap.size w W
  gw : w.heap.size ≤ g
  node : W.heap[g]? = some (.cells #[sv, Bt.ptr (Bt.top (ts 0)), Bt.ptr (Bt.top (ts 1)), Bt.ptr (Bt.top (ts 2)), Bt.ptr (Bt.top (ts 3)), .int .i64 (l.length : Int)] 87 (0, 0))
  nil : ∀ j, i ≤ j → ts j = .nil
  part : ∀ j, j < i → Laid (g + 1) (Bt.part l j) (ts j) W
  apart : ∀ j k, j < k → k < i → ∀ x ∈ Bt.blocks (ts j), x ∉ Bt.blocks (ts k)
  row : W.ownsRow (g + 1) 60 1 sv m (Bt.ptrs (Bt.mids l m))
  rowx : ∀ r, sv.ownBlock = some r → ∀ j, j < i → r ∉ Bt.blocks (ts j)
theorem LL.start {w W : World} {g : Nat} {l : List Nat} (hb : Below w.heap.size w W) (hg : w.heap.size ≤ g) (hn : W.heap[g]? = some (.cells #[.slice none 0 0, .pointer none, .pointer none, .pointer none, .pointer none, .int .i64 (l.length : Int)] 87 (0, 0))) : LL w g l 0 0 (fun _ => .nil) (.slice none 0 0) W where
  below := hb
  gw := hg
  node := hn
  nil := fun _ _ => rfl
  part := fun j h => absurd h (by omega)
  apart := fun j k _ h => absurd h (by omega)
  row := ⟨rfl, .inl ⟨rfl, rfl⟩⟩
  rowx := fun r h => by cases h
theorem own_lt {W : World} {b ty k n : Nat} {v : Value} {L : List Value} (h : W.ownsRow b ty k v n L) {r : Nat} (hr : v.ownBlock = some r) : b ≤ r ∧ r < W.heap.size := by
  rcases h.2 with ⟨rfl, _⟩ | ⟨g, cap, cur, rfl, h2, h3, _⟩
  · cases hr
  · obtain rfl : g = r := Option.some.inj (show some g = some r from hr)
    exact ⟨h2, lt_of_row h3⟩
theorem LL.laid {w W W1 W2 : World} {g : Nat} {l : List Nat} {i m : Nat} {ts : Nat → Bt.T} {sv : Value} (h : LL w g l i m ts sv W) (hi : i < 4) {t' : Bt.T} (hb : Below W.heap.size W W1) (ht : Laid W.heap.size (Bt.part l i) t' W1) (hW2 : W2 = W1.setCell ⟨g, 1 + i, none⟩ (Bt.ptr (Bt.top t'))) : LL w g l (i + 1) m (Bt.set ts i t') sv W2 := by
  have hg : g < W.heap.size := lt_of_row h.node
  have n1 := (hb.block g hg).trans h.node
  have hoth : ∀ x, x ≠ g → W2.heap[x]? = W1.heap[x]? := fun x hx => by rw [hW2, heap_setCell_other _ _ _ _ hx]
  have hold : ∀ j, j < i → ∀ x ∈ Bt.blocks (ts j), x < W.heap.size ∧ W2.heap[x]? = W.heap[x]? := fun j hj x hx => by
    have h1 := nt_lt (h.part j hj).nt x hx
    have h2 := (h.part j hj).new x hx
    exact ⟨h1, (hoth x (by omega)).trans (hb.block x h1)⟩
  exact {
    below := by
      have b1 := h.below.trans (hb.mono h.below.size)
      refine ⟨by rw [hW2]; exact b1.os, by rw [hW2]; exact b1.tape, by rw [hW2]; exact b1.output, by rw [hW2]; simpa using b1.size, fun k hk => ?_⟩
      have := h.gw
      exact (hoth k (by omega)).trans (b1.block k hk)
    gw := h.gw
    node := by
      rcases (show i = 0 ∨ i = 1 ∨ i = 2 ∨ i = 3 by omega) with rfl | rfl | rfl | rfl <;> (rw [hW2]; refine (heap_setCell_same W1 g _ _ 87 _ n1).trans ?_; simp [Bt.set])
    nil := fun j hj => by rw [Bt.set_other (by omega)]; exact h.nil j (by omega)
    part := fun j hj => by
      by_cases q : j = i
      · subst q
        rw [Bt.set_same]
        refine ht.stays (fun x hx => hoth x ?_) (fun x hx => ?_) <;> (have := ht.new x hx; omega)
      · rw [Bt.set_other q]
        have hj' : j < i := by omega
        exact (h.part j hj').stays (fun x hx => (hold j hj' x hx).2) (h.part j hj').new
    apart := fun j k hjk hk x hx => by
      rw [Bt.set_other (by omega)] at hx
      by_cases q : k = i
      · subst q
        rw [Bt.set_same]
        intro hx2
        have := ht.new x hx2
        have := (hold j hjk x hx).1
        omega
      · rw [Bt.set_other q]
        exact h.apart j k hjk (by omega) x hx
    row := owns_stays h.row fun r hr => by
      have h1 := own_lt h.row hr
      exact (hoth r (by omega)).trans (hb.block r h1.2)
    rowx := fun r hr j hj => by
      have h1 := own_lt h.row hr
      by_cases q : j = i
      · subst q
        rw [Bt.set_same]
        intro hx2
        have := ht.new r hx2
        omega
      · rw [Bt.set_other q]
        exact h.rowx r hr j (by omega) }
theorem LL.more {w W X W3 W4 : World} {g : Nat} {l : List Nat} {i m : Nat} {ts : Nat → Bt.T} {sv sv' : Value} (h : LL w g l i m ts sv W) (hX : Below W.heap.size W X) (ho : W3.ownsRow (g + 1) 60 1 sv' (m + 1) (Bt.ptrs (Bt.mids l m) ++ [.pointer (some ⟨Bt.mid l m, 0, none⟩)])) (hg3 : X.grownBy W3 sv.ownBlock) (hat : sv'.ownBlock = sv.ownBlock ∨ sv'.ownBlock = some X.heap.size) (hW4 : W4 = W3.setCell ⟨g, 0, none⟩ sv') : LL w g l i (m + 1) ts sv' W4 := by
  have hg : g < W.heap.size := lt_of_row h.node
  have hr : ∀ k, k < W.heap.size → sv.ownBlock ≠ some k → W3.heap[k]? = W.heap[k]? := fun k hk hne => (hg3.block k (Nat.lt_of_lt_of_le hk hX.size) (fun q => hne q.symm)).trans (hX.block k hk)
  have hgr : sv.ownBlock ≠ some g := fun q => by have := (own_lt h.row q).1; omega
  have n3 := (hr g hg hgr).trans h.node
  have hoth : ∀ x, x ≠ g → W4.heap[x]? = W3.heap[x]? := fun x hx => by rw [hW4, heap_setCell_other _ _ _ _ hx]
  have hold : ∀ j, j < i → ∀ x ∈ Bt.blocks (ts j), x < W.heap.size ∧ W4.heap[x]? = W.heap[x]? := fun j hj x hx => by
    have h1 := nt_lt (h.part j hj).nt x hx
    have h2 := (h.part j hj).new x hx
    exact ⟨h1, (hoth x (by omega)).trans (hr x h1 fun q => h.rowx x q j hj hx)⟩
  exact {
    below := by
      have s1 := h.below.size
      have s2 := hX.size
      have s3 := hg3.size
      refine ⟨by rw [hW4]; exact hg3.os.trans (hX.os.trans h.below.os), by rw [hW4]; exact hg3.tape.trans (hX.tape.trans h.below.tape), by rw [hW4]; exact hg3.output.trans (hX.output.trans h.below.output), by rw [hW4]; simp; omega, fun k hk => ?_⟩
      have := h.gw
      exact (hoth k (by omega)).trans ((hr k (by omega) fun q => by have := (own_lt h.row q).1; omega).trans (h.below.block k hk))
    gw := h.gw
    node := by rw [hW4]; exact heap_setCell_same W3 g 0 _ 87 sv' n3
    nil := h.nil
    part := fun j hj => (h.part j hj).stays (fun x hx => (hold j hj x hx).2) (h.part j hj).new
    apart := h.apart
    row := by
      have e : Bt.ptrs (Bt.mids l m) ++ [Value.pointer (some ⟨Bt.mid l m, 0, none⟩)] = Bt.ptrs (Bt.mids l (m + 1)) := by rw [Bt.mids_succ, Bt.ptrs, Bt.ptrs, List.map_append]; rfl
      rw [e] at ho
      refine owns_stays ho fun r hr' => hoth r ?_
      have := (own_lt ho hr').1
      omega
    rowx := fun r hr' j hj hx => by
      rcases hat with q | q
      · rw [q] at hr'
        exact h.rowx r hr' j hj hx
      · rw [q] at hr'
        have e : X.heap.size = r := Option.some.inj hr'
        have := (hold j hj r hx).1
        have := hX.size
        omega }
theorem LL.done {w W : World} {g : Nat} {l : List Nat} {ts : Nat → Bt.T} {sv : Value} (h : LL w g l 4 3 ts sv W) (hl : 3 < l.length) : ∃ r, Laid w.heap.size l (.node g r [Bt.mid l 0, Bt.mid l 1, Bt.mid l 2] (ts 0) (ts 1) (ts 2) (ts 3)) W := by
  obtain ⟨r, cap, rfl⟩ := ownsRow_succ h.row
  have hr := own_lt h.row (r := r) rfl
  have hf := Bt.laid_flat hl (g := g) (r := r) (ts := ts) fun j hj => (h.part j hj).flat
  have gw := h.gw
  refine ⟨r, ⟨⟨cap, ?_, ?_⟩, (h.part 0 (by omega)).nt, (h.part 1 (by omega)).nt, (h.part 2 (by omega)).nt, (h.part 3 (by omega)).nt⟩, Bt.laid_wf fun j hj => (h.part j hj).wf, hf, ?_, ?_, ?_⟩
  · rw [hf]
    exact h.node
  · refine ⟨rfl, ?_⟩
    rcases h.row.2 with ⟨q, _⟩ | ⟨g', cap', cur, e, _, h4, h5⟩
    · cases q
    · exact .inr ⟨g', cap', cur, e, Nat.zero_le _, h4, h5⟩
  · exact Bt.laid_levels hl fun j hj => (h.part j hj).lev
  · have nw : ∀ j, j < 4 → ∀ x ∈ Bt.blocks (ts j), g < x ∧ x ≠ r := fun j hj x hx => ⟨(h.part j hj).new x hx, fun q => h.rowx r rfl j hj (q ▸ hx)⟩
    have ap := h.apart
    simp only [Bt.blocks, List.nodup_cons, List.nodup_append, List.mem_cons, List.mem_append]
    refine ⟨?_, ?_, ⟨⟨(h.part 0 (by omega)).nd, (h.part 1 (by omega)).nd, ?_⟩, (h.part 2 (by omega)).nd, ?_⟩, (h.part 3 (by omega)).nd, ?_⟩
    · rintro (q | ((q | q) | q) | q)
      · omega
      · have := (nw 0 (by omega) _ q).1; omega
      · have := (nw 1 (by omega) _ q).1; omega
      · have := (nw 2 (by omega) _ q).1; omega
      · have := (nw 3 (by omega) _ q).1; omega
    · rintro (((q | q) | q) | q)
      · exact (nw 0 (by omega) _ q).2 rfl
      · exact (nw 1 (by omega) _ q).2 rfl
      · exact (nw 2 (by omega) _ q).2 rfl
      · exact (nw 3 (by omega) _ q).2 rfl
    · intro a ha b hb e
      subst e
      exact ap 0 1 (by omega) (by omega) a ha hb
    · intro a ha b hb e
      subst e
      rcases ha with q | q
      · exact ap 0 2 (by omega) (by omega) a q hb
      · exact ap 1 2 (by omega) (by omega) a q hb
    · intro a ha b hb e
      subst e
      rcases ha with (q | q) | q
      · exact ap 0 3 (by omega) (by omega) a q hb
      · exact ap 1 3 (by omega) (by omega) a q hb
      · exact ap 2 3 (by omega) (by omega) a q hb
  · intro x hx
    simp only [Bt.blocks, List.mem_cons, List.mem_append] at hx
    rcases hx with rfl | rfl | ((q | q) | q) | q
    · exact gw
    · omega
    · have := (h.part 0 (by omega)).new x q; omega
    · have := (h.part 1 (by omega)).new x q; omega
    · have := (h.part 2 (by omega)).new x q; omega
    · have := (h.part 3 (by omega)).new x q; omega
end Go.Proofs.YtkigenldiinioabGreatDoor
