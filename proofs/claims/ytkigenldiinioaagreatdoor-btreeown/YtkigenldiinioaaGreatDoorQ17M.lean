/- Several texts, joined: BtLy, BtT, BtY, BtV -/
import Derived.Test.YtkigenldiinioaaGreatDoorQ16M
/- A list, cut into four parts with three keys between: what is laid of it, as mathematics. -/
namespace Go.Proofs.YtkigenldiinioaaGreatDoor
open Vl (V)
namespace Bt
/-- where a part begins -/
def frm (n i : Nat) : Nat := if i = 0 then 0 else upto n (i - 1) + 1
theorem frm_zero (n : Nat) : frm n 0 = 0 := rfl
theorem frm_succ (n i : Nat) : frm n (i + 1) = upto n i + 1 := rfl
/-- a part -/
def part (l : List Nat) (i : Nat) : List Nat := (l.drop (frm l.length i)).take (upto l.length i - frm l.length i)
/-- a key between -/
def mid (l : List Nat) (i : Nat) : Nat := l.getD (upto l.length i) 0
theorem upto_lt {n i : Nat} (h : 3 < n) (hi : i < 3) : upto n i < n := by have := upto_le (n := n) (i := i) (by omega); omega
theorem upto_most {n i : Nat} (h : 3 < n) (hi : i < 4) : upto n i ≤ n := by have := upto_le (n := n) (i := i) hi; omega
theorem frm_le {n i : Nat} (h : 3 < n) (hi : i < 4) : frm n i ≤ upto n i := by
  cases i with
  | zero => exact Nat.zero_le _
  | succ i => rw [frm_succ]; exact (part_next h (by omega)).1
theorem frm_lt {n i : Nat} (h : 3 < n) (hi : i < 4) : frm n i < n := by
  have h1 := frm_le h hi
  rcases (show i < 3 ∨ i = 3 by omega) with q | q
  · have := upto_lt h q; omega
  · subst q
    have h2 := part_some h
    have h3 := upto_last h
    rw [frm_succ]; omega
theorem mid_at {l : List Nat} {i : Nat} (h : 3 < l.length) (hi : i < 3) : l[upto l.length i]? = some (mid l i) := by
  have := upto_lt h hi
  rw [mid, List.getD_eq_getElem?_getD, List.getElem?_eq_getElem this]
  rfl
theorem part_length {l : List Nat} {i : Nat} (h : 3 < l.length) (hi : i < 4) : (part l i).length = upto l.length i - frm l.length i := by
  have := upto_most h hi
  have := frm_le h hi
  rw [part, List.length_take, List.length_drop]; omega
theorem part_small {l : List Nat} {i : Nat} (h : 3 < l.length) (hi : i < 4) : (part l i).length ≤ l.length / 4 := by
  rw [part_length h hi]
  cases i with
  | zero => have := part_first (n := l.length); omega
  | succ i => rw [frm_succ]; exact (part_next h (by omega)).2
theorem part_full {l : List Nat} (h : 3 < l.length) : (part l 3).length = l.length / 4 := by
  rw [part_length h (by omega), frm_succ]; exact part_some h
theorem part_at {l : List Nat} {i j x : Nat} (hj : (part l i)[j]? = some x) : l[frm l.length i + j]? = some x := by
  have hlt := (List.getElem?_eq_some_iff.1 hj).1
  rw [part, List.length_take] at hlt
  rw [part, List.getElem?_take_of_lt (by omega), List.getElem?_drop] at hj
  exact hj
theorem cut_one {l : List Nat} {s u x : Nat} (hs : s ≤ u) (hx : l[u]? = some x) : l.drop s = (l.drop s).take (u - s) ++ x :: l.drop (u + 1) := by
  have hlt := (List.getElem?_eq_some_iff.1 hx).1
  have hy := (List.getElem?_eq_some_iff.1 hx).2
  conv => lhs; rw [← List.take_append_drop (u - s) (l.drop s)]
  rw [List.drop_drop, show s + (u - s) = u by omega, List.drop_eq_getElem_cons hlt, hy]
theorem parts_all {l : List Nat} (h : 3 < l.length) : part l 0 ++ mid l 0 :: (part l 1 ++ mid l 1 :: (part l 2 ++ mid l 2 :: part l 3)) = l := by
  have c0 := cut_one (frm_le h (i := 0) (by omega)) (mid_at h (i := 0) (by omega))
  have c1 := cut_one (frm_le h (i := 1) (by omega)) (mid_at h (i := 1) (by omega))
  have c2 := cut_one (frm_le h (i := 2) (by omega)) (mid_at h (i := 2) (by omega))
  have c3 : part l 3 = l.drop (frm l.length 3) := by
    rw [part, List.take_of_length_le]
    rw [List.length_drop, upto_last h]
    omega
  rw [c3, show frm l.length 3 = upto l.length 2 + 1 from rfl]
  have e2 : part l 2 ++ mid l 2 :: l.drop (upto l.length 2 + 1) = l.drop (frm l.length 2) := c2.symm
  have e1 : part l 1 ++ mid l 1 :: l.drop (upto l.length 1 + 1) = l.drop (frm l.length 1) := c1.symm
  have e0 : part l 0 ++ mid l 0 :: l.drop (upto l.length 0 + 1) = l.drop (frm l.length 0) := c0.symm
  rw [e2, show frm l.length 2 = upto l.length 1 + 1 from rfl, e1, show frm l.length 1 = upto l.length 0 + 1 from rfl, e0]
  rfl
theorem laid_flat {l : List Nat} (h : 3 < l.length) {g r : Nat} {ts : Nat → T} (hf : ∀ j, j < 4 → flat (ts j) = part l j) : flat (.node g r [mid l 0, mid l 1, mid l 2] (ts 0) (ts 1) (ts 2) (ts 3)) = l := by
  rw [flat_three, hf 0 (by omega), hf 1 (by omega), hf 2 (by omega), hf 3 (by omega)]
  exact parts_all h
theorem laid_levels {l : List Nat} (h : 3 < l.length) {g r : Nat} {ts : Nat → T} (hf : ∀ j, j < 4 → levels (ts j) = fewest (part l j).length) : levels (.node g r [mid l 0, mid l 1, mid l 2] (ts 0) (ts 1) (ts 2) (ts 3)) = fewest l.length := by
  have k0 := fewest_mono (part_small h (i := 0) (by omega))
  have k1 := fewest_mono (part_small h (i := 1) (by omega))
  have k2 := fewest_mono (part_small h (i := 2) (by omega))
  have k3 := congrArg fewest (part_full h)
  rw [levels, hf 0 (by omega), hf 1 (by omega), hf 2 (by omega), hf 3 (by omega), fewest_pos (n := l.length) (by omega)]
  omega
theorem laid_wf {l : List Nat} {g r : Nat} {ts : Nat → T} (hf : ∀ j, j < 4 → wf (ts j)) : wf (.node g r [mid l 0, mid l 1, mid l 2] (ts 0) (ts 1) (ts 2) (ts 3)) :=
  ⟨by simp, by simp, fun h => absurd h (by simp), hf 0 (by omega), hf 1 (by omega), hf 2 (by omega), hf 3 (by omega)⟩
/-- the keys between, ahead of a part -/
def mids (l : List Nat) (i : Nat) : List Nat := (List.range i).map (mid l)
theorem mids_succ (l : List Nat) (i : Nat) : mids l (i + 1) = mids l i ++ [mid l i] := by rw [mids, List.range_succ, List.map_append]; rfl
theorem mids_length (l : List Nat) (i : Nat) : (mids l i).length = i := by rw [mids, List.length_map, List.length_range]
end Bt
end Go.Proofs.YtkigenldiinioaaGreatDoor
/- One more number of a key that a tree has: walked. -/
namespace Go.Proofs.YtkigenldiinioaaGreatDoor
open Go.RowKit
open Vl (V)
attribute [local go_sem ↓] Go.wp_at_zero Go.wp_at_succ
/-- a block's type -/
def Typ (w : World) (g ty : Nat) : Prop := ∃ cs fr, w.heap[g]? = some (.cells cs ty fr)
theorem Typ.ne {w : World} {g h a b : Nat} (hg : Typ w g a) (hh : Typ w h b) (hab : a ≠ b) : g ≠ h := fun e => by
  subst e
  obtain ⟨cs, fr, h1⟩ := hg
  obtain ⟨cs', fr', h2⟩ := hh
  rw [h1] at h2
  simp only [Option.some.injEq, Obj.cells.injEq] at h2
  exact hab h2.2.1
theorem nt_typ {w : World} : ∀ {t : Bt.T}, NT w t → ∀ g ∈ Bt.blocks t, Typ w g 95 ∨ Typ w g 71
  | .nil, _, _, h => by cases h
  | .node g r es a b c d, h, x, hx => by
    obtain ⟨⟨cap, h1, h2⟩, ha, hbb, hc, hd⟩ := h
    simp only [Bt.blocks, List.mem_cons, List.mem_append] at hx
    rcases hx with rfl | rfl | ((hx | hx) | hx) | hx
    · exact .inl ⟨_, _, h1⟩
    · rcases h2.2 with ⟨h3, _⟩ | ⟨g', cap', cur, h3, _, h4, _⟩
      · cases h3
      · cases h3; exact .inr ⟨_, _, h4⟩
    · exact nt_typ ha x hx
    · exact nt_typ hbb x hx
    · exact nt_typ hc x hx
    · exact nt_typ hd x hx
theorem EA.typ {w : World} {F : Nat → Prop} {k : V} {l : List Nat} {e i : Nat} (h : EA w F k l e i) : Typ w e 73 ∧ Typ w i 51 := by
  obtain ⟨c0, c1, c2, c3, c4, c5, cap, h1, _, h2⟩ := h
  refine ⟨⟨_, _, h1⟩, ?_⟩
  rcases h2.2 with ⟨h3, _⟩ | ⟨g', cap', cur, h3, _, h4, _⟩
  · cases h3
  · cases h3; exact ⟨_, _, h4⟩
/-- a tree's own blocks -/
def OB (tb : Nat) (t : Bt.T) (ir : Nat → Nat) (g : Nat) : Prop := g = tb ∨ g ∈ Bt.blocks t ∨ ∃ e ∈ Bt.flat t, g = e ∨ g = ir e
theorem Kept.mono {F G : Nat → Prop} {w w' : World} (h : Kept F w w') (hG : ∀ g, F g → G g) : Kept G w w' := ⟨h.os, h.tape, h.output, h.size, fun k hk q => h.block k hk fun q2 => q (hG k q2)⟩
section
variable {w : World} {F : Nat → Prop} {tb : Nat} {t : Bt.T} {key : Nat → V} {ids : Nat → List Nat} {ir : Nat → Nat} {n : Nat}
theorem TA.tbt (h : TA w F tb t key ids ir n) : Typ w tb 69 := ⟨_, _, h.box⟩
theorem TA.tb_ne (h : TA w F tb t key ids ir n) {e : Nat} (he : e ∈ Bt.flat t) : tb ≠ e ∧ tb ≠ ir e :=
  ⟨h.tbt.ne (h.ent e he).2.2.typ.1 (by decide), h.tbt.ne (h.ent e he).2.2.typ.2 (by decide)⟩
theorem TA.e_ne (h : TA w F tb t key ids ir n) {e f : Nat} (he : e ∈ Bt.flat t) (hf : f ∈ Bt.flat t) : e ≠ ir f :=
  (h.ent e he).2.2.typ.1.ne (h.ent f hf).2.2.typ.2 (by decide)
theorem TA.blk_ne (h : TA w F tb t key ids ir n) {g : Nat} (hg : g ∈ Bt.blocks t) : g ≠ tb ∧ ∀ e ∈ Bt.flat t, g ≠ e ∧ g ≠ ir e := by
  rcases nt_typ h.nt g hg with q | q
  · exact ⟨q.ne h.tbt (by decide), fun e he => ⟨q.ne (h.ent e he).2.2.typ.1 (by decide), q.ne (h.ent e he).2.2.typ.2 (by decide)⟩⟩
  · exact ⟨q.ne h.tbt (by decide), fun e he => ⟨q.ne (h.ent e he).2.2.typ.1 (by decide), q.ne (h.ent e he).2.2.typ.2 (by decide)⟩⟩
theorem TA.ob (h : TA w F tb t key ids ir n) {g : Nat} (hg : OB tb t ir g) : F g := by
  rcases hg with q | q | ⟨e, he, q | q⟩
  · rw [q]; exact h.fbox
  · exact h.fnt g q
  · rw [q]; exact (h.ent e he).1
  · rw [q]; exact (h.ent e he).2.1
/-- one more number -/
theorem TA.more (h : TA w F tb t key ids ir n) {e id : Nat} (he : e ∈ Bt.flat t) (hn : n < 1024) (hh : Bt.nhas id (ids e) = false) {w5 : World} {i' cap' : Nat} (hk : Kept (fun g => g = ir e) w w5) (hi : i' = ir e ∨ w.heap.size ≤ i') (hr : IdsAt w5 (.slice (some ⟨i', 0, none⟩) (Bt.nins id (ids e)).length cap') (Bt.nins id (ids e))) {w7 : World} (hw7 : w7 = (w5.setCell ⟨e, 6, none⟩ (.slice (some ⟨i', 0, none⟩) (Bt.nins id (ids e)).length cap')).setCell ⟨tb, 1, none⟩ (.int .i64 ((n + 1 : Nat) : Int))) :
    Kept (OB tb t ir) w w7 ∧ TA w7 (fun g => F g ∨ (w.heap.size ≤ g ∧ g < w7.heap.size)) tb t key (Bt.set ids e (Bt.nins id (ids e))) (Bt.set ir e i') (n + 1) ∧ ∀ g, OB tb t (Bt.set ir e i') g → OB tb t ir g ∨ w.heap.size ≤ g := by
  obtain ⟨fe, fi, c0, c1, c2, c3, c4, c5, cap, h1, h2, h3⟩ := h.ent e he
  have ne1 := h.tb_ne he
  have ne2 := h.e_ne he he
  have b5 := (hk.block e (h.lt e fe) ne2).trans h1
  have t5 := (hk.block tb (h.lt tb h.fbox) ne1.2).trans h.box
  have e6 := heap_setCell_same w5 e 6 _ 73 (.slice (some ⟨i', 0, none⟩) (Bt.nins id (ids e)).length cap') b5
  have t6 : (w5.setCell ⟨e, 6, none⟩ (.slice (some ⟨i', 0, none⟩) (Bt.nins id (ids e)).length cap')).heap[tb]? = some (.cells #[Bt.ptr (Bt.top t), .int .i64 (n : Int)] 69 (0, 0)) := by rw [heap_setCell_other _ _ _ _ ne1.1]; exact t5
  have t7 := heap_setCell_same _ tb 1 _ 69 (.int .i64 ((n + 1 : Nat) : Int)) t6
  rw [← hw7] at t7
  have hs : w7.heap.size = w5.heap.size := by rw [hw7]; simp
  have hoth : ∀ k, k ≠ e → k ≠ tb → w7.heap[k]? = w5.heap[k]? := fun k q1 q2 => by
    rw [hw7, heap_setCell_other _ _ _ _ q2, heap_setCell_other _ _ _ _ q1]
  have e7 : w7.heap[e]? = some (.cells #[c0, c1, c2, c3, c4, c5, .slice (some ⟨i', 0, none⟩) (Bt.nins id (ids e)).length cap'] 73 (0, 0)) := by rw [hw7, heap_setCell_other _ _ _ _ (fun q => ne1.1 q.symm)]; exact e6
  have hsz : w.heap.size ≤ w7.heap.size := by rw [hs]; exact hk.size
  have hil : i' < w7.heap.size := by
    rw [hs]
    rcases hr.2 with ⟨h4, _⟩ | ⟨g', cap2, cur, h4, _, h5, _⟩
    · cases h4
    · cases h4; exact lt_of_row h5
  have hkey : ∀ g, g < w.heap.size → ¬ F g → w7.heap[g]? = w.heap[g]? := fun g hg hf =>
    (hoth g (fun q => hf (q ▸ fe)) (fun q => hf (q ▸ h.fbox))).trans (hk.block g hg fun q => hf (q ▸ fi))
  have hkp : Kept (OB tb t ir) w w7 := ⟨by rw [hw7]; exact hk.os, by rw [hw7]; exact hk.tape, by rw [hw7]; exact hk.output, hsz, fun g hg hf => (hoth g (fun q => hf (.inr (.inr ⟨e, he, .inl q⟩))) (fun q => hf (.inl q))).trans (hk.block g hg fun q => hf (.inr (.inr ⟨e, he, .inr q⟩)))⟩
  have hine : i' ≠ e ∧ i' ≠ tb := by
    rcases hi with q | q
    · rw [q]; exact ⟨fun q => ne2 q.symm, fun q => ne1.2 q.symm⟩
    · have := h.lt e fe; have := h.lt tb h.fbox; omega
  refine ⟨hkp, ?_, fun g hg => ?_⟩
  rotate_left
  · rcases hg with q | q | ⟨f, hf, q⟩
    · exact .inl (.inl q)
    · exact .inl (.inr (.inl q))
    · by_cases q2 : f = e
      · rcases q with q | q
        · exact .inl (.inr (.inr ⟨f, hf, .inl q⟩))
        · rw [q2, Bt.set_same] at q
          rcases hi with q3 | q3
          · exact .inl (.inr (.inr ⟨e, he, .inr (by rw [q, q3])⟩))
          · exact .inr (by omega)
      · rw [Bt.set_other q2] at q
        exact .inl (.inr (.inr ⟨f, hf, q⟩))
  exact {
    box := t7
    lt := fun g hg => by
      rcases hg with q | q
      · exact Nat.lt_of_lt_of_le (h.lt g q) hsz
      · exact q.2
    fbox := .inl h.fbox
    nt := nt_stays h.nt fun g hg => by
      obtain ⟨q1, q2⟩ := h.blk_ne hg
      exact (hoth g (q2 e he).1 q1).trans (hk.block g (h.lt g (h.fnt g hg)) (q2 e he).2)
    fnt := fun g hg => .inl (h.fnt g hg)
    nd := h.nd
    ent := fun f hf => by
      by_cases q : f = e
      · subst q
        rw [Bt.set_same, Bt.set_same]
        have k1 : F i' ∨ (w.heap.size ≤ i' ∧ i' < w7.heap.size) := by
          rcases hi with q | q
          · rw [q]; exact .inl fi
          · exact .inr ⟨q, hil⟩
        have k2 : RepA w7 (fun g => g < w7.heap.size ∧ ¬ (F g ∨ (w.heap.size ≤ g ∧ g < w7.heap.size))) (key f) (.agg #[c0, c1, c2, c3, c4, c5]) := by
          refine repA_stays (fun g hg => hkey g hg.1 hg.2) (fun g hg => ⟨Nat.lt_of_lt_of_le hg.1 hsz, fun q => ?_⟩) _ _ h2
          rcases q with q | q
          · exact hg.2 q
          · have := hg.1; omega
        have k3 : IdsAt w7 (.slice (some ⟨i', 0, none⟩) (Bt.nins id (ids f)).length cap') (Bt.nins id (ids f)) := by
          refine owns_stays hr fun g hg => ?_
          obtain rfl : g = i' := by injection hg with hg; exact hg.symm
          exact hoth g hine.1 hine.2
        exact ⟨.inl fe, k1, c0, c1, c2, c3, c4, c5, cap', e7, k2, k3⟩
      · rw [Bt.set_other q, Bt.set_other q]
        obtain ⟨ff, fif, hE⟩ := h.ent f hf
        refine ⟨.inl ff, .inl fif, hE.stays ?_ ?_ fun g hg hF => ⟨hkey g hg hF, Nat.lt_of_lt_of_le hg hsz, fun q => ?_⟩⟩
        · exact (hoth f q (fun q => (h.tb_ne hf).1 q.symm)).trans (hk.block f (h.lt f ff) (h.e_ne hf he))
        · exact (hoth (ir f) (fun q => h.e_ne he hf q.symm) (fun q => (h.tb_ne hf).2 q.symm)).trans (hk.block _ (h.lt _ fif) fun q2 => q (h.inj f hf e he q2))
        · rcases q with q | q
          · exact hF q
          · omega
    inj := fun f hf g hg q => by
      have lt1 := h.lt _ (h.ent f hf).2.1
      have lt2 := h.lt _ (h.ent g hg).2.1
      by_cases q1 : f = e
      · by_cases q2 : g = e
        · rw [q1, q2]
        · rw [q1, Bt.set_same, Bt.set_other q2] at q
          rcases hi with q3 | q3
          · rw [q1]; exact h.inj e he g hg (by rw [← q3]; exact q)
          · omega
      · by_cases q2 : g = e
        · rw [q2, Bt.set_same, Bt.set_other q1] at q
          rcases hi with q3 | q3
          · rw [q2]; exact h.inj f hf e he (by rw [← q3]; exact q)
          · omega
        · rw [Bt.set_other q1, Bt.set_other q2] at q
          exact h.inj f hf g hg q
    wf := h.wf
    rises := h.rises
    lev := h.lev
    small := h.small
    asc := fun f hf => by
      by_cases q : f = e
      · subst q
        rw [Bt.set_same]
        exact ⟨Bt.nins_asc (h.asc f hf).1 hh, by rw [Bt.nins_length]; omega⟩
      · rw [Bt.set_other q]; exact h.asc f hf
    sum := by
      have e1 : ((Bt.flat t).map fun x => (Bt.set ids e (Bt.nins id (ids e)) x).length) = (Bt.flat t).map (Bt.set (fun x => (ids x).length) e ((ids e).length + 1)) := List.map_congr_left fun x _ => by
        by_cases q : x = e
        · subst q; rw [Bt.set_same, Bt.set_same, Bt.nins_length]
        · rw [Bt.set_other q, Bt.set_other q]
      rw [e1, Bt.set_sum (fun x => (ids x).length) e _ (Bt.rises_nodup h.rises) he, ← h.sum]
    le := by omega }
/-- a key that a tree has -/
theorem TA.at_has (h : TA w F tb t key ids ir n) (hU : Bn.HasU w) {x : V} {v : Value} (hv : Rep w w.heap.size x v) (hx : Bt.kerr x = 0) (W : World) (hW : Below w.heap.size w W) :
    Calls Tryz.prog 34 #[.pointer (some ⟨tb, 0, none⟩), v] W fun ex w' => ex = .returned (.tuple #[Bt.ptr (Bt.at? key x (Bt.flat t)), .int .i64 0]) ∧ Below W.heap.size W w' := by
  refine (at_c tb _ t w.heap.size key x v W (hU.stays hW) hW.size ((hW.block _ (lt_of_row h.box)).trans h.box) (RT.stays hW h.rt) h.up (rep_stays hW (Nat.le_refl _) _ _ hv)).mono ?_
  rintro ex w' ⟨rfl, hb⟩
  refine ⟨?_, hb⟩
  rw [if_pos hx, hx, Bt.look_flat h.wf h.rises]
  rfl
theorem TA.place (h : TA w F tb t key ids ir n) {e : Nat} (he : e ∈ Bt.flat t) (id : Nat) (W : World) (hW : Below w.heap.size w W) :
    Calls Tryz.prog 39 #[.pointer (some ⟨e, 0, none⟩), .int .u64 (id : Int)] W fun ex w' => ex = .returned (.tuple #[.int .i64 (Bt.nspot id (ids e) : Int), .bool (Bt.nhas id (ids e))]) ∧ Below W.heap.size W w' := by
  obtain ⟨fe, fi, c0, c1, c2, c3, c4, c5, cap, h1, h2, h3⟩ := h.ent e he
  have := h.few he
  have := h.le
  exact eplace_c e id (ir e) (ids e).length cap (ids e) c0 c1 c2 c3 c4 c5 W ((hW.block _ (h.lt e fe)).trans h1) (owns_stays h3 fun g hg => by
    obtain rfl : g = ir e := by injection hg with hg; exact hg.symm
    exact hW.block _ (h.lt _ fi)) (by omega) (h.asc e he).1
theorem Bt.at_mem {key : Nat → V} {x : V} {l : List Nat} {e : Nat} (h : Bt.at? key x l = some e) : e ∈ l := List.mem_of_find?_eq_some h
set_option maxHeartbeats 1000000 in
theorem put_twice (h : TA w F tb t key ids ir n) (hU : Bn.HasU w) {x : V} {v : Value} (hv : Rep w w.heap.size x v) (hx : Bt.kerr x = 0) {e id : Nat} (he : Bt.at? key x (Bt.flat t) = some e) (hh : Bt.nhas id (ids e) = true) :
    Calls Tryz.prog 24 #[.pointer (some ⟨tb, 0, none⟩), v, .int .u64 (id : Int)] w fun ex w' => ex = .returned (.int .i64 18) ∧ Below w.heap.size w w' := by
  have CA : Hid (∀ W, Below w.heap.size w W → Calls Tryz.prog 34 #[.pointer (some ⟨tb, 0, none⟩), v] W fun ex w' => ex = .returned (.tuple #[.pointer (some ⟨e, 0, none⟩), .int .i64 0]) ∧ Below W.heap.size W w') := fun W hW => by
    have := h.at_has hU hv hx W hW
    rw [he] at this
    exact this
  have CP : Hid (∀ W, Below w.heap.size w W → Calls Tryz.prog 39 #[.pointer (some ⟨e, 0, none⟩), .int .u64 (id : Int)] W fun ex w' => ex = .returned (.tuple #[.int .i64 (Bt.nspot id (ids e) : Int), .bool true]) ∧ Below W.heap.size W w') := fun W hW => by
    have := h.place (Bt.at_mem he) id W hW
    rw [hh] at this
    exact this
  obtain ⟨d0, d1, d2, d3, d4, d5, rfl⟩ := repV_box hv
  obtain ⟨i, hi⟩ : ∃ i, i = Bt.nspot id (ids e) := ⟨_, rfl⟩
  rw [← hi] at CP
  clear h hU hv hx he hh hi
  go_enter Tryz.func24, Tryz.ntmps24
  go_wp2_with (first | (go_at_call 34; refine (CA.out _ (below_new _ _)).mono ?_; rintro ex w2 ⟨rfl, hb⟩; have HB2 : Hid (Below w.heap.size w w2) := (below_new _ _).trans (hb.mono (by simp)); clear hb) | (go_at_call 39; refine (CP.out _ HB2.out).mono ?_; rintro ex w3 ⟨rfl, hb⟩; have HB3 : Hid (Below w.heap.size w w3) := HB2.out.trans (hb.mono HB2.out.size); clear hb))
  go_ret
  exact ⟨rfl, HB3.out⟩
/-- Drop of a number that a key has not -/
theorem drop_unknown (h : TA w F tb t key ids ir n) (hU : Bn.HasU w) {x : V} {v : Value} (hv : Rep w w.heap.size x v) (hx : Bt.kerr x = 0) {id : Nat} (he : Bt.at? key x (Bt.flat t) = none) :
    Calls Tryz.prog 25 #[.pointer (some ⟨tb, 0, none⟩), v, .int .u64 (id : Int)] w fun ex w' => ex = .returned (.int .i64 7) ∧ Below w.heap.size w w' := by
  have CA : Hid (∀ W, Below w.heap.size w W → Calls Tryz.prog 34 #[.pointer (some ⟨tb, 0, none⟩), v] W fun ex w' => ex = .returned (.tuple #[.pointer none, .int .i64 0]) ∧ Below W.heap.size W w') := fun W hW => by
    have := h.at_has hU hv hx W hW
    rw [he] at this
    exact this
  have CP : Hid (∀ W, Calls Tryz.prog 39 #[.pointer none, .int .u64 (id : Int)] W fun ex w' => ex = .returned (.tuple #[.int .i64 0, .bool false]) ∧ Below W.heap.size W w') := fun W => eplace_nil id W
  obtain ⟨d0, d1, d2, d3, d4, d5, rfl⟩ := repV_box hv
  clear h hU hv hx he
  go_enter Tryz.func25, Tryz.ntmps25
  go_wp2_with (first | (go_at_call 34; refine (CA.out _ (below_new _ _)).mono ?_; rintro ex w2 ⟨rfl, hb⟩; have HB2 : Hid (Below w.heap.size w w2) := (below_new _ _).trans (hb.mono (by simp)); clear hb) | (go_at_call 39; refine (CP.out _).mono ?_; rintro ex w3 ⟨rfl, hb⟩; have HB3 : Hid (Below w.heap.size w w3) := HB2.out.trans (hb.mono HB2.out.size); clear hb))
  go_ret
  exact ⟨rfl, HB3.out⟩
end
end Go.Proofs.YtkigenldiinioaaGreatDoor
/- Put of one more number of a key that a tree has: walked. -/
namespace Go.Proofs.YtkigenldiinioaaGreatDoor
open Go.RowKit
open Vl (V)
attribute [local go_sem ↓] Go.wp_at_zero Go.wp_at_succ
/-- numbers as cells -/
def Bt.nums (l : List Nat) : List Value := l.map fun (x : Nat) => Value.int .u64 (x : Int)
theorem nums_one {l : List Nat} : ∀ u ∈ Bt.nums l, u.oneCell' = true := fun u hu => by
  rw [Bt.nums, List.mem_map] at hu
  obtain ⟨e, _, rfl⟩ := hu
  rfl
/-- one more number in a row, in whatever world -/
theorem insN_c {w W : World} {i0 cap id : Nat} {l : List Nat} (hI : IdsAt w (.slice (some ⟨i0, 0, none⟩) l.length cap) l) (hl : l.length ≤ 1000000) (hW : Below w.heap.size w W) :
    Calls Tryz.prog 43 #[.slice (some ⟨i0, 0, none⟩) l.length cap, .int .i64 (Bt.nspot id l : Int), .slice (some ⟨W.heap.size, 0, none⟩) 1 1] (W.alloc (.cells #[.int .u64 (id : Int)] 51)) fun ex w' => ∃ i' cap', ex = .returned (.slice (some ⟨i', 0, none⟩) (l.length + 1) cap') ∧ Kept (fun g => g = i0) w w' ∧ (i' = i0 ∨ w.heap.size ≤ i') ∧ IdsAt w' (.slice (some ⟨i', 0, none⟩) (Bt.nins id l).length cap') (Bt.nins id l) := by
  obtain ⟨X, hX⟩ : ∃ X, X = W.alloc (.cells #[.int .u64 (id : Int)] 51) := ⟨_, rfl⟩
  have bX : Below w.heap.size w X := by rw [hX]; exact hW.alloc hW.size _
  have sX : X.heap.size = W.heap.size + 1 := by rw [hX]; simp
  rw [← hX]
  obtain ⟨hn, hg, hc⟩ := ids_cells hI
  have hoX : X.ownsRow 0 51 1 (.slice (some ⟨i0, 0, none⟩) l.length cap) l.length (Bt.nums l) := owns_stays hI fun g q => by
    obtain rfl : g = i0 := by injection q with q; exact q.symm
    exact bX.block g hg
  have hi : Bt.nspot id l ≤ l.length := (List.takeWhile_sublist _).length_le
  refine (insU_c l.length (Bt.nspot id l) W.heap.size (Bt.nums l) (.int .u64 (id : Int)) _ X hoX hi hl (by rw [hX]; exact heap_alloc_new W _) (fun q => absurd (Option.some.inj (show some i0 = some W.heap.size from q)) (by have := hW.size; omega)) nums_one rfl).mono ?_
  rintro ex w' ⟨v', rfl, o1, g1, at1⟩
  have e1 : (Bt.nums l).take (Bt.nspot id l) ++ Value.int .u64 (id : Int) :: (Bt.nums l).drop (Bt.nspot id l) = Bt.nums (Bt.nins id l) := by simp [Bt.nums, Bt.nins]
  rw [e1] at o1
  obtain ⟨r', cap', rfl⟩ := ownsRow_succ o1
  refine ⟨r', cap', rfl, ⟨g1.os.trans bX.os, g1.tape.trans bX.tape, g1.output.trans bX.output, Nat.le_trans bX.size g1.size, fun k hk hm => ?_⟩, ?_, ?_⟩
  · exact (g1.block k (Nat.lt_of_lt_of_le hk bX.size) (fun q => hm (Option.some.inj (show some k = some i0 from q)))).trans (bX.block k hk)
  · rcases at1 with q | q
    · left; exact Option.some.inj (show some r' = some i0 from q)
    · right
      have q2 := Option.some.inj (show some r' = some X.heap.size from q)
      have := bX.size
      omega
  · rw [IdsAt, Bt.nins_length]
    exact o1
section
variable {w : World} {F : Nat → Prop} {tb : Nat} {t : Bt.T} {key : Nat → V} {ids : Nat → List Nat} {ir : Nat → Nat} {n : Nat}
set_option maxHeartbeats 4000000 in
set_option maxRecDepth 100000 in
theorem put_more (h : TA w F tb t key ids ir n) (hU : Bn.HasU w) {x : V} {v : Value} (hv : Rep w w.heap.size x v) (hx : Bt.kerr x = 0) {e id : Nat} (he : Bt.at? key x (Bt.flat t) = some e) (hh : Bt.nhas id (ids e) = false) (hn : n < 1024) :
    Calls Tryz.prog 24 #[.pointer (some ⟨tb, 0, none⟩), v, .int .u64 (id : Int)] w fun ex w' => ex = .returned (.int .i64 0) ∧ ∃ i', Kept (OB tb t ir) w w' ∧ TA w' (fun g => F g ∨ (w.heap.size ≤ g ∧ g < w'.heap.size)) tb t key (Bt.set ids e (Bt.nins id (ids e))) (Bt.set ir e i') (n + 1) ∧ ∀ g, OB tb t (Bt.set ir e i') g → OB tb t ir g ∨ w.heap.size ≤ g := by
  have hm := Bt.at_mem he
  obtain ⟨i, hi⟩ : ∃ i, i = Bt.nspot id (ids e) := ⟨_, rfl⟩
  have CA : Hid (∀ W, Below w.heap.size w W → Calls Tryz.prog 34 #[.pointer (some ⟨tb, 0, none⟩), v] W fun ex w' => ex = .returned (.tuple #[.pointer (some ⟨e, 0, none⟩), .int .i64 0]) ∧ Below W.heap.size W w') := fun W hW => by
    have := h.at_has hU hv hx W hW
    rw [he] at this
    exact this
  have CP : Hid (∀ W, Below w.heap.size w W → Calls Tryz.prog 39 #[.pointer (some ⟨e, 0, none⟩), .int .u64 (id : Int)] W fun ex w' => ex = .returned (.tuple #[.int .i64 (i : Int), .bool false]) ∧ Below W.heap.size W w') := fun W hW => by
    have := h.place hm id W hW
    rw [hh, ← hi] at this
    exact this
  obtain ⟨fe, fi, c0, c1, c2, c3, c4, c5, cap, h1, h2, h3⟩ := h.ent e hm
  obtain ⟨l, hl⟩ : ∃ l, l = ids e := ⟨_, rfl⟩
  obtain ⟨ln, hln⟩ : ∃ ln, ln = l.length := ⟨_, rfl⟩
  have hfew : l.length ≤ 1000000 := by rw [hl]; have := h.few hm; have := h.le; omega
  have HT : Hid (∀ W, Below w.heap.size w W → W.cell? ⟨tb, 1, none⟩ = some (.int .i64 (n : Int)) ∧ W.cell? ⟨e, 6, none⟩ = some (.slice (some ⟨ir e, 0, none⟩) ln cap)) := fun W hW => ⟨cells_at ((hW.block _ (lt_of_row h.box)).trans h.box) 1 _ rfl, by rw [hln, hl]; exact cells_at ((hW.block _ (lt_of_row h1)).trans h1) 6 _ rfl⟩
  have CJ : Hid (∀ W, Below w.heap.size w W → Calls Tryz.prog 43 #[.slice (some ⟨ir e, 0, none⟩) ln cap, .int .i64 (i : Int), .slice (some ⟨W.heap.size, 0, none⟩) 1 1] (W.alloc (.cells #[.int .u64 (id : Int)] 51)) fun ex w' => ∃ i' cap', ex = .returned (.slice (some ⟨i', 0, none⟩) (ln + 1) cap') ∧ Hid (Kept (fun g => g = ir e) w w' ∧ (i' = ir e ∨ w.heap.size ≤ i') ∧ IdsAt w' (.slice (some ⟨i', 0, none⟩) (Bt.nins id l).length cap') (Bt.nins id l))) := fun W hW => by
    rw [← hl] at h3 hi
    rw [hln, hi]
    exact insN_c h3 hfew hW
  have HE : Hid (∀ W i' cap', Kept (fun g => g = ir e) w W ∧ (i' = ir e ∨ w.heap.size ≤ i') ∧ IdsAt W (.slice (some ⟨i', 0, none⟩) (Bt.nins id l).length cap') (Bt.nins id l) → W.heap[e]? = some (.cells #[c0, c1, c2, c3, c4, c5, .slice (some ⟨ir e, 0, none⟩) ln cap] 73 (0, 0)) ∧ (W.setCell ⟨e, 6, none⟩ (.slice (some ⟨i', 0, none⟩) (ln + 1) cap')).heap[tb]? = some (.cells #[Bt.ptr (Bt.top t), .int .i64 (n : Int)] 69 (0, 0)) ∧ Kept (OB tb t ir) w ((W.setCell ⟨e, 6, none⟩ (.slice (some ⟨i', 0, none⟩) (ln + 1) cap')).setCell ⟨tb, 1, none⟩ (.int .i64 ((n + 1 : Nat) : Int))) ∧ TA ((W.setCell ⟨e, 6, none⟩ (.slice (some ⟨i', 0, none⟩) (ln + 1) cap')).setCell ⟨tb, 1, none⟩ (.int .i64 ((n + 1 : Nat) : Int))) (fun g => F g ∨ (w.heap.size ≤ g ∧ g < ((W.setCell ⟨e, 6, none⟩ (.slice (some ⟨i', 0, none⟩) (ln + 1) cap')).setCell ⟨tb, 1, none⟩ (.int .i64 ((n + 1 : Nat) : Int))).heap.size)) tb t key (Bt.set ids e (Bt.nins id (ids e))) (Bt.set ir e i') (n + 1) ∧ ∀ g, OB tb t (Bt.set ir e i') g → OB tb t ir g ∨ w.heap.size ≤ g) := fun W i' cap' ⟨k1, k2, k3⟩ => by
    have e1 : ln + 1 = (Bt.nins id (ids e)).length := by rw [Bt.nins_length, hln, hl]
    rw [hl] at k3
    refine ⟨?_, ?_, ?_⟩
    · rw [hln, hl]; exact (k1.block e (h.lt e fe) (h.e_ne hm hm)).trans h1
    · rw [heap_setCell_other _ _ _ _ (h.tb_ne hm).1]
      exact (k1.block tb (h.lt tb h.fbox) (h.tb_ne hm).2).trans h.box
    · rw [e1]
      exact h.more hm hn hh k1 k2 k3 rfl
  obtain ⟨d0, d1, d2, d3, d4, d5, rfl⟩ := repV_box hv
  have qn : ¬ ((1024 : Int) ≤ (n : Int)) := by omega
  have qd : decide ((1024 : Int) ≤ (n : Int)) = false := decide_eq_false qn
  obtain ⟨n1, hn1⟩ : ∃ n1, n1 = n + 1 := ⟨_, rfl⟩
  obtain ⟨v1, v2⟩ : IntKind.i64.wrap ((n : Int) + 1) = (n1 : Int) ∧ wrap64 ((n : Int) + 1) = (n1 : Int) := Bt.wr (by omega) (by omega)
  have HN1 : Hid (n1 = n + 1) := hn1
  clear h hU hv hx he hh hi hm hn hl hln hfew fe fi h1 h2 h3 hn1
  go_enter Tryz.func24, Tryz.ntmps24
  go_upto_region 7 with (first | (go_at_call 34; refine (CA.out _ (below_new _ _)).mono ?_; rintro ex w2 ⟨rfl, hb⟩; have HB2 : Hid (Below w.heap.size w w2) := (below_new _ _).trans (hb.mono (by simp)); clear hb) | (go_at_call 39; refine (CP.out _ HB2.out).mono ?_; rintro ex w3 ⟨rfl, hb⟩; have HB3 : Hid (Below w.heap.size w w3) := HB2.out.trans (hb.mono HB2.out.size); clear hb))
  obtain ⟨t1, t2⟩ := HT.out w3 HB3.out
  clear CA CP HT
  go_upto_region 13 with (go_at_call 43; refine (CJ.out _ HB3.out).mono ?_; rintro ex w5 ⟨i', cap', rfl, HV⟩; clear t1 t2; have u6 := cells_at (HE.out w5 i' cap' HV.out).1 6 _ rfl; have fz := row_freeV (HE.out w5 i' cap' HV.out).1)
  obtain ⟨w6, hw6⟩ : ∃ w6, w6 = w5.setCell ⟨e, 6, none⟩ (.slice (some ⟨i', 0, none⟩) (ln + 1) cap') := ⟨_, rfl⟩
  have HF := HE.out w5 i' cap' HV.out
  rw [← hw6] at HF ⊢
  have HF2 : Hid (Kept (OB tb t ir) w (w6.setCell ⟨tb, 1, none⟩ (.int .i64 ((n + 1 : Nat) : Int))) ∧ TA (w6.setCell ⟨tb, 1, none⟩ (.int .i64 ((n + 1 : Nat) : Int))) (fun g => F g ∨ (w.heap.size ≤ g ∧ g < (w6.setCell ⟨tb, 1, none⟩ (.int .i64 ((n + 1 : Nat) : Int))).heap.size)) tb t key (Bt.set ids e (Bt.nins id (ids e))) (Bt.set ir e i') (n + 1) ∧ ∀ g, OB tb t (Bt.set ir e i') g → OB tb t ir g ∨ w.heap.size ≤ g) := HF.2.2
  have y1 := cells_at HF.2.1 1 _ rfl
  have fy := row_freeV HF.2.1
  clear HF HE CJ HV hw6 u6 fz
  go_wp2
  clear v1 v2
  go_ret
  rw [HN1.out]
  exact ⟨rfl, i', HF2.out⟩
end
end Go.Proofs.YtkigenldiinioaaGreatDoor
/- A tree with one more key: what it comes to; what node.with has to do; where there is room it does. -/
namespace Go.Proofs.YtkigenldiinioaaGreatDoor
open Go.RowKit
open Vl (V)
/-- what node.with makes -/
def WithOK (t : Bt.T) : Prop := ∀ (key : Nat → V) (W : World) (e : Nat), NT W t → Bt.wf t → Bt.Rises key (Bt.flat t) → (∀ x ∈ Bt.flat t, EK W W.heap.size (key x) x) → EK W W.heap.size (key e) e → Bt.at? key (key e) (Bt.flat t) = none → (Bt.flat t).length < 1024 → (Bt.blocks t).Nodup → Bt.levels t = Bt.fewest (Bt.flat t).length →
  Calls Tryz.prog 40 #[Bt.ptr (Bt.top t), .pointer (some ⟨e, 0, none⟩), .int .i64 (Bt.fewest ((Bt.flat t).length + 1) : Int)] W fun ex w' => ∃ t', ex = .returned (Bt.ptr (Bt.top t')) ∧ Only (Bt.blocks t) W w' ∧ NT w' t' ∧ Bt.wf t' ∧ Bt.flat t' = Bt.kins key e (Bt.flat t) ∧ Bt.levels t' = Bt.fewest ((Bt.flat t).length + 1) ∧ (Bt.blocks t').Nodup ∧ ∀ g ∈ Bt.blocks t', g ∈ Bt.blocks t ∨ W.heap.size ≤ g
theorem node_nd {w : World} {g r : Nat} {es : List Nat} (h : NT w (.node g r es .nil .nil .nil .nil)) : (Bt.blocks (.node g r es .nil .nil .nil .nil)).Nodup := by
  obtain ⟨⟨cap, h1, h2⟩, _⟩ := h
  have hne : g ≠ r := by
    rcases h2.2 with ⟨h3, _⟩ | ⟨g', cap', cur, h3, _, h4, _⟩
    · cases h3
    · cases h3
      exact Typ.ne (w := w) ⟨_, _, h1⟩ ⟨_, _, h4⟩ (by decide : (95 : Nat) ≠ 71)
  simp [Bt.blocks, hne]
theorem withOK_nil : WithOK .nil := fun key W e _ _ _ _ _ _ _ _ _ => by
  refine (with_nil e _ W).mono ?_
  rintro ex w' ⟨g, r, rfl, hb, hN, hg, hr⟩
  refine ⟨.node g r [e] .nil .nil .nil .nil, rfl, ⟨hb.os, hb.tape, hb.output, hb.size, fun k hk _ => hb.block k hk⟩, hN, ⟨by simp, by simp, fun _ => ⟨rfl, rfl, rfl, rfl⟩, trivial, trivial, trivial, trivial⟩, ?_, ?_, node_nd hN, fun x hx => ?_⟩
  · rw [Bt.flat_one _ _ _ (by simp)]
    simp [Bt.flat, Bt.kins]
  · simp only [Bt.levels, Bt.flat, List.length_nil]
    rw [Bt.fewest_pos (by omega), show (0 + 1) / 4 = 0 from rfl, Bt.fewest_zero]
    rfl
  · simp only [Bt.blocks, List.append_nil, List.mem_cons, List.not_mem_nil, or_false] at hx
    rcases hx with rfl | rfl
    · exact .inr hg
    · exact .inr hr
theorem withOK_few {g r : Nat} {es : List Nat} (h3 : es.length < 3) : WithOK (.node g r es .nil .nil .nil .nil) := fun key W e hN hw hr hk he _ _ _ _ => by
  have h1 : 1 ≤ es.length := hw.1
  have hf : Bt.flat (.node g r es .nil .nil .nil .nil) = es := Bt.flat_one _ _ _ (by omega)
  rw [hf] at hr hk ⊢
  refine (with_few g r e _ W.heap.size es key W hN h1 h3 hk he hr (Nat.le_refl _)).mono ?_
  rintro ex w' ⟨r', rfl, ho, hN', hr'⟩
  have hl : (Bt.kins key e es).length < 4 := by rw [Bt.kins_length]; omega
  refine ⟨.node g r' (Bt.kins key e es) .nil .nil .nil .nil, rfl, ho, hN', ⟨by rw [Bt.kins_length]; omega, by omega, fun _ => ⟨rfl, rfl, rfl, rfl⟩, trivial, trivial, trivial, trivial⟩, Bt.flat_one _ _ _ hl, ?_, node_nd hN', fun x hx => ?_⟩
  · simp only [Bt.levels]
    rw [Bt.fewest_pos (by omega), show (es.length + 1) / 4 = 0 by omega, Bt.fewest_zero]
    rfl
  · simp only [Bt.blocks, List.append_nil, List.mem_cons, List.not_mem_nil, or_false] at hx ⊢
    rcases hx with rfl | rfl
    · exact .inl (.inl rfl)
    · rcases hr' with q | q
      · exact .inl (.inr q)
      · exact .inr q
theorem count_t (t : Bt.T) (W : World) (h : NT W t) : Calls Tryz.prog 42 #[Bt.ptr (Bt.top t)] W fun e w' => e = .returned (.int .i64 ((Bt.flat t).length : Int)) ∧ w' = W := by
  cases t with
  | nil => exact count_nil W
  | node g r es a b c d =>
    obtain ⟨⟨cap, h1, _⟩, _⟩ := h
    exact count_node g _ _ _ _ _ _ W h1
theorem Bt.at_congr {key key' : Nat → V} {x : V} {l : List Nat} (h : ∀ e ∈ l, key' e = key e) : Bt.at? key' x l = Bt.at? key x l := by
  induction l with
  | nil => rfl
  | cons y r ih => rw [Bt.at_cons, Bt.at_cons, h y (by simp), ih fun e he => h e (by simp [he])]
theorem Bt.rises_congr {key key' : Nat → V} {l : List Nat} (h : ∀ e ∈ l, key' e = key e) (hr : Bt.Rises key l) : Bt.Rises key' l := hr.imp_of_mem fun {a b} ha hb hab => by rw [h a ha, h b hb]; exact hab
section
variable {w : World} {F : Nat → Prop} {tb : Nat} {t : Bt.T} {key : Nat → V} {ids : Nat → List Nat} {ir : Nat → Nat} {n : Nat}
/-- one more key -/
theorem TA.grew (h : TA w F tb t key ids ir n) {w3 w8 : World} (h3 : Below w.heap.size w w3) {x : V} {c0 c1 c2 c3 c4 c5 : Value} (hx : RepA w3 (fun g => w.heap.size ≤ g ∧ g < w3.heap.size) x (.agg #[c0, c1, c2, c3, c4, c5])) (hsm : Vl.small x) {e id : Nat} (he : e = w3.heap.size)
    (k8 : Kept (fun g => g ∈ Bt.blocks t ∨ g = tb) w3 w8) {t' : Bt.T} (box : w8.heap[tb]? = some (.cells #[Bt.ptr (Bt.top t'), .int .i64 ((n + 1 : Nat) : Int)] 69 (0, 0))) (nt' : NT w8 t') (sub : ∀ g ∈ Bt.blocks t', g ∈ Bt.blocks t ∨ w3.heap.size ≤ g) (nd' : (Bt.blocks t').Nodup) (wf' : Bt.wf t') (fl' : Bt.flat t' = Bt.kins (Bt.set key e x) e (Bt.flat t)) (lev' : Bt.levels t' = Bt.fewest ((Bt.flat t).length + 1))
    {i' cap' : Nat} (he8 : w8.heap[e]? = some (.cells #[c0, c1, c2, c3, c4, c5, .slice (some ⟨i', 0, none⟩) 1 cap'] 73 (0, 0))) (hi' : w3.heap.size ≤ i') (hrow : IdsAt w8 (.slice (some ⟨i', 0, none⟩) 1 cap') [id]) (hn : n < 1024) (hat : Bt.at? key x (Bt.flat t) = none) :
    Kept (OB tb t ir) w w8 ∧ TA w8 (fun g => F g ∨ (w3.heap.size ≤ g ∧ g < w8.heap.size)) tb t' (Bt.set key e x) (Bt.set ids e [id]) (Bt.set ir e i') (n + 1) ∧ ∀ g, OB tb t' (Bt.set ir e i') g → OB tb t ir g ∨ w.heap.size ≤ g := by
  have s3 := h3.size
  have s8 := k8.size
  have hnew : ∀ f ∈ Bt.flat t, f ≠ e := fun f hf q => by have := h.lt f (h.ent f hf).1; omega
  have hmem : ∀ f, f ∈ Bt.flat t' ↔ f = e ∨ f ∈ Bt.flat t := fun f => by rw [fl']; exact Bt.mem_kins
  have blk : ∀ k, k < w3.heap.size → k ∉ Bt.blocks t → k ≠ tb → w8.heap[k]? = w3.heap[k]? := fun k hk q1 q2 => k8.block k hk fun q => q.elim q1 q2
  have hkey : ∀ g, g < w.heap.size → ¬ F g → w8.heap[g]? = w.heap[g]? := fun g hg hf =>
    (blk g (by omega) (fun q => hf (h.fnt g q)) (fun q => hf (q ▸ h.fbox))).trans (h3.block g hg)
  have hii : i' < w8.heap.size := by
    rcases hrow.2 with ⟨h4, _⟩ | ⟨g', cap2, cur, h4, _, h5, _⟩
    · cases h4
    · cases h4; exact lt_of_row h5
  have hee : e < w8.heap.size := lt_of_row he8
  have key_old : ∀ f ∈ Bt.flat t, Bt.set key e x f = key f := fun f hf => Bt.set_other (hnew f hf)
  refine ⟨⟨k8.os.trans h3.os, k8.tape.trans h3.tape, k8.output.trans h3.output, by omega, fun g hg hf => (blk g (by omega) (fun q => hf (.inr (.inl q))) (fun q => hf (.inl q))).trans (h3.block g hg)⟩, ?_, fun g hg => ?_⟩
  rotate_left
  · rcases hg with q | q | ⟨f, hf, q⟩
    · exact .inl (.inl q)
    · rcases sub g q with q2 | q2
      · exact .inl (.inr (.inl q2))
      · exact .inr (by omega)
    · rcases (hmem f).1 hf with q2 | q2
      · rcases q with q | q
        · exact .inr (by omega)
        · rw [q2, Bt.set_same] at q
          exact .inr (by omega)
      · rw [Bt.set_other (hnew f q2)] at q
        exact .inl (.inr (.inr ⟨f, q2, q⟩))
  exact {
    box := box
    lt := fun g hg => by
      rcases hg with q | q
      · have := h.lt g q; omega
      · exact q.2
    fbox := .inl h.fbox
    nt := nt'
    fnt := fun g hg => by
      rcases sub g hg with q | q
      · exact .inl (h.fnt g q)
      · exact .inr ⟨q, nt_lt nt' g hg⟩
    nd := nd'
    ent := fun f hf => by
      rcases (hmem f).1 hf with q | q
      · rw [q, Bt.set_same, Bt.set_same, Bt.set_same]
        have k2 : RepA w8 (fun g => g < w8.heap.size ∧ ¬ (F g ∨ (w3.heap.size ≤ g ∧ g < w8.heap.size))) x (.agg #[c0, c1, c2, c3, c4, c5]) := by
          refine repA_stays (fun g hg => ?_) (fun g hg => ⟨by have := hg.2; omega, fun q => ?_⟩) _ _ hx
          · refine blk g hg.2 (fun q => ?_) (fun q => ?_)
            · have := h.lt g (h.fnt g q); have := hg.1; omega
            · have := h.lt tb h.fbox; have := hg.1; omega
          · rcases q with q | q
            · have := h.lt g q; have := hg.1; omega
            · have := hg.2; omega
        exact ⟨.inr ⟨by omega, hee⟩, .inr ⟨hi', hii⟩, c0, c1, c2, c3, c4, c5, cap', he8, k2, hrow⟩
      · rw [Bt.set_other (hnew f q), Bt.set_other (hnew f q), Bt.set_other (hnew f q)]
        obtain ⟨ff, fi, hE⟩ := h.ent f q
        have l1 := h.lt f ff
        have l2 := h.lt _ fi
        refine ⟨.inl ff, .inl fi, hE.stays ?_ ?_ fun g hg hF => ⟨hkey g hg hF, by omega, fun q => ?_⟩⟩
        · exact (blk f (by omega) (fun q2 => ((h.blk_ne q2).2 f q).1 rfl) (fun q2 => (h.tb_ne q).1 q2.symm)).trans (h3.block f l1)
        · exact (blk (ir f) (by omega) (fun q2 => ((h.blk_ne q2).2 f q).2 rfl) (fun q2 => (h.tb_ne q).2 q2.symm)).trans (h3.block _ l2)
        · rcases q with q | q
          · exact hF q
          · omega
    inj := fun f hf g hg q => by
      rcases (hmem f).1 hf with q1 | q1
      · rcases (hmem g).1 hg with q2 | q2
        · rw [q1, q2]
        · rw [q1, Bt.set_same, Bt.set_other (hnew g q2)] at q
          have := h.lt _ (h.ent g q2).2.1
          omega
      · rcases (hmem g).1 hg with q2 | q2
        · rw [q2, Bt.set_same, Bt.set_other (hnew f q1)] at q
          have := h.lt _ (h.ent f q1).2.1
          omega
        · rw [Bt.set_other (hnew f q1), Bt.set_other (hnew g q2)] at q
          exact h.inj f q1 g q2 q
    wf := wf'
    rises := by
      rw [fl']
      refine Bt.kins_rises (Bt.rises_congr key_old h.rises) ?_
      rw [Bt.set_same, Bt.at_congr key_old]
      exact hat
    lev := by rw [lev', fl', Bt.kins_length]
    small := fun f hf => by
      rcases (hmem f).1 hf with q | q
      · rw [q, Bt.set_same]; exact hsm
      · rw [key_old f q]; exact h.small f q
    asc := fun f hf => by
      rcases (hmem f).1 hf with q | q
      · rw [q, Bt.set_same]; exact ⟨by simp, by simp⟩
      · rw [Bt.set_other (hnew f q)]; exact h.asc f q
    sum := by
      rw [fl', Bt.kins_sum (fun y => (Bt.set ids e [id] y).length), Bt.set_same]
      have e1 : ((Bt.flat t).map fun y => (Bt.set ids e [id] y).length) = (Bt.flat t).map fun y => (ids y).length := List.map_congr_left fun y hy => by rw [Bt.set_other (hnew y hy)]
      rw [e1, ← h.sum]
      rfl
    le := by omega }
end
end Go.Proofs.YtkigenldiinioaaGreatDoor
