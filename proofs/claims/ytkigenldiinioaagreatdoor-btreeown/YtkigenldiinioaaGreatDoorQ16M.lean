/- Several texts, joined: BtQ, BtS -/
import Derived.Test.YtkigenldiinioaaGreatDoorQ15M
import Derived.Test.YtkigenldiinioaaGreatDoorQ08M
/- A tree's own calls that read: New, at, Find, Count, Depth, walked; those of no tree. -/
namespace Go.Proofs.YtkigenldiinioaaGreatDoor
open Go.RowKit
open Vl (V)
attribute [local go_sem ↓] Go.wp_at_zero Go.wp_at_succ
theorem new_c (w : World) : Calls Tryz.prog 23 #[] w fun e w' => e = .returned (.pointer (some ⟨w.heap.size, 0, none⟩)) ∧ w' = w.alloc (.cells #[.pointer none, .int .i64 0] 69) := by
  go_enter Tryz.func23, Tryz.ntmps23
  go_wp2
  go_ret
  exact ⟨rfl, rfl⟩
theorem count_none (w : World) : Calls Tryz.prog 18 #[.pointer none] w fun e w' => e = .returned (.int .i64 0) ∧ w' = w := by
  go_enter Tryz.func18, Tryz.ntmps18
  go_wp2
  go_ret
  exact ⟨rfl, rfl⟩
theorem depth_none (w : World) : Calls Tryz.prog 20 #[.pointer none] w fun e w' => e = .returned (.int .i64 0) ∧ w' = w := by
  go_enter Tryz.func20, Tryz.ntmps20
  go_wp2
  go_ret
  exact ⟨rfl, rfl⟩
set_option maxHeartbeats 1000000 in
theorem count_tree (tb n : Nat) (p : Value) (w : World) (h : w.heap[tb]? = some (.cells #[p, .int .i64 (n : Int)] 69 (0, 0))) : Calls Tryz.prog 18 #[.pointer (some ⟨tb, 0, none⟩)] w fun e w' => e = .returned (.int .i64 (n : Int)) ∧ w' = w := by
  have c := cells_at h 1 (.int .i64 (n : Int)) rfl
  clear h
  go_enter Tryz.func18, Tryz.ntmps18
  go_wp2
  go_ret
  exact ⟨rfl, rfl⟩
set_option maxHeartbeats 1000000 in
theorem depth_tree (tb n : Nat) (t : Bt.T) (w : World) (h : w.heap[tb]? = some (.cells #[Bt.ptr (Bt.top t), .int .i64 (n : Int)] 69 (0, 0))) (hT : NT w t) (hl : Bt.levels t ≤ 1000) : Calls Tryz.prog 20 #[.pointer (some ⟨tb, 0, none⟩)] w fun e w' => e = .returned (.int .i64 (Bt.levels t : Int)) ∧ w' = w := by
  have C : Hid (Calls Tryz.prog 37 #[Bt.ptr (Bt.top t)] w fun e w' => e = .returned (.int .i64 (Bt.levels t : Int)) ∧ w' = w) := levels_c t w hT hl
  obtain ⟨po, hpo⟩ : ∃ po, Bt.ptr (Bt.top t) = .pointer po := ⟨_, rfl⟩
  obtain ⟨lv, hlv⟩ : ∃ lv, lv = Bt.levels t := ⟨_, rfl⟩
  rw [hpo, ← hlv] at C
  rw [hpo] at h
  rw [← hlv]
  have c := cells_at h 0 (.pointer po) rfl
  clear h hT hl hlv hpo
  go_enter Tryz.func20, Tryz.ntmps20
  go_wp2_with (go_at_call 37; refine C.out.mono ?_; rintro e w' ⟨rfl, rfl⟩)
  go_ret
  exact ⟨rfl, rfl⟩
set_option maxHeartbeats 1000000 in
theorem at_none (v : Value) (d0 d1 d2 d3 d4 d5 : Value) (hv : v = .agg #[d0, d1, d2, d3, d4, d5]) (w : World) : Calls Tryz.prog 34 #[.pointer none, v] w fun e w' => e = .returned (.tuple #[.pointer none, .int .i64 1]) ∧ Below w.heap.size w w' := by
  subst hv
  go_enter Tryz.func34, Tryz.ntmps34
  go_wp2
  go_ret2
  exact ⟨rfl, below_new _ _⟩
/-- the error of a key -/
def Bt.kerr (x : V) : Nat := Vl.check Bn.u8 0 x
set_option maxHeartbeats 4000000 in
set_option maxRecDepth 100000 in
theorem at_c (tb : Nat) (n : Value) (t : Bt.T) (H : Nat) (key : Nat → V) (x : V) (v : Value) (w : World) (hU : Bn.HasU w) (hH : H ≤ w.heap.size) (h : w.heap[tb]? = some (.cells #[Bt.ptr (Bt.top t), n] 69 (0, 0))) (hT : RT w H key t) (hu : Bt.up key t) (hv : Rep w H x v) :
    Calls Tryz.prog 34 #[.pointer (some ⟨tb, 0, none⟩), v] w fun e w' => e = .returned (.tuple #[if Bt.kerr x = 0 then Bt.ptr (Bt.look key x t) else .pointer none, .int .i64 (Bt.kerr x : Int)]) ∧ Below w.heap.size w w' := by
  obtain ⟨d0, d1, d2, d3, d4, d5, rfl⟩ := repV_box hv
  obtain ⟨w1, hw1⟩ : ∃ w1, w1 = w.alloc (.cells #[d0, d1, d2, d3, d4, d5] 27) := ⟨_, rfl⟩
  obtain ⟨B, hBe⟩ : ∃ B, B = w.heap.size := ⟨_, rfl⟩
  have b1 : Below w.heap.size w w1 := by rw [hw1]; exact below_new _ _
  have hB : w1.heap[B]? = some (.cells #[d0, d1, d2, d3, d4, d5] 27 (0, 0)) := by rw [hw1, hBe]; exact heap_alloc_new w _
  obtain ⟨ke, hke⟩ : ∃ ke, ke = Bt.kerr x := ⟨_, rfl⟩
  rw [← hke]
  have CC : Hid (Calls Tryz.prog 30 #[.agg #[d0, d1, d2, d3, d4, d5]] w1 fun e w' => e = .returned (.int .i64 (ke : Int)) ∧ Below w1.heap.size w1 w') := by
    show Calls _ _ _ _ _
    rw [hke]
    exact check27 x w1 (hU.stays b1) H _ (Nat.le_trans hH b1.size) (rep_stays (b1.mono hH) (Nat.le_refl _) _ _ hv)
  obtain ⟨po, hpo⟩ : ∃ po, Bt.ptr (Bt.top t) = .pointer po := ⟨_, rfl⟩
  obtain ⟨lk, hlk⟩ : ∃ lk, Bt.ptr (Bt.look key x t) = .pointer lk := ⟨_, rfl⟩
  rw [hlk]
  have hlt := lt_of_row h
  have HA : Hid (∀ W, Below w1.heap.size w1 W → Below w.heap.size w W ∧ W.heap[B]? = some (.cells #[d0, d1, d2, d3, d4, d5] 27 (0, 0)) ∧ W.heap[tb]? = some (.cells #[.pointer po, n] 69 (0, 0)) ∧ Calls Tryz.prog 57 #[.pointer po, .agg #[d0, d1, d2, d3, d4, d5]] W fun e w' => e = .returned (.pointer lk) ∧ Below W.heap.size W w') := fun W hW => by
    have hb := b1.trans (hW.mono b1.size)
    refine ⟨hb, (hW.block _ (lt_of_row hB)).trans hB, by rw [← hpo]; exact (hb.block _ hlt).trans h, ?_⟩
    rw [← hpo, ← hlk]
    exact find_c t H key x _ W (Nat.le_trans hH hb.size) (RT.stays (hb.mono hH) hT) hu (rep_stays (hb.mono hH) (Nat.le_refl _) _ _ hv)
  have cb := fun i u (hi : #[d0, d1, d2, d3, d4, d5][i]? = some u) => cells_at hB i u hi
  have c0 := cb 0 d0 rfl
  have c1 := cb 1 d1 rfl
  have c2 := cb 2 d2 rfl
  have c3 := cb 3 d3 rfl
  have c4 := cb 4 d4 rfl
  have c5 := cb 5 d5 rfl
  clear cb hke hB b1 hpo hlk hlt h hT hu hv hU hH
  go_enter Tryz.func34, Tryz.ntmps34
  go_upto_region 1 with fail
  rw [← hw1, ← hBe]
  clear hw1 hBe
  go_wp2_with fail
  refine CC.out.mono ?_
  rintro e w2 ⟨rfl, hb2⟩
  obtain ⟨k1, k2, k3, k4⟩ := HA.out w2 hb2
  have HF2 : Hid (Below w.heap.size w w2) := k1
  by_cases hz : ke = 0
  · subst hz
    have p0 : ∀ p : BelowOf w2.heap.size w2, p.W.cell? ⟨tb, 0, none⟩ = some (.pointer po) := fun p => cells_at ((p.h.block _ (lt_of_row k3)).trans k3) 0 _ rfl
    have b0 : ∀ p : BelowOf w2.heap.size w2, p.W.cell? ⟨B, 0, none⟩ = some d0 := fun p => cells_at ((p.h.block _ (lt_of_row k2)).trans k2) 0 _ rfl
    have b1 : ∀ p : BelowOf w2.heap.size w2, p.W.cell? ⟨B, 1, none⟩ = some d1 := fun p => cells_at ((p.h.block _ (lt_of_row k2)).trans k2) 1 _ rfl
    have b2 : ∀ p : BelowOf w2.heap.size w2, p.W.cell? ⟨B, 2, none⟩ = some d2 := fun p => cells_at ((p.h.block _ (lt_of_row k2)).trans k2) 2 _ rfl
    have b3 : ∀ p : BelowOf w2.heap.size w2, p.W.cell? ⟨B, 3, none⟩ = some d3 := fun p => cells_at ((p.h.block _ (lt_of_row k2)).trans k2) 3 _ rfl
    have b4 : ∀ p : BelowOf w2.heap.size w2, p.W.cell? ⟨B, 4, none⟩ = some d4 := fun p => cells_at ((p.h.block _ (lt_of_row k2)).trans k2) 4 _ rfl
    have b5 : ∀ p : BelowOf w2.heap.size w2, p.W.cell? ⟨B, 5, none⟩ = some d5 := fun p => cells_at ((p.h.block _ (lt_of_row k2)).trans k2) 5 _ rfl
    have HC : Hid (∀ W, Below w2.heap.size w2 W → Calls Tryz.prog 57 #[.pointer po, .agg #[d0, d1, d2, d3, d4, d5]] W fun e w' => e = .returned (.pointer lk) ∧ Below W.heap.size W w') := fun W hW => (HA.out W (hb2.trans (hW.mono hb2.size))).2.2.2
    clear k1 k2 k3 k4 hb2 c0 c1 c2 c3 c4 c5 CC HA
    go_upto_region 6 with fail
    refine wp_region_below w2.heap.size w2 (Below.refl _ _) (by kernel_rfl) (by kernel_rfl) ?_
    repeat (go_big_quiet_step (first | (go_at_call 57; exact below_call _ (Nat.le_refl _) (HC.out _ (BelowOf.h _)))))
    refine wpQuiet_nil ?_
    intro _ hw'
    obtain ⟨pq, hw''⟩ := hw'
    subst hw''
    have HF := HF2.out.trans (pq.h.mono HF2.out.size)
    go_wp2
    go_ret2
    exact ⟨by simp, HF⟩
  · have q1 : ((ke : Int) != 0) = true := by simp; omega
    have q2 : ¬ ((ke : Int) = 0) := by omega
    have HE : Hid ((if ke = 0 then Value.pointer lk else .pointer none) = .pointer none) := if_neg hz
    clear k1 k2 k3 k4 hb2 c0 c1 c2 c3 c4 c5 CC HA
    go_wp2
    go_ret2
    exact ⟨by first | rfl | (rw [HE.out]; rfl), HF2.out⟩
set_option maxHeartbeats 1000000 in
theorem findT_none (v : Value) (d0 d1 d2 d3 d4 d5 : Value) (hv : v = .agg #[d0, d1, d2, d3, d4, d5]) (w : World) : Calls Tryz.prog 13 #[.pointer none, v] w fun e w' => e = .returned (.tuple #[.slice none 0 0, .int .i64 1]) ∧ Below w.heap.size w w' := by
  have C : Hid (∀ W, Calls Tryz.prog 34 #[.pointer none, .agg #[d0, d1, d2, d3, d4, d5]] W fun e w' => e = .returned (.tuple #[.pointer none, .int .i64 1]) ∧ Below W.heap.size W w') := fun W => at_none _ d0 d1 d2 d3 d4 d5 rfl W
  subst hv
  go_enter Tryz.func13, Tryz.ntmps13
  go_wp2_with (go_at_call 34; refine (C.out _).mono ?_; rintro e w' ⟨rfl, hb⟩)
  go_ret2
  exact ⟨rfl, (below_new _ _).trans (hb.mono (by simp))⟩
set_option maxHeartbeats 1000000 in
theorem putT_none (v : Value) (d0 d1 d2 d3 d4 d5 : Value) (id : Nat) (hv : v = .agg #[d0, d1, d2, d3, d4, d5]) (w : World) : Calls Tryz.prog 24 #[.pointer none, v, .int .u64 (id : Int)] w fun e w' => e = .returned (.int .i64 1) ∧ Below w.heap.size w w' := by
  have C : Hid (∀ W, Calls Tryz.prog 34 #[.pointer none, .agg #[d0, d1, d2, d3, d4, d5]] W fun e w' => e = .returned (.tuple #[.pointer none, .int .i64 1]) ∧ Below W.heap.size W w') := fun W => at_none _ d0 d1 d2 d3 d4 d5 rfl W
  subst hv
  go_enter Tryz.func24, Tryz.ntmps24
  go_wp2_with (go_at_call 34; refine (C.out _).mono ?_; rintro e w' ⟨rfl, hb⟩)
  go_ret
  exact ⟨rfl, (below_new _ _).trans (hb.mono (by simp))⟩
set_option maxHeartbeats 1000000 in
theorem dropT_none (v : Value) (d0 d1 d2 d3 d4 d5 : Value) (id : Nat) (hv : v = .agg #[d0, d1, d2, d3, d4, d5]) (w : World) : Calls Tryz.prog 25 #[.pointer none, v, .int .u64 (id : Int)] w fun e w' => e = .returned (.int .i64 1) ∧ Below w.heap.size w w' := by
  have C : Hid (∀ W, Calls Tryz.prog 34 #[.pointer none, .agg #[d0, d1, d2, d3, d4, d5]] W fun e w' => e = .returned (.tuple #[.pointer none, .int .i64 1]) ∧ Below W.heap.size W w') := fun W => at_none _ d0 d1 d2 d3 d4 d5 rfl W
  subst hv
  go_enter Tryz.func25, Tryz.ntmps25
  go_wp2_with (go_at_call 34; refine (C.out _).mono ?_; rintro e w' ⟨rfl, hb⟩)
  go_ret
  exact ⟨rfl, (below_new _ _).trans (hb.mono (by simp))⟩
set_option maxHeartbeats 1000000 in
theorem rangeT_none (lv hv : Value) (l0 l1 l2 l3 l4 l5 l6 l7 h0 h1 h2 h3 h4 h5 h6 h7 : Value) (hl : lv = .agg #[l0, l1, l2, l3, l4, l5, l6, l7]) (hh : hv = .agg #[h0, h1, h2, h3, h4, h5, h6, h7]) (w : World) : Calls Tryz.prog 11 #[.pointer none, lv, hv] w fun e w' => e = .returned (.tuple #[.slice none 0 0, .int .i64 1]) ∧ Below w.heap.size w w' := by
  subst hl hh
  refine (callsIn_wide (n := 10)).1 (callsIn_of_wp_marks Tryz.func11 rfl trivial (wpIn_wide.2 ?_) rfl)
  simp only [Tryz.ntmps11, List.size_toArray, List.length_cons, List.length_nil, Nat.reduceAdd, Nat.reduceSub, Array.replicate_succ, Array.replicate_zero, List.push_toArray, List.append_toArray, List.nil_append, List.cons_append]
  go_wp2
  exact ⟨_, results_tmp2 rfl _ _ _, rfl, below_new2 _ _ _⟩
/-- a key that is wrong, or that the tree has not -/
theorem findT_miss (tb : Nat) (n : Value) (t : Bt.T) (H : Nat) (key : Nat → V) (x : V) (v : Value) (w : World) (hU : Bn.HasU w) (hH : H ≤ w.heap.size) (h : w.heap[tb]? = some (.cells #[Bt.ptr (Bt.top t), n] 69 (0, 0))) (hT : RT w H key t) (hu : Bt.up key t) (hv : Rep w H x v) (hm : Bt.kerr x = 0 → Bt.look key x t = none) :
    Calls Tryz.prog 13 #[.pointer (some ⟨tb, 0, none⟩), v] w fun e w' => e = .returned (.tuple #[.slice none 0 0, .int .i64 (Bt.kerr x : Int)]) ∧ Below w.heap.size w w' := by
  obtain ⟨d0, d1, d2, d3, d4, d5, rfl⟩ := repV_box hv
  obtain ⟨ke, hke⟩ : ∃ ke, ke = Bt.kerr x := ⟨_, rfl⟩
  have C : Hid (∀ W, Below w.heap.size w W → Calls Tryz.prog 34 #[.pointer (some ⟨tb, 0, none⟩), .agg #[d0, d1, d2, d3, d4, d5]] W fun e w' => e = .returned (.tuple #[.pointer none, .int .i64 (ke : Int)]) ∧ Below W.heap.size W w') := fun W hW => by
    refine (at_c tb n t H key x _ W (hU.stays hW) (Nat.le_trans hH hW.size) ((hW.block _ (lt_of_row h)).trans h) (RT.stays (hW.mono hH) hT) hu (rep_stays (hW.mono hH) (Nat.le_refl _) _ _ hv)).mono ?_
    rintro e w' ⟨rfl, hb⟩
    refine ⟨?_, hb⟩
    rw [← hke] at hm ⊢
    by_cases hz : ke = 0
    · rw [if_pos hz, hm hz]; rfl
    · rw [if_neg hz]
  rw [← hke]
  clear hke hU hH h hT hu hv hm
  by_cases hz : ke = 0
  · subst hz
    go_enter Tryz.func13, Tryz.ntmps13
    go_wp2_with (go_at_call 34; refine (C.out _ (below_new _ _)).mono ?_; rintro e w' ⟨rfl, hb⟩)
    go_ret2
    exact ⟨rfl, (below_new _ _).trans (hb.mono (by simp))⟩
  · have q1 : ((ke : Int) != 0) = true := by simp; omega
    have q2 : ¬ ((ke : Int) = 0) := by omega
    go_enter Tryz.func13, Tryz.ntmps13
    go_wp2_with (go_at_call 34; refine (C.out _ (below_new _ _)).mono ?_; rintro e w' ⟨rfl, hb⟩)
    go_ret2
    exact ⟨rfl, (below_new _ _).trans (hb.mono (by simp))⟩
end Go.Proofs.YtkigenldiinioaaGreatDoor
/- A tree that is changed: its memory, told apart from its keys'; what one more number, one more key make of it. -/
namespace Go.Proofs.YtkigenldiinioaaGreatDoor
open Go.RowKit
open Vl (V)
namespace Bt
/-- one answer anew -/
def set {α : Type} (f : Nat → α) (e : Nat) (v : α) : Nat → α := fun y => if y = e then v else f y
theorem set_same {α : Type} (f : Nat → α) (e : Nat) (v : α) : set f e v e = v := if_pos rfl
theorem set_other {α : Type} {f : Nat → α} {e y : Nat} {v : α} (h : y ≠ e) : set f e v y = f y := if_neg h
/-- the blocks of nodes and of their rows -/
def blocks : T → List Nat
  | .nil => []
  | .node g r _ a b c d => g :: r :: (blocks a ++ blocks b ++ blocks c ++ blocks d)
/-- numbers, and one more -/
def nins (id : Nat) (l : List Nat) : List Nat := l.take (nspot id l) ++ id :: l.drop (nspot id l)
/-- keys, and one more -/
def kins (key : Nat → V) (e : Nat) (l : List Nat) : List Nat := l.take (spot key (key e) l) ++ e :: l.drop (spot key (key e) l)
theorem nins_length (id : Nat) (l : List Nat) : (nins id l).length = l.length + 1 := by
  simp only [nins, List.length_append, List.length_take, List.length_cons, List.length_drop]; omega
theorem nins_asc {id : Nat} {l : List Nat} (h : l.Pairwise (· < ·)) (hn : nhas id l = false) : (nins id l).Pairwise (· < ·) := by
  obtain ⟨hk, h12⟩ := nspot_cut (id := id) h
  have h1 : ∀ j x, j < nspot id l → l[j]? = some x → x < id := fun j x hj hx => by simpa using (h12 j x hx).2 hj
  have h2 : ∀ j x, nspot id l ≤ j → l[j]? = some x → ¬ x < id := fun j x hj hx q => by have := (h12 j x hx).1 (by simpa using q); omega
  have e := List.take_append_drop (nspot id l) l
  have h' := h
  rw [← e, List.pairwise_append] at h'
  obtain ⟨ha, hb, hab⟩ := h'
  have hlo : ∀ x ∈ l.take (nspot id l), x < id := fun x hx => by
    obtain ⟨j, hj⟩ := List.getElem?_of_mem hx
    have hlt : j < nspot id l := by
      have := (List.getElem?_eq_some_iff.1 hj).1
      rw [List.length_take] at this
      omega
    rw [List.getElem?_take_of_lt hlt] at hj
    exact h1 j x hlt hj
  have hhi : ∀ x ∈ l.drop (nspot id l), id < x := fun x hx => by
    obtain ⟨j, hj⟩ := List.getElem?_of_mem hx
    rw [List.getElem?_drop] at hj
    have h3 := h2 (nspot id l + j) x (by omega) hj
    have h4 : ¬ x < id := h3
    rcases Nat.lt_or_ge id x with q | q
    · exact q
    · exfalso
      have hx' : x = id := by omega
      have h0 : l[nspot id l]? = some id := by
        rcases Nat.eq_zero_or_pos j with h5 | h5
        · subst h5; rw [Nat.add_zero] at hj; rw [hj, hx']
        · have hl0 : nspot id l < l.length := by have := (List.getElem?_eq_some_iff.1 hj).1; omega
          have h6 : l[nspot id l] < x := by
            have h7 := List.pairwise_iff_getElem.1 h (nspot id l) (nspot id l + j) hl0 (List.getElem?_eq_some_iff.1 hj).1 (by omega)
            rw [(List.getElem?_eq_some_iff.1 hj).2] at h7
            exact h7
          have h8 := h2 (nspot id l) l[nspot id l] (Nat.le_refl _) (List.getElem?_eq_getElem hl0)
          have h9 : ¬ l[nspot id l] < id := h8
          omega
      rw [nhas, h0] at hn
      simp at hn
  rw [nins, List.pairwise_append]
  refine ⟨ha, List.pairwise_cons.2 ⟨hhi, hb⟩, fun x hx y hy => ?_⟩
  rcases List.mem_cons.1 hy with rfl | hy
  · exact hlo x hx
  · exact hab x hx y hy
theorem rises_nodup {key : Nat → V} {l : List Nat} (h : Rises key l) : l.Nodup := h.imp fun {a b} hab e => by
  subst e
  have := Vl.cmp_turn (key a) (key a)
  omega
theorem mem_kins {key : Nat → V} {e y : Nat} {l : List Nat} : y ∈ kins key e l ↔ y = e ∨ y ∈ l := by
  rw [kins, List.mem_append, List.mem_cons]
  have := List.take_append_drop (spot key (key e) l) l
  constructor
  · rintro (h | h | h)
    · exact .inr (List.mem_of_mem_take h)
    · exact .inl h
    · exact .inr (List.mem_of_mem_drop h)
  · rintro (h | h)
    · exact .inr (.inl h)
    · rw [← this, List.mem_append] at h
      rcases h with h | h
      · exact .inl h
      · exact .inr (.inr h)
theorem kins_length (key : Nat → V) (e : Nat) (l : List Nat) : (kins key e l).length = l.length + 1 := by
  simp only [kins, List.length_append, List.length_take, List.length_cons, List.length_drop]; omega
theorem kins_rises {key : Nat → V} {e : Nat} {l : List Nat} (h : Rises key l) (hn : at? key (key e) l = none) : Rises key (kins key e l) := by
  obtain ⟨hk, h12⟩ := spot_cut (x := key e) h
  have h1 : ∀ j x, j < spot key (key e) l → l[j]? = some x → Vl.cmp (key x) (key e) < 0 := fun j x hj hx => by simpa [ahead] using (h12 j x hx).2 hj
  have h2 : ∀ j x, spot key (key e) l ≤ j → l[j]? = some x → ¬ Vl.cmp (key x) (key e) < 0 := fun j x hj hx q => by have := (h12 j x hx).1 (by simpa [ahead] using q); omega
  have h' := h
  rw [← List.take_append_drop (spot key (key e) l) l, rises_app] at h'
  obtain ⟨ha, hb, hab⟩ := h'
  have hne : ∀ x ∈ l, Vl.cmp (key x) (key e) ≠ 0 := fun x hx q => by
    have h3 := List.find?_eq_none.1 hn x hx
    simp [q] at h3
  have hlo : ∀ x ∈ l.take (spot key (key e) l), Vl.cmp (key x) (key e) < 0 := fun x hx => by
    obtain ⟨j, hj⟩ := List.getElem?_of_mem hx
    have hlt : j < spot key (key e) l := by
      have := (List.getElem?_eq_some_iff.1 hj).1
      rw [List.length_take] at this
      omega
    rw [List.getElem?_take_of_lt hlt] at hj
    exact h1 j x hlt hj
  have hhi : ∀ x ∈ l.drop (spot key (key e) l), Vl.cmp (key e) (key x) < 0 := fun x hx => by
    have hm := List.mem_of_mem_drop hx
    obtain ⟨j, hj⟩ := List.getElem?_of_mem hx
    rw [List.getElem?_drop] at hj
    have h3 := h2 (spot key (key e) l + j) x (by omega) hj
    have h4 : ¬ Vl.cmp (key x) (key e) < 0 := h3
    have h5 := hne x hm
    have h6 := Vl.cmp_turn (key e) (key x)
    omega
  rw [kins, rises_app, rises_cons]
  refine ⟨ha, ⟨hhi, hb⟩, fun x hx y hy => ?_⟩
  rcases List.mem_cons.1 hy with rfl | hy
  · exact hlo x hx
  · exact hab x hx y hy
theorem kins_sum (f : Nat → Nat) (key : Nat → V) (e : Nat) (l : List Nat) : ((kins key e l).map f).sum = (l.map f).sum + f e := by
  rw [kins]
  conv => rhs; rw [← List.take_append_drop (spot key (key e) l) l]
  simp only [List.map_append, List.map_cons, List.sum_append, List.sum_cons]
  omega
theorem set_sum (f : Nat → Nat) (e : Nat) : ∀ (l : List Nat), l.Nodup → e ∈ l → (l.map (set f e (f e + 1))).sum = (l.map f).sum + 1
  | [], _, h => by cases h
  | x :: r, hn, h => by
    obtain ⟨n1, n2⟩ := List.nodup_cons.1 hn
    simp only [List.map_cons, List.sum_cons]
    by_cases q : x = e
    · subst q
      rw [set_same]
      have : r.map (set f x (f x + 1)) = r.map f := List.map_congr_left fun y hy => set_other fun e => n1 (e ▸ hy)
      rw [this]; omega
    · rw [set_other q, set_sum f e r n2 ((List.mem_cons.1 h).resolve_left fun q2 => q q2.symm)]; omega
theorem set_sum_out (f : Nat → Nat) (e v : Nat) {l : List Nat} (h : e ∉ l) : (l.map (set f e v)).sum = (l.map f).sum := by
  have : l.map (set f e v) = l.map f := List.map_congr_left fun y hy => set_other fun q => h (q ▸ hy)
  rw [this]
end Bt
/-- nothing but blocks of a kind has turned -/
structure Kept (F : Nat → Prop) (w w' : World) : Prop where
  os : w'.os = w.os
  tape : w'.tape = w.tape
  output : w'.output = w.output
  size : w.heap.size ≤ w'.heap.size
  block : ∀ k, k < w.heap.size → ¬ F k → w'.heap[k]? = w.heap[k]?
theorem Kept.of_below {F : Nat → Prop} {w w' : World} (h : Below w.heap.size w w') : Kept F w w' := ⟨h.os, h.tape, h.output, h.size, fun k hk _ => h.block k hk⟩
theorem Kept.trans {F G : Nat → Prop} {a b c : World} (h : Kept F a b) (k : Kept G b c) (hG : ∀ g, g < a.heap.size → G g → F g) : Kept F a c :=
  ⟨k.os.trans h.os, k.tape.trans h.tape, k.output.trans h.output, Nat.le_trans h.size k.size, fun i hi hf => (k.block i (Nat.lt_of_lt_of_le hi h.size) fun q => hf (hG i hi q)).trans (h.block i hi hf)⟩
theorem Kept.below {F : Nat → Prop} {w w' : World} {n : Nat} (h : Kept F w w') (hF : ∀ g, F g → n ≤ g) (hn : n ≤ w.heap.size) : Below n w w' :=
  ⟨h.os, h.tape, h.output, h.size, fun k hk => h.block k (by omega) fun q => by have := hF k q; omega⟩
theorem owns_stays {w w' : World} {b ty k n : Nat} {v : Value} {L : List Value} (h : w.ownsRow b ty k v n L) (hb : ∀ g, v.ownBlock = some g → w'.heap[g]? = w.heap[g]?) : w'.ownsRow b ty k v n L := by
  refine ⟨h.1, ?_⟩
  rcases h.2 with h1 | ⟨g, cap, cur, rfl, h2, h3, h4⟩
  · exact .inl h1
  · exact .inr ⟨g, cap, cur, rfl, h2, (hb g rfl).trans h3, h4⟩
/-- an entry in memory: its key, its numbers, their row's block -/
def EA (w : World) (F : Nat → Prop) (k : V) (l : List Nat) (e i : Nat) : Prop :=
  ∃ c0 c1 c2 c3 c4 c5 cap, w.heap[e]? = some (.cells #[c0, c1, c2, c3, c4, c5, .slice (some ⟨i, 0, none⟩) l.length cap] 73 (0, 0)) ∧ RepA w (fun g => g < w.heap.size ∧ ¬ F g) k (.agg #[c0, c1, c2, c3, c4, c5]) ∧ IdsAt w (.slice (some ⟨i, 0, none⟩) l.length cap) l
theorem EA.ek {w : World} {F : Nat → Prop} {k : V} {l : List Nat} {e i : Nat} (h : EA w F k l e i) : EK w w.heap.size k e := by
  obtain ⟨c0, c1, c2, c3, c4, c5, cap, h1, h2, _⟩ := h
  exact ⟨lt_of_row h1, c0, c1, c2, c3, c4, c5, _, h1, repA_rep (fun g hg => hg.1) _ _ h2⟩
theorem EA.stays {w w' : World} {F G : Nat → Prop} {k : V} {l : List Nat} {e i : Nat} (h : EA w F k l e i) (he : w'.heap[e]? = w.heap[e]?) (hi : w'.heap[i]? = w.heap[i]?) (hk : ∀ g, g < w.heap.size → ¬ F g → w'.heap[g]? = w.heap[g]? ∧ g < w'.heap.size ∧ ¬ G g) : EA w' G k l e i := by
  obtain ⟨c0, c1, c2, c3, c4, c5, cap, h1, h2, h3⟩ := h
  refine ⟨c0, c1, c2, c3, c4, c5, cap, he.trans h1, repA_stays (fun g hg => (hk g hg.1 hg.2).1) (fun g hg => (hk g hg.1 hg.2).2) _ _ h2, owns_stays h3 fun g hg => ?_⟩
  obtain rfl : g = i := by injection hg with hg; exact hg.symm
  exact hi
/-- a tree that can be changed -/
structure TA (w : World) (F : Nat → Prop) (tb : Nat) (t : Bt.T) (key : Nat → V) (ids : Nat → List Nat) (ir : Nat → Nat) (n : Nat) : Prop where
  box : w.heap[tb]? = some (.cells #[Bt.ptr (Bt.top t), .int .i64 (n : Int)] 69 (0, 0))
  lt : ∀ g, F g → g < w.heap.size
  fbox : F tb
  nt : NT w t
  fnt : ∀ g ∈ Bt.blocks t, F g
  nd : (Bt.blocks t).Nodup
  ent : ∀ e ∈ Bt.flat t, F e ∧ F (ir e) ∧ EA w F (key e) (ids e) e (ir e)
  inj : ∀ e ∈ Bt.flat t, ∀ f ∈ Bt.flat t, ir e = ir f → e = f
  wf : Bt.wf t
  rises : Bt.Rises key (Bt.flat t)
  lev : Bt.levels t = Bt.fewest (Bt.flat t).length
  small : ∀ e ∈ Bt.flat t, Vl.small (key e)
  asc : ∀ e ∈ Bt.flat t, (ids e).Pairwise (· < ·) ∧ 1 ≤ (ids e).length
  sum : n = ((Bt.flat t).map fun e => (ids e).length).sum
  le : n ≤ 1024
theorem nt_stays {w w' : World} : ∀ {t : Bt.T}, NT w t → (∀ g ∈ Bt.blocks t, w'.heap[g]? = w.heap[g]?) → NT w' t
  | .nil, _, _ => trivial
  | .node g r es a b c d, h, hb => by
    obtain ⟨⟨cap, h1, h2⟩, ha, hbb, hc, hd⟩ := h
    refine ⟨⟨cap, (hb g (by simp [Bt.blocks])).trans h1, owns_stays h2 fun g' hg => ?_⟩, nt_stays ha fun x hx => hb x (by simp [Bt.blocks, hx]), nt_stays hbb fun x hx => hb x (by simp [Bt.blocks, hx]), nt_stays hc fun x hx => hb x (by simp [Bt.blocks, hx]), nt_stays hd fun x hx => hb x (by simp [Bt.blocks, hx])⟩
    obtain rfl : g' = r := by injection hg with hg; exact hg.symm
    exact hb g' (by simp [Bt.blocks])
theorem nt_lt {w : World} : ∀ {t : Bt.T}, NT w t → ∀ g ∈ Bt.blocks t, g < w.heap.size
  | .nil, _, _, h => by cases h
  | .node g r es a b c d, h, x, hx => by
    obtain ⟨⟨cap, h1, h2⟩, ha, hbb, hc, hd⟩ := h
    simp only [Bt.blocks, List.mem_cons, List.mem_append] at hx
    rcases hx with rfl | rfl | ((hx | hx) | hx) | hx
    · exact lt_of_row h1
    · rcases h2.2 with ⟨h3, _⟩ | ⟨g', cap', cur, h3, _, h4, _⟩
      · cases h3
      · cases h3; exact lt_of_row h4
    · exact nt_lt ha x hx
    · exact nt_lt hbb x hx
    · exact nt_lt hc x hx
    · exact nt_lt hd x hx
theorem rt_of {w : World} {key : Nat → V} : ∀ {t : Bt.T}, Bt.wf t → NT w t → (∀ e ∈ Bt.flat t, EK w w.heap.size (key e) e) → RT w w.heap.size key t
  | .nil, _, _, _ => trivial
  | .node g r es a b c d, hw, h, hk => by
    obtain ⟨s1, s2, s3, s4, s5⟩ := flat_entries hw
    have hl := nt_lt h
    obtain ⟨⟨cap, h1, h2⟩, ha, hbb, hc, hd⟩ := h
    obtain ⟨_, _, _, wa, wb, wc, wd⟩ := hw
    refine ⟨⟨hl g (by simp [Bt.blocks]), hl r (by simp [Bt.blocks]), ⟨cap, h1⟩, fun j e hj => ?_, fun e he => hk e (s1.subset he)⟩, rt_of wa ha fun e he => hk e (s2.subset he), rt_of wb hbb fun e he => hk e (s3.subset he), rt_of wc hc fun e he => hk e (s4.subset he), rt_of wd hd fun e he => hk e (s5.subset he)⟩
    rw [Nat.zero_add]
    rcases h2.2 with ⟨h, _⟩ | ⟨g', cap', cur', h, _, hcr', _, _, _, htk⟩
    · cases h
    · cases h
      refine cells_at hcr' j _ ?_
      have hlt := (List.getElem?_eq_some_iff.1 hj).1
      have : (es.map fun e => Bt.ptr (some e))[j]? = some (.pointer (some ⟨e, 0, none⟩)) := by rw [List.getElem?_map, hj]; rfl
      rw [← htk, List.getElem?_take_of_lt (by omega), Array.getElem?_toList] at this
      exact this
theorem TA.rt {w : World} {F : Nat → Prop} {tb : Nat} {t : Bt.T} {key : Nat → V} {ids : Nat → List Nat} {ir : Nat → Nat} {n : Nat} (h : TA w F tb t key ids ir n) : RT w w.heap.size key t := rt_of h.wf h.nt fun e he => (h.ent e he).2.2.ek
theorem TA.up {w : World} {F : Nat → Prop} {tb : Nat} {t : Bt.T} {key : Nat → V} {ids : Nat → List Nat} {ir : Nat → Nat} {n : Nat} (h : TA w F tb t key ids ir n) : Bt.up key t := Bt.up_of h.wf h.rises
theorem TA.stays {w w' : World} {F : Nat → Prop} {tb : Nat} {t : Bt.T} {key : Nat → V} {ids : Nat → List Nat} {ir : Nat → Nat} {n : Nat} (h : TA w F tb t key ids ir n) (hb : Below w.heap.size w w') : TA w' F tb t key ids ir n where
  box := (hb.block _ (lt_of_row h.box)).trans h.box
  lt := fun g hg => Nat.lt_of_lt_of_le (h.lt g hg) hb.size
  fbox := h.fbox
  nt := nt_stays h.nt fun g hg => hb.block g (h.lt g (h.fnt g hg))
  fnt := h.fnt
  nd := h.nd
  ent := fun e he => ⟨(h.ent e he).1, (h.ent e he).2.1, (h.ent e he).2.2.stays (hb.block _ (h.lt _ (h.ent e he).1)) (hb.block _ (h.lt _ (h.ent e he).2.1)) fun g hg hf => ⟨hb.block g hg, Nat.lt_of_lt_of_le hg hb.size, hf⟩⟩
  inj := h.inj
  wf := h.wf
  rises := h.rises
  lev := h.lev
  small := h.small
  asc := h.asc
  sum := h.sum
  le := h.le
theorem Bt.mem_le_sum {x : Nat} : ∀ {l : List Nat}, x ∈ l → x ≤ l.sum
  | [], h => by cases h
  | y :: r, h => by
    rw [List.sum_cons]
    rcases List.mem_cons.1 h with rfl | h
    · omega
    · have := Bt.mem_le_sum h; omega
/-- the numbers of a key are few -/
theorem TA.few {w : World} {F : Nat → Prop} {tb : Nat} {t : Bt.T} {key : Nat → V} {ids : Nat → List Nat} {ir : Nat → Nat} {n : Nat} (h : TA w F tb t key ids ir n) {e : Nat} (he : e ∈ Bt.flat t) : (ids e).length ≤ n := by
  rw [h.sum]
  exact Bt.mem_le_sum (List.mem_map.2 ⟨e, he, rfl⟩)
theorem Bt.le_sum {f : Nat → Nat} : ∀ {l : List Nat}, (∀ e ∈ l, 1 ≤ f e) → l.length ≤ (l.map f).sum
  | [], _ => Nat.zero_le _
  | x :: r, h => by
    have := Bt.le_sum (f := f) (l := r) fun e he => h e (by simp [he])
    have := h x (by simp)
    simp only [List.length_cons, List.map_cons, List.sum_cons]
    omega
theorem TA.keys {w : World} {F : Nat → Prop} {tb : Nat} {t : Bt.T} {key : Nat → V} {ids : Nat → List Nat} {ir : Nat → Nat} {n : Nat} (h : TA w F tb t key ids ir n) : (Bt.flat t).length ≤ n := by
  rw [h.sum]
  exact Bt.le_sum (f := fun e => (ids e).length) fun e he => (h.asc e he).2
end Go.Proofs.YtkigenldiinioaaGreatDoor
