/- A tree's own calls that read: New, at, Find, Count, Depth, walked; those of no tree. -/
import Derived.Test.YtkigenldiinioabGreatDoorBtDM
import Derived.Test.YtkigenldiinioabGreatDoorBinUM
namespace Go.Proofs.YtkigenldiinioabGreatDoor
open Go.RowKit
open Vl (V)
attribute [local go_sem ↓] Go.wp_at_zero Go.wp_at_succ
theorem new_c (w : World) : Calls Tryz.prog 11 #[] w fun e w' => e = .returned (.pointer (some ⟨w.heap.size, 0, none⟩)) ∧ w' = w.alloc (.cells #[.pointer none, .int .i64 0] 58) := by
  go_enter Tryz.func11, Tryz.ntmps11
  go_wp2
  go_ret
  exact ⟨rfl, rfl⟩
set_option maxHeartbeats 1000000 in
theorem count_tree (tb n : Nat) (p : Value) (w : World) (h : w.heap[tb]? = some (.cells #[p, .int .i64 (n : Int)] 58 (0, 0))) : Calls Tryz.prog 15 #[.pointer (some ⟨tb, 0, none⟩)] w fun e w' => e = .returned (.int .i64 (n : Int)) ∧ w' = w := by
  have c := cells_at h 1 (.int .i64 (n : Int)) rfl
  clear h
  go_enter Tryz.func15, Tryz.ntmps15
  go_wp2
  go_ret
  exact ⟨rfl, rfl⟩
set_option maxHeartbeats 1000000 in
theorem depth_tree (tb n : Nat) (t : Bt.T) (w : World) (h : w.heap[tb]? = some (.cells #[Bt.ptr (Bt.top t), .int .i64 (n : Int)] 58 (0, 0))) (hT : NT w t) (hl : Bt.levels t ≤ 1000) : Calls Tryz.prog 14 #[.pointer (some ⟨tb, 0, none⟩)] w fun e w' => e = .returned (.int .i64 (Bt.levels t : Int)) ∧ w' = w := by
  have C : Hid (Calls Tryz.prog 30 #[Bt.ptr (Bt.top t)] w fun e w' => e = .returned (.int .i64 (Bt.levels t : Int)) ∧ w' = w) := levels_c t w hT hl
  obtain ⟨po, hpo⟩ : ∃ po, Bt.ptr (Bt.top t) = .pointer po := ⟨_, rfl⟩
  obtain ⟨lv, hlv⟩ : ∃ lv, lv = Bt.levels t := ⟨_, rfl⟩
  rw [hpo, ← hlv] at C
  rw [hpo] at h
  rw [← hlv]
  have c := cells_at h 0 (.pointer po) rfl
  clear h hT hl hlv hpo
  go_enter Tryz.func14, Tryz.ntmps14
  go_wp2_with (go_at_call 30; refine C.out.mono ?_; rintro e w' ⟨rfl, rfl⟩)
  go_ret
  exact ⟨rfl, rfl⟩
/-- the error of a key -/
def Bt.kerr (x : V) : Nat := Vl.check Bn.u8 0 x
set_option maxHeartbeats 4000000 in
set_option maxRecDepth 100000 in
theorem at_c (tb : Nat) (n : Value) (t : Bt.T) (H : Nat) (key : Nat → V) (x : V) (v : Value) (w : World) (hU : Bn.HasU w) (hH : H ≤ w.heap.size) (h : w.heap[tb]? = some (.cells #[Bt.ptr (Bt.top t), n] 58 (0, 0))) (hT : RT w H key t) (hu : Bt.up key t) (hv : Rep w H x v) :
    Calls Tryz.prog 23 #[.pointer (some ⟨tb, 0, none⟩), v] w fun e w' => e = .returned (.tuple #[if Bt.kerr x = 0 then Bt.ptr (Bt.look key x t) else .pointer none, .int .i64 (Bt.kerr x : Int)]) ∧ Below w.heap.size w w' := by
  obtain ⟨d0, d1, d2, d3, d4, d5, rfl⟩ := repV_box hv
  obtain ⟨w1, hw1⟩ : ∃ w1, w1 = w.alloc (.cells #[d0, d1, d2, d3, d4, d5] 27) := ⟨_, rfl⟩
  obtain ⟨B, hBe⟩ : ∃ B, B = w.heap.size := ⟨_, rfl⟩
  have b1 : Below w.heap.size w w1 := by rw [hw1]; exact below_new _ _
  have hB : w1.heap[B]? = some (.cells #[d0, d1, d2, d3, d4, d5] 27 (0, 0)) := by rw [hw1, hBe]; exact heap_alloc_new w _
  obtain ⟨ke, hke⟩ : ∃ ke, ke = Bt.kerr x := ⟨_, rfl⟩
  rw [← hke]
  have CC : Hid (Calls Tryz.prog 19 #[.agg #[d0, d1, d2, d3, d4, d5]] w1 fun e w' => e = .returned (.int .i64 (ke : Int)) ∧ Below w1.heap.size w1 w') := by
    show Calls _ _ _ _ _
    rw [hke]
    exact check27 x w1 (hU.stays b1) H _ (Nat.le_trans hH b1.size) (rep_stays (b1.mono hH) (Nat.le_refl _) _ _ hv)
  obtain ⟨po, hpo⟩ : ∃ po, Bt.ptr (Bt.top t) = .pointer po := ⟨_, rfl⟩
  obtain ⟨lk, hlk⟩ : ∃ lk, Bt.ptr (Bt.look key x t) = .pointer lk := ⟨_, rfl⟩
  rw [hlk]
  have hlt := lt_of_row h
  have HA : Hid (∀ W, Below w1.heap.size w1 W → Below w.heap.size w W ∧ W.heap[B]? = some (.cells #[d0, d1, d2, d3, d4, d5] 27 (0, 0)) ∧ W.heap[tb]? = some (.cells #[.pointer po, n] 58 (0, 0)) ∧ Calls Tryz.prog 49 #[.pointer po, .agg #[d0, d1, d2, d3, d4, d5]] W fun e w' => e = .returned (.pointer lk) ∧ Below W.heap.size W w') := fun W hW => by
    have hb := b1.trans (hW.mono b1.size)
    refine ⟨hb, (hW.block _ (lt_of_row hB)).trans hB, by rw [← hpo]; exact (hb.block _ hlt).trans h, ?_⟩
    rw [← hpo, ← hlk]
    exact find_c t H key x _ W (Nat.le_trans hH hb.size) (RT.stays (hb.mono hH) hT) hu (rep_stays (hb.mono hH) (Nat.le_refl _) _ _ hv)
  have cb := fun i u (hi : #[d0, d1, d2, d3, d4, d5][i]? = some u) => cells_at hB i u hi
  have c0 := cb 0 d0 rfl
  have c1 := cb 1 d1 rfl
  have c2 := cb 2 d2 rfl
  have c3 := cb 3 d3 rfl
  have c4 := cb 4 d4 rfl
  have c5 := cb 5 d5 rfl
  clear cb hke hB b1 hpo hlk hlt h hT hu hv hU hH
  go_enter Tryz.func23, Tryz.ntmps23
  go_upto_region 1 with fail
  rw [← hw1, ← hBe]
  clear hw1 hBe
  go_wp2_with fail
  refine CC.out.mono ?_
  rintro e w2 ⟨rfl, hb2⟩
  obtain ⟨k1, k2, k3, k4⟩ := HA.out w2 hb2
  have HF2 : Hid (Below w.heap.size w w2) := k1
  by_cases hz : ke = 0
  · subst hz
    have p0 : ∀ p : BelowOf w2.heap.size w2, p.W.cell? ⟨tb, 0, none⟩ = some (.pointer po) := fun p => cells_at ((p.h.block _ (lt_of_row k3)).trans k3) 0 _ rfl
    have b0 : ∀ p : BelowOf w2.heap.size w2, p.W.cell? ⟨B, 0, none⟩ = some d0 := fun p => cells_at ((p.h.block _ (lt_of_row k2)).trans k2) 0 _ rfl
    have b1 : ∀ p : BelowOf w2.heap.size w2, p.W.cell? ⟨B, 1, none⟩ = some d1 := fun p => cells_at ((p.h.block _ (lt_of_row k2)).trans k2) 1 _ rfl
    have b2 : ∀ p : BelowOf w2.heap.size w2, p.W.cell? ⟨B, 2, none⟩ = some d2 := fun p => cells_at ((p.h.block _ (lt_of_row k2)).trans k2) 2 _ rfl
    have b3 : ∀ p : BelowOf w2.heap.size w2, p.W.cell? ⟨B, 3, none⟩ = some d3 := fun p => cells_at ((p.h.block _ (lt_of_row k2)).trans k2) 3 _ rfl
    have b4 : ∀ p : BelowOf w2.heap.size w2, p.W.cell? ⟨B, 4, none⟩ = some d4 := fun p => cells_at ((p.h.block _ (lt_of_row k2)).trans k2) 4 _ rfl
    have b5 : ∀ p : BelowOf w2.heap.size w2, p.W.cell? ⟨B, 5, none⟩ = some d5 := fun p => cells_at ((p.h.block _ (lt_of_row k2)).trans k2) 5 _ rfl
    have HC : Hid (∀ W, Below w2.heap.size w2 W → Calls Tryz.prog 49 #[.pointer po, .agg #[d0, d1, d2, d3, d4, d5]] W fun e w' => e = .returned (.pointer lk) ∧ Below W.heap.size W w') := fun W hW => (HA.out W (hb2.trans (hW.mono hb2.size))).2.2.2
    clear k1 k2 k3 k4 hb2 c0 c1 c2 c3 c4 c5 CC HA
    go_upto_region 6 with fail
    refine wp_region_below w2.heap.size w2 (Below.refl _ _) (by kernel_rfl) (by kernel_rfl) ?_
    repeat (go_big_quiet_step (first | (go_at_call 49; exact below_call _ (Nat.le_refl _) (HC.out _ (BelowOf.h _)))))
    refine wpQuiet_nil ?_
    intro _ hw'
    obtain ⟨pq, hw''⟩ := hw'
    subst hw''
    have HF := HF2.out.trans (pq.h.mono HF2.out.size)
    go_wp2
    go_ret2
    exact ⟨by simp, HF⟩
  · have q1 : ((ke : Int) != 0) = true := by simp; omega
    have q2 : ¬ ((ke : Int) = 0) := by omega
    have HE : Hid ((if ke = 0 then Value.pointer lk else .pointer none) = .pointer none) := if_neg hz
    clear k1 k2 k3 k4 hb2 c0 c1 c2 c3 c4 c5 CC HA
    go_wp2
    go_ret2
    exact ⟨by first | rfl | (rw [HE.out]; rfl), HF2.out⟩
end Go.Proofs.YtkigenldiinioabGreatDoor
