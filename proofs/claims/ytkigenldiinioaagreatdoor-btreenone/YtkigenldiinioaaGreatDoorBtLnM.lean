/- No tree has nothing, and tells so: walked. -/
import Derived.Test.YtkigenldiinioaaGreatDoorGFM
import Derived.Test.YtkigenldiinioaaGreatDoorBinRChkM
namespace Go.Proofs.YtkigenldiinioaaGreatDoor
open Go.RowKit
open Vl (V)
attribute [local go_sem ↓] Go.wp_at_zero Go.wp_at_succ
set_option maxHeartbeats 4000000 in
set_option maxRecDepth 100000 in
theorem none_c (w : World) (hU : Bn.HasU w) (x : V) (v : Value) (id : Nat) (hv : Rep w w.heap.size x v) : Calls Tryz.prog 7 #[v, .int .u64 (id : Int)] w fun e w' => e = .returned (.bool true) ∧ Below w.heap.size w w' := by
  obtain ⟨d0, d1, d2, d3, d4, d5, rfl⟩ := repV_box hv
  obtain ⟨ke, hke⟩ : ∃ ke, ke = Bt.kerr x := ⟨_, rfl⟩
  obtain ⟨w1, hw1⟩ : ∃ w1, w1 = w.alloc (.cells #[d0, d1, d2, d3, d4, d5] 27) := ⟨_, rfl⟩
  obtain ⟨B, hBe⟩ : ∃ B, B = w.heap.size := ⟨_, rfl⟩
  have hB1 : w1.heap[B]? = some (.cells #[d0, d1, d2, d3, d4, d5] 27 (0, 0)) := by rw [hw1, hBe]; exact heap_alloc_new w _
  have b1 : Below w.heap.size w w1 := by rw [hw1]; exact below_new _ _
  have HB : Hid (∀ W, Below w1.heap.size w1 W → Below w.heap.size w W ∧ W.cell? ⟨B, 0, none⟩ = some d0 ∧ W.cell? ⟨B, 1, none⟩ = some d1 ∧ W.cell? ⟨B, 2, none⟩ = some d2 ∧ W.cell? ⟨B, 3, none⟩ = some d3 ∧ W.cell? ⟨B, 4, none⟩ = some d4 ∧ W.cell? ⟨B, 5, none⟩ = some d5) := fun W hW => by
    have q := (hW.block _ (lt_of_row hB1)).trans hB1
    exact ⟨b1.trans (hW.mono b1.size), cells_at q 0 _ rfl, cells_at q 1 _ rfl, cells_at q 2 _ rfl, cells_at q 3 _ rfl, cells_at q 4 _ rfl, cells_at q 5 _ rfl⟩
  have CL : Hid (∀ W, Below w1.heap.size w1 W → Calls Tryz.prog 10 #[] W fun e w' => e = .returned (.bool true) ∧ Below w1.heap.size w1 w') := fun W hW => (livesB_c W (hU.stays (HB.out W hW).1)).mono (by
    rintro e w' ⟨rfl, hb⟩
    exact ⟨rfl, hW.trans (hb.mono hW.size)⟩)
  have CF : Hid (∀ W, Below w1.heap.size w1 W → Calls Tryz.prog 13 #[.pointer (some ⟨W.heap.size, 0, none⟩), .agg #[d0, d1, d2, d3, d4, d5]] (W.alloc (.cells #[.pointer none, .int .i64 0] 69)) fun e w' => e = .returned (.tuple #[.slice none 0 0, .int .i64 (ke : Int)]) ∧ Below w1.heap.size w1 w') := fun W hW => by
    have hX : Below w1.heap.size w1 (W.alloc (.cells #[.pointer none, .int .i64 0] 69)) := hW.trans ((below_new W _).mono hW.size)
    have hXw := (HB.out _ hX).1
    rw [hke]
    refine (findT_miss W.heap.size (.int .i64 0) .nil w.heap.size (fun _ => Bt.wv 0) x _ _ (hU.stays hXw) hXw.size (heap_alloc_new W _) trivial (Bt.up_of trivial List.Pairwise.nil) (rep_stays hXw (Nat.le_refl _) _ _ hv) (fun _ => rfl)).mono ?_
    rintro e w' ⟨rfl, hb⟩
    exact ⟨rfl, hX.trans (hb.mono hX.size)⟩
  have CK : Hid (∀ W, Below w1.heap.size w1 W → Calls Tryz.prog 14 #[.agg #[d0, d1, d2, d3, d4, d5]] W fun e w' => e = .returned (.int .i64 (ke : Int)) ∧ Below w1.heap.size w1 w') := fun W hW => by
    have hWw := (HB.out _ hW).1
    rw [hke]
    refine (rcheck19 x W w.heap.size _ hWw.size (rep_stays hWw (Nat.le_refl _) _ _ hv)).mono ?_
    rintro e w' ⟨rfl, hb⟩
    exact ⟨rfl, hW.trans (hb.mono hW.size)⟩
  clear hU hv hke hB1 b1
  go_enter Tryz.func7, Tryz.ntmps7
  go_upto_region 1 with fail
  rw [← hw1, ← hBe]
  clear hw1 hBe
  go_wp2_with fail
  refine (CL.out _ (Below.refl _ _)).mono ?_
  rintro e w2 ⟨rfl, hb2⟩
  have K2 : Hid (Below w1.heap.size w1 w2) := hb2
  clear hb2 CL
  go_wp2_with fail
  refine (new_c w2).mono ?_
  rintro e w3 ⟨rfl, rfl⟩
  obtain ⟨_, c0, c1, c2, c3, c4, c5⟩ := HB.out _ (K2.out.trans ((below_new w2 (.cells #[.pointer none, .int .i64 0] 69)).mono K2.out.size))
  go_wp2_with fail
  refine (CF.out _ K2.out).mono ?_
  rintro e w4 ⟨rfl, hb4⟩
  have K4 : Hid (Below w1.heap.size w1 w4) := hb4
  clear hb4 CF K2 c0 c1 c2 c3 c4 c5
  obtain ⟨_, c0, c1, c2, c3, c4, c5⟩ := HB.out _ K4.out
  go_wp2_with fail
  refine (findT_none _ d0 d1 d2 d3 d4 d5 rfl w4).mono ?_
  rintro e w5 ⟨rfl, hb5⟩
  have K5 : Hid (Below w1.heap.size w1 w5) := K4.out.trans (hb5.mono K4.out.size)
  clear hb5 K4 c0 c1 c2 c3 c4 c5
  go_wp2_with fail
  refine (rangeT_none _ _ _ _ _ _ _ _ _ _ _ _ _ _ _ _ _ _ rfl rfl w5).mono ?_
  rintro e w6 ⟨rfl, hb6⟩
  have K6 : Hid (Below w1.heap.size w1 w6) := K5.out.trans (hb6.mono K5.out.size)
  clear hb6 K5
  obtain ⟨_, c0, c1, c2, c3, c4, c5⟩ := HB.out _ K6.out
  go_wp2_with fail
  refine (CK.out _ K6.out).mono ?_
  rintro e w7 ⟨rfl, hb7⟩
  have K7 : Hid (Below w1.heap.size w1 w7) := hb7
  clear hb7 CK K6 c0 c1 c2 c3 c4 c5
  obtain ⟨_, c0, c1, c2, c3, c4, c5⟩ := HB.out _ K7.out
  go_wp2_with fail
  refine (putT_none _ d0 d1 d2 d3 d4 d5 id rfl w7).mono ?_
  rintro e w8 ⟨rfl, hb8⟩
  have K8 : Hid (Below w1.heap.size w1 w8) := K7.out.trans (hb8.mono K7.out.size)
  clear hb8 K7 c0 c1 c2 c3 c4 c5
  obtain ⟨_, c0, c1, c2, c3, c4, c5⟩ := HB.out _ K8.out
  go_wp2_with fail
  refine (dropT_none _ d0 d1 d2 d3 d4 d5 id rfl w8).mono ?_
  rintro e w9 ⟨rfl, hb9⟩
  have K9 : Hid (Below w1.heap.size w1 w9) := K8.out.trans (hb9.mono K8.out.size)
  clear hb9 K8 c0 c1 c2 c3 c4 c5
  go_wp2_with fail
  refine (count_none w9).mono ?_
  rintro e w10 ⟨rfl, rfl⟩
  go_wp2_with fail
  refine (depth_none w10).mono ?_
  rintro e w11 ⟨rfl, rfl⟩
  go_wp2
  go_ret
  exact ⟨rfl, (HB.out _ K9.out).1⟩
end Go.Proofs.YtkigenldiinioaaGreatDoor
