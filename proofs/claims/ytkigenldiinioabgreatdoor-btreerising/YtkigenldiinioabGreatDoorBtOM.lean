/- A value in memory of its own; where a number lies among an entry's: walked. -/
import Derived.Test.YtkigenldiinioabGreatDoorBtKM
import Derived.Test.YtkigenldiinioabGreatDoorCloneM
import Derived.Laws.ResultCell
namespace Go.Proofs.YtkigenldiinioabGreatDoor
open Go.RowKit
open Vl (V)
attribute [local go_sem ↓] Go.wp_at_zero Go.wp_at_succ
theorem results_row_tmpB {P : Program} {fn : Func} {p u : Tmp} {ty : TypeId} (h : fn.results = #[.cell p ty, .tmp u]) (tmps : Array Value) (w : World) (g : Nat) (t : TypeId) (cs : Array Value) (fr : Nat × Nat) (d : TypeDesc)
    (hp : tmps.getD p undef = .pointer (some ⟨g, 0, none⟩)) (hg : w.heap[g]? = some (.cells cs t fr))
    (hu : P.underlying ty = some d) (hd : (match d with | .struct _ | .array _ _ => true | _ => false) = true) (hi : (P.info? ty).map (·.size) = some cs.size) :
    (results fn tmps).run P w = .ok (.tuple #[.agg cs, tmps.getD u undef]) w := by
  rw [results_cell_tmp h, hp]
  simp [asAddr, run_loadVar_row w g t ty cs fr d hg hu hd hi]
set_option maxHeartbeats 4000000 in
set_option maxRecDepth 100000 in
theorem getNil_c (x : V) (hs : Vl.small x) (w : World) (H : Nat) (v : Value) (hH : H ≤ w.heap.size) (hR : Rep w H x v) :
    Calls Tryz.prog 48 #[v, .slice none 0 0] w fun e w' => ∃ v', e = .returned (.tuple #[v', .bool true]) ∧ Below w.heap.size w w' ∧ RepA w' (fun g => w.heap.size ≤ g ∧ g < w'.heap.size) x v' := by
  obtain ⟨d0, d1, d2, d3, d4, d5, rfl⟩ := repV_box hR
  obtain ⟨w1, hw1⟩ : ∃ w1, w1 = (w.alloc (.cells #[d0, d1, d2, d3, d4, d5] 27)).alloc (.cells #[.int .u8 0, .bool false, .int .i64 0, .string ⟨#[]⟩, .slice none 0 0, .slice none 0 0] 27) := ⟨_, rfl⟩
  have hb1 : Below w.heap.size w w1 := by rw [hw1]; exact below_new2 _ _ _
  have hr1 : Row6 w1 w.heap.size d0 d1 d2 d3 d4 d5 := by
    rw [hw1]; exact ⟨by simp; omega, (Below.heap_alloc _ _ _ (by simp)).trans (heap_alloc_new w _)⟩
  have hz1 : Z6 w1 (w.heap.size + 1) := by
    rw [hw1]; exact ⟨by simp, by have := heap_alloc_new (w.alloc (.cells #[d0, d1, d2, d3, d4, d5] 27)) (.cells #[.int .u8 0, .bool false, .int .i64 0, .string ⟨#[]⟩, .slice none 0 0, .slice none 0 0] 27); simpa using this⟩
  have C34 : Hid (Calls Tryz.prog 66 #[.agg #[d0, d1, d2, d3, d4, d5]] w1 fun e w' => ∃ v', e = .returned v' ∧ Below w1.heap.size w1 w' ∧ RepA w' (fun g => w1.heap.size ≤ g ∧ g < w'.heap.size) x v') :=
    (clone34 _ x (Nat.le_refl _) hs w1 H _ (by have := hb1.size; omega) (rep_stays (hb1.mono hH) (Nat.le_refl _) _ _ hR)).mono fun e w' h => by
      obtain ⟨v', M, rfl, hb, hc⟩ := h
      exact ⟨v', rfl, hb, hc.rep hs⟩
  have HZB : Hid (Z6 w1 (w.heap.size + 1) ∧ Below w.heap.size w w1) := ⟨hz1, hb1⟩
  obtain ⟨p0, p1, p2, p3, p4, p5⟩ := hr1.cells
  have HW1 : Hid (w1 = (w.alloc (.cells #[d0, d1, d2, d3, d4, d5] 27)).alloc (.cells #[.int .u8 0, .bool false, .int .i64 0, .string ⟨#[]⟩, .slice none 0 0, .slice none 0 0] 27)) := hw1
  clear hb1 hr1 hz1 hR hs hw1 hH
  go_enter Tryz.func48, Tryz.ntmps48
  go_wp2
  rw [← HW1.out]
  go_loopw [12] (fun i wr => i = .int .i64 0 ∧ wr = w1) (fun _ _ => 0)
  case atStart => exact ⟨rfl, rfl⟩
  case round =>
    obtain ⟨rfl, rfl⟩ := hrel
    clear HW1
    go_wp2_with fail
    refine C34.out.mono ?_
    rintro e w2 ⟨v', rfl, hb2, hr2⟩
    obtain ⟨k3, b3, n3, s3, a3, l3, e3, a4, l4, e4, hv'⟩ := repA_form hr2
    subst hv'
    have Z2 := HZB.out.1.call hb2
    obtain ⟨q0, q1, q2, q3, q4, q5⟩ := Row6.cells Z2
    have fz := Row6.free Z2
    have lt2 := Z2.1
    obtain ⟨w3, hw3⟩ : ∃ w3, w3 = w2.setCells (w.heap.size + 1) 0 [.int .u8 (k3 : Int), .bool b3, .int .i64 n3, .string s3, .slice a3 l3 e3, .slice a4 l4 e4] := ⟨_, rfl⟩
    have HE : Hid (w3.heap[w.heap.size + 1]? = some (.cells #[.int .u8 (k3 : Int), .bool b3, .int .i64 n3, .string s3, .slice a3 l3 e3, .slice a4 l4 e4] 27 (0, 0)) ∧ Below w.heap.size w w3 ∧ RepA w3 (fun g => w.heap.size ≤ g ∧ g < w3.heap.size) x (.agg #[.int .u8 (k3 : Int), .bool b3, .int .i64 n3, .string s3, .slice a3 l3 e3, .slice a4 l4 e4])) := by
      have hsz : w3.heap.size = w2.heap.size := by rw [hw3, size_setCellsV']
      refine ⟨by rw [hw3]; exact Z2.put _ _ _ _ _ _, by rw [hw3]; exact below_setCellsV (by omega) _ _ (HZB.out.2.trans (hb2.mono HZB.out.2.size)), repA_stays (fun g hg => ?_) (fun g hg => ⟨by have h1 := hg.1; have h2 := HZB.out.2.size; omega, by rw [hsz]; exact hg.2⟩) x _ hr2⟩
      rw [hw3]
      exact heap_setCells_neV _ g (by have h1 := hg.1; have h2 := HZB.out.1.1; omega) _ _ _
    have HW3 : Hid (w3 = w2.setCells (w.heap.size + 1) 0 [.int .u8 (k3 : Int), .bool b3, .int .i64 n3, .string s3, .slice a3 l3 e3, .slice a4 l4 e4]) := hw3
    clear hb2 hr2 Z2 p0 p1 p2 p3 p4 p5 hw3
    go_wp2
    rw [sets6, ← HW3.out]
    exact bodyPost_ret (v := .tuple #[.agg #[.int .u8 (k3 : Int), .bool b3, .int .i64 n3, .string s3, .slice a3 l3 e3, .slice a4 l4 e4], .bool true]) ((results_row_tmpB (fn := Tryz.f48) (p := 4) (u := 5) (ty := 27) (by rfl) _ _ (w.heap.size + 1) 27 _ (0, 0) _ (by rfl) HE.out.1 Tryz.underlying27 rfl (by kernel_rfl)).trans (by rfl)) rfl ⟨_, rfl, HE.out.2⟩
set_option maxHeartbeats 4000000 in
set_option maxRecDepth 100000 in
theorem own_c (x : V) (hs : Vl.small x) (w : World) (H : Nat) (v : Value) (hH : H ≤ w.heap.size) (hR : Rep w H x v) :
    Calls Tryz.prog 21 #[v] w fun e w' => ∃ v', e = .returned v' ∧ Below w.heap.size w w' ∧ RepA w' (fun g => w.heap.size ≤ g ∧ g < w'.heap.size) x v' := by
  obtain ⟨d0, d1, d2, d3, d4, d5, rfl⟩ := repV_box hR
  obtain ⟨w1, hw1⟩ : ∃ w1, w1 = (w.alloc (.cells #[d0, d1, d2, d3, d4, d5] 27)).alloc (.cells #[.int .u8 0, .bool false, .int .i64 0, .string ⟨#[]⟩, .slice none 0 0, .slice none 0 0] 27) := ⟨_, rfl⟩
  have hb1 : Below w.heap.size w w1 := by rw [hw1]; exact below_new2 _ _ _
  have hr1 : Row6 w1 w.heap.size d0 d1 d2 d3 d4 d5 := by
    rw [hw1]; exact ⟨by simp; omega, (Below.heap_alloc _ _ _ (by simp)).trans (heap_alloc_new w _)⟩
  have hz1 : Z6 w1 (w.heap.size + 1) := by
    rw [hw1]; exact ⟨by simp, by have := heap_alloc_new (w.alloc (.cells #[d0, d1, d2, d3, d4, d5] 27)) (.cells #[.int .u8 0, .bool false, .int .i64 0, .string ⟨#[]⟩, .slice none 0 0, .slice none 0 0] 27); simpa using this⟩
  have C : Hid (Calls Tryz.prog 48 #[.agg #[d0, d1, d2, d3, d4, d5], .slice none 0 0] w1 fun e w' => ∃ v', e = .returned (.tuple #[v', .bool true]) ∧ Below w1.heap.size w1 w' ∧ RepA w' (fun g => w1.heap.size ≤ g ∧ g < w'.heap.size) x v') :=
    getNil_c x hs w1 H _ (by have := hb1.size; omega) (rep_stays (hb1.mono hH) (Nat.le_refl _) _ _ hR)
  have HZB : Hid (Z6 w1 (w.heap.size + 1) ∧ Below w.heap.size w w1) := ⟨hz1, hb1⟩
  obtain ⟨p0, p1, p2, p3, p4, p5⟩ := hr1.cells
  have HW1 : Hid (w1 = (w.alloc (.cells #[d0, d1, d2, d3, d4, d5] 27)).alloc (.cells #[.int .u8 0, .bool false, .int .i64 0, .string ⟨#[]⟩, .slice none 0 0, .slice none 0 0] 27)) := hw1
  clear hb1 hr1 hz1 hR hs hw1 hH
  go_enter Tryz.func21, Tryz.ntmps21
  go_upto_region 1 with fail
  rw [← HW1.out]
  clear HW1
  go_wp2_with fail
  refine C.out.mono ?_
  rintro e w2 ⟨v', rfl, hb2, hr2⟩
  obtain ⟨k3, b3, n3, s3, a3, l3, e3, a4, l4, e4, hv'⟩ := repA_form hr2
  subst hv'
  obtain ⟨w3, hw3⟩ : ∃ w3, w3 = w2.alloc (.cells #[.int .u8 (k3 : Int), .bool b3, .int .i64 n3, .string s3, .slice a3 l3 e3, .slice a4 l4 e4] 27) := ⟨_, rfl⟩
  have Z3 : Z6 w3 (w.heap.size + 1) := by rw [hw3]; exact (HZB.out.1.call hb2).call (below_new _ _)
  have hr3 : Row6 w3 w2.heap.size (.int .u8 (k3 : Int)) (.bool b3) (.int .i64 n3) (.string s3) (.slice a3 l3 e3) (.slice a4 l4 e4) := by
    rw [hw3]; exact ⟨by simp, heap_alloc_new w2 _⟩
  obtain ⟨w4, hw4⟩ : ∃ w4, w4 = w3.setCells (w.heap.size + 1) 0 [.int .u8 (k3 : Int), .bool b3, .int .i64 n3, .string s3, .slice a3 l3 e3, .slice a4 l4 e4] := ⟨_, rfl⟩
  have HE : Hid (w4.heap[w.heap.size + 1]? = some (.cells #[.int .u8 (k3 : Int), .bool b3, .int .i64 n3, .string s3, .slice a3 l3 e3, .slice a4 l4 e4] 27 (0, 0)) ∧ Below w.heap.size w w4 ∧ RepA w4 (fun g => w.heap.size ≤ g ∧ g < w4.heap.size) x (.agg #[.int .u8 (k3 : Int), .bool b3, .int .i64 n3, .string s3, .slice a3 l3 e3, .slice a4 l4 e4])) := by
    have hsz : w4.heap.size = w2.heap.size + 1 := by rw [hw4, size_setCellsV', hw3]; simp
    refine ⟨by rw [hw4]; exact Z3.put _ _ _ _ _ _, by rw [hw4, hw3]; exact below_setCellsV (by omega) _ _ ((HZB.out.2.trans (hb2.mono HZB.out.2.size)).alloc (Nat.le_trans HZB.out.2.size hb2.size) _), repA_stays (fun g hg => ?_) (fun g hg => ⟨by have h1 := hg.1; have h2 := HZB.out.2.size; omega, by rw [hsz]; have := hg.2; omega⟩) x _ hr2⟩
    rw [hw4, hw3]
    exact (heap_setCells_neV _ g (by have h1 := hg.1; have h2 := HZB.out.1.1; omega) _ _ _).trans (Below.heap_alloc _ _ _ hg.2)
  have HW3 : Hid (w3 = w2.alloc (.cells #[.int .u8 (k3 : Int), .bool b3, .int .i64 n3, .string s3, .slice a3 l3 e3, .slice a4 l4 e4] 27)) := hw3
  have HW4 : Hid (w4 = w3.setCells (w.heap.size + 1) 0 [.int .u8 (k3 : Int), .bool b3, .int .i64 n3, .string s3, .slice a3 l3 e3, .slice a4 l4 e4]) := hw4
  have HZ3 : Hid (Z6 w3 (w.heap.size + 1) ∧ Row6 w3 w2.heap.size (.int .u8 (k3 : Int)) (.bool b3) (.int .i64 n3) (.string s3) (.slice a3 l3 e3) (.slice a4 l4 e4)) := ⟨Z3, hr3⟩
  clear hb2 hr2 Z3 hr3 p0 p1 p2 p3 p4 p5 hw3 hw4
  go_upto_region 2 with fail
  rw [← HW3.out]
  clear HW3
  obtain ⟨q0, q1, q2, q3, q4, q5⟩ := Row6.cells HZ3.out.1
  have fz := Row6.free HZ3.out.1
  have lt2 := HZ3.out.1.1
  obtain ⟨p0, p1, p2, p3, p4, p5⟩ := HZ3.out.2.cells
  go_wp2
  rw [sets6, ← HW4.out]
  exact bodyPost_ret (v := .agg #[.int .u8 (k3 : Int), .bool b3, .int .i64 n3, .string s3, .slice a3 l3 e3, .slice a4 l4 e4]) (results_cell_row rfl _ _ (w.heap.size + 1) 27 #[.int .u8 (k3 : Int), .bool b3, .int .i64 n3, .string s3, .slice a3 l3 e3, .slice a4 l4 e4] (0, 0) _ rfl HE.out.1 Tryz.underlying27 rfl (by kernel_rfl)) rfl ⟨_, rfl, HE.out.2⟩
end Go.Proofs.YtkigenldiinioabGreatDoor
