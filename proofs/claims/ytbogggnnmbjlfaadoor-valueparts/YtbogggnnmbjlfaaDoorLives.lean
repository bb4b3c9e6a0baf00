/- lives, walked: the answers that the document gives are given. -/
import Derived.Test.YtbogggnnmbjlfaaDoorGet
import Derived.Test.YtbogggnnmbjlfaaDoorPut0W
namespace Go.Proofs.YtbogggnnmbjlfaaDoor
open Go.RowKit
open Vl (V)
set_option maxHeartbeats 1000000 in
theorem whole22 (n : Int) (w : World) : Calls Tryd.prog 40 #[.int .i64 n] w fun e w' => e = .returned (.agg #[.int .u8 2, .bool false, .int .i64 n, .string ⟨#[]⟩, .slice none 0 0, .slice none 0 0]) ∧ Below w.heap.size w w' := by
  go_enter Tryd.func40, Tryd.ntmps40
  go_wp2
  exact bodyPost_ret (v := .agg #[.int .u8 2, .bool false, .int .i64 n, .string ⟨#[]⟩, .slice none 0 0, .slice none 0 0]) (results_cell_row rfl _ _ w.heap.size 26 _ (0, 0) _ rfl (heap_alloc_new w _) Tryd.underlying26 rfl info26) rfl ⟨rfl, below_new _ _⟩
set_option maxHeartbeats 1000000 in
theorem list14 (ao : Option Addr) (len cap : Nat) (w : World) : Calls Tryd.prog 39 #[.slice ao len cap] w fun e w' => e = .returned (.agg #[.int .u8 5, .bool false, .int .i64 0, .string ⟨#[]⟩, .slice ao len cap, .slice none 0 0]) ∧ Below w.heap.size w w' := by
  go_enter Tryd.func39, Tryd.ntmps39
  go_wp2
  exact bodyPost_ret (v := .agg #[.int .u8 5, .bool false, .int .i64 0, .string ⟨#[]⟩, .slice ao len cap, .slice none 0 0]) (results_cell_row rfl _ _ w.heap.size 26 _ (0, 0) _ rfl (heap_alloc_new w _) Tryd.underlying26 rfl info26) rfl ⟨rfl, below_new _ _⟩
set_option maxHeartbeats 1000000 in
theorem check11 (t : V) (w : World) (hT : HasT w) (H : Nat) (v : Value) (hH : H ≤ w.heap.size) (hR : Rep w H t v) :
    Calls Tryd.prog 27 #[v] w fun e w' => e = .returned (.int .i64 ((Vl.check utf 0 t : Nat) : Int)) ∧ Below w.heap.size w w' := by
  obtain ⟨xk, xb, xn, xs, xa, xl, xc, ya, yl, yc, hv⟩ := repA_form (rep_repA t v hR)
  subst hv
  have C30 : Hid (∀ W, Below w.heap.size w W → Calls Tryd.prog 48 #[.agg #[.int .u8 (xk : Int), .bool xb, .int .i64 xn, .string xs, .slice xa xl xc, .slice ya yl yc], .int .i64 0] W fun e w' => e = .returned (.int .i64 ((Vl.check utf 0 t : Nat) : Int)) ∧ Below W.heap.size W w') := fun W hW =>
    check30 hasUtf _ t (Nat.le_refl _) 0 (by omega) W H _ (hT.stays hW) (by have := hW.size; omega) (rep_stays (hW.mono hH) (Nat.le_refl _) t _ hR)
  clear hR
  go_enter Tryd.func27, Tryd.ntmps27
  go_wp2_with fail
  refine (C30.out _ (below_new _ _)).mono ?_
  rintro e w2 ⟨rfl, hb2⟩
  go_wp2
  exact ⟨rfl, _, results_tmp (by rfl) _ _ _, rfl, (below_new _ _).trans (hb2.mono (below_new _ _).size)⟩
/-- a number as a value; a list as a value -/
def tw (n : Int) : V := ⟨2, false, n, ⟨#[]⟩, [], []⟩
def tl (l : List V) : V := ⟨5, false, 0, ⟨#[]⟩, l, []⟩
theorem rep_w (w : World) (H : Nat) (n : Int) (hn : -9223372036854775808 ≤ n ∧ n < 9223372036854775808) : Rep w H (tw n) (.agg #[.int .u8 2, .bool false, .int .i64 n, .string ⟨#[]⟩, .slice none 0 0, .slice none 0 0]) := by
  rw [tw, Rep]
  exact ⟨none, 0, none, 0, rfl, by omega, hn, by decide, by decide, by decide, fun h => by simp at h, fun h => by simp at h⟩
/-- a list of one number in a new row -/
theorem rep_l1 {w : World} {g H : Nat} {x : V} {c0 c1 c2 c3 c4 c5 : Value} (hrow : Row6 w g c0 c1 c2 c3 c4 c5) (hg : g < H) (hx : Rep w H x (.agg #[c0, c1, c2, c3, c4, c5])) : Rep w H (tl [x]) (.agg #[.int .u8 5, .bool false, .int .i64 0, .string ⟨#[]⟩, .slice (some ⟨g, 0, none⟩) 1 1, .slice none 0 0]) := by
  rw [tl, Rep]
  refine ⟨some ⟨g, 0, none⟩, 1, none, 0, rfl, by omega, by omega, by decide, by simp [maxLen], by simp [maxLen], fun _ => ⟨g, 0, rfl, hg, ?_⟩, fun h => by simp at h⟩
  rw [RepL, RepL]
  exact ⟨⟨c0, c1, c2, c3, c4, c5, hrow.cells, hx⟩, trivial⟩
theorem rep_l2 {w : World} {g H : Nat} {x y : V} {c0 c1 c2 c3 c4 c5 d0 d1 d2 d3 d4 d5 : Value} (hrow : w.heap[g]? = some (.cells #[c0, c1, c2, c3, c4, c5, d0, d1, d2, d3, d4, d5] 26 (0, 0))) (hg : g < H) (hx : Rep w H x (.agg #[c0, c1, c2, c3, c4, c5])) (hy : Rep w H y (.agg #[d0, d1, d2, d3, d4, d5])) :
    Rep w H (tl [x, y]) (.agg #[.int .u8 5, .bool false, .int .i64 0, .string ⟨#[]⟩, .slice (some ⟨g, 0, none⟩) 2 2, .slice none 0 0]) := by
  rw [tl, Rep]
  refine ⟨some ⟨g, 0, none⟩, 2, none, 0, rfl, by omega, by omega, by decide, by simp [maxLen], by simp [maxLen], fun _ => ⟨g, 0, rfl, hg, ?_⟩, fun h => by simp at h⟩
  rw [RepL, RepL, RepL]
  refine ⟨⟨c0, c1, c2, c3, c4, c5, ⟨?_, ?_, ?_, ?_, ?_, ?_⟩, hx⟩, ⟨d0, d1, d2, d3, d4, d5, ⟨?_, ?_, ?_, ?_, ?_, ?_⟩, hy⟩, trivial⟩ <;> (rw [cell_of_row _ _ _ _ _ _ hrow]; rfl)
theorem small_w (n : Int) : Vl.small (tw n) := by
  rw [tw, Vl.small, Vl.smallL, Vl.smallF]
  exact ⟨by decide, by decide, by decide, trivial, trivial⟩
theorem small_l1 {x : V} (h : Vl.small x) : Vl.small (tl [x]) := by
  rw [tl, Vl.small, Vl.smallL, Vl.smallL, Vl.smallF]
  exact ⟨by decide, by simp, by decide, ⟨h, trivial⟩, trivial⟩
/-- what lives makes -/
def sa : V := ⟨6, false, 0, ⟨#[]⟩, [], [(⟨#[97]⟩, tl [tw 7])]⟩
theorem small_sa : Vl.small sa := by
  rw [sa, Vl.small, Vl.smallL, Vl.smallF, Vl.smallF]
  exact ⟨by decide, by decide, by simp, trivial, ⟨by decide, small_l1 (small_w 7), trivial⟩⟩
theorem count_sa : Vl.count sa = 3 := by simp [sa, tl, tw, Vl.count, Vl.countL, Vl.countF]
theorem place_0 : placeOf ⟨#[48]⟩ = 0 := by decide +kernel
theorem step_a : stepV sa ⟨#[97]⟩ = some (tl [tw 7]) := by
  rw [sa, stepV, if_neg (by decide), if_pos rfl]
  simp [Vl.place, List.findIdx_cons]
theorem get_sa : getV sa [⟨#[97]⟩, ⟨#[48]⟩] = some (tw 7) := by
  rw [getV, step_a]
  simp only [getV]
  rw [show stepV (tl [tw 7]) ⟨#[48]⟩ = some (tw 7) by rw [tl, stepV, if_pos rfl, place_0]; rfl]
theorem cmp_wt : Vl.cmp (tw 1) ⟨3, false, 0, ⟨#[97]⟩, [], []⟩ = -1 := by
  rw [tw, Vl.cmp, if_pos (by decide)]; decide
theorem cmp_ll : Vl.cmp (tl [tw 1]) (tl [tw 1, tw 0]) = -1 := by
  rw [tl, tl, Vl.cmp]
  simp [Vl.cmpL, Vl.cmp_refl]
theorem check_n : Vl.check utf 0 ⟨0, false, 1, ⟨#[]⟩, [], []⟩ = 5 := by
  rw [Vl.check, Vl.alone]
  simp [Vl.strange]
end Go.Proofs.YtbogggnnmbjlfaaDoor
