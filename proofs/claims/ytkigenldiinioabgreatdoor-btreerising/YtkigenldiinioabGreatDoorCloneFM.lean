/- cloneField, walked: a field in memory of its own. -/
import Derived.Test.YtkigenldiinioabGreatDoorCloneLM
namespace Go.Proofs.YtkigenldiinioabGreatDoor
open Go.RowKit
open Vl (V)
/-- seven cells in a block of their own -/
def Row7 (w : World) (g : Nat) (v0 v1 v2 v3 v4 v5 v6 : Value) : Prop := g < w.heap.size ∧ w.heap[g]? = some (.cells #[v0, v1, v2, v3, v4, v5, v6] 93 (0, 0))
theorem Row7.call {w w' : World} {g : Nat} {v0 v1 v2 v3 v4 v5 v6 : Value} (h : Row7 w g v0 v1 v2 v3 v4 v5 v6) (hb : Below w.heap.size w w') : Row7 w' g v0 v1 v2 v3 v4 v5 v6 :=
  ⟨Nat.lt_of_lt_of_le h.1 hb.size, (hb.block _ h.1).trans h.2⟩
theorem Row7.cells {w : World} {g : Nat} {v0 v1 v2 v3 v4 v5 v6 : Value} (h : Row7 w g v0 v1 v2 v3 v4 v5 v6) : w.cell? ⟨g, 0, none⟩ = some v0 ∧ w.cell? ⟨g, 1, none⟩ = some v1 ∧ w.cell? ⟨g, 2, none⟩ = some v2 ∧ w.cell? ⟨g, 3, none⟩ = some v3 ∧ w.cell? ⟨g, 4, none⟩ = some v4 ∧ w.cell? ⟨g, 5, none⟩ = some v5 ∧ w.cell? ⟨g, 6, none⟩ = some v6 := by
  refine ⟨?_, ?_, ?_, ?_, ?_, ?_, ?_⟩ <;> (rw [cell_of_row _ _ _ _ _ _ h.2]; rfl)
theorem Row7.free {w : World} {g : Nat} {v0 v1 v2 v3 v4 v5 v6 : Value} (h : Row7 w g v0 v1 v2 v3 v4 v5 v6) (r : Nat) : w.frozen? ⟨g, r, none⟩ = false := row_freeV h.2 r
set_option maxHeartbeats 4000000 in
set_option maxRecDepth 100000 in
theorem field38 (m : ByteArray) (hm : m.size ≤ 140737488351232) (x : V) (w : World) (c0 c1 c2 c3 c4 c5 : Value) (H : Nat) (hH : H ≤ w.heap.size) (hx : Rep w H x (.agg #[c0, c1, c2, c3, c4, c5]))
    (E : ∀ (W : World) (va : Value), H ≤ W.heap.size → Rep W H x va → Calls Tryz.prog 66 #[va] W fun e w' => ∃ v', e = .returned v' ∧ Below W.heap.size W w' ∧ RepA w' (fun g => W.heap.size ≤ g ∧ g < w'.heap.size) x v') :
    Calls Tryz.prog 91 #[.agg #[.string m, c0, c1, c2, c3, c4, c5]] w fun e w' => ∃ d0 d1 d2 d3 d4 d5, e = .returned (.agg #[.string m, d0, d1, d2, d3, d4, d5]) ∧ Below w.heap.size w w' ∧ RepA w' (fun g => w.heap.size ≤ g ∧ g < w'.heap.size) x (.agg #[d0, d1, d2, d3, d4, d5]) := by
  obtain ⟨xk, xb, xn, xs, xa, xl, xc, ya, yl, yc, rfl, rfl, rfl, rfl, rfl, rfl⟩ := rep_form hx
  have C34 : Hid (∀ W, Below w.heap.size w W → Calls Tryz.prog 66 #[.agg #[.int .u8 (xk : Int), .bool xb, .int .i64 xn, .string xs, .slice xa xl xc, .slice ya yl yc]] W fun e w' => ∃ v', e = .returned v' ∧ Below W.heap.size W w' ∧ RepA w' (fun g => W.heap.size ≤ g ∧ g < w'.heap.size) x v') := fun W hW =>
    E W _ (by have := hW.size; omega) (rep_stays (hW.mono hH) (Nat.le_refl _) x _ hx)
  clear E hx
  go_enter Tryz.func91, Tryz.ntmps91
  go_wp2
  obtain ⟨w1, hw1⟩ : ∃ w1, w1 = (w.alloc (.cells #[.string m, .int .u8 (xk : Int), .bool xb, .int .i64 xn, .string xs, .slice xa xl xc, .slice ya yl yc] 93)).alloc (.cells #[.string ⟨#[]⟩, .int .u8 0, .bool false, .int .i64 0, .string ⟨#[]⟩, .slice none 0 0, .slice none 0 0] 93) := ⟨_, rfl⟩
  have HB1 : Hid (Below w.heap.size w w1) := by rw [hw1]; exact below_new2 _ _ _
  have R1 : Hid (Row7 w1 w.heap.size (.string m) (.int .u8 (xk : Int)) (.bool xb) (.int .i64 xn) (.string xs) (.slice xa xl xc) (.slice ya yl yc)) := by
    show Row7 _ _ _ _ _ _ _ _ _
    rw [hw1]; exact ⟨by simp; omega, (Below.heap_alloc _ _ _ (by simp)).trans (heap_alloc_new w _)⟩
  have S1 : Hid (Row7 w1 (w.heap.size + 1) (.string ⟨#[]⟩) (.int .u8 0) (.bool false) (.int .i64 0) (.string ⟨#[]⟩) (.slice none 0 0) (.slice none 0 0)) := by
    show Row7 _ _ _ _ _ _ _ _ _
    rw [hw1]; exact ⟨by simp, by have := heap_alloc_new (w.alloc (.cells #[.string m, .int .u8 (xk : Int), .bool xb, .int .i64 xn, .string xs, .slice xa xl xc, .slice ya yl yc] 93)) (.cells #[.string ⟨#[]⟩, .int .u8 0, .bool false, .int .i64 0, .string ⟨#[]⟩, .slice none 0 0, .slice none 0 0] 93); simpa using this⟩
  rw [← hw1]
  clear hw1
  obtain ⟨p0, p1, p2, p3, p4, p5, p6⟩ := R1.out.cells
  go_region_with (first
    | (go_at_call 88; refine (text50 m _ hm).mono ?_; rintro e w2 ⟨rfl, hb2⟩
       have HB2 : Hid (Below w1.heap.size w1 w2) := (Below.refl _ _).drew.trans (by exact hb2)
       have R2 : Hid (Row7 w2 w.heap.size (.string m) (.int .u8 (xk : Int)) (.bool xb) (.int .i64 xn) (.string xs) (.slice xa xl xc) (.slice ya yl yc)) := R1.out.call HB2.out
       obtain ⟨q0, q1, q2, q3, q4, q5, q6⟩ := R2.out.cells)
    | (go_at_call 66; refine (C34.out _ (HB1.out.trans (HB2.out.mono HB1.out.size))).mono ?_; rintro e w3 ⟨v', rfl, hb3, hr3⟩
       obtain ⟨zk, zb, zn, zs, za, zl, zc, ta, tl, tc, rfl⟩ := repA_form hr3
       have S3 : Hid (Row7 w3 (w.heap.size + 1) (.string ⟨#[]⟩) (.int .u8 0) (.bool false) (.int .i64 0) (.string ⟨#[]⟩) (.slice none 0 0) (.slice none 0 0)) := (S1.out.call HB2.out).call (by exact hb3)
       obtain ⟨r0, r1, r2, r3, r4, r5, r6⟩ := S3.out.cells
       have fz := S3.out.free
       have hlt3 := S3.out.1
       have HB3 : Hid (Below w2.heap.size w2 w3) := (by exact hb3)
       have HR3 : Hid (RepA w3 (fun g => w2.heap.size ≤ g ∧ g < w3.heap.size) x (.agg #[.int .u8 (zk : Int), .bool zb, .int .i64 zn, .string zs, .slice za zl zc, .slice ta tl tc])) := (by exact hr3)))
  all_goals
    have hsz2 : w.heap.size + 1 < w2.heap.size := Nat.lt_of_lt_of_le S1.out.1 HB2.out.size
    have hst := heap_setCells_put (w.heap.size + 1) 93 [.string m, .int .u8 (zk : Int), .bool zb, .int .i64 zn, .string zs, .slice za zl zc, .slice ta tl tc] 0 w3 _ S3.out.2
    have hbl : Below w.heap.size w (w3.setCells (w.heap.size + 1) 0 [.string m, .int .u8 (zk : Int), .bool zb, .int .i64 zn, .string zs, .slice za zl zc, .slice ta tl tc]) :=
      below_setCellsV (by omega) _ _ (HB1.out.trans ((HB2.out.trans (HB3.out.mono HB2.out.size)).mono HB1.out.size))
    have hrep : RepA (w3.setCells (w.heap.size + 1) 0 [.string m, .int .u8 (zk : Int), .bool zb, .int .i64 zn, .string zs, .slice za zl zc, .slice ta tl tc]) (fun g => w.heap.size ≤ g ∧ g < (w3.setCells (w.heap.size + 1) 0 [.string m, .int .u8 (zk : Int), .bool zb, .int .i64 zn, .string zs, .slice za zl zc, .slice ta tl tc]).heap.size) x (.agg #[.int .u8 (zk : Int), .bool zb, .int .i64 zn, .string zs, .slice za zl zc, .slice ta tl tc]) :=
      repA_stays (fun g hg => heap_setCells_neV _ g (by omega) _ _ _) (fun g hg => ⟨by omega, by rw [size_setCellsV']; exact hg.2⟩) x _ HR3.out
    have HST : Hid _ := hst
    have HBL : Hid _ := hbl
    have HREP : Hid _ := hrep
    clear hst hbl hrep p0 p1 p2 p3 p4 p5 p6 q0 q1 q2 q3 q4 q5 q6 r0 r1 r2 r3 r4 r5 r6
    go_wp2
    exact bodyPost_ret (v := .agg #[.string m, .int .u8 (zk : Int), .bool zb, .int .i64 zn, .string zs, .slice za zl zc, .slice ta tl tc]) (results_cell_row rfl _ _ (w.heap.size + 1) 93 #[.string m, .int .u8 (zk : Int), .bool zb, .int .i64 zn, .string zs, .slice za zl zc, .slice ta tl tc] (0, 0) _ rfl HST.out Tryz.underlying93 rfl info44) rfl ⟨_, _, _, _, _, _, rfl, HBL.out, HREP.out⟩
end Go.Proofs.YtkigenldiinioabGreatDoor
