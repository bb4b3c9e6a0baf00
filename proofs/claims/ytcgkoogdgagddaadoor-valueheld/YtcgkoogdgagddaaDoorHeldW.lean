/- The law ValueHeld, walked: the program's answers are the document's, whatever the values. -/
import Derived.Test.YtcgkoogdgagddaaDoorLivesW
import Derived.Test.YtcgkoogdgagddaaDoorRCheck
import Derived.Test.YtcgkoogdgagddaaDoorRCmpA
import Derived.Test.YtcgkoogdgagddaaDoorRCount
import Derived.Deep.QuietTactic
namespace Go.Proofs.YtcgkoogdgagddaaDoor
open Go.RowKit
open Vl (V)
/-- the two values in boxes -/
structure HS2 (w W : World) (H : Nat) (a b : V) (a0 a1 a2 a3 a4 a5 b0 b1 b2 b3 b4 b5 : Value) : Prop where
  below : Below w.heap.size w W
  low : H ≤ w.heap.size
  t : HasT W
  ra : Row6 W w.heap.size a0 a1 a2 a3 a4 a5
  rb : Row6 W (w.heap.size + 1) b0 b1 b2 b3 b4 b5
  va : Rep W H a (.agg #[a0, a1, a2, a3, a4, a5])
  vb : Rep W H b (.agg #[b0, b1, b2, b3, b4, b5])
theorem HS2.call {w W W' : World} {H : Nat} {a b : V} {a0 a1 a2 a3 a4 a5 b0 b1 b2 b3 b4 b5 : Value} (h : HS2 w W H a b a0 a1 a2 a3 a4 a5 b0 b1 b2 b3 b4 b5) (hb : Below W.heap.size W W') : HS2 w W' H a b a0 a1 a2 a3 a4 a5 b0 b1 b2 b3 b4 b5 := by
  have hH : H ≤ W.heap.size := Nat.le_trans h.low h.below.size
  exact ⟨h.below.trans (hb.mono h.below.size), h.low, h.t.stays hb, h.ra.call hb, h.rb.call hb, rep_stays (hb.mono hH) (Nat.le_refl _) a _ h.va, rep_stays (hb.mono hH) (Nat.le_refl _) b _ h.vb⟩
theorem HS2.high {w W : World} {H : Nat} {a b : V} {a0 a1 a2 a3 a4 a5 b0 b1 b2 b3 b4 b5 : Value} (h : HS2 w W H a b a0 a1 a2 a3 a4 a5 b0 b1 b2 b3 b4 b5) : H ≤ W.heap.size := Nat.le_trans h.low h.below.size
theorem HS2.mk2 {w : World} {H : Nat} {a b : V} {a0 a1 a2 a3 a4 a5 b0 b1 b2 b3 b4 b5 : Value} (hT : HasT w) (hH : H ≤ w.heap.size) (ha : Rep w H a (.agg #[a0, a1, a2, a3, a4, a5])) (hb : Rep w H b (.agg #[b0, b1, b2, b3, b4, b5])) :
    HS2 w ((w.alloc (.cells #[a0, a1, a2, a3, a4, a5] 26)).alloc (.cells #[b0, b1, b2, b3, b4, b5] 26)) H a b a0 a1 a2 a3 a4 a5 b0 b1 b2 b3 b4 b5 := by
  have hB := below_new2 w (.cells #[a0, a1, a2, a3, a4, a5] 26) (.cells #[b0, b1, b2, b3, b4, b5] 26)
  refine ⟨hB, hH, hT.stays hB, ⟨by simp; omega, ?_⟩, ⟨by simp, ?_⟩, rep_stays (hB.mono hH) (Nat.le_refl _) a _ ha, rep_stays (hB.mono hH) (Nat.le_refl _) b _ hb⟩
  · exact (Below.heap_alloc _ _ _ (by simp)).trans (heap_alloc_new w _)
  · have := heap_alloc_new (w.alloc (.cells #[a0, a1, a2, a3, a4, a5] 26)) (.cells #[b0, b1, b2, b3, b4, b5] 26)
    simpa using this
set_option maxHeartbeats 16000000 in
set_option maxRecDepth 100000 in
theorem held8 (a b : V) (w : World) (hT : HasT w) (H : Nat) (va vb : Value) (hH : H ≤ w.heap.size) (ha : Rep w H a va) (hb : Rep w H b vb) :
    Calls Tryd.prog 8 #[va, vb] w fun e w' => e = .returned (.bool true) ∧ Below w.heap.size w w' := by
  obtain ⟨xk, xb, xn, xs, xa, xl, xc, xf, xm, xq, xv⟩ := repA_form (rep_repA a va ha)
  obtain ⟨yk, yb, yn, ys, ya, yl, yc, yf, ym, yq, yv⟩ := repA_form (rep_repA b vb hb)
  subst xv yv
  have S1 : Hid (HS2 w ((w.alloc (.cells #[.int .u8 (xk : Int), .bool xb, .int .i64 xn, .string xs, .slice xa xl xc, .slice xf xm xq] 26)).alloc (.cells #[.int .u8 (yk : Int), .bool yb, .int .i64 yn, .string ys, .slice ya yl yc, .slice yf ym yq] 26)) H a b (.int .u8 (xk : Int)) (.bool xb) (.int .i64 xn) (.string xs) (.slice xa xl xc) (.slice xf xm xq) (.int .u8 (yk : Int)) (.bool yb) (.int .i64 yn) (.string ys) (.slice ya yl yc) (.slice yf ym yq)) := HS2.mk2 hT hH ha hb
  obtain ⟨x, hx⟩ : ∃ x, x = Vl.cmp a b := ⟨_, rfl⟩
  obtain ⟨sm, hsm⟩ : ∃ s, s = Vl.same a b := ⟨_, rfl⟩
  obtain ⟨k, hk⟩ : ∃ k, k = Vl.check utf 0 a := ⟨_, rfl⟩
  obtain ⟨n, hn⟩ : ∃ n, n = wrap64 (Vl.count a : Int) := ⟨_, rfl⟩
  have C9 : Hid (∀ W, HS2 w W H a b (.int .u8 (xk : Int)) (.bool xb) (.int .i64 xn) (.string xs) (.slice xa xl xc) (.slice xf xm xq) (.int .u8 (yk : Int)) (.bool yb) (.int .i64 yn) (.string ys) (.slice ya yl yc) (.slice yf ym yq) → Calls Tryd.prog 9 #[] W fun e w' => e = .returned (.bool true) ∧ Below W.heap.size W w') := fun W hW => by
    exact lives9 W hW.t
  have C11 : Hid (∀ W, HS2 w W H a b (.int .u8 (xk : Int)) (.bool xb) (.int .i64 xn) (.string xs) (.slice xa xl xc) (.slice xf xm xq) (.int .u8 (yk : Int)) (.bool yb) (.int .i64 yn) (.string ys) (.slice ya yl yc) (.slice yf ym yq) → Calls Tryd.prog 11 #[.agg #[.int .u8 (xk : Int), .bool xb, .int .i64 xn, .string xs, .slice xa xl xc, .slice xf xm xq]] W fun e w' => e = .returned (.int .i64 (k : Int)) ∧ Below W.heap.size W w') := fun W hW => by
    rw [hk]; exact check11 a W hW.t H _ hW.high hW.va
  have C19 : Hid (∀ W, HS2 w W H a b (.int .u8 (xk : Int)) (.bool xb) (.int .i64 xn) (.string xs) (.slice xa xl xc) (.slice xf xm xq) (.int .u8 (yk : Int)) (.bool yb) (.int .i64 yn) (.string ys) (.slice ya yl yc) (.slice yf ym yq) → Calls Tryd.prog 19 #[.agg #[.int .u8 (xk : Int), .bool xb, .int .i64 xn, .string xs, .slice xa xl xc, .slice xf xm xq]] W fun e w' => e = .returned (.int .i64 (k : Int)) ∧ Below W.heap.size W w') := fun W hW => by
    rw [hk]; exact rcheck19 a W H _ hW.high hW.va
  have C10 : Hid (∀ W, HS2 w W H a b (.int .u8 (xk : Int)) (.bool xb) (.int .i64 xn) (.string xs) (.slice xa xl xc) (.slice xf xm xq) (.int .u8 (yk : Int)) (.bool yb) (.int .i64 yn) (.string ys) (.slice ya yl yc) (.slice yf ym yq) → Calls Tryd.prog 10 #[.agg #[.int .u8 (xk : Int), .bool xb, .int .i64 xn, .string xs, .slice xa xl xc, .slice xf xm xq], .agg #[.int .u8 (yk : Int), .bool yb, .int .i64 yn, .string ys, .slice ya yl yc, .slice yf ym yq]] W fun e w' => e = .returned (.int .i64 x) ∧ Below W.heap.size W w') := fun W hW => by
    rw [hx]; exact compare10 _ a (Nat.le_refl _) b W H _ _ hW.high hW.va hW.vb
  have C20 : Hid (∀ W, HS2 w W H a b (.int .u8 (xk : Int)) (.bool xb) (.int .i64 xn) (.string xs) (.slice xa xl xc) (.slice xf xm xq) (.int .u8 (yk : Int)) (.bool yb) (.int .i64 yn) (.string ys) (.slice ya yl yc) (.slice yf ym yq) → Calls Tryd.prog 20 #[.agg #[.int .u8 (xk : Int), .bool xb, .int .i64 xn, .string xs, .slice xa xl xc, .slice xf xm xq], .agg #[.int .u8 (yk : Int), .bool yb, .int .i64 yn, .string ys, .slice ya yl yc, .slice yf ym yq]] W fun e w' => e = .returned (.int .i64 x) ∧ Below W.heap.size W w') := fun W hW => by
    rw [hx]; exact rcompare20 _ a (Nat.le_refl _) b W H _ _ hW.high hW.va hW.vb
  have C12 : Hid (∀ W, HS2 w W H a b (.int .u8 (xk : Int)) (.bool xb) (.int .i64 xn) (.string xs) (.slice xa xl xc) (.slice xf xm xq) (.int .u8 (yk : Int)) (.bool yb) (.int .i64 yn) (.string ys) (.slice ya yl yc) (.slice yf ym yq) → Calls Tryd.prog 12 #[.agg #[.int .u8 (xk : Int), .bool xb, .int .i64 xn, .string xs, .slice xa xl xc, .slice xf xm xq], .agg #[.int .u8 (yk : Int), .bool yb, .int .i64 yn, .string ys, .slice ya yl yc, .slice yf ym yq]] W fun e w' => e = .returned (.bool sm) ∧ Below W.heap.size W w') := fun W hW => by
    rw [hsm]; exact same12 _ a (Nat.le_refl _) b W H _ _ hW.high hW.va hW.vb
  have C17 : Hid (∀ W, HS2 w W H a b (.int .u8 (xk : Int)) (.bool xb) (.int .i64 xn) (.string xs) (.slice xa xl xc) (.slice xf xm xq) (.int .u8 (yk : Int)) (.bool yb) (.int .i64 yn) (.string ys) (.slice ya yl yc) (.slice yf ym yq) → Calls Tryd.prog 17 #[.agg #[.int .u8 (xk : Int), .bool xb, .int .i64 xn, .string xs, .slice xa xl xc, .slice xf xm xq], .agg #[.int .u8 (yk : Int), .bool yb, .int .i64 yn, .string ys, .slice ya yl yc, .slice yf ym yq]] W fun e w' => e = .returned (.bool sm) ∧ Below W.heap.size W w') := fun W hW => by
    rw [hsm]; exact rsame17 _ a (Nat.le_refl _) b W H _ _ hW.high hW.va hW.vb
  have C13 : Hid (∀ W, HS2 w W H a b (.int .u8 (xk : Int)) (.bool xb) (.int .i64 xn) (.string xs) (.slice xa xl xc) (.slice xf xm xq) (.int .u8 (yk : Int)) (.bool yb) (.int .i64 yn) (.string ys) (.slice ya yl yc) (.slice yf ym yq) → Calls Tryd.prog 13 #[.agg #[.int .u8 (xk : Int), .bool xb, .int .i64 xn, .string xs, .slice xa xl xc, .slice xf xm xq]] W fun e w' => e = .returned (.int .i64 n) ∧ Below W.heap.size W w') := fun W hW => by
    rw [hn]; exact count13 _ a (Nat.le_refl _) W H _ hW.high hW.va
  have C21 : Hid (∀ W, HS2 w W H a b (.int .u8 (xk : Int)) (.bool xb) (.int .i64 xn) (.string xs) (.slice xa xl xc) (.slice xf xm xq) (.int .u8 (yk : Int)) (.bool yb) (.int .i64 yn) (.string ys) (.slice ya yl yc) (.slice yf ym yq) → Calls Tryd.prog 21 #[.agg #[.int .u8 (xk : Int), .bool xb, .int .i64 xn, .string xs, .slice xa xl xc, .slice xf xm xq]] W fun e w' => e = .returned (.int .i64 n) ∧ Below W.heap.size W w') := fun W hW => by
    rw [hn]; exact rcount21 _ a (Nat.le_refl _) W H _ hW.high hW.va
  clear hT ha hb hx hsm hk hn
  go_enter Tryd.func8, Tryd.ntmps8
  go_upto_region 1 with fail
  obtain ⟨i0, i1, i2, i3, i4, i5⟩ := S1.out.ra.cells
  obtain ⟨j0, j1, j2, j3, j4, j5⟩ := S1.out.rb.cells
  go_region_held3 (fun W' => W'.cell? ⟨w.heap.size, 0, none⟩ = some (.int .u8 (xk : Int)) ∧ W'.cell? ⟨w.heap.size, 1, none⟩ = some (.bool xb) ∧ W'.cell? ⟨w.heap.size, 2, none⟩ = some (.int .i64 xn) ∧ W'.cell? ⟨w.heap.size, 3, none⟩ = some (.string xs) ∧ W'.cell? ⟨w.heap.size, 4, none⟩ = some (.slice xa xl xc) ∧ W'.cell? ⟨w.heap.size, 5, none⟩ = some (.slice xf xm xq) ∧ W'.cell? ⟨w.heap.size + 1, 0, none⟩ = some (.int .u8 (yk : Int)) ∧ W'.cell? ⟨w.heap.size + 1, 1, none⟩ = some (.bool yb) ∧ W'.cell? ⟨w.heap.size + 1, 2, none⟩ = some (.int .i64 yn) ∧ W'.cell? ⟨w.heap.size + 1, 3, none⟩ = some (.string ys) ∧ W'.cell? ⟨w.heap.size + 1, 4, none⟩ = some (.slice ya yl yc) ∧ W'.cell? ⟨w.heap.size + 1, 5, none⟩ = some (.slice yf ym yq)) (go_keep) (first
    | (go_at_call 9; refine (C9.out _ ?_).mono ?_; (first | exact S1.out.call (Below.refl _ _).drew | exact S1.out); rintro e w2 ⟨rfl, hb2⟩
       have S1 : Hid (HS2 w w2 H a b (.int .u8 (xk : Int)) (.bool xb) (.int .i64 xn) (.string xs) (.slice xa xl xc) (.slice xf xm xq) (.int .u8 (yk : Int)) (.bool yb) (.int .i64 yn) (.string ys) (.slice ya yl yc) (.slice yf ym yq)) := S1.out.call (by first | exact hb2 | exact (Below.refl _ _).drew.trans hb2)
       clear hb2
       obtain ⟨i0, i1, i2, i3, i4, i5⟩ := S1.out.ra.cells
       obtain ⟨j0, j1, j2, j3, j4, j5⟩ := S1.out.rb.cells)
    | (go_at_call 11; refine (C11.out _ ?_).mono ?_; (first | exact S1.out.call (Below.refl _ _).drew | exact S1.out); rintro e w2 ⟨rfl, hb2⟩
       have S1 : Hid (HS2 w w2 H a b (.int .u8 (xk : Int)) (.bool xb) (.int .i64 xn) (.string xs) (.slice xa xl xc) (.slice xf xm xq) (.int .u8 (yk : Int)) (.bool yb) (.int .i64 yn) (.string ys) (.slice ya yl yc) (.slice yf ym yq)) := S1.out.call (by first | exact hb2 | exact (Below.refl _ _).drew.trans hb2)
       clear hb2
       obtain ⟨i0, i1, i2, i3, i4, i5⟩ := S1.out.ra.cells
       obtain ⟨j0, j1, j2, j3, j4, j5⟩ := S1.out.rb.cells)
    | (go_at_call 19; refine (C19.out _ ?_).mono ?_; (first | exact S1.out.call (Below.refl _ _).drew | exact S1.out); rintro e w2 ⟨rfl, hb2⟩
       have S1 : Hid (HS2 w w2 H a b (.int .u8 (xk : Int)) (.bool xb) (.int .i64 xn) (.string xs) (.slice xa xl xc) (.slice xf xm xq) (.int .u8 (yk : Int)) (.bool yb) (.int .i64 yn) (.string ys) (.slice ya yl yc) (.slice yf ym yq)) := S1.out.call (by first | exact hb2 | exact (Below.refl _ _).drew.trans hb2)
       clear hb2
       obtain ⟨i0, i1, i2, i3, i4, i5⟩ := S1.out.ra.cells
       obtain ⟨j0, j1, j2, j3, j4, j5⟩ := S1.out.rb.cells)
    | (go_at_call 10; refine (C10.out _ ?_).mono ?_; (first | exact S1.out.call (Below.refl _ _).drew | exact S1.out); rintro e w2 ⟨rfl, hb2⟩
       have S1 : Hid (HS2 w w2 H a b (.int .u8 (xk : Int)) (.bool xb) (.int .i64 xn) (.string xs) (.slice xa xl xc) (.slice xf xm xq) (.int .u8 (yk : Int)) (.bool yb) (.int .i64 yn) (.string ys) (.slice ya yl yc) (.slice yf ym yq)) := S1.out.call (by first | exact hb2 | exact (Below.refl _ _).drew.trans hb2)
       clear hb2
       obtain ⟨i0, i1, i2, i3, i4, i5⟩ := S1.out.ra.cells
       obtain ⟨j0, j1, j2, j3, j4, j5⟩ := S1.out.rb.cells)
    | (go_at_call 20; refine (C20.out _ ?_).mono ?_; (first | exact S1.out.call (Below.refl _ _).drew | exact S1.out); rintro e w2 ⟨rfl, hb2⟩
       have S1 : Hid (HS2 w w2 H a b (.int .u8 (xk : Int)) (.bool xb) (.int .i64 xn) (.string xs) (.slice xa xl xc) (.slice xf xm xq) (.int .u8 (yk : Int)) (.bool yb) (.int .i64 yn) (.string ys) (.slice ya yl yc) (.slice yf ym yq)) := S1.out.call (by first | exact hb2 | exact (Below.refl _ _).drew.trans hb2)
       clear hb2
       obtain ⟨i0, i1, i2, i3, i4, i5⟩ := S1.out.ra.cells
       obtain ⟨j0, j1, j2, j3, j4, j5⟩ := S1.out.rb.cells)
    | (go_at_call 12; refine (C12.out _ ?_).mono ?_; (first | exact S1.out.call (Below.refl _ _).drew | exact S1.out); rintro e w2 ⟨rfl, hb2⟩
       have S1 : Hid (HS2 w w2 H a b (.int .u8 (xk : Int)) (.bool xb) (.int .i64 xn) (.string xs) (.slice xa xl xc) (.slice xf xm xq) (.int .u8 (yk : Int)) (.bool yb) (.int .i64 yn) (.string ys) (.slice ya yl yc) (.slice yf ym yq)) := S1.out.call (by first | exact hb2 | exact (Below.refl _ _).drew.trans hb2)
       clear hb2
       obtain ⟨i0, i1, i2, i3, i4, i5⟩ := S1.out.ra.cells
       obtain ⟨j0, j1, j2, j3, j4, j5⟩ := S1.out.rb.cells)
    | (go_at_call 17; refine (C17.out _ ?_).mono ?_; (first | exact S1.out.call (Below.refl _ _).drew | exact S1.out); rintro e w2 ⟨rfl, hb2⟩
       have S1 : Hid (HS2 w w2 H a b (.int .u8 (xk : Int)) (.bool xb) (.int .i64 xn) (.string xs) (.slice xa xl xc) (.slice xf xm xq) (.int .u8 (yk : Int)) (.bool yb) (.int .i64 yn) (.string ys) (.slice ya yl yc) (.slice yf ym yq)) := S1.out.call (by first | exact hb2 | exact (Below.refl _ _).drew.trans hb2)
       clear hb2
       obtain ⟨i0, i1, i2, i3, i4, i5⟩ := S1.out.ra.cells
       obtain ⟨j0, j1, j2, j3, j4, j5⟩ := S1.out.rb.cells)
    | (go_at_call 13; refine (C13.out _ ?_).mono ?_; (first | exact S1.out.call (Below.refl _ _).drew | exact S1.out); rintro e w2 ⟨rfl, hb2⟩
       have S1 : Hid (HS2 w w2 H a b (.int .u8 (xk : Int)) (.bool xb) (.int .i64 xn) (.string xs) (.slice xa xl xc) (.slice xf xm xq) (.int .u8 (yk : Int)) (.bool yb) (.int .i64 yn) (.string ys) (.slice ya yl yc) (.slice yf ym yq)) := S1.out.call (by first | exact hb2 | exact (Below.refl _ _).drew.trans hb2)
       clear hb2
       obtain ⟨i0, i1, i2, i3, i4, i5⟩ := S1.out.ra.cells
       obtain ⟨j0, j1, j2, j3, j4, j5⟩ := S1.out.rb.cells)
    | (go_at_call 21; refine (C21.out _ ?_).mono ?_; (first | exact S1.out.call (Below.refl _ _).drew | exact S1.out); rintro e w2 ⟨rfl, hb2⟩
       have S1 : Hid (HS2 w w2 H a b (.int .u8 (xk : Int)) (.bool xb) (.int .i64 xn) (.string xs) (.slice xa xl xc) (.slice xf xm xq) (.int .u8 (yk : Int)) (.bool yb) (.int .i64 yn) (.string ys) (.slice ya yl yc) (.slice yf ym yq)) := S1.out.call (by first | exact hb2 | exact (Below.refl _ _).drew.trans hb2)
       clear hb2
       obtain ⟨i0, i1, i2, i3, i4, i5⟩ := S1.out.ra.cells
       obtain ⟨j0, j1, j2, j3, j4, j5⟩ := S1.out.rb.cells))
  go_wp2
  exact ⟨rfl, _, results_tmp (by rfl) _ _ _, by simp, S1.out.below⟩
end Go.Proofs.YtcgkoogdgagddaaDoor
