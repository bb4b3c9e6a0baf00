/- The law ValueOrder, walked to its end: it answers true whatever the values. -/
import Derived.Test.YtcgkoogdgagddaaDoorOrderW
import Derived.Deep.QuietTactic
namespace Go.Proofs.YtcgkoogdgagddaaDoor
open Go.RowKit
open Vl (V)
theorem OS.mk3 {w : World} {H : Nat} {a b c : V} {a0 a1 a2 a3 a4 a5 b0 b1 b2 b3 b4 b5 c0 c1 c2 c3 c4 c5 : Value} (hT : HasT w) (hH : H ≤ w.heap.size) (ha : Rep w H a (.agg #[a0, a1, a2, a3, a4, a5])) (hb : Rep w H b (.agg #[b0, b1, b2, b3, b4, b5])) (hc : Rep w H c (.agg #[c0, c1, c2, c3, c4, c5])) :
    OS w (((w.alloc (.cells #[a0, a1, a2, a3, a4, a5] 26)).alloc (.cells #[b0, b1, b2, b3, b4, b5] 26)).alloc (.cells #[c0, c1, c2, c3, c4, c5] 26)) H a b c a0 a1 a2 a3 a4 a5 b0 b1 b2 b3 b4 b5 c0 c1 c2 c3 c4 c5 := by
  have hB : Below w.heap.size w (((w.alloc (.cells #[a0, a1, a2, a3, a4, a5] 26)).alloc (.cells #[b0, b1, b2, b3, b4, b5] 26)).alloc (.cells #[c0, c1, c2, c3, c4, c5] 26)) := (below_new2 _ _ _).trans ((below_new _ _).mono (below_new2 _ _ _).size)
  refine ⟨hB, hH, hT.stays hB, ⟨by simp; omega, ?_⟩, ⟨by simp, ?_⟩, ⟨by simp, ?_⟩, rep_stays (hB.mono hH) (Nat.le_refl _) a _ ha, rep_stays (hB.mono hH) (Nat.le_refl _) b _ hb, rep_stays (hB.mono hH) (Nat.le_refl _) c _ hc⟩
  · exact (Below.heap_alloc _ _ _ (by simp; omega)).trans ((Below.heap_alloc _ _ _ (by simp)).trans (heap_alloc_new w _))
  · refine (Below.heap_alloc _ _ _ (by simp)).trans ?_
    have := heap_alloc_new (w.alloc (.cells #[a0, a1, a2, a3, a4, a5] 26)) (.cells #[b0, b1, b2, b3, b4, b5] 26)
    simpa using this
  · have := heap_alloc_new ((w.alloc (.cells #[a0, a1, a2, a3, a4, a5] 26)).alloc (.cells #[b0, b1, b2, b3, b4, b5] 26)) (.cells #[c0, c1, c2, c3, c4, c5] 26)
    simpa using this
set_option maxHeartbeats 16000000 in
set_option maxRecDepth 100000 in
theorem order3 (a b c : V) (w : World) (hT : HasT w) (H : Nat) (va vb vc : Value) (hH : H ≤ w.heap.size) (ha : Rep w H a va) (hb : Rep w H b vb) (hc : Rep w H c vc) :
    Calls Tryd.prog 3 #[va, vb, vc] w fun e w' => e = .returned (.bool true) ∧ Below w.heap.size w w' := by
  obtain ⟨xk, xb, xn, xs, xa, xl, xc, xf, xm, xq, xv⟩ := repA_form (rep_repA a va ha)
  obtain ⟨yk, yb, yn, ys, ya, yl, yc, yf, ym, yq, yv⟩ := repA_form (rep_repA b vb hb)
  obtain ⟨zk, zb, zn, zs, za, zl, zc, zf, zm, zq, zv⟩ := repA_form (rep_repA c vc hc)
  subst xv yv zv
  have S0 : Hid (OS w (((w.alloc (.cells #[.int .u8 (xk : Int), .bool xb, .int .i64 xn, .string xs, .slice xa xl xc, .slice xf xm xq] 26)).alloc (.cells #[.int .u8 (yk : Int), .bool yb, .int .i64 yn, .string ys, .slice ya yl yc, .slice yf ym yq] 26)).alloc (.cells #[.int .u8 (zk : Int), .bool zb, .int .i64 zn, .string zs, .slice za zl zc, .slice zf zm zq] 26)) H a b c (.int .u8 (xk : Int)) (.bool xb) (.int .i64 xn) (.string xs) (.slice xa xl xc) (.slice xf xm xq) (.int .u8 (yk : Int)) (.bool yb) (.int .i64 yn) (.string ys) (.slice ya yl yc) (.slice yf ym yq) (.int .u8 (zk : Int)) (.bool zb) (.int .i64 zn) (.string zs) (.slice za zl zc) (.slice zf zm zq)) := OS.mk3 hT hH ha hb hc
  obtain ⟨x, hx⟩ : ∃ x, x = Vl.cmp a b := ⟨_, rfl⟩
  obtain ⟨y, hy⟩ : ∃ y, y = Vl.cmp b c := ⟨_, rfl⟩
  obtain ⟨z, hz⟩ : ∃ z, z = Vl.cmp a c := ⟨_, rfl⟩
  have HXB : Hid (-1 ≤ x ∧ x ≤ 1) := by show _ ∧ _; rw [hx]; exact Vl.cmp_bound a b
  have HTRI : Hid (x ≤ 0 → y ≤ 0 → z ≤ 0 ∧ (z = 0 → x = 0 ∧ y = 0)) := by show _ → _; rw [hx, hy, hz]; exact Vl.tri_cmp a b c
  have CAB : Hid (∀ W, OS w W H a b c (.int .u8 (xk : Int)) (.bool xb) (.int .i64 xn) (.string xs) (.slice xa xl xc) (.slice xf xm xq) (.int .u8 (yk : Int)) (.bool yb) (.int .i64 yn) (.string ys) (.slice ya yl yc) (.slice yf ym yq) (.int .u8 (zk : Int)) (.bool zb) (.int .i64 zn) (.string zs) (.slice za zl zc) (.slice zf zm zq) → Calls Tryd.prog 10 #[.agg #[.int .u8 (xk : Int), .bool xb, .int .i64 xn, .string xs, .slice xa xl xc, .slice xf xm xq], .agg #[.int .u8 (yk : Int), .bool yb, .int .i64 yn, .string ys, .slice ya yl yc, .slice yf ym yq]] W fun e w' => e = .returned (.int .i64 x) ∧ Below W.heap.size W w') := fun W hW => by
    rw [hx]; exact compare10 _ a (Nat.le_refl _) b W H _ _ (Nat.le_trans hW.low hW.below.size) hW.va hW.vb
  have CBC : Hid (∀ W, OS w W H a b c (.int .u8 (xk : Int)) (.bool xb) (.int .i64 xn) (.string xs) (.slice xa xl xc) (.slice xf xm xq) (.int .u8 (yk : Int)) (.bool yb) (.int .i64 yn) (.string ys) (.slice ya yl yc) (.slice yf ym yq) (.int .u8 (zk : Int)) (.bool zb) (.int .i64 zn) (.string zs) (.slice za zl zc) (.slice zf zm zq) → Calls Tryd.prog 10 #[.agg #[.int .u8 (yk : Int), .bool yb, .int .i64 yn, .string ys, .slice ya yl yc, .slice yf ym yq], .agg #[.int .u8 (zk : Int), .bool zb, .int .i64 zn, .string zs, .slice za zl zc, .slice zf zm zq]] W fun e w' => e = .returned (.int .i64 y) ∧ Below W.heap.size W w') := fun W hW => by
    rw [hy]; exact compare10 _ b (Nat.le_refl _) c W H _ _ (Nat.le_trans hW.low hW.below.size) hW.vb hW.vc
  have CAC : Hid (∀ W, OS w W H a b c (.int .u8 (xk : Int)) (.bool xb) (.int .i64 xn) (.string xs) (.slice xa xl xc) (.slice xf xm xq) (.int .u8 (yk : Int)) (.bool yb) (.int .i64 yn) (.string ys) (.slice ya yl yc) (.slice yf ym yq) (.int .u8 (zk : Int)) (.bool zb) (.int .i64 zn) (.string zs) (.slice za zl zc) (.slice zf zm zq) → Calls Tryd.prog 10 #[.agg #[.int .u8 (xk : Int), .bool xb, .int .i64 xn, .string xs, .slice xa xl xc, .slice xf xm xq], .agg #[.int .u8 (zk : Int), .bool zb, .int .i64 zn, .string zs, .slice za zl zc, .slice zf zm zq]] W fun e w' => e = .returned (.int .i64 z) ∧ Below W.heap.size W w') := fun W hW => by
    rw [hz]; exact compare10 _ a (Nat.le_refl _) c W H _ _ (Nat.le_trans hW.low hW.below.size) hW.va hW.vc
  have CBA : Hid (∀ W, OS w W H a b c (.int .u8 (xk : Int)) (.bool xb) (.int .i64 xn) (.string xs) (.slice xa xl xc) (.slice xf xm xq) (.int .u8 (yk : Int)) (.bool yb) (.int .i64 yn) (.string ys) (.slice ya yl yc) (.slice yf ym yq) (.int .u8 (zk : Int)) (.bool zb) (.int .i64 zn) (.string zs) (.slice za zl zc) (.slice zf zm zq) → Calls Tryd.prog 10 #[.agg #[.int .u8 (yk : Int), .bool yb, .int .i64 yn, .string ys, .slice ya yl yc, .slice yf ym yq], .agg #[.int .u8 (xk : Int), .bool xb, .int .i64 xn, .string xs, .slice xa xl xc, .slice xf xm xq]] W fun e w' => e = .returned (.int .i64 (-x)) ∧ Below W.heap.size W w') := fun W hW => by
    have := compare10 _ b (Nat.le_refl _) a W H _ _ (Nat.le_trans hW.low hW.below.size) hW.vb hW.va
    rw [Vl.cmp_turn a b, ← hx] at this
    exact this
  have CAA : Hid (∀ W, OS w W H a b c (.int .u8 (xk : Int)) (.bool xb) (.int .i64 xn) (.string xs) (.slice xa xl xc) (.slice xf xm xq) (.int .u8 (yk : Int)) (.bool yb) (.int .i64 yn) (.string ys) (.slice ya yl yc) (.slice yf ym yq) (.int .u8 (zk : Int)) (.bool zb) (.int .i64 zn) (.string zs) (.slice za zl zc) (.slice zf zm zq) → Calls Tryd.prog 10 #[.agg #[.int .u8 (xk : Int), .bool xb, .int .i64 xn, .string xs, .slice xa xl xc, .slice xf xm xq], .agg #[.int .u8 (xk : Int), .bool xb, .int .i64 xn, .string xs, .slice xa xl xc, .slice xf xm xq]] W fun e w' => e = .returned (.int .i64 0) ∧ Below W.heap.size W w') := fun W hW => by
    have := compare10 _ a (Nat.le_refl _) a W H _ _ (Nat.le_trans hW.low hW.below.size) hW.va hW.va
    rw [Vl.cmp_refl a] at this
    exact this
  obtain ⟨ka, hka⟩ : ∃ k, k = Vl.check utf 0 a := ⟨_, rfl⟩
  obtain ⟨kb, hkb⟩ : ∃ k, k = Vl.check utf 0 b := ⟨_, rfl⟩
  obtain ⟨sm, hsm⟩ : ∃ s, s = Vl.same a b := ⟨_, rfl⟩
  have KA : Hid (∀ W, OS w W H a b c (.int .u8 (xk : Int)) (.bool xb) (.int .i64 xn) (.string xs) (.slice xa xl xc) (.slice xf xm xq) (.int .u8 (yk : Int)) (.bool yb) (.int .i64 yn) (.string ys) (.slice ya yl yc) (.slice yf ym yq) (.int .u8 (zk : Int)) (.bool zb) (.int .i64 zn) (.string zs) (.slice za zl zc) (.slice zf zm zq) → Calls Tryd.prog 11 #[.agg #[.int .u8 (xk : Int), .bool xb, .int .i64 xn, .string xs, .slice xa xl xc, .slice xf xm xq]] W fun e w' => e = .returned (.int .i64 (ka : Int)) ∧ Below W.heap.size W w') := fun W hW => by
    rw [hka]; exact check11 a W hW.t H _ (Nat.le_trans hW.low hW.below.size) hW.va
  have KB : Hid (∀ W, OS w W H a b c (.int .u8 (xk : Int)) (.bool xb) (.int .i64 xn) (.string xs) (.slice xa xl xc) (.slice xf xm xq) (.int .u8 (yk : Int)) (.bool yb) (.int .i64 yn) (.string ys) (.slice ya yl yc) (.slice yf ym yq) (.int .u8 (zk : Int)) (.bool zb) (.int .i64 zn) (.string zs) (.slice za zl zc) (.slice zf zm zq) → Calls Tryd.prog 11 #[.agg #[.int .u8 (yk : Int), .bool yb, .int .i64 yn, .string ys, .slice ya yl yc, .slice yf ym yq]] W fun e w' => e = .returned (.int .i64 (kb : Int)) ∧ Below W.heap.size W w') := fun W hW => by
    rw [hkb]; exact check11 b W hW.t H _ (Nat.le_trans hW.low hW.below.size) hW.vb
  have KS : Hid (∀ W, OS w W H a b c (.int .u8 (xk : Int)) (.bool xb) (.int .i64 xn) (.string xs) (.slice xa xl xc) (.slice xf xm xq) (.int .u8 (yk : Int)) (.bool yb) (.int .i64 yn) (.string ys) (.slice ya yl yc) (.slice yf ym yq) (.int .u8 (zk : Int)) (.bool zb) (.int .i64 zn) (.string zs) (.slice za zl zc) (.slice zf zm zq) → Calls Tryd.prog 12 #[.agg #[.int .u8 (xk : Int), .bool xb, .int .i64 xn, .string xs, .slice xa xl xc, .slice xf xm xq], .agg #[.int .u8 (yk : Int), .bool yb, .int .i64 yn, .string ys, .slice ya yl yc, .slice yf ym yq]] W fun e w' => e = .returned (.bool sm) ∧ Below W.heap.size W w') := fun W hW => by
    rw [hsm]; exact same12 _ a (Nat.le_refl _) b W H _ _ (Nat.le_trans hW.low hW.below.size) hW.va hW.vb
  have HSM : Hid (ka = 0 → kb = 0 → decide (x = 0) = sm) := fun h1 h2 => by
    rw [hx, hsm]; exact Vl.zero_same utf a b (by rw [← hka]; exact h1) (by rw [← hkb]; exact h2)
  clear hT ha hb hc hx hy hz hka hkb hsm
  go_enter Tryd.func3, Tryd.ntmps3
  go_wp2_with fail
  refine (lives9 _ S0.out.t).mono ?_
  rintro e w1 ⟨rfl, hb1⟩
  have S1 : Hid (OS w w1 H a b c (.int .u8 (xk : Int)) (.bool xb) (.int .i64 xn) (.string xs) (.slice xa xl xc) (.slice xf xm xq) (.int .u8 (yk : Int)) (.bool yb) (.int .i64 yn) (.string ys) (.slice ya yl yc) (.slice yf ym yq) (.int .u8 (zk : Int)) (.bool zb) (.int .i64 zn) (.string zs) (.slice za zl zc) (.slice zf zm zq)) := S0.out.call hb1
  clear hb1 S0
  go_wp2
  obtain ⟨i0, i1, i2, i3, i4, i5⟩ := S1.out.ra.cells
  obtain ⟨j0, j1, j2, j3, j4, j5⟩ := S1.out.rb.cells
  obtain ⟨k0, k1, k2, k3, k4, k5⟩ := S1.out.rc.cells
  go_region_held3 (fun W' => W'.cell? ⟨w.heap.size, 0, none⟩ = some (.int .u8 (xk : Int)) ∧ W'.cell? ⟨w.heap.size, 1, none⟩ = some (.bool xb) ∧ W'.cell? ⟨w.heap.size, 2, none⟩ = some (.int .i64 xn) ∧ W'.cell? ⟨w.heap.size, 3, none⟩ = some (.string xs) ∧ W'.cell? ⟨w.heap.size, 4, none⟩ = some (.slice xa xl xc) ∧ W'.cell? ⟨w.heap.size, 5, none⟩ = some (.slice xf xm xq) ∧ W'.cell? ⟨w.heap.size + 1, 0, none⟩ = some (.int .u8 (yk : Int)) ∧ W'.cell? ⟨w.heap.size + 1, 1, none⟩ = some (.bool yb) ∧ W'.cell? ⟨w.heap.size + 1, 2, none⟩ = some (.int .i64 yn) ∧ W'.cell? ⟨w.heap.size + 1, 3, none⟩ = some (.string ys) ∧ W'.cell? ⟨w.heap.size + 1, 4, none⟩ = some (.slice ya yl yc) ∧ W'.cell? ⟨w.heap.size + 1, 5, none⟩ = some (.slice yf ym yq) ∧ W'.cell? ⟨w.heap.size + 1 + 1, 0, none⟩ = some (.int .u8 (zk : Int)) ∧ W'.cell? ⟨w.heap.size + 1 + 1, 1, none⟩ = some (.bool zb) ∧ W'.cell? ⟨w.heap.size + 1 + 1, 2, none⟩ = some (.int .i64 zn) ∧ W'.cell? ⟨w.heap.size + 1 + 1, 3, none⟩ = some (.string zs) ∧ W'.cell? ⟨w.heap.size + 1 + 1, 4, none⟩ = some (.slice za zl zc) ∧ W'.cell? ⟨w.heap.size + 1 + 1, 5, none⟩ = some (.slice zf zm zq)) (go_keep) (first
    | (go_at_call_of 10 (Value.agg #[.int .u8 (xk : Int), .bool xb, .int .i64 xn, .string xs, .slice xa xl xc, .slice xf xm xq]); go_at_call_of 10 (Value.agg #[.int .u8 (yk : Int), .bool yb, .int .i64 yn, .string ys, .slice ya yl yc, .slice yf ym yq]); refine (CAB.out _ ?_).mono ?_; (first | exact S1.out.call (Below.refl _ _).drew | exact S1.out); rintro e w2 ⟨rfl, hb2⟩
       have S1 : Hid (OS w w2 H a b c (.int .u8 (xk : Int)) (.bool xb) (.int .i64 xn) (.string xs) (.slice xa xl xc) (.slice xf xm xq) (.int .u8 (yk : Int)) (.bool yb) (.int .i64 yn) (.string ys) (.slice ya yl yc) (.slice yf ym yq) (.int .u8 (zk : Int)) (.bool zb) (.int .i64 zn) (.string zs) (.slice za zl zc) (.slice zf zm zq)) := S1.out.call (by first | exact hb2 | exact (Below.refl _ _).drew.trans hb2)
       clear hb2
       obtain ⟨i0, i1, i2, i3, i4, i5⟩ := S1.out.ra.cells
       obtain ⟨j0, j1, j2, j3, j4, j5⟩ := S1.out.rb.cells
       obtain ⟨k0, k1, k2, k3, k4, k5⟩ := S1.out.rc.cells)
    | (go_at_call_of 10 (Value.agg #[.int .u8 (yk : Int), .bool yb, .int .i64 yn, .string ys, .slice ya yl yc, .slice yf ym yq]); go_at_call_of 10 (Value.agg #[.int .u8 (zk : Int), .bool zb, .int .i64 zn, .string zs, .slice za zl zc, .slice zf zm zq]); refine (CBC.out _ ?_).mono ?_; (first | exact S1.out.call (Below.refl _ _).drew | exact S1.out); rintro e w2 ⟨rfl, hb2⟩
       have S1 : Hid (OS w w2 H a b c (.int .u8 (xk : Int)) (.bool xb) (.int .i64 xn) (.string xs) (.slice xa xl xc) (.slice xf xm xq) (.int .u8 (yk : Int)) (.bool yb) (.int .i64 yn) (.string ys) (.slice ya yl yc) (.slice yf ym yq) (.int .u8 (zk : Int)) (.bool zb) (.int .i64 zn) (.string zs) (.slice za zl zc) (.slice zf zm zq)) := S1.out.call (by first | exact hb2 | exact (Below.refl _ _).drew.trans hb2)
       clear hb2
       obtain ⟨i0, i1, i2, i3, i4, i5⟩ := S1.out.ra.cells
       obtain ⟨j0, j1, j2, j3, j4, j5⟩ := S1.out.rb.cells
       obtain ⟨k0, k1, k2, k3, k4, k5⟩ := S1.out.rc.cells)
    | (go_at_call_of 10 (Value.agg #[.int .u8 (xk : Int), .bool xb, .int .i64 xn, .string xs, .slice xa xl xc, .slice xf xm xq]); go_at_call_of 10 (Value.agg #[.int .u8 (zk : Int), .bool zb, .int .i64 zn, .string zs, .slice za zl zc, .slice zf zm zq]); refine (CAC.out _ ?_).mono ?_; (first | exact S1.out.call (Below.refl _ _).drew | exact S1.out); rintro e w2 ⟨rfl, hb2⟩
       have S1 : Hid (OS w w2 H a b c (.int .u8 (xk : Int)) (.bool xb) (.int .i64 xn) (.string xs) (.slice xa xl xc) (.slice xf xm xq) (.int .u8 (yk : Int)) (.bool yb) (.int .i64 yn) (.string ys) (.slice ya yl yc) (.slice yf ym yq) (.int .u8 (zk : Int)) (.bool zb) (.int .i64 zn) (.string zs) (.slice za zl zc) (.slice zf zm zq)) := S1.out.call (by first | exact hb2 | exact (Below.refl _ _).drew.trans hb2)
       clear hb2
       obtain ⟨i0, i1, i2, i3, i4, i5⟩ := S1.out.ra.cells
       obtain ⟨j0, j1, j2, j3, j4, j5⟩ := S1.out.rb.cells
       obtain ⟨k0, k1, k2, k3, k4, k5⟩ := S1.out.rc.cells))
  go_wp2_with fail
  refine (CBA.out _ S1.out).mono ?_
  rintro e w5 ⟨rfl, hb5⟩
  have S5 : Hid (OS w w5 H a b c (.int .u8 (xk : Int)) (.bool xb) (.int .i64 xn) (.string xs) (.slice xa xl xc) (.slice xf xm xq) (.int .u8 (yk : Int)) (.bool yb) (.int .i64 yn) (.string ys) (.slice ya yl yc) (.slice yf ym yq) (.int .u8 (zk : Int)) (.bool zb) (.int .i64 zn) (.string zs) (.slice za zl zc) (.slice zf zm zq)) := S1.out.call hb5
  clear hb5 i0 i1 i2 i3 i4 i5 j0 j1 j2 j3 j4 j5 k0 k1 k2 k3 k4 k5
  obtain ⟨i0, i1, i2, i3, i4, i5⟩ := S5.out.ra.cells
  obtain ⟨j0, j1, j2, j3, j4, j5⟩ := S5.out.rb.cells
  obtain ⟨k0, k1, k2, k3, k4, k5⟩ := S5.out.rc.cells
  have eneg : wrap64 (-x) = -x := by have := HXB.out; unfold wrap64; omega
  go_wp2_with fail
  refine (CAA.out _ S5.out).mono ?_
  rintro e w6 ⟨rfl, hb6⟩
  have S6 : Hid (OS w w6 H a b c (.int .u8 (xk : Int)) (.bool xb) (.int .i64 xn) (.string xs) (.slice xa xl xc) (.slice xf xm xq) (.int .u8 (yk : Int)) (.bool yb) (.int .i64 yn) (.string ys) (.slice ya yl yc) (.slice yf ym yq) (.int .u8 (zk : Int)) (.bool zb) (.int .i64 zn) (.string zs) (.slice za zl zc) (.slice zf zm zq)) := S5.out.call hb6
  clear hb6 i0 i1 i2 i3 i4 i5 j0 j1 j2 j3 j4 j5 k0 k1 k2 k3 k4 k5
  obtain ⟨i0, i1, i2, i3, i4, i5⟩ := S6.out.ra.cells
  obtain ⟨j0, j1, j2, j3, j4, j5⟩ := S6.out.rb.cells
  obtain ⟨k0, k1, k2, k3, k4, k5⟩ := S6.out.rc.cells
  have tri := HTRI.out
  have HWAY : Hid ((¬ x ≤ 0) ∨ (x ≤ 0 ∧ ¬ y ≤ 0) ∨ (x ≤ 0 ∧ y ≤ 0 ∧ z < 0) ∨ (x = 0 ∧ y = 0 ∧ z = 0)) := by show _ ∨ _; omega
  clear tri S1 S5 CAB CBC CAC CBA CAA
  rcases HWAY.out with h1 | ⟨h1, h2⟩ | ⟨h1, h2, h3⟩ | ⟨h1, h2, h3⟩
  case' inr.inr.inr => subst h1 h2 h3
  case' inr.inr.inl => have h4 : ¬ 0 < z := by omega
  case' inr.inr.inl => have h5 : ¬ z = 0 := by omega
  all_goals
    go_wp2_with (first
      | (go_at_call_of 11 (Value.agg #[.int .u8 (xk : Int), .bool xb, .int .i64 xn, .string xs, .slice xa xl xc, .slice xf xm xq]); refine (KA.out _ S6.out).mono ?_; rintro e w7 ⟨rfl, hb7⟩
         have S7 : Hid (OS w w7 H a b c (.int .u8 (xk : Int)) (.bool xb) (.int .i64 xn) (.string xs) (.slice xa xl xc) (.slice xf xm xq) (.int .u8 (yk : Int)) (.bool yb) (.int .i64 yn) (.string ys) (.slice ya yl yc) (.slice yf ym yq) (.int .u8 (zk : Int)) (.bool zb) (.int .i64 zn) (.string zs) (.slice za zl zc) (.slice zf zm zq)) := S6.out.call hb7
         clear hb7
         obtain ⟨i0, i1, i2, i3, i4, i5⟩ := S7.out.ra.cells
         obtain ⟨j0, j1, j2, j3, j4, j5⟩ := S7.out.rb.cells
         obtain ⟨k0, k1, k2, k3, k4, k5⟩ := S7.out.rc.cells)
      | (go_at_call_of 11 (Value.agg #[.int .u8 (yk : Int), .bool yb, .int .i64 yn, .string ys, .slice ya yl yc, .slice yf ym yq]); refine (KB.out _ S7.out).mono ?_; rintro e w8 ⟨rfl, hb8⟩
         have S8 : Hid (OS w w8 H a b c (.int .u8 (xk : Int)) (.bool xb) (.int .i64 xn) (.string xs) (.slice xa xl xc) (.slice xf xm xq) (.int .u8 (yk : Int)) (.bool yb) (.int .i64 yn) (.string ys) (.slice ya yl yc) (.slice yf ym yq) (.int .u8 (zk : Int)) (.bool zb) (.int .i64 zn) (.string zs) (.slice za zl zc) (.slice zf zm zq)) := S7.out.call hb8
         clear hb8
         obtain ⟨i0, i1, i2, i3, i4, i5⟩ := S8.out.ra.cells
         obtain ⟨j0, j1, j2, j3, j4, j5⟩ := S8.out.rb.cells
         obtain ⟨k0, k1, k2, k3, k4, k5⟩ := S8.out.rc.cells)
      | (go_at_call 12; refine (KS.out _ S8.out).mono ?_; rintro e w9 ⟨rfl, hb9⟩
         have S9 : Hid (OS w w9 H a b c (.int .u8 (xk : Int)) (.bool xb) (.int .i64 xn) (.string xs) (.slice xa xl xc) (.slice xf xm xq) (.int .u8 (yk : Int)) (.bool yb) (.int .i64 yn) (.string ys) (.slice ya yl yc) (.slice yf ym yq) (.int .u8 (zk : Int)) (.bool zb) (.int .i64 zn) (.string zs) (.slice za zl zc) (.slice zf zm zq)) := S8.out.call hb9
         clear hb9))
  all_goals
    refine ⟨rfl, _, results_tmp (by rfl) _ _ _, ?_, ?_⟩
    · first
        | rfl
        | (have h := HSM.out (by assumption) (by assumption)
           refine congrArg (fun t => Ending.returned (Value.bool t)) ?_
           rw [← h]
           simp <;> rfl)
    · first | exact S9.out.below | exact S8.out.below | exact S7.out.below
end Go.Proofs.YtcgkoogdgagddaaDoor
