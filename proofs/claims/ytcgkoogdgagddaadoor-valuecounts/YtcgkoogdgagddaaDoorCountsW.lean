/- The law ValueCounts, walked: it answers true for values that are not too great. -/
import Derived.Test.YtcgkoogdgagddaaDoorOpenZ
import Derived.Deep.QuietTactic
namespace Go.Proofs.YtcgkoogdgagddaaDoor
open Go.RowKit
open Vl (V)
/-- the two values in boxes -/
structure AS (w W : World) (H : Nat) (a b : V) (a0 a1 a2 a3 a4 a5 b0 b1 b2 b3 b4 b5 : Value) : Prop where
  below : Below w.heap.size w W
  low : H ≤ w.heap.size
  t : HasT W
  ra : Row6 W w.heap.size a0 a1 a2 a3 a4 a5
  rb : Row6 W (w.heap.size + 1) b0 b1 b2 b3 b4 b5
  va : Rep W H a (.agg #[a0, a1, a2, a3, a4, a5])
  vb : Rep W H b (.agg #[b0, b1, b2, b3, b4, b5])
theorem AS.call {w W W' : World} {H : Nat} {a b : V} {a0 a1 a2 a3 a4 a5 b0 b1 b2 b3 b4 b5 : Value} (h : AS w W H a b a0 a1 a2 a3 a4 a5 b0 b1 b2 b3 b4 b5) (hb : Below W.heap.size W W') : AS w W' H a b a0 a1 a2 a3 a4 a5 b0 b1 b2 b3 b4 b5 := by
  have hH : H ≤ W.heap.size := Nat.le_trans h.low h.below.size
  exact ⟨h.below.trans (hb.mono h.below.size), h.low, h.t.stays hb, h.ra.call hb, h.rb.call hb, rep_stays (hb.mono hH) (Nat.le_refl _) a _ h.va, rep_stays (hb.mono hH) (Nat.le_refl _) b _ h.vb⟩
theorem AS.mk2 {w : World} {H : Nat} {a b : V} {a0 a1 a2 a3 a4 a5 b0 b1 b2 b3 b4 b5 : Value} (hT : HasT w) (hH : H ≤ w.heap.size) (ha : Rep w H a (.agg #[a0, a1, a2, a3, a4, a5])) (hb : Rep w H b (.agg #[b0, b1, b2, b3, b4, b5])) :
    AS w ((w.alloc (.cells #[a0, a1, a2, a3, a4, a5] 26)).alloc (.cells #[b0, b1, b2, b3, b4, b5] 26)) H a b a0 a1 a2 a3 a4 a5 b0 b1 b2 b3 b4 b5 := by
  have hB : Below w.heap.size w ((w.alloc (.cells #[a0, a1, a2, a3, a4, a5] 26)).alloc (.cells #[b0, b1, b2, b3, b4, b5] 26)) := below_new2 _ _ _
  refine ⟨hB, hH, hT.stays hB, ⟨by simp; omega, ?_⟩, ⟨by simp, ?_⟩, rep_stays (hB.mono hH) (Nat.le_refl _) a _ ha, rep_stays (hB.mono hH) (Nat.le_refl _) b _ hb⟩
  · exact (Below.heap_alloc _ _ _ (by simp)).trans (heap_alloc_new w _)
  · have := heap_alloc_new (w.alloc (.cells #[a0, a1, a2, a3, a4, a5] 26)) (.cells #[b0, b1, b2, b3, b4, b5] 26)
    simpa using this
/-- and what was put -/
def BS (w W : World) (H P : Nat) (a b t : V) (a0 a1 a2 a3 a4 a5 b0 b1 b2 b3 b4 b5 s0 s1 s2 s3 s4 s5 : Value) : Prop :=
  AS w W H a b a0 a1 a2 a3 a4 a5 b0 b1 b2 b3 b4 b5 ∧ Row6 W P s0 s1 s2 s3 s4 s5 ∧ Rep W P t (.agg #[s0, s1, s2, s3, s4, s5])
theorem BS.call {w W W' : World} {H P : Nat} {a b t : V} {a0 a1 a2 a3 a4 a5 b0 b1 b2 b3 b4 b5 s0 s1 s2 s3 s4 s5 : Value} (h : BS w W H P a b t a0 a1 a2 a3 a4 a5 b0 b1 b2 b3 b4 b5 s0 s1 s2 s3 s4 s5) (hb : Below W.heap.size W W') : BS w W' H P a b t a0 a1 a2 a3 a4 a5 b0 b1 b2 b3 b4 b5 s0 s1 s2 s3 s4 s5 :=
  ⟨h.1.call hb, h.2.1.call hb, rep_stays (hb.mono (by have := h.2.1.1; omega)) (Nat.le_refl _) t _ h.2.2⟩
theorem rep_zero (w : World) (H : Nat) : Rep w H ⟨0, false, 0, ⟨#[]⟩, [], []⟩ (.agg #[.int .u8 0, .bool false, .int .i64 0, .string ⟨#[]⟩, .slice none 0 0, .slice none 0 0]) := by
  rw [Rep]
  exact ⟨none, 0, none, 0, rfl, by omega, by omega, by decide, by decide, by decide, fun h => by simp at h, fun h => by simp at h⟩
theorem wrapEq (x : Int) : IntKind.i64.wrap x = wrap64 x := by rw [IntKind.wrap_i64, wrap64]
theorem wrap_one (n m : Nat) (h : m = 1 + n) : wrap64 (1 + wrap64 (n : Int)) = wrap64 (m : Int) := by
  subst h
  unfold wrap64
  omega
set_option maxHeartbeats 16000000 in
set_option maxRecDepth 100000 in
theorem counts4 (a b : V) (hsa : Vl.small a) (w : World) (hT : HasT w) (H : Nat) (va vb : Value) (hH : H ≤ w.heap.size) (ha : Rep w H a va) (hb : Rep w H b vb) :
    Calls Tryd.prog 4 #[va, vb] w fun e w' => e = .returned (.bool true) ∧ Below w.heap.size w w' := by
  obtain ⟨xk, xb, xn, xs, xa, xl, xc, xf, xm, xq, xv⟩ := repA_form (rep_repA a va ha)
  obtain ⟨yk, yb, yn, ys, ya, yl, yc, yf, ym, yq, yv⟩ := repA_form (rep_repA b vb hb)
  subst xv yv
  have S0 : Hid (AS w ((w.alloc (.cells #[.int .u8 (xk : Int), .bool xb, .int .i64 xn, .string xs, .slice xa xl xc, .slice xf xm xq] 26)).alloc (.cells #[.int .u8 (yk : Int), .bool yb, .int .i64 yn, .string ys, .slice ya yl yc, .slice yf ym yq] 26)) H a b (.int .u8 (xk : Int)) (.bool xb) (.int .i64 xn) (.string xs) (.slice xa xl xc) (.slice xf xm xq) (.int .u8 (yk : Int)) (.bool yb) (.int .i64 yn) (.string ys) (.slice ya yl yc) (.slice yf ym yq)) := AS.mk2 hT hH ha hb
  obtain ⟨ca, hca⟩ : ∃ c, c = wrap64 ((Vl.count a : Nat) : Int) := ⟨_, rfl⟩
  obtain ⟨cb, hcb⟩ : ∃ c, c = wrap64 ((Vl.count b : Nat) : Int) := ⟨_, rfl⟩
  obtain ⟨cp, hcp⟩ : ∃ c, c = wrap64 ((1 + Vl.count a : Nat) : Int) := ⟨_, rfl⟩
  obtain ⟨cq, hcq⟩ : ∃ c, c = wrap64 ((1 + Vl.count a + Vl.count b : Nat) : Int) := ⟨_, rfl⟩
  have e1 : IntKind.i64.wrap (1 + ca) = cp := by rw [wrapEq, hca, hcp]; exact wrap_one _ _ rfl
  have e2 : IntKind.i64.wrap (cp + cb) = cq := by rw [wrapEq, hcp, hcb, hcq]; exact wrap_add _ _ _ rfl
  have HE : Hid (IntKind.i64.wrap (1 + ca) = cp ∧ IntKind.i64.wrap (cp + cb) = cq) := ⟨e1, e2⟩
  have CL : Hid (∀ (W : World) (v : Value), Rep W W.heap.size (tl [a, b]) v → Calls Tryd.prog 13 #[v] W fun e w' => e = .returned (.int .i64 cq) ∧ Below W.heap.size W w') := fun W v hv => by
    have := count13 _ (tl [a, b]) (Nat.le_refl _) W W.heap.size v (Nat.le_refl _) hv
    rw [show Vl.count (tl [a, b]) = 1 + Vl.count a + Vl.count b by simp [tl, Vl.count, Vl.countL, Vl.countF]; omega, ← hcq] at this
    exact this
  obtain ⟨t, ht⟩ : ∃ t : V, t = ⟨6, false, 0, ⟨#[]⟩, [], [(⟨#[120]⟩, a)]⟩ := ⟨_, rfl⟩
  have CS : Hid (∀ (W : World) (P : Nat) (v : Value), P ≤ W.heap.size → Rep W P t v → Calls Tryd.prog 13 #[v] W fun e w' => e = .returned (.int .i64 cp) ∧ Below W.heap.size W w') := fun W P v hP hv => by
    have := count13 _ t (Nat.le_refl _) W P v hP hv
    rw [show Vl.count t = 1 + Vl.count a by rw [ht]; simp [Vl.count, Vl.countL, Vl.countF], ← hcp] at this
    exact this
  have CA : Hid (∀ W, AS w W H a b (.int .u8 (xk : Int)) (.bool xb) (.int .i64 xn) (.string xs) (.slice xa xl xc) (.slice xf xm xq) (.int .u8 (yk : Int)) (.bool yb) (.int .i64 yn) (.string ys) (.slice ya yl yc) (.slice yf ym yq) → Calls Tryd.prog 13 #[.agg #[.int .u8 (xk : Int), .bool xb, .int .i64 xn, .string xs, .slice xa xl xc, .slice xf xm xq]] W fun e w' => e = .returned (.int .i64 ca) ∧ Below W.heap.size W w') := fun W hW => by
    rw [hca]; exact count13 _ a (Nat.le_refl _) W H _ (Nat.le_trans hW.low hW.below.size) hW.va
  have CB : Hid (∀ W, AS w W H a b (.int .u8 (xk : Int)) (.bool xb) (.int .i64 xn) (.string xs) (.slice xa xl xc) (.slice xf xm xq) (.int .u8 (yk : Int)) (.bool yb) (.int .i64 yn) (.string ys) (.slice ya yl yc) (.slice yf ym yq) → Calls Tryd.prog 13 #[.agg #[.int .u8 (yk : Int), .bool yb, .int .i64 yn, .string ys, .slice ya yl yc, .slice yf ym yq]] W fun e w' => e = .returned (.int .i64 cb) ∧ Below W.heap.size W w') := fun W hW => by
    rw [hcb]; exact count13 _ b (Nat.le_refl _) W H _ (Nat.le_trans hW.low hW.below.size) hW.vb
  have CZ : Hid (∀ W : World, Calls Tryd.prog 13 #[.agg #[.int .u8 0, .bool false, .int .i64 0, .string ⟨#[]⟩, .slice none 0 0, .slice none 0 0]] W fun e w' => e = .returned (.int .i64 1) ∧ Below W.heap.size W w') := fun W => by
    have := count13 _ ⟨0, false, 0, ⟨#[]⟩, [], []⟩ (Nat.le_refl _) W 0 _ (Nat.zero_le _) (rep_zero W 0)
    rw [show Vl.count ⟨0, false, 0, ⟨#[]⟩, [], []⟩ = 1 by simp [Vl.count, Vl.countL, Vl.countF], show wrap64 ((1 : Nat) : Int) = 1 by unfold wrap64; omega] at this
    exact this
  have HSA : Hid (Vl.small a) := hsa
  have HTT : Hid (t = ⟨6, false, 0, ⟨#[]⟩, [], [(⟨#[120]⟩, a)]⟩) := ht
  clear hT ha hb hca hcb hcp hcq e1 e2 ht hsa
  go_enter Tryd.func4, Tryd.ntmps4
  go_wp2_with fail
  refine (lives9 _ S0.out.t).mono ?_
  rintro e w1 ⟨rfl, hb1⟩
  have S1 : Hid (AS w w1 H a b (.int .u8 (xk : Int)) (.bool xb) (.int .i64 xn) (.string xs) (.slice xa xl xc) (.slice xf xm xq) (.int .u8 (yk : Int)) (.bool yb) (.int .i64 yn) (.string ys) (.slice ya yl yc) (.slice yf ym yq)) := S0.out.call hb1
  clear hb1 S0
  obtain ⟨i0, i1, i2, i3, i4, i5⟩ := S1.out.ra.cells
  obtain ⟨j0, j1, j2, j3, j4, j5⟩ := S1.out.rb.cells
  go_wp2_with fail
  refine (list14 _ _ _ _).mono ?_
  rintro e w2 ⟨rfl, hb2⟩
  have hbn : Below w1.heap.size w1 w2 := (below_new w1 _).trans (hb2.mono (below_new w1 _).size)
  have S2 : Hid (AS w w2 H a b (.int .u8 (xk : Int)) (.bool xb) (.int .i64 xn) (.string xs) (.slice xa xl xc) (.slice xf xm xq) (.int .u8 (yk : Int)) (.bool yb) (.int .i64 yn) (.string ys) (.slice ya yl yc) (.slice yf ym yq)) := S1.out.call hbn
  have T2 : w2.heap[w1.heap.size]? = some (.cells #[.int .u8 (xk : Int), .bool xb, .int .i64 xn, .string xs, .slice xa xl xc, .slice xf xm xq, .int .u8 (yk : Int), .bool yb, .int .i64 yn, .string ys, .slice ya yl yc, .slice yf ym yq] 26 (0, 0)) := (hb2.block _ (by simp)).trans (heap_alloc_new w1 _)
  have hl2 : w1.heap.size < w2.heap.size := by have := hb2.size; simp at this; omega
  have HL : Hid (Rep w2 w2.heap.size (tl [a, b]) (.agg #[.int .u8 5, .bool false, .int .i64 0, .string ⟨#[]⟩, .slice (some ⟨w1.heap.size, 0, none⟩) 2 2, .slice none 0 0])) :=
    rep_l2 T2 hl2 (rep_stays (Below.refl _ _) (Nat.le_trans S2.out.low S2.out.below.size) a _ S2.out.va) (rep_stays (Below.refl _ _) (Nat.le_trans S2.out.low S2.out.below.size) b _ S2.out.vb)
  clear hb2 hbn S1 T2 hl2 i0 i1 i2 i3 i4 i5 j0 j1 j2 j3 j4 j5
  go_wp2_with fail
  refine (CL.out _ _ HL.out).mono ?_
  rintro e w3 ⟨rfl, hb3⟩
  have S3 : Hid (AS w w3 H a b (.int .u8 (xk : Int)) (.bool xb) (.int .i64 xn) (.string xs) (.slice xa xl xc) (.slice xf xm xq) (.int .u8 (yk : Int)) (.bool yb) (.int .i64 yn) (.string ys) (.slice ya yl yc) (.slice yf ym yq)) := S2.out.call hb3
  clear hb3 S2 HL CL
  obtain ⟨i0, i1, i2, i3, i4, i5⟩ := S3.out.ra.cells
  obtain ⟨j0, j1, j2, j3, j4, j5⟩ := S3.out.rb.cells
  go_wp2_with fail
  refine (put15_empty ⟨#[120]⟩ (by decide) a HSA.out w3 H _ (Nat.le_trans S3.out.low S3.out.below.size) S3.out.va).mono ?_
  rintro e w4 ⟨v', rfl, hb4, hr4⟩
  rw [← HTT.out] at hr4
  obtain ⟨zk, zb, zn, zs, za, zl, zc, zf, zm, zq, zv⟩ := repA_form (rep_repA t v' hr4)
  subst zv
  have S5 : Hid (BS w (w4.alloc (.cells #[.int .u8 (zk : Int), .bool zb, .int .i64 zn, .string zs, .slice za zl zc, .slice zf zm zq] 26)) H w4.heap.size a b t (.int .u8 (xk : Int)) (.bool xb) (.int .i64 xn) (.string xs) (.slice xa xl xc) (.slice xf xm xq) (.int .u8 (yk : Int)) (.bool yb) (.int .i64 yn) (.string ys) (.slice ya yl yc) (.slice yf ym yq) (.int .u8 (zk : Int)) (.bool zb) (.int .i64 zn) (.string zs) (.slice za zl zc) (.slice zf zm zq)) :=
    ⟨(S3.out.call hb4).call (below_new _ _), row_new w4 _ _ _ _ _ _, rep_stays (below_new _ _) (Nat.le_refl _) t _ hr4⟩
  obtain ⟨P, hP⟩ : ∃ P, P = w4.heap.size := ⟨_, rfl⟩
  clear hb4 hr4 S3 i0 i1 i2 i3 i4 i5 j0 j1 j2 j3 j4 j5
  go_wp2
  obtain ⟨w5, hw5⟩ : ∃ w5, w5 = w4.alloc (.cells #[.int .u8 (zk : Int), .bool zb, .int .i64 zn, .string zs, .slice za zl zc, .slice zf zm zq] 26) := ⟨_, rfl⟩
  rw [← hw5, ← hP] at S5 ⊢
  clear hw5 hP
  have CS' : Hid (∀ W, BS w W H P a b t (.int .u8 (xk : Int)) (.bool xb) (.int .i64 xn) (.string xs) (.slice xa xl xc) (.slice xf xm xq) (.int .u8 (yk : Int)) (.bool yb) (.int .i64 yn) (.string ys) (.slice ya yl yc) (.slice yf ym yq) (.int .u8 (zk : Int)) (.bool zb) (.int .i64 zn) (.string zs) (.slice za zl zc) (.slice zf zm zq) → Calls Tryd.prog 13 #[.agg #[.int .u8 (zk : Int), .bool zb, .int .i64 zn, .string zs, .slice za zl zc, .slice zf zm zq]] W fun e w' => e = .returned (.int .i64 cp) ∧ Below W.heap.size W w') := fun W hW => CS.out W P _ (by have := hW.2.1.1; omega) hW.2.2
  have CA' : Hid (∀ W, BS w W H P a b t (.int .u8 (xk : Int)) (.bool xb) (.int .i64 xn) (.string xs) (.slice xa xl xc) (.slice xf xm xq) (.int .u8 (yk : Int)) (.bool yb) (.int .i64 yn) (.string ys) (.slice ya yl yc) (.slice yf ym yq) (.int .u8 (zk : Int)) (.bool zb) (.int .i64 zn) (.string zs) (.slice za zl zc) (.slice zf zm zq) → Calls Tryd.prog 13 #[.agg #[.int .u8 (xk : Int), .bool xb, .int .i64 xn, .string xs, .slice xa xl xc, .slice xf xm xq]] W fun e w' => e = .returned (.int .i64 ca) ∧ Below W.heap.size W w') := fun W hW => CA.out W hW.1
  have CB' : Hid (∀ W, BS w W H P a b t (.int .u8 (xk : Int)) (.bool xb) (.int .i64 xn) (.string xs) (.slice xa xl xc) (.slice xf xm xq) (.int .u8 (yk : Int)) (.bool yb) (.int .i64 yn) (.string ys) (.slice ya yl yc) (.slice yf ym yq) (.int .u8 (zk : Int)) (.bool zb) (.int .i64 zn) (.string zs) (.slice za zl zc) (.slice zf zm zq) → Calls Tryd.prog 13 #[.agg #[.int .u8 (yk : Int), .bool yb, .int .i64 yn, .string ys, .slice ya yl yc, .slice yf ym yq]] W fun e w' => e = .returned (.int .i64 cb) ∧ Below W.heap.size W w') := fun W hW => CB.out W hW.1
  have CZ' : Hid (∀ W, BS w W H P a b t (.int .u8 (xk : Int)) (.bool xb) (.int .i64 xn) (.string xs) (.slice xa xl xc) (.slice xf xm xq) (.int .u8 (yk : Int)) (.bool yb) (.int .i64 yn) (.string ys) (.slice ya yl yc) (.slice yf ym yq) (.int .u8 (zk : Int)) (.bool zb) (.int .i64 zn) (.string zs) (.slice za zl zc) (.slice zf zm zq) → Calls Tryd.prog 13 #[.agg #[.int .u8 0, .bool false, .int .i64 0, .string ⟨#[]⟩, .slice none 0 0, .slice none 0 0]] W fun e w' => e = .returned (.int .i64 1) ∧ Below W.heap.size W w') := fun W _ => CZ.out W
  obtain ⟨e1, e2⟩ := HE.out
  have S1 : Hid (BS w w5 H P a b t (.int .u8 (xk : Int)) (.bool xb) (.int .i64 xn) (.string xs) (.slice xa xl xc) (.slice xf xm xq) (.int .u8 (yk : Int)) (.bool yb) (.int .i64 yn) (.string ys) (.slice ya yl yc) (.slice yf ym yq) (.int .u8 (zk : Int)) (.bool zb) (.int .i64 zn) (.string zs) (.slice za zl zc) (.slice zf zm zq)) := S5.out
  clear CS CA CB CZ S5
  obtain ⟨i0, i1, i2, i3, i4, i5⟩ := S1.out.1.ra.cells
  obtain ⟨j0, j1, j2, j3, j4, j5⟩ := S1.out.1.rb.cells
  obtain ⟨k0, k1, k2, k3, k4, k5⟩ := S1.out.2.1.cells
  go_region_held3 (fun W' => W'.cell? ⟨w.heap.size, 0, none⟩ = some (.int .u8 (xk : Int)) ∧ W'.cell? ⟨w.heap.size, 1, none⟩ = some (.bool xb) ∧ W'.cell? ⟨w.heap.size, 2, none⟩ = some (.int .i64 xn) ∧ W'.cell? ⟨w.heap.size, 3, none⟩ = some (.string xs) ∧ W'.cell? ⟨w.heap.size, 4, none⟩ = some (.slice xa xl xc) ∧ W'.cell? ⟨w.heap.size, 5, none⟩ = some (.slice xf xm xq) ∧ W'.cell? ⟨w.heap.size + 1, 0, none⟩ = some (.int .u8 (yk : Int)) ∧ W'.cell? ⟨w.heap.size + 1, 1, none⟩ = some (.bool yb) ∧ W'.cell? ⟨w.heap.size + 1, 2, none⟩ = some (.int .i64 yn) ∧ W'.cell? ⟨w.heap.size + 1, 3, none⟩ = some (.string ys) ∧ W'.cell? ⟨w.heap.size + 1, 4, none⟩ = some (.slice ya yl yc) ∧ W'.cell? ⟨w.heap.size + 1, 5, none⟩ = some (.slice yf ym yq) ∧ W'.cell? ⟨P, 0, none⟩ = some (.int .u8 (zk : Int)) ∧ W'.cell? ⟨P, 1, none⟩ = some (.bool zb) ∧ W'.cell? ⟨P, 2, none⟩ = some (.int .i64 zn) ∧ W'.cell? ⟨P, 3, none⟩ = some (.string zs) ∧ W'.cell? ⟨P, 4, none⟩ = some (.slice za zl zc) ∧ W'.cell? ⟨P, 5, none⟩ = some (.slice zf zm zq)) (go_keep) (first
      | (go_at_call_of 13 (Value.agg #[.int .u8 (xk : Int), .bool xb, .int .i64 xn, .string xs, .slice xa xl xc, .slice xf xm xq]); refine (CA'.out _ ?_).mono ?_; (first | exact S1.out.call (Below.refl _ _).drew | exact S1.out); rintro e w2 ⟨rfl, hb2⟩
         have S1 : Hid (BS w w2 H P a b t (.int .u8 (xk : Int)) (.bool xb) (.int .i64 xn) (.string xs) (.slice xa xl xc) (.slice xf xm xq) (.int .u8 (yk : Int)) (.bool yb) (.int .i64 yn) (.string ys) (.slice ya yl yc) (.slice yf ym yq) (.int .u8 (zk : Int)) (.bool zb) (.int .i64 zn) (.string zs) (.slice za zl zc) (.slice zf zm zq)) := S1.out.call (by first | exact hb2 | exact (Below.refl _ _).drew.trans hb2)
         clear hb2
         obtain ⟨i0, i1, i2, i3, i4, i5⟩ := S1.out.1.ra.cells
         obtain ⟨j0, j1, j2, j3, j4, j5⟩ := S1.out.1.rb.cells
         obtain ⟨k0, k1, k2, k3, k4, k5⟩ := S1.out.2.1.cells)
      | (go_at_call_of 13 (Value.agg #[.int .u8 (yk : Int), .bool yb, .int .i64 yn, .string ys, .slice ya yl yc, .slice yf ym yq]); refine (CB'.out _ ?_).mono ?_; (first | exact S1.out.call (Below.refl _ _).drew | exact S1.out); rintro e w2 ⟨rfl, hb2⟩
         have S1 : Hid (BS w w2 H P a b t (.int .u8 (xk : Int)) (.bool xb) (.int .i64 xn) (.string xs) (.slice xa xl xc) (.slice xf xm xq) (.int .u8 (yk : Int)) (.bool yb) (.int .i64 yn) (.string ys) (.slice ya yl yc) (.slice yf ym yq) (.int .u8 (zk : Int)) (.bool zb) (.int .i64 zn) (.string zs) (.slice za zl zc) (.slice zf zm zq)) := S1.out.call (by first | exact hb2 | exact (Below.refl _ _).drew.trans hb2)
         clear hb2
         obtain ⟨i0, i1, i2, i3, i4, i5⟩ := S1.out.1.ra.cells
         obtain ⟨j0, j1, j2, j3, j4, j5⟩ := S1.out.1.rb.cells
         obtain ⟨k0, k1, k2, k3, k4, k5⟩ := S1.out.2.1.cells)
      | (go_at_call_of 13 (Value.agg #[.int .u8 (zk : Int), .bool zb, .int .i64 zn, .string zs, .slice za zl zc, .slice zf zm zq]); refine (CS'.out _ ?_).mono ?_; (first | exact S1.out.call (Below.refl _ _).drew | exact S1.out); rintro e w2 ⟨rfl, hb2⟩
         have S1 : Hid (BS w w2 H P a b t (.int .u8 (xk : Int)) (.bool xb) (.int .i64 xn) (.string xs) (.slice xa xl xc) (.slice xf xm xq) (.int .u8 (yk : Int)) (.bool yb) (.int .i64 yn) (.string ys) (.slice ya yl yc) (.slice yf ym yq) (.int .u8 (zk : Int)) (.bool zb) (.int .i64 zn) (.string zs) (.slice za zl zc) (.slice zf zm zq)) := S1.out.call (by first | exact hb2 | exact (Below.refl _ _).drew.trans hb2)
         clear hb2
         obtain ⟨i0, i1, i2, i3, i4, i5⟩ := S1.out.1.ra.cells
         obtain ⟨j0, j1, j2, j3, j4, j5⟩ := S1.out.1.rb.cells
         obtain ⟨k0, k1, k2, k3, k4, k5⟩ := S1.out.2.1.cells)
      | (go_at_call_of 13 (Value.agg #[.int .u8 0, .bool false, .int .i64 0, .string ⟨#[]⟩, .slice none 0 0, .slice none 0 0]); refine (CZ'.out _ ?_).mono ?_; (first | exact S1.out.call (Below.refl _ _).drew | exact S1.out); rintro e w2 ⟨rfl, hb2⟩
         have S1 : Hid (BS w w2 H P a b t (.int .u8 (xk : Int)) (.bool xb) (.int .i64 xn) (.string xs) (.slice xa xl xc) (.slice xf xm xq) (.int .u8 (yk : Int)) (.bool yb) (.int .i64 yn) (.string ys) (.slice ya yl yc) (.slice yf ym yq) (.int .u8 (zk : Int)) (.bool zb) (.int .i64 zn) (.string zs) (.slice za zl zc) (.slice zf zm zq)) := S1.out.call (by first | exact hb2 | exact (Below.refl _ _).drew.trans hb2)
         clear hb2
         obtain ⟨i0, i1, i2, i3, i4, i5⟩ := S1.out.1.ra.cells
         obtain ⟨j0, j1, j2, j3, j4, j5⟩ := S1.out.1.rb.cells
         obtain ⟨k0, k1, k2, k3, k4, k5⟩ := S1.out.2.1.cells))
  go_wp2
  exact ⟨rfl, _, results_tmp (by rfl) _ _ _, rfl, S1.out.1.below⟩
end Go.Proofs.YtcgkoogdgagddaaDoor
