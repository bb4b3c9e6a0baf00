/- Range with a wrong bound: walked. -/
import Derived.Test.YtkigenldiinioaaGreatDoorBtRbM
import Derived.Test.YtkigenldiinioaaGreatDoorQ27M
namespace Go.Proofs.YtkigenldiinioaaGreatDoor
open Go.RowKit Go.Shelf
open Vl (V)
attribute [local go_sem ↓] Go.wp_at_zero Go.wp_at_succ
namespace Bt
/-- a bound's error -/
def berr : Option (Bool × V) → Nat
  | none => 0
  | some p => kerr p.2
def rerr (lo hi : Option (Bool × V)) : Nat := if berr lo ≠ 0 then berr lo else berr hi
end Bt
section
variable {w : World} {F : Nat → Prop} {tb : Nat} {t : Bt.T} {key : Nat → V} {ids : Nat → List Nat} {ir : Nat → Nat} {n : Nat}
set_option maxHeartbeats 4000000 in
set_option maxRecDepth 100000 in
theorem range_bad (_ : TA w F tb t key ids ir n) (hU : Bn.HasU w) (lo hi : Option (Bool × V)) (lv hv : Value) (hlo : Bnd w w.heap.size lo lv) (hhi : Bnd w w.heap.size hi hv) (er : Nat) (her0 : er ≠ 0) (her : er = Bt.rerr lo hi) :
    Calls Tryz.prog 11 #[.pointer (some ⟨tb, 0, none⟩), lv, hv] w fun ex w' => ex = .returned (.tuple #[.slice none 0 0, .int .i64 (er : Int)]) ∧ Below w.heap.size w w' := by
  have hlo' := hlo
  have hhi' := hhi
  obtain ⟨ha, oa, l0, l1, l2, l3, l4, l5, x, rfl, rx, ea⟩ := hlo
  obtain ⟨hb, ob, r0, r1, r2, r3, r4, r5, y, rfl, ry, eb⟩ := hhi
  obtain ⟨xk, xb, xn, xs, xa, xl, xc, xf, xm, xd, rfl, rfl, rfl, rfl, rfl, rfl⟩ := rep_form rx
  obtain ⟨yk, yb, yn, ys, ya, yl, yc, yf, ym, yd, rfl, rfl, rfl, rfl, rfl, rfl⟩ := rep_form ry
  obtain ⟨ex, hex⟩ : ∃ ex, ex = Bt.kerr x := ⟨_, rfl⟩
  obtain ⟨ey, hey⟩ : ∃ ey, ey = Bt.kerr y := ⟨_, rfl⟩
  have HER : Hid (er = (if ha = true ∧ ex ≠ 0 then ex else if hb = true ∧ ey ≠ 0 then ey else 0) ∧ er ≠ 0) := by
    refine ⟨?_, her0⟩
    rw [her, Bt.rerr, ea, eb, hex, hey]
    cases ha <;> cases hb <;> simp [Bt.berr]
    split <;> simp_all
  obtain ⟨w2, hw2⟩ : ∃ w2, w2 = ((w.alloc (.cells #[.bool ha, .bool oa, .int .u8 (xk : Int), .bool xb, .int .i64 xn, .string xs, .slice xa xl xc, .slice xf xm xd] 29)).alloc (.cells #[.bool hb, .bool ob, .int .u8 (yk : Int), .bool yb, .int .i64 yn, .string ys, .slice ya yl yc, .slice yf ym yd] 29)).alloc (.cells #[.bool ha, .bool oa, .int .u8 (xk : Int), .bool xb, .int .i64 xn, .string xs, .slice xa xl xc, .slice xf xm xd, .bool hb, .bool ob, .int .u8 (yk : Int), .bool yb, .int .i64 yn, .string ys, .slice ya yl yc, .slice yf ym yd] 29) := ⟨_, rfl⟩
  obtain ⟨Bl, hBl⟩ : ∃ Bl, Bl = w.heap.size := ⟨_, rfl⟩
  obtain ⟨Bh, hBh⟩ : ∃ Bh, Bh = w.heap.size + 1 := ⟨_, rfl⟩
  obtain ⟨S, hS⟩ : ∃ S, S = w.heap.size + 1 + 1 := ⟨_, rfl⟩
  obtain ⟨b2, bl2, bh2, bs2⟩ : Below w.heap.size w w2 ∧ w2.heap[Bl]? = some (.cells #[.bool ha, .bool oa, .int .u8 (xk : Int), .bool xb, .int .i64 xn, .string xs, .slice xa xl xc, .slice xf xm xd] 29 (0, 0)) ∧ w2.heap[Bh]? = some (.cells #[.bool hb, .bool ob, .int .u8 (yk : Int), .bool yb, .int .i64 yn, .string ys, .slice ya yl yc, .slice yf ym yd] 29 (0, 0)) ∧ w2.heap[S]? = some (.cells #[.bool ha, .bool oa, .int .u8 (xk : Int), .bool xb, .int .i64 xn, .string xs, .slice xa xl xc, .slice xf xm xd, .bool hb, .bool ob, .int .u8 (yk : Int), .bool yb, .int .i64 yn, .string ys, .slice ya yl yc, .slice yf ym yd] 29 (0, 0)) := by
    rw [hw2, hBl, hBh, hS]
    exact three_new (Below.refl _ _) _ _ _ _ _ _
  have s2 : w2.heap.size = w.heap.size + 3 := by rw [hw2]; simp
  have HD : Hid (∀ W, Below w2.heap.size w2 W → Below w.heap.size w W ∧ W.heap[Bl]? = some (.cells #[.bool ha, .bool oa, .int .u8 (xk : Int), .bool xb, .int .i64 xn, .string xs, .slice xa xl xc, .slice xf xm xd] 29 (0, 0)) ∧ W.heap[Bh]? = some (.cells #[.bool hb, .bool ob, .int .u8 (yk : Int), .bool yb, .int .i64 yn, .string ys, .slice ya yl yc, .slice yf ym yd] 29 (0, 0)) ∧ W.heap[S]? = some (.cells #[.bool ha, .bool oa, .int .u8 (xk : Int), .bool xb, .int .i64 xn, .string xs, .slice xa xl xc, .slice xf xm xd, .bool hb, .bool ob, .int .u8 (yk : Int), .bool yb, .int .i64 yn, .string ys, .slice ya yl yc, .slice yf ym yd] 29 (0, 0))) := fun W hW => ⟨b2.trans (hW.mono b2.size), (hW.block _ (lt_of_row bl2)).trans bl2, (hW.block _ (lt_of_row bh2)).trans bh2, (hW.block _ (lt_of_row bs2)).trans bs2⟩
  have CX : Hid (∀ W, Below w.heap.size w W → Calls Tryz.prog 30 #[.agg #[.int .u8 (xk : Int), .bool xb, .int .i64 xn, .string xs, .slice xa xl xc, .slice xf xm xd]] W fun e w' => e = .returned (.int .i64 (ex : Int)) ∧ Below W.heap.size W w') := fun W hW => by
    rw [hex]
    exact check27 x W (hU.stays hW) w.heap.size _ hW.size (rep_stays hW (Nat.le_refl _) _ _ rx)
  have CY : Hid (∀ W, Below w.heap.size w W → Calls Tryz.prog 30 #[.agg #[.int .u8 (yk : Int), .bool yb, .int .i64 yn, .string ys, .slice ya yl yc, .slice yf ym yd]] W fun e w' => e = .returned (.int .i64 (ey : Int)) ∧ Below W.heap.size W w') := fun W hW => by
    rw [hey]
    exact check27 y W (hU.stays hW) w.heap.size _ hW.size (rep_stays hW (Nat.le_refl _) _ _ ry)
  clear hU hlo' hhi' rx ry ea eb b2 bl2 bh2 bs2 hex hey her her0
  go_enter Tryz.func11, Tryz.ntmps11
  go_upto_region 3 with fail
  go_wp2_with fail
  rw [← hw2, ← hS, ← hBh, ← hBl]
  have HB0 : Hid (Bl = w.heap.size ∧ Bh = w.heap.size + 1 ∧ S = w.heap.size + 1 + 1) := ⟨hBl, hBh, hS⟩
  clear hw2 hS hBh hBl
  go_loopw [19] (fun i wr => ∃ (j : Nat), i = .int .i64 (j : Int) ∧ j ≤ 2 ∧ (1 ≤ j → ¬ (ha = true ∧ ex ≠ 0)) ∧ (2 ≤ j → ¬ (hb = true ∧ ey ≠ 0)) ∧ Below w2.heap.size w2 wr) (fun i _ => 2 - (intOf i).toNat)
  case atStart => exact ⟨0, rfl, by omega, fun h => by omega, fun h => by omega, Below.refl _ _⟩
  case round =>
      obtain ⟨j, rfl, hj, hp1, hp2, hbr⟩ := hrel
      have HBR : Hid (Below w2.heap.size w2 wr) := hbr
      have HP1 : Hid (1 ≤ j → ¬ (ha = true ∧ ex ≠ 0)) := hp1
      have HP2 : Hid (2 ≤ j → ¬ (hb = true ∧ ey ≠ 0)) := hp2
      clear hbr hp1 hp2
      rcases (show j = 0 ∨ j = 1 ∨ j = 2 by omega) with rfl | rfl | rfl
      · obtain ⟨k1, _, _, ks⟩ := HD.out wr HBR.out
        have z0 := cells_at ks 0 _ rfl
        have z1 := cells_at ks 1 _ rfl
        have z2 := cells_at ks 2 _ rfl
        have z3 := cells_at ks 3 _ rfl
        have z4 := cells_at ks 4 _ rfl
        have z5 := cells_at ks 5 _ rfl
        have z6 := cells_at ks 6 _ rfl
        have z7 := cells_at ks 7 _ rfl
        clear k1 ks
        go_upto_region 6 with fail
        obtain ⟨w3, hw3⟩ : ∃ w3, w3 = wr.alloc (.cells #[.bool ha, .bool oa, .int .u8 (xk : Int), .bool xb, .int .i64 xn, .string xs, .slice xa xl xc, .slice xf xm xd] 29) := ⟨_, rfl⟩
        have n1 := by have := heap_alloc_new wr (.cells #[.bool ha, .bool oa, .int .u8 (xk : Int), .bool xb, .int .i64 xn, .string xs, .slice xa xl xc, .slice xf xm xd] 29); rw [← hw3] at this; exact this
        have n2 : Below wr.heap.size wr w3 := by rw [hw3]; exact below_new _ _
        rw [← hw3]
        obtain ⟨X, hX⟩ : ∃ X, X = wr.heap.size := ⟨_, rfl⟩
        rw [← hX] at n1 ⊢
        have HB3 : Hid (Below w2.heap.size w2 w3) := HBR.out.trans (n2.mono HBR.out.size)
        have y0 := cells_at n1 0 _ rfl
        have y2 := cells_at n1 2 _ rfl
        have y3 := cells_at n1 3 _ rfl
        have y4 := cells_at n1 4 _ rfl
        have y5 := cells_at n1 5 _ rfl
        have y6 := cells_at n1 6 _ rfl
        have y7 := cells_at n1 7 _ rfl
        clear z0 z1 z2 z3 z4 z5 z6 z7 hw3 n1 n2 hX
        cases ha with
        | false =>
          go_wp2
          go_roundw
          case rel => exact ⟨1, rfl, by omega, by simp, by simp, HB3.out⟩
          case measure => simp [intOf]
        | true =>
          by_cases hz : ex = 0
          · have HZ : Hid (ex = 0) := hz
            have q1 : ((ex : Int) != 0) = false := by simp; omega
            have q2 : (ex : Int) = 0 := by omega
            clear hz
            go_wp2_with (go_at_call 30; refine (CX.out _ (HD.out _ HB3.out).1).mono ?_; rintro ex' w4 ⟨rfl, hb4⟩; have HB4 : Hid (Below w2.heap.size w2 w4) := HB3.out.trans (hb4.mono HB3.out.size); clear hb4)
            go_roundw
            case rel => exact ⟨1, rfl, by omega, fun _ q => q.2 HZ.out, fun h => by omega, HB4.out⟩
            case measure => simp [intOf]
          · have q1 : ((ex : Int) != 0) = true := by simp; omega
            have q2 : ¬ ((ex : Int) = 0) := by omega
            have HZ : Hid (er = ex) := by
              show _ = _
              rw [HER.out.1]
              rw [if_pos ⟨rfl, hz⟩]
            clear hz
            go_wp2_with (go_at_call 30; refine (CX.out _ (HD.out _ HB3.out).1).mono ?_; rintro ex' w4 ⟨rfl, hb4⟩; have HB4 : Hid (Below w2.heap.size w2 w4) := HB3.out.trans (hb4.mono HB3.out.size); clear hb4)
            go_ret2
            rw [HZ.out]
            exact ⟨rfl, (HD.out _ HB4.out).1⟩
      · obtain ⟨k1, _, _, ks⟩ := HD.out wr HBR.out
        have z0 := cells_at ks 8 _ rfl
        have z1 := cells_at ks 9 _ rfl
        have z2 := cells_at ks 10 _ rfl
        have z3 := cells_at ks 11 _ rfl
        have z4 := cells_at ks 12 _ rfl
        have z5 := cells_at ks 13 _ rfl
        have z6 := cells_at ks 14 _ rfl
        have z7 := cells_at ks 15 _ rfl
        clear k1 ks
        go_upto_region 6 with fail
        obtain ⟨w3, hw3⟩ : ∃ w3, w3 = wr.alloc (.cells #[.bool hb, .bool ob, .int .u8 (yk : Int), .bool yb, .int .i64 yn, .string ys, .slice ya yl yc, .slice yf ym yd] 29) := ⟨_, rfl⟩
        have n1 := by have := heap_alloc_new wr (.cells #[.bool hb, .bool ob, .int .u8 (yk : Int), .bool yb, .int .i64 yn, .string ys, .slice ya yl yc, .slice yf ym yd] 29); rw [← hw3] at this; exact this
        have n2 : Below wr.heap.size wr w3 := by rw [hw3]; exact below_new _ _
        rw [← hw3]
        obtain ⟨X, hX⟩ : ∃ X, X = wr.heap.size := ⟨_, rfl⟩
        rw [← hX] at n1 ⊢
        have HB3 : Hid (Below w2.heap.size w2 w3) := HBR.out.trans (n2.mono HBR.out.size)
        have y0 := cells_at n1 0 _ rfl
        have y2 := cells_at n1 2 _ rfl
        have y3 := cells_at n1 3 _ rfl
        have y4 := cells_at n1 4 _ rfl
        have y5 := cells_at n1 5 _ rfl
        have y6 := cells_at n1 6 _ rfl
        have y7 := cells_at n1 7 _ rfl
        clear z0 z1 z2 z3 z4 z5 z6 z7 hw3 n1 n2 hX
        cases hb with
        | false =>
          go_wp2
          go_roundw
          case rel => exact ⟨2, rfl, by omega, by first | exact fun _ => HP1.out (by omega) | simp, by simp, HB3.out⟩
          case measure => simp [intOf]
        | true =>
          by_cases hz : ey = 0
          · have HZ : Hid (ey = 0) := hz
            have q1 : ((ey : Int) != 0) = false := by simp; omega
            have q2 : (ey : Int) = 0 := by omega
            clear hz
            go_wp2_with (go_at_call 30; refine (CY.out _ (HD.out _ HB3.out).1).mono ?_; rintro ex' w4 ⟨rfl, hb4⟩; have HB4 : Hid (Below w2.heap.size w2 w4) := HB3.out.trans (hb4.mono HB3.out.size); clear hb4)
            go_roundw
            case rel => exact ⟨2, rfl, by omega, fun _ => HP1.out (by omega), fun _ q => q.2 HZ.out, HB4.out⟩
            case measure => simp [intOf]
          · have q1 : ((ey : Int) != 0) = true := by simp; omega
            have q2 : ¬ ((ey : Int) = 0) := by omega
            have HZ : Hid (er = ey) := by
              show _ = _
              rw [HER.out.1]
              rw [if_neg (HP1.out (by omega)), if_pos ⟨rfl, hz⟩]
            clear hz
            go_wp2_with (go_at_call 30; refine (CY.out _ (HD.out _ HB3.out).1).mono ?_; rintro ex' w4 ⟨rfl, hb4⟩; have HB4 : Hid (Below w2.heap.size w2 w4) := HB3.out.trans (hb4.mono HB3.out.size); clear hb4)
            go_ret2
            rw [HZ.out]
            exact ⟨rfl, (HD.out _ HB4.out).1⟩
      · exfalso
        have h1 := HER.out.1
        rw [if_neg (HP1.out (by omega)), if_neg (HP2.out (by omega))] at h1
        exact HER.out.2 h1
end
/-- what Range gives, whatever the bounds -/
theorem range_a {w : World} {F O : Nat → Prop} {tb : Nat} {L : List (V × List Nat)} (h : TSt w F O tb L) (hU : Bn.HasU w) (lo hi : Option (Bool × V)) (lv hv : Value) (hlo : Bnd w w.heap.size lo lv) (hhi : Bnd w w.heap.size hi hv) :
    Calls Tryz.prog 11 #[.pointer (some ⟨tb, 0, none⟩), lv, hv] w fun ex w' => ∃ a n c, ex = .returned (.tuple #[.slice a n c, .int .i64 (Bt.rerr lo hi : Int)]) ∧ n = (if Bt.rerr lo hi = 0 then L.filter fun p => Bt.inR lo hi p.1 else []).length ∧ n ≤ 1024 ∧ EntsAt w' a (if Bt.rerr lo hi = 0 then L.filter fun p => Bt.inR lo hi p.1 else []) ∧ Below w.heap.size w w' := by
  by_cases h0 : Bt.rerr lo hi = 0
  · rw [h0, if_pos rfl]
    have e1 : Bt.berr lo = 0 ∧ Bt.berr hi = 0 := by
      rw [Bt.rerr] at h0
      by_cases q : Bt.berr lo = 0
      · rw [if_neg (by simpa using q)] at h0; exact ⟨q, h0⟩
      · rw [if_pos q] at h0; exact absurd h0 q
    refine (range_t h hU lo hi lv hv hlo hhi (fun p hp => by rw [hp] at e1; exact e1.1) (fun p hp => by rw [hp] at e1; exact e1.2)).mono ?_
    rintro ex w' ⟨a, n, c, rfl, h1, h2, h3, h4⟩
    exact ⟨a, n, c, rfl, h1, h2, h3, h4⟩
  · rw [if_neg h0]
    obtain ⟨t, key, ids, ir, n, hT, _, _, _⟩ := h
    refine (range_bad hT hU lo hi lv hv hlo hhi _ h0 rfl).mono ?_
    rintro ex w' ⟨rfl, hb⟩
    exact ⟨none, 0, 0, rfl, rfl, by omega, fun j p hp => by simp at hp, hb⟩
end Go.Proofs.YtkigenldiinioaaGreatDoor
