/- The document's In: walked. -/
import Derived.Test.YtkigenldiinioaaGreatDoorBtRcM
import Derived.Test.YtkigenldiinioaaGreatDoorQ36M
import Derived.Test.YtkigenldiinioaaGreatDoorRfAM
namespace Go.Proofs.YtkigenldiinioaaGreatDoor
open Go.RowKit Go.Shelf
open Vl (V)
attribute [local go_sem ↓] Go.wp_at_zero Go.wp_at_succ
set_option maxHeartbeats 16000000 in
set_option maxRecDepth 100000 in
theorem rin_c (k : V) (lo hi : Option (Bool × V)) (kv lv hv : Value) (w : World) (hk : Rep w w.heap.size k kv) (hlo : Bnd w w.heap.size lo lv) (hhi : Bnd w w.heap.size hi hv) :
    Calls Tryz.prog 22 #[kv, lv, hv] w fun e w' => e = .returned (.bool (Bt.inR lo hi k)) ∧ Below w.heap.size w w' := by
  obtain ⟨ha, oa, l0, l1, l2, l3, l4, l5, x, rfl, rx, ea⟩ := hlo
  obtain ⟨hb, ob, r0, r1, r2, r3, r4, r5, y, rfl, ry, eb⟩ := hhi
  obtain ⟨d0, d1, d2, d3, d4, d5, rfl⟩ := repV_box hk
  obtain ⟨zk, zb, zn, zs, za, zl, zc, zf, zm, zd, rfl, rfl, rfl, rfl, rfl, rfl⟩ := rep_form hk
  obtain ⟨xk, xb, xn, xs, xa, xl, xc, xf, xm, xd, rfl, rfl, rfl, rfl, rfl, rfl⟩ := rep_form rx
  obtain ⟨yk, yb, yn, ys, ya, yl, yc, yf, ym, yd, rfl, rfl, rfl, rfl, rfl, rfl⟩ := rep_form ry
  obtain ⟨cx, hcx⟩ : ∃ cx, cx = Vl.cmp k x := ⟨_, rfl⟩
  obtain ⟨cy, hcy⟩ : ∃ cy, cy = Vl.cmp k y := ⟨_, rfl⟩
  have HE : Hid (Bt.inR lo hi k = (!(ha && (decide (cx < 0) || (decide (cx = 0) && oa))) && !(hb && (decide (0 < cy) || (decide (cy = 0) && ob))))) := by
    show _ = _
    rw [Bt.inR, ea, eb, hcx, hcy]
    cases ha <;> cases hb <;> simp [Bt.lb, Bt.ub]
  obtain ⟨w1, hw1⟩ : ∃ w1, w1 = ((w.alloc (.cells #[.int .u8 (zk : Int), .bool zb, .int .i64 zn, .string zs, .slice za zl zc, .slice zf zm zd] 27)).alloc (.cells #[.bool ha, .bool oa, .int .u8 (xk : Int), .bool xb, .int .i64 xn, .string xs, .slice xa xl xc, .slice xf xm xd] 29)).alloc (.cells #[.bool hb, .bool ob, .int .u8 (yk : Int), .bool yb, .int .i64 yn, .string ys, .slice ya yl yc, .slice yf ym yd] 29) := ⟨_, rfl⟩
  obtain ⟨Bk, hBk⟩ : ∃ Bk, Bk = w.heap.size := ⟨_, rfl⟩
  obtain ⟨Bl, hBl⟩ : ∃ Bl, Bl = w.heap.size + 1 := ⟨_, rfl⟩
  obtain ⟨Bh, hBh⟩ : ∃ Bh, Bh = w.heap.size + 1 + 1 := ⟨_, rfl⟩
  obtain ⟨b1, e1, e2, e3⟩ : Below w.heap.size w w1 ∧ w1.heap[Bk]? = some (.cells #[.int .u8 (zk : Int), .bool zb, .int .i64 zn, .string zs, .slice za zl zc, .slice zf zm zd] 27 (0, 0)) ∧ w1.heap[Bl]? = some (.cells #[.bool ha, .bool oa, .int .u8 (xk : Int), .bool xb, .int .i64 xn, .string xs, .slice xa xl xc, .slice xf xm xd] 29 (0, 0)) ∧ w1.heap[Bh]? = some (.cells #[.bool hb, .bool ob, .int .u8 (yk : Int), .bool yb, .int .i64 yn, .string ys, .slice ya yl yc, .slice yf ym yd] 29 (0, 0)) := by
    rw [hw1, hBk, hBl, hBh]
    exact three_new (Below.refl _ _) _ _ _ _ _ _
  have HD : Hid (∀ W, Below w1.heap.size w1 W → Below w.heap.size w W ∧ W.heap[Bk]? = some (.cells #[.int .u8 (zk : Int), .bool zb, .int .i64 zn, .string zs, .slice za zl zc, .slice zf zm zd] 27 (0, 0)) ∧ W.heap[Bl]? = some (.cells #[.bool ha, .bool oa, .int .u8 (xk : Int), .bool xb, .int .i64 xn, .string xs, .slice xa xl xc, .slice xf xm xd] 29 (0, 0)) ∧ W.heap[Bh]? = some (.cells #[.bool hb, .bool ob, .int .u8 (yk : Int), .bool yb, .int .i64 yn, .string ys, .slice ya yl yc, .slice yf ym yd] 29 (0, 0))) := fun W hW => ⟨b1.trans (hW.mono b1.size), (hW.block _ (lt_of_row e1)).trans e1, (hW.block _ (lt_of_row e2)).trans e2, (hW.block _ (lt_of_row e3)).trans e3⟩
  have CX : Hid (∀ W, Below w.heap.size w W → Calls Tryz.prog 21 #[.agg #[.int .u8 (zk : Int), .bool zb, .int .i64 zn, .string zs, .slice za zl zc, .slice zf zm zd], .agg #[.int .u8 (xk : Int), .bool xb, .int .i64 xn, .string xs, .slice xa xl xc, .slice xf xm xd]] W fun e w' => e = .returned (.int .i64 cx) ∧ Below W.heap.size W w') := fun W hW => by
    rw [hcx]; exact rcompare20 _ k (Nat.le_refl _) x W w.heap.size _ _ hW.size (rep_stays hW (Nat.le_refl _) _ _ hk) (rep_stays hW (Nat.le_refl _) _ _ rx)
  have CY : Hid (∀ W, Below w.heap.size w W → Calls Tryz.prog 21 #[.agg #[.int .u8 (zk : Int), .bool zb, .int .i64 zn, .string zs, .slice za zl zc, .slice zf zm zd], .agg #[.int .u8 (yk : Int), .bool yb, .int .i64 yn, .string ys, .slice ya yl yc, .slice yf ym yd]] W fun e w' => e = .returned (.int .i64 cy) ∧ Below W.heap.size W w') := fun W hW => by
    rw [hcy]; exact rcompare20 _ k (Nat.le_refl _) y W w.heap.size _ _ hW.size (rep_stays hW (Nat.le_refl _) _ _ hk) (rep_stays hW (Nat.le_refl _) _ _ ry)
  clear hk rx ry ea eb hcx hcy b1 e1 e2 e3
  go_enter Tryz.func22, Tryz.ntmps22
  go_upto_region 1 with fail
  rw [← hw1, ← hBh, ← hBl, ← hBk]
  have HB1 : Hid (Below w1.heap.size w1 w1) := Below.refl _ _
  have tw1 := HD.out _ HB1.out
  have a0 := cells_at tw1.2.1 0 _ rfl
  have a1 := cells_at tw1.2.1 1 _ rfl
  have a2 := cells_at tw1.2.1 2 _ rfl
  have a3 := cells_at tw1.2.1 3 _ rfl
  have a4 := cells_at tw1.2.1 4 _ rfl
  have a5 := cells_at tw1.2.1 5 _ rfl
  have b0 := cells_at tw1.2.2.1 0 _ rfl
  have b1 := cells_at tw1.2.2.1 1 _ rfl
  have b2 := cells_at tw1.2.2.1 2 _ rfl
  have b3 := cells_at tw1.2.2.1 3 _ rfl
  have b4 := cells_at tw1.2.2.1 4 _ rfl
  have b5 := cells_at tw1.2.2.1 5 _ rfl
  have b6 := cells_at tw1.2.2.1 6 _ rfl
  have b7 := cells_at tw1.2.2.1 7 _ rfl
  have c0 := cells_at tw1.2.2.2 0 _ rfl
  have c1 := cells_at tw1.2.2.2 1 _ rfl
  have c2 := cells_at tw1.2.2.2 2 _ rfl
  have c3 := cells_at tw1.2.2.2 3 _ rfl
  have c4 := cells_at tw1.2.2.2 4 _ rfl
  have c5 := cells_at tw1.2.2.2 5 _ rfl
  have c6 := cells_at tw1.2.2.2 6 _ rfl
  have c7 := cells_at tw1.2.2.2 7 _ rfl
  clear tw1
  clear hw1 hBk hBl hBh
  cases ha with
  | false =>
    have HL : Hid ((false && (decide (cx < 0) || (decide (cx = 0) && oa))) = false) := rfl
    cases hb with
    | false =>
      have E : Hid (Bt.inR lo hi k = true) := by
        show _ = _
        rw [HE.out, HL.out]
        simp
      go_wp2
      go_ret
      exact ⟨by rw [E.out]; rfl, (HD.out _ HB1.out).1⟩
    | true =>
      go_wp2_with fail
      refine (CY.out _ (HD.out _ HB1.out).1).mono ?_
      rintro ex w5 ⟨rfl, hbw5⟩
      have HBw5 : Hid (Below w1.heap.size w1 w5) := HB1.out.trans (hbw5.mono HB1.out.size)
      clear hbw5 a0 a1 a2 a3 a4 a5 b0 b1 b2 b3 b4 b5 b6 b7 c0 c1 c2 c3 c4 c5 c6 c7
      have tw5 := HD.out _ HBw5.out
      have a0 := cells_at tw5.2.1 0 _ rfl
      have a1 := cells_at tw5.2.1 1 _ rfl
      have a2 := cells_at tw5.2.1 2 _ rfl
      have a3 := cells_at tw5.2.1 3 _ rfl
      have a4 := cells_at tw5.2.1 4 _ rfl
      have a5 := cells_at tw5.2.1 5 _ rfl
      have b0 := cells_at tw5.2.2.1 0 _ rfl
      have b1 := cells_at tw5.2.2.1 1 _ rfl
      have b2 := cells_at tw5.2.2.1 2 _ rfl
      have b3 := cells_at tw5.2.2.1 3 _ rfl
      have b4 := cells_at tw5.2.2.1 4 _ rfl
      have b5 := cells_at tw5.2.2.1 5 _ rfl
      have b6 := cells_at tw5.2.2.1 6 _ rfl
      have b7 := cells_at tw5.2.2.1 7 _ rfl
      have c0 := cells_at tw5.2.2.2 0 _ rfl
      have c1 := cells_at tw5.2.2.2 1 _ rfl
      have c2 := cells_at tw5.2.2.2 2 _ rfl
      have c3 := cells_at tw5.2.2.2 3 _ rfl
      have c4 := cells_at tw5.2.2.2 4 _ rfl
      have c5 := cells_at tw5.2.2.2 5 _ rfl
      have c6 := cells_at tw5.2.2.2 6 _ rfl
      have c7 := cells_at tw5.2.2.2 7 _ rfl
      clear tw5
      rcases Int.lt_trichotomy cy 0 with q | q | q
      · have r1 : ¬ (0 : Int) < cy := by omega
        have r1d : decide ((0 : Int) < cy) = false := decide_eq_false r1
        have r2 : (cy == 0) = false := by simp; omega
        have r3 : ¬ cy = 0 := by omega
        have E : Hid (Bt.inR lo hi k = true) := by
          show _ = _
          rw [HE.out, HL.out]
          simp [r1, r3]
        go_wp2
        go_ret
        exact ⟨by rw [E.out]; rfl, (HD.out _ HBw5.out).1⟩
      · subst q
        cases ob with
        | false =>
          have E : Hid (Bt.inR lo hi k = true) := by
            show _ = _
            rw [HE.out, HL.out]
            simp
          go_wp2
          go_ret
          exact ⟨by rw [E.out]; rfl, (HD.out _ HBw5.out).1⟩
        | true =>
          have E : Hid (Bt.inR lo hi k = false) := by
            show _ = _
            rw [HE.out, HL.out]
            simp
          go_wp2
          go_ret
          exact ⟨by rw [E.out]; rfl, (HD.out _ HBw5.out).1⟩
      · have r1 : (0 : Int) < cy := by omega
        have r1d : decide ((0 : Int) < cy) = true := decide_eq_true r1
        have E : Hid (Bt.inR lo hi k = false) := by
          show _ = _
          rw [HE.out, HL.out]
          simp [r1]
        go_wp2
        go_ret
        exact ⟨by rw [E.out]; rfl, (HD.out _ HBw5.out).1⟩
  | true =>
    go_wp2_with fail
    refine (CX.out _ (HD.out _ HB1.out).1).mono ?_
    rintro ex w4 ⟨rfl, hbw4⟩
    have HBw4 : Hid (Below w1.heap.size w1 w4) := HB1.out.trans (hbw4.mono HB1.out.size)
    clear hbw4 a0 a1 a2 a3 a4 a5 b0 b1 b2 b3 b4 b5 b6 b7 c0 c1 c2 c3 c4 c5 c6 c7
    have tw4 := HD.out _ HBw4.out
    have a0 := cells_at tw4.2.1 0 _ rfl
    have a1 := cells_at tw4.2.1 1 _ rfl
    have a2 := cells_at tw4.2.1 2 _ rfl
    have a3 := cells_at tw4.2.1 3 _ rfl
    have a4 := cells_at tw4.2.1 4 _ rfl
    have a5 := cells_at tw4.2.1 5 _ rfl
    have b0 := cells_at tw4.2.2.1 0 _ rfl
    have b1 := cells_at tw4.2.2.1 1 _ rfl
    have b2 := cells_at tw4.2.2.1 2 _ rfl
    have b3 := cells_at tw4.2.2.1 3 _ rfl
    have b4 := cells_at tw4.2.2.1 4 _ rfl
    have b5 := cells_at tw4.2.2.1 5 _ rfl
    have b6 := cells_at tw4.2.2.1 6 _ rfl
    have b7 := cells_at tw4.2.2.1 7 _ rfl
    have c0 := cells_at tw4.2.2.2 0 _ rfl
    have c1 := cells_at tw4.2.2.2 1 _ rfl
    have c2 := cells_at tw4.2.2.2 2 _ rfl
    have c3 := cells_at tw4.2.2.2 3 _ rfl
    have c4 := cells_at tw4.2.2.2 4 _ rfl
    have c5 := cells_at tw4.2.2.2 5 _ rfl
    have c6 := cells_at tw4.2.2.2 6 _ rfl
    have c7 := cells_at tw4.2.2.2 7 _ rfl
    clear tw4
    rcases Int.lt_trichotomy cx 0 with q | q | q
    · have r1d : decide (cx < 0) = true := decide_eq_true q
      have E : Hid (Bt.inR lo hi k = false) := by
        show _ = _
        rw [HE.out]
        simp [q]
      go_wp2
      go_ret
      exact ⟨by rw [E.out]; rfl, (HD.out _ HBw4.out).1⟩
    · subst q
      cases oa with
      | true =>
        have E : Hid (Bt.inR lo hi k = false) := by
          show _ = _
          rw [HE.out]
          simp
        go_wp2
        go_ret
        exact ⟨by rw [E.out]; rfl, (HD.out _ HBw4.out).1⟩
      | false =>
        have HL : Hid ((true && (decide ((0 : Int) < 0) || (decide ((0 : Int) = 0) && false))) = false) := rfl
        cases hb with
        | false =>
          have E : Hid (Bt.inR lo hi k = true) := by
            show _ = _
            rw [HE.out, HL.out]
            simp
          go_wp2
          go_ret
          exact ⟨by rw [E.out]; rfl, (HD.out _ HBw4.out).1⟩
        | true =>
          go_wp2_with fail
          refine (CY.out _ (HD.out _ HBw4.out).1).mono ?_
          rintro ex w5 ⟨rfl, hbw5⟩
          have HBw5 : Hid (Below w1.heap.size w1 w5) := HBw4.out.trans (hbw5.mono HBw4.out.size)
          clear hbw5 a0 a1 a2 a3 a4 a5 b0 b1 b2 b3 b4 b5 b6 b7 c0 c1 c2 c3 c4 c5 c6 c7
          have tw5 := HD.out _ HBw5.out
          have a0 := cells_at tw5.2.1 0 _ rfl
          have a1 := cells_at tw5.2.1 1 _ rfl
          have a2 := cells_at tw5.2.1 2 _ rfl
          have a3 := cells_at tw5.2.1 3 _ rfl
          have a4 := cells_at tw5.2.1 4 _ rfl
          have a5 := cells_at tw5.2.1 5 _ rfl
          have b0 := cells_at tw5.2.2.1 0 _ rfl
          have b1 := cells_at tw5.2.2.1 1 _ rfl
          have b2 := cells_at tw5.2.2.1 2 _ rfl
          have b3 := cells_at tw5.2.2.1 3 _ rfl
          have b4 := cells_at tw5.2.2.1 4 _ rfl
          have b5 := cells_at tw5.2.2.1 5 _ rfl
          have b6 := cells_at tw5.2.2.1 6 _ rfl
          have b7 := cells_at tw5.2.2.1 7 _ rfl
          have c0 := cells_at tw5.2.2.2 0 _ rfl
          have c1 := cells_at tw5.2.2.2 1 _ rfl
          have c2 := cells_at tw5.2.2.2 2 _ rfl
          have c3 := cells_at tw5.2.2.2 3 _ rfl
          have c4 := cells_at tw5.2.2.2 4 _ rfl
          have c5 := cells_at tw5.2.2.2 5 _ rfl
          have c6 := cells_at tw5.2.2.2 6 _ rfl
          have c7 := cells_at tw5.2.2.2 7 _ rfl
          clear tw5
          rcases Int.lt_trichotomy cy 0 with q | q | q
          · have r1 : ¬ (0 : Int) < cy := by omega
            have r1d : decide ((0 : Int) < cy) = false := decide_eq_false r1
            have r2 : (cy == 0) = false := by simp; omega
            have r3 : ¬ cy = 0 := by omega
            have E : Hid (Bt.inR lo hi k = true) := by
              show _ = _
              rw [HE.out, HL.out]
              simp [r1, r3]
            go_wp2
            go_ret
            exact ⟨by rw [E.out]; rfl, (HD.out _ HBw5.out).1⟩
          · subst q
            cases ob with
            | false =>
              have E : Hid (Bt.inR lo hi k = true) := by
                show _ = _
                rw [HE.out, HL.out]
                simp
              go_wp2
              go_ret
              exact ⟨by rw [E.out]; rfl, (HD.out _ HBw5.out).1⟩
            | true =>
              have E : Hid (Bt.inR lo hi k = false) := by
                show _ = _
                rw [HE.out, HL.out]
                simp
              go_wp2
              go_ret
              exact ⟨by rw [E.out]; rfl, (HD.out _ HBw5.out).1⟩
          · have r1 : (0 : Int) < cy := by omega
            have r1d : decide ((0 : Int) < cy) = true := decide_eq_true r1
            have E : Hid (Bt.inR lo hi k = false) := by
              show _ = _
              rw [HE.out, HL.out]
              simp [r1]
            go_wp2
            go_ret
            exact ⟨by rw [E.out]; rfl, (HD.out _ HBw5.out).1⟩
    · have p1 : ¬ cx < 0 := by omega
      have p1d : decide (cx < 0) = false := decide_eq_false p1
      have p2 : (cx == 0) = false := by simp; omega
      have p3 : ¬ cx = 0 := by omega
      have HL : Hid ((true && (decide (cx < 0) || (decide (cx = 0) && oa))) = false) := by
        show _ = _
        simp [p1, p3]
      clear q
      cases hb with
      | false =>
        have E : Hid (Bt.inR lo hi k = true) := by
          show _ = _
          rw [HE.out, HL.out]
          simp
        go_wp2
        go_ret
        exact ⟨by rw [E.out]; rfl, (HD.out _ HBw4.out).1⟩
      | true =>
        go_wp2_with fail
        refine (CY.out _ (HD.out _ HBw4.out).1).mono ?_
        rintro ex w5 ⟨rfl, hbw5⟩
        have HBw5 : Hid (Below w1.heap.size w1 w5) := HBw4.out.trans (hbw5.mono HBw4.out.size)
        clear hbw5 a0 a1 a2 a3 a4 a5 b0 b1 b2 b3 b4 b5 b6 b7 c0 c1 c2 c3 c4 c5 c6 c7
        have tw5 := HD.out _ HBw5.out
        have a0 := cells_at tw5.2.1 0 _ rfl
        have a1 := cells_at tw5.2.1 1 _ rfl
        have a2 := cells_at tw5.2.1 2 _ rfl
        have a3 := cells_at tw5.2.1 3 _ rfl
        have a4 := cells_at tw5.2.1 4 _ rfl
        have a5 := cells_at tw5.2.1 5 _ rfl
        have b0 := cells_at tw5.2.2.1 0 _ rfl
        have b1 := cells_at tw5.2.2.1 1 _ rfl
        have b2 := cells_at tw5.2.2.1 2 _ rfl
        have b3 := cells_at tw5.2.2.1 3 _ rfl
        have b4 := cells_at tw5.2.2.1 4 _ rfl
        have b5 := cells_at tw5.2.2.1 5 _ rfl
        have b6 := cells_at tw5.2.2.1 6 _ rfl
        have b7 := cells_at tw5.2.2.1 7 _ rfl
        have c0 := cells_at tw5.2.2.2 0 _ rfl
        have c1 := cells_at tw5.2.2.2 1 _ rfl
        have c2 := cells_at tw5.2.2.2 2 _ rfl
        have c3 := cells_at tw5.2.2.2 3 _ rfl
        have c4 := cells_at tw5.2.2.2 4 _ rfl
        have c5 := cells_at tw5.2.2.2 5 _ rfl
        have c6 := cells_at tw5.2.2.2 6 _ rfl
        have c7 := cells_at tw5.2.2.2 7 _ rfl
        clear tw5
        rcases Int.lt_trichotomy cy 0 with q | q | q
        · have r1 : ¬ (0 : Int) < cy := by omega
          have r1d : decide ((0 : Int) < cy) = false := decide_eq_false r1
          have r2 : (cy == 0) = false := by simp; omega
          have r3 : ¬ cy = 0 := by omega
          have E : Hid (Bt.inR lo hi k = true) := by
            show _ = _
            rw [HE.out, HL.out]
            simp [r1, r3]
          go_wp2
          go_ret
          exact ⟨by rw [E.out]; rfl, (HD.out _ HBw5.out).1⟩
        · subst q
          cases ob with
          | false =>
            have E : Hid (Bt.inR lo hi k = true) := by
              show _ = _
              rw [HE.out, HL.out]
              simp
            go_wp2
            go_ret
            exact ⟨by rw [E.out]; rfl, (HD.out _ HBw5.out).1⟩
          | true =>
            have E : Hid (Bt.inR lo hi k = false) := by
              show _ = _
              rw [HE.out, HL.out]
              simp
            go_wp2
            go_ret
            exact ⟨by rw [E.out]; rfl, (HD.out _ HBw5.out).1⟩
        · have r1 : (0 : Int) < cy := by omega
          have r1d : decide ((0 : Int) < cy) = true := decide_eq_true r1
          have E : Hid (Bt.inR lo hi k = false) := by
            show _ = _
            rw [HE.out, HL.out]
            simp [r1]
          go_wp2
          go_ret
          exact ⟨by rw [E.out]; rfl, (HD.out _ HBw5.out).1⟩
end Go.Proofs.YtkigenldiinioaaGreatDoor
