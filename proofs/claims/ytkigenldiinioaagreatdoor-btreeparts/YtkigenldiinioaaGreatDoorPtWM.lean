/- A range that is cut anywhere has the keys of both parts: walked. -/
import Derived.Test.YtkigenldiinioaaGreatDoorRgEM
import Derived.Test.YtkigenldiinioaaGreatDoorRfEM
import Derived.Test.YtkigenldiinioaaGreatDoorShWM
namespace Go.Proofs.YtkigenldiinioaaGreatDoor
open Go.RowKit Go.Shelf
open Vl (V)
attribute [local go_sem ↓] Go.wp_at_zero Go.wp_at_succ
set_option maxHeartbeats 16000000 in
set_option maxRecDepth 100000 in
theorem parts_w (w : World) (hU : Bn.HasU w) (l : List (V × List Nat)) (la : Option Addr) (lc : Nat) (hl : l.length ≤ maxLen) (hI : InEs w w.heap.size la l) (lo hi : Option (Bool × V)) (lv hv : Value) (hlo : Bnd w w.heap.size lo lv) (hhi : Bnd w w.heap.size hi hv) (z : V) (kv : Value) (hk : Rep w w.heap.size z kv) : Calls Tryz.prog 5 #[.slice la l.length lc, lv, hv, kv] w fun e w' => e = .returned (.bool true) ∧ Below w.heap.size w w' := by
  have hlo' := hlo
  have hhi' := hhi
  obtain ⟨ha, oa, l0, l1, l2, l3, l4, l5, x, rfl, rx, ea⟩ := hlo
  obtain ⟨hb, ob, r0, r1, r2, r3, r4, r5, y, rfl, ry, eb⟩ := hhi
  obtain ⟨d0, d1, d2, d3, d4, d5, rfl⟩ := repV_box hk
  obtain ⟨zk, zb, zn, zs, za, zl, zc, zf, zm, zd, rfl, rfl, rfl, rfl, rfl, rfl⟩ := rep_form hk
  obtain ⟨xk, xb, xn, xs, xa, xl, xc, xf, xm, xd, rfl, rfl, rfl, rfl, rfl, rfl⟩ := rep_form rx
  obtain ⟨yk, yb, yn, ys, ya, yl, yc, yf, ym, yd, rfl, rfl, rfl, rfl, rfl, rfl⟩ := rep_form ry
  obtain ⟨w1, hw1⟩ : ∃ w1, w1 = ((w.alloc (.cells #[.bool ha, .bool oa, .int .u8 (xk : Int), .bool xb, .int .i64 xn, .string xs, .slice xa xl xc, .slice xf xm xd] 29)).alloc (.cells #[.bool hb, .bool ob, .int .u8 (yk : Int), .bool yb, .int .i64 yn, .string ys, .slice ya yl yc, .slice yf ym yd] 29)).alloc (.cells #[.int .u8 (zk : Int), .bool zb, .int .i64 zn, .string zs, .slice za zl zc, .slice zf zm zd] 27) := ⟨_, rfl⟩
  obtain ⟨Bl, hBl⟩ : ∃ Bl, Bl = w.heap.size := ⟨_, rfl⟩
  obtain ⟨Bh, hBh⟩ : ∃ Bh, Bh = w.heap.size + 1 := ⟨_, rfl⟩
  obtain ⟨Bk, hBk⟩ : ∃ Bk, Bk = w.heap.size + 1 + 1 := ⟨_, rfl⟩
  obtain ⟨b1, e1, e2, e3⟩ : Below w.heap.size w w1 ∧ w1.heap[Bl]? = some (.cells #[.bool ha, .bool oa, .int .u8 (xk : Int), .bool xb, .int .i64 xn, .string xs, .slice xa xl xc, .slice xf xm xd] 29 (0, 0)) ∧ w1.heap[Bh]? = some (.cells #[.bool hb, .bool ob, .int .u8 (yk : Int), .bool yb, .int .i64 yn, .string ys, .slice ya yl yc, .slice yf ym yd] 29 (0, 0)) ∧ w1.heap[Bk]? = some (.cells #[.int .u8 (zk : Int), .bool zb, .int .i64 zn, .string zs, .slice za zl zc, .slice zf zm zd] 27 (0, 0)) := by
    rw [hw1, hBk, hBl, hBh]
    exact three_new (Below.refl _ _) _ _ _ _ _ _
  have HD : Hid (∀ W, Below w1.heap.size w1 W → Below w.heap.size w W ∧ W.heap[Bl]? = some (.cells #[.bool ha, .bool oa, .int .u8 (xk : Int), .bool xb, .int .i64 xn, .string xs, .slice xa xl xc, .slice xf xm xd] 29 (0, 0)) ∧ W.heap[Bh]? = some (.cells #[.bool hb, .bool ob, .int .u8 (yk : Int), .bool yb, .int .i64 yn, .string ys, .slice ya yl yc, .slice yf ym yd] 29 (0, 0)) ∧ W.heap[Bk]? = some (.cells #[.int .u8 (zk : Int), .bool zb, .int .i64 zn, .string zs, .slice za zl zc, .slice zf zm zd] 27 (0, 0))) := fun W hW => ⟨b1.trans (hW.mono b1.size), (hW.block _ (lt_of_row e1)).trans e1, (hW.block _ (lt_of_row e2)).trans e2, (hW.block _ (lt_of_row e3)).trans e3⟩
  have CL : Hid (∀ W, Below w1.heap.size w1 W → Calls Tryz.prog 10 #[] W fun e w' => e = .returned (.bool true) ∧ Below w1.heap.size w1 w') := fun W hW => (livesB_c W (hU.stays (HD.out W hW).1)).mono (by
    rintro e w' ⟨rfl, hb⟩
    exact ⟨rfl, hW.trans (hb.mono hW.size)⟩)
  have CF : Hid (∀ W, Below w1.heap.size w1 W → Calls Tryz.prog 9 #[.slice la l.length lc] W fun e w' => ∃ tb L a c, e = .returned (.tuple #[.pointer (some ⟨tb, 0, none⟩), .slice a (List.length L) c, .bool true]) ∧ Hid (FS W tb L L a (fun _ _ => False) w' ∧ Below w1.heap.size w1 w')) := fun W hW => by
    have hWw := (HD.out W hW).1
    refine (filled_at W W (hU.stays hWw) (Below.refl _ _) l la lc hl ((hI.stays hWw).up hWw.size)).mono ?_
    rintro e w' ⟨tb, L, a, c, rfl, h1, h2⟩
    exact ⟨tb, L, a, c, rfl, h1, hW.trans (h2.mono hW.size)⟩
  have HU : Hid (∀ W, Below w1.heap.size w1 W → Bn.HasU W) := fun W hW => hU.stays (HD.out W hW).1
  have HB : Hid (∀ W, Below w1.heap.size w1 W → Bnd W W.heap.size lo (.agg #[.bool ha, .bool oa, .int .u8 (xk : Int), .bool xb, .int .i64 xn, .string xs, .slice xa xl xc, .slice xf xm xd]) ∧ Bnd W W.heap.size hi (.agg #[.bool hb, .bool ob, .int .u8 (yk : Int), .bool yb, .int .i64 yn, .string ys, .slice ya yl yc, .slice yf ym yd]) ∧ Rep W W.heap.size z (.agg #[.int .u8 (zk : Int), .bool zb, .int .i64 zn, .string zs, .slice za zl zc, .slice zf zm zd])) := fun W hW => ⟨(hlo'.stays (HD.out W hW).1).up (HD.out W hW).1.size, (hhi'.stays (HD.out W hW).1).up (HD.out W hW).1.size, rep_stays (HD.out W hW).1 (HD.out W hW).1.size _ _ hk⟩
  obtain ⟨ke, hke⟩ : ∃ ke, ke = Bt.kerr z := ⟨_, rfl⟩
  have CK : Hid (∀ W, Below w1.heap.size w1 W → Calls Tryz.prog 14 #[.agg #[.int .u8 (zk : Int), .bool zb, .int .i64 zn, .string zs, .slice za zl zc, .slice zf zm zd]] W fun e w' => e = .returned (.int .i64 (ke : Int)) ∧ Below W.heap.size W w') := fun W hW => by
    rw [hke]
    exact rcheck19 z W W.heap.size _ (Nat.le_refl _) (HB.out W hW).2.2
  have CI : Hid (∀ W, Below w1.heap.size w1 W → Calls Tryz.prog 22 #[.agg #[.int .u8 (zk : Int), .bool zb, .int .i64 zn, .string zs, .slice za zl zc, .slice zf zm zd], .agg #[.bool ha, .bool oa, .int .u8 (xk : Int), .bool xb, .int .i64 xn, .string xs, .slice xa xl xc, .slice xf xm xd], .agg #[.bool hb, .bool ob, .int .u8 (yk : Int), .bool yb, .int .i64 yn, .string ys, .slice ya yl yc, .slice yf ym yd]] W fun e w' => e = .returned (.bool (Bt.inR lo hi z)) ∧ Below W.heap.size W w') := fun W hW => rin_c z lo hi _ _ _ W (HB.out W hW).2.2 (HB.out W hW).1 (HB.out W hW).2.1
  have HKE : Hid (ke = Bt.kerr z) := hke
  clear hlo' hhi' hk rx ry ea eb b1 e1 e2 e3 hU hl hI hke
  go_enter Tryz.func5, Tryz.ntmps5
  go_upto_region 1 with fail
  rw [← hw1, ← hBk, ← hBh, ← hBl]
  clear hw1 hBk hBh hBl
  go_wp2_with fail
  refine (CL.out _ (Below.refl _ _)).mono ?_
  rintro e w2 ⟨rfl, hb2⟩
  have K2 : Hid (Below w1.heap.size w1 w2) := hb2
  clear hb2 CL
  go_wp2_with fail
  refine (CF.out _ K2.out).mono ?_
  rintro e w3 ⟨tb, L, wa, wc, rfl, HFS⟩
  obtain ⟨wn, hwn⟩ : ∃ wn, wn = L.length := ⟨_, rfl⟩
  rw [← hwn]
  have K3 : Hid (Below w1.heap.size w1 w3) := HFS.out.2
  have HLW : Hid (Bt.LW L) := HFS.out.1.lw
  have CR : Hid (∀ (o1 o2 : Option (Bool × V)) (v1 v2 : Value) (W : World), Below w3.heap.size w3 W → Bnd W W.heap.size o1 v1 → Bnd W W.heap.size o2 v2 → Calls Tryz.prog 11 #[.pointer (some ⟨tb, 0, none⟩), v1, v2] W fun ex w' => ∃ a n c, ex = .returned (.tuple #[.slice a n c, .int .i64 (Bt.rerr o1 o2 : Int)]) ∧ Hid (n = (if Bt.rerr o1 o2 = 0 then L.filter fun p => Bt.inR o1 o2 p.1 else []).length ∧ n ≤ 1024 ∧ EntsA w' (fun g => g < w'.heap.size) a (if Bt.rerr o1 o2 = 0 then L.filter fun p => Bt.inR o1 o2 p.1 else []) ∧ Below w3.heap.size w3 w' ∧ Below W.heap.size W w')) := fun o1 o2 v1 v2 W hW h1 h2 => by
    obtain ⟨F, O, hT, _⟩ := HFS.out.1.ex
    refine (range_e (hT.stays hW) (HU.out W (K3.out.trans (hW.mono K3.out.size))) o1 o2 v1 v2 h1 h2).mono ?_
    rintro ex w' ⟨a, n, c, rfl, q1, q2, q3, q4⟩
    exact ⟨a, n, c, rfl, q1, q2, q3.stays (fun _ _ => rfl) (fun g hg => hg.1), hW.trans (q4.mono hW.size), q4⟩
  have KW : Hid (∀ W, Below w3.heap.size w3 W → Below w1.heap.size w1 W) := fun W hW => K3.out.trans (hW.mono K3.out.size)
  clear HFS hwn CF K2
  have tq := HD.out _ K3.out
  have b0 := cells_at tq.2.1 0 _ rfl
  have b1 := cells_at tq.2.1 1 _ rfl
  have b2 := cells_at tq.2.1 2 _ rfl
  have b3 := cells_at tq.2.1 3 _ rfl
  have b4 := cells_at tq.2.1 4 _ rfl
  have b5 := cells_at tq.2.1 5 _ rfl
  have b6 := cells_at tq.2.1 6 _ rfl
  have b7 := cells_at tq.2.1 7 _ rfl
  have c0 := cells_at tq.2.2.1 0 _ rfl
  have c1 := cells_at tq.2.2.1 1 _ rfl
  have c2 := cells_at tq.2.2.1 2 _ rfl
  have c3 := cells_at tq.2.2.1 3 _ rfl
  have c4 := cells_at tq.2.2.1 4 _ rfl
  have c5 := cells_at tq.2.2.1 5 _ rfl
  have c6 := cells_at tq.2.2.1 6 _ rfl
  have c7 := cells_at tq.2.2.1 7 _ rfl
  have a0 := cells_at tq.2.2.2 0 _ rfl
  have a1 := cells_at tq.2.2.2 1 _ rfl
  have a2 := cells_at tq.2.2.2 2 _ rfl
  have a3 := cells_at tq.2.2.2 3 _ rfl
  have a4 := cells_at tq.2.2.2 4 _ rfl
  have a5 := cells_at tq.2.2.2 5 _ rfl
  clear tq
  go_wp2_with fail
  refine (CR.out lo hi _ _ _ (Below.refl _ _) (HB.out _ K3.out).1 (HB.out _ K3.out).2.1).mono ?_
  rintro e w4 ⟨al, an, ac, rfl, HV4⟩
  obtain ⟨e1, he1⟩ : ∃ e1, e1 = Bt.rerr lo hi := ⟨_, rfl⟩
  rw [← he1] at HV4 ⊢
  have K4 : Hid (Below w3.heap.size w3 w4) := HV4.out.2.2.2.1
  have HE1 : Hid (e1 = Bt.rerr lo hi) := he1
  clear b0 b1 b2 b3 b4 b5 b6 b7 c0 c1 c2 c3 c4 c5 c6 c7 a0 a1 a2 a3 a4 a5
  clear he1
  have tq := HD.out _ (KW.out _ K4.out)
  have b0 := cells_at tq.2.1 0 _ rfl
  have b1 := cells_at tq.2.1 1 _ rfl
  have b2 := cells_at tq.2.1 2 _ rfl
  have b3 := cells_at tq.2.1 3 _ rfl
  have b4 := cells_at tq.2.1 4 _ rfl
  have b5 := cells_at tq.2.1 5 _ rfl
  have b6 := cells_at tq.2.1 6 _ rfl
  have b7 := cells_at tq.2.1 7 _ rfl
  have c0 := cells_at tq.2.2.1 0 _ rfl
  have c1 := cells_at tq.2.2.1 1 _ rfl
  have c2 := cells_at tq.2.2.1 2 _ rfl
  have c3 := cells_at tq.2.2.1 3 _ rfl
  have c4 := cells_at tq.2.2.1 4 _ rfl
  have c5 := cells_at tq.2.2.1 5 _ rfl
  have c6 := cells_at tq.2.2.1 6 _ rfl
  have c7 := cells_at tq.2.2.1 7 _ rfl
  have a0 := cells_at tq.2.2.2 0 _ rfl
  have a1 := cells_at tq.2.2.2 1 _ rfl
  have a2 := cells_at tq.2.2.2 2 _ rfl
  have a3 := cells_at tq.2.2.2 3 _ rfl
  have a4 := cells_at tq.2.2.2 4 _ rfl
  have a5 := cells_at tq.2.2.2 5 _ rfl
  clear tq
  go_wp2_with fail
  refine (CK.out _ (KW.out _ K4.out)).mono ?_
  rintro e w5 ⟨rfl, hb5⟩
  have K5 : Hid (Below w3.heap.size w3 w5 ∧ Below w4.heap.size w4 w5) := ⟨K4.out.trans (hb5.mono K4.out.size), hb5⟩
  clear b0 b1 b2 b3 b4 b5 b6 b7 c0 c1 c2 c3 c4 c5 c6 c7 a0 a1 a2 a3 a4 a5
  clear hb5 CK
  by_cases hz1 : e1 = 0
  · by_cases hz2 : ke = 0
    · subst hz1
      subst hz2
      have HRE : Hid (Bt.rerr lo (some (true, z)) = 0 ∧ Bt.rerr (some (false, z)) hi = 0) := by
        have h1 := HE1.out
        have h2 := HKE.out
        rw [Bt.rerr] at h1
        by_cases q : Bt.berr lo = 0
        · rw [if_neg (by simpa using q)] at h1
          exact ⟨by rw [Bt.rerr, if_neg (by simpa using q)]; exact h2.symm, by rw [Bt.rerr, if_neg (by simpa [Bt.berr] using h2.symm)]; exact h1.symm⟩
        · rw [if_pos q] at h1; exact absurd h1.symm q
      have tq := HD.out _ (KW.out _ K5.out.1)
      have b0 := cells_at tq.2.1 0 _ rfl
      have b1 := cells_at tq.2.1 1 _ rfl
      have b2 := cells_at tq.2.1 2 _ rfl
      have b3 := cells_at tq.2.1 3 _ rfl
      have b4 := cells_at tq.2.1 4 _ rfl
      have b5 := cells_at tq.2.1 5 _ rfl
      have b6 := cells_at tq.2.1 6 _ rfl
      have b7 := cells_at tq.2.1 7 _ rfl
      have c0 := cells_at tq.2.2.1 0 _ rfl
      have c1 := cells_at tq.2.2.1 1 _ rfl
      have c2 := cells_at tq.2.2.1 2 _ rfl
      have c3 := cells_at tq.2.2.1 3 _ rfl
      have c4 := cells_at tq.2.2.1 4 _ rfl
      have c5 := cells_at tq.2.2.1 5 _ rfl
      have c6 := cells_at tq.2.2.1 6 _ rfl
      have c7 := cells_at tq.2.2.1 7 _ rfl
      have a0 := cells_at tq.2.2.2 0 _ rfl
      have a1 := cells_at tq.2.2.2 1 _ rfl
      have a2 := cells_at tq.2.2.2 2 _ rfl
      have a3 := cells_at tq.2.2.2 3 _ rfl
      have a4 := cells_at tq.2.2.2 4 _ rfl
      have a5 := cells_at tq.2.2.2 5 _ rfl
      clear tq
      go_wp2_with fail
      refine (CR.out lo (some (true, z)) _ _ _ K5.out.1 (HB.out _ (KW.out _ K5.out.1)).1 ⟨true, true, _, _, _, _, _, _, z, rfl, (HB.out _ (KW.out _ K5.out.1)).2.2, rfl⟩).mono ?_
      rintro e w6 ⟨pa, pn, pc, rfl, HV6⟩
      rw [HRE.out.1] at HV6 ⊢
      have K6 : Hid (Below w3.heap.size w3 w6) := HV6.out.2.2.2.1
      clear b0 b1 b2 b3 b4 b5 b6 b7 c0 c1 c2 c3 c4 c5 c6 c7 a0 a1 a2 a3 a4 a5
      have tq := HD.out _ (KW.out _ K6.out)
      have b0 := cells_at tq.2.1 0 _ rfl
      have b1 := cells_at tq.2.1 1 _ rfl
      have b2 := cells_at tq.2.1 2 _ rfl
      have b3 := cells_at tq.2.1 3 _ rfl
      have b4 := cells_at tq.2.1 4 _ rfl
      have b5 := cells_at tq.2.1 5 _ rfl
      have b6 := cells_at tq.2.1 6 _ rfl
      have b7 := cells_at tq.2.1 7 _ rfl
      have c0 := cells_at tq.2.2.1 0 _ rfl
      have c1 := cells_at tq.2.2.1 1 _ rfl
      have c2 := cells_at tq.2.2.1 2 _ rfl
      have c3 := cells_at tq.2.2.1 3 _ rfl
      have c4 := cells_at tq.2.2.1 4 _ rfl
      have c5 := cells_at tq.2.2.1 5 _ rfl
      have c6 := cells_at tq.2.2.1 6 _ rfl
      have c7 := cells_at tq.2.2.1 7 _ rfl
      have a0 := cells_at tq.2.2.2 0 _ rfl
      have a1 := cells_at tq.2.2.2 1 _ rfl
      have a2 := cells_at tq.2.2.2 2 _ rfl
      have a3 := cells_at tq.2.2.2 3 _ rfl
      have a4 := cells_at tq.2.2.2 4 _ rfl
      have a5 := cells_at tq.2.2.2 5 _ rfl
      clear tq
      go_wp2_with fail
      refine (CR.out (some (false, z)) hi _ _ _ K6.out ⟨true, false, _, _, _, _, _, _, z, rfl, (HB.out _ (KW.out _ K6.out)).2.2, rfl⟩ (HB.out _ (KW.out _ K6.out)).2.1).mono ?_
      rintro e w7 ⟨qa, qn, qc, rfl, HV7⟩
      rw [HRE.out.2] at HV7 ⊢
      have K7 : Hid (Below w3.heap.size w3 w7) := HV7.out.2.2.2.1
      clear b0 b1 b2 b3 b4 b5 b6 b7 c0 c1 c2 c3 c4 c5 c6 c7 a0 a1 a2 a3 a4 a5
      have tq := HD.out _ (KW.out _ K7.out)
      have b0 := cells_at tq.2.1 0 _ rfl
      have b1 := cells_at tq.2.1 1 _ rfl
      have b2 := cells_at tq.2.1 2 _ rfl
      have b3 := cells_at tq.2.1 3 _ rfl
      have b4 := cells_at tq.2.1 4 _ rfl
      have b5 := cells_at tq.2.1 5 _ rfl
      have b6 := cells_at tq.2.1 6 _ rfl
      have b7 := cells_at tq.2.1 7 _ rfl
      have c0 := cells_at tq.2.2.1 0 _ rfl
      have c1 := cells_at tq.2.2.1 1 _ rfl
      have c2 := cells_at tq.2.2.1 2 _ rfl
      have c3 := cells_at tq.2.2.1 3 _ rfl
      have c4 := cells_at tq.2.2.1 4 _ rfl
      have c5 := cells_at tq.2.2.1 5 _ rfl
      have c6 := cells_at tq.2.2.1 6 _ rfl
      have c7 := cells_at tq.2.2.1 7 _ rfl
      have a0 := cells_at tq.2.2.2 0 _ rfl
      have a1 := cells_at tq.2.2.2 1 _ rfl
      have a2 := cells_at tq.2.2.2 2 _ rfl
      have a3 := cells_at tq.2.2.2 3 _ rfl
      have a4 := cells_at tq.2.2.2 4 _ rfl
      have a5 := cells_at tq.2.2.2 5 _ rfl
      clear tq
      go_wp2_with fail
      refine (CI.out _ (KW.out _ K7.out)).mono ?_
      rintro e w8 ⟨rfl, hb8⟩
      have K8 : Hid (Below w3.heap.size w3 w8) := K7.out.trans (hb8.mono K7.out.size)
      clear b0 b1 b2 b3 b4 b5 b6 b7 c0 c1 c2 c3 c4 c5 c6 c7 a0 a1 a2 a3 a4 a5
      clear CI
      cases hin : Bt.inR lo hi z with
      | false =>
        clear hin hb8
        go_wp2
        go_ret
        exact ⟨rfl, (HD.out _ (KW.out _ K8.out)).1⟩
      | true =>
        obtain ⟨LA, hLA⟩ : ∃ LA, LA = L.filter fun p => Bt.inR lo (some (true, z)) p.1 := ⟨_, rfl⟩
        obtain ⟨LB, hLB⟩ : ∃ LB, LB = L.filter fun p => Bt.inR (some (false, z)) hi p.1 := ⟨_, rfl⟩
        have HM : Hid ((L.filter fun p => Bt.inR lo hi p.1) = LA ++ LB) := by
          show _ = _
          rw [hLA, hLB]
          exact Bt.parts_filter hin HLW.out.rises
        have b78 : Below w7.heap.size w7 w8 := hb8
        have b68 : Below w6.heap.size w6 w8 := HV7.out.2.2.2.2.trans (b78.mono HV7.out.2.2.2.2.size)
        have b58 : Below w5.heap.size w5 w8 := HV6.out.2.2.2.2.trans (b68.mono HV6.out.2.2.2.2.size)
        have b48 : Below w4.heap.size w4 w8 := K5.out.2.trans (b58.mono K5.out.2.size)
        have HA1 : Hid (an = (LA ++ LB).length ∧ an ≤ 1024 ∧ EntsA w8 (fun g => g < w8.heap.size) al (LA ++ LB)) := by
          obtain ⟨h1, h2, h3, _⟩ := HV4.out
          rw [if_pos (by first | rfl | trivial), HM.out] at h1 h3
          exact ⟨h1, h2, h3.stays (fun g hg => b48.block g hg) (fun g hg => Nat.lt_of_lt_of_le hg b48.size)⟩
        have HA2 : Hid (pn = LA.length ∧ pn ≤ 1024 ∧ EntsA w8 (fun g => g < w8.heap.size) pa LA) := by
          obtain ⟨h1, h2, h3, _⟩ := HV6.out
          rw [if_pos (by first | rfl | trivial), ← hLA] at h1 h3
          exact ⟨h1, h2, h3.stays (fun g hg => b68.block g hg) (fun g hg => Nat.lt_of_lt_of_le hg b68.size)⟩
        have HA3 : Hid (qn = LB.length ∧ qn ≤ 1024 ∧ EntsA w8 (fun g => g < w8.heap.size) qa LB) := by
          obtain ⟨h1, h2, h3, _⟩ := HV7.out
          rw [if_pos (by first | rfl | trivial), ← hLB] at h1 h3
          exact ⟨h1, h2, h3.stays (fun g hg => b78.block g hg) (fun g hg => Nat.lt_of_lt_of_le hg b78.size)⟩
        have E0 : Hid (EO w8 (fun g => g < w8.heap.size) [] (.slice (some ⟨w8.heap.size, 0, none⟩) 0 0) (w8.alloc (.cells #[] 49))) := EO.empty (Below.refl _ _) (fun g hg => hg)
        have HA2' : Hid (EntsA (w8.alloc (.cells #[] 49)) (fun g => g < w8.heap.size) pa LA) := HA2.out.2.2.stays (fun g hg => (below_new w8 _).block g hg) (fun _ hg => hg)
        have fitA : Hid (([] : Bt.KL).length + pn ≤ 1000000) := by show _ ≤ _; have := HA2.out; simp; omega
        have fitB : Hid (LA.length + qn ≤ 1000000) := by show _ ≤ _; have := HA2.out; have := HA3.out; omega
        have CS : Hid (∀ (W : World) b cb, Below w8.heap.size w8 W → EntsA W (fun g => g < W.heap.size) b (LA ++ LB) → Calls Tryz.prog 15 #[.slice al an ac, .slice b an cb] W fun e w' => e = .returned (.bool true) ∧ Below W.heap.size W w') := fun W b cb hW hb => by
          have hfew : ∀ p ∈ LA ++ LB, p.2.length ≤ 1000000 := fun p hp => by
            rw [← HM.out] at hp
            have := HLW.out.few (List.mem_filter.1 hp).1
            omega
          have h1 := (HA1.out.2.2.stays (w' := W) (A' := fun g => g < W.heap.size) (fun g hg => hW.block g hg) (fun g hg => Nat.lt_of_lt_of_le hg hW.size)).at (fun g hg => hg) hfew
          have := sameE_c (LA ++ LB) al b ac cb W (by rw [← HA1.out.1]; have := HA1.out.2.1; omega) h1 (hb.at (fun g hg => hg) hfew)
          rw [← HA1.out.1] at this
          exact this
        clear hb8 b78 b68 b58 b48 hLA hLB hin HV4 HV6 HV7 CR
        go_wp2_with (first | (at_builtin; refine wpList_append_ents rfl _ _ rfl rfl E0.out pa pn pc rfl HA2.out.1 HA2'.out fitA.out ?_; intro v9 w9 h9; (have E9 : Hid (EO w8 (fun g => g < w8.heap.size) LA v9 w9) := by (rw [List.nil_append] at h9; exact h9)); clear h9; (have HA3' : Hid (EntsA w9 (fun g => g < w8.heap.size) qa LB) := HA3.out.2.2.stays (fun g hg => E9.out.below.block g hg) (fun _ hg => hg))) | (at_builtin; refine wpList_append_ents rfl _ _ rfl rfl E9.out qa qn qc rfl HA3.out.1 HA3'.out fitB.out ?_; intro v10 w10 h10; (obtain ⟨a10, c10, e10⟩ := h10.form); subst e10; rw [← HA1.out.1]; (have E10 : Hid (EntsA w10 (fun g => g < w10.heap.size) a10 (LA ++ LB) ∧ Below w8.heap.size w8 w10) := ⟨h10.done.2.stays (fun _ _ => rfl) (fun g hg => hg.elim (fun q => Nat.lt_of_lt_of_le q h10.below.size) (fun q => q.2)), h10.below⟩); clear h10) | (go_at_call 15; refine (CS.out _ _ _ E10.out.2 E10.out.1).mono ?_; rintro e w11 ⟨rfl, hb11⟩; have K11 : Hid (Below w8.heap.size w8 w11) := E10.out.2.trans (hb11.mono E10.out.2.size); clear hb11))
        go_ret
        exact ⟨rfl, (HD.out _ (KW.out _ (K8.out.trans (K11.out.mono K8.out.size)))).1⟩
    · have q1 : ((ke : Int) != 0) = true := by simp; omega
      have q2 : ¬ ((ke : Int) = 0) := by omega
      subst hz1
      clear hz2
      go_wp2
      go_ret
      exact ⟨by first | rfl | simp, (HD.out _ (KW.out _ K5.out.1)).1⟩
  · have q1 : ((e1 : Int) != 0) = true := by simp; omega
    have q2 : ¬ ((e1 : Int) = 0) := by omega
    have q3 : ((e1 : Int) == 0) = false := by simp; omega
    have HAN : Hid (an = 0) := by
      have := HV4.out.1
      rw [if_neg hz1] at this
      exact this
    obtain rfl : an = 0 := HAN.out
    clear hz1
    by_cases hz2 : ke = 0
    · subst hz2
      go_wp2
      go_ret
      exact ⟨by first | rfl | simp, (HD.out _ (KW.out _ K5.out.1)).1⟩
    · have q4 : ((ke : Int) != 0) = true := by simp; omega
      have q5 : ¬ ((ke : Int) = 0) := by omega
      clear hz2
      go_wp2
      go_ret
      exact ⟨by first | rfl | simp, (HD.out _ (KW.out _ K5.out.1)).1⟩
end Go.Proofs.YtkigenldiinioaaGreatDoor
