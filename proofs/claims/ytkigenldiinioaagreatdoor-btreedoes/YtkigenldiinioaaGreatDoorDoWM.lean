/- Whatever is put and dropped, whatever range is asked for: walked. -/
import Derived.Test.YtkigenldiinioaaGreatDoorRgEM
import Derived.Test.YtkigenldiinioaaGreatDoorRfFM
import Derived.Test.YtkigenldiinioaaGreatDoorShWM
namespace Go.Proofs.YtkigenldiinioaaGreatDoor
open Go.RowKit Go.Shelf
open Vl (V)
attribute [local go_sem ↓] Go.wp_at_zero Go.wp_at_succ
set_option maxHeartbeats 16000000 in
set_option maxRecDepth 100000 in
theorem does_w (w : World) (hU : Bn.HasU w) (l : List (V × List Nat)) (la : Option Addr) (lc : Nat) (hl : l.length ≤ maxLen) (hI : InEs w w.heap.size la l) (lo hi : Option (Bool × V)) (lv hv : Value) (hlo : Bnd w w.heap.size lo lv) (hhi : Bnd w w.heap.size hi hv) (z : V) (kv : Value) (hk : Rep w w.heap.size z kv) : Calls Tryz.prog 3 #[.slice la l.length lc, lv, hv, kv] w fun e w' => e = .returned (.bool true) ∧ Below w.heap.size w w' := by
  have hlo' := hlo
  have hhi' := hhi
  obtain ⟨ha, oa, l0, l1, l2, l3, l4, l5, x, rfl, rx, ea⟩ := hlo
  obtain ⟨hb, ob, r0, r1, r2, r3, r4, r5, y, rfl, ry, eb⟩ := hhi
  obtain ⟨d0, d1, d2, d3, d4, d5, rfl⟩ := repV_box hk
  obtain ⟨zk, zb, zn, zs, za, zl, zc, zf, zm, zd, rfl, rfl, rfl, rfl, rfl, rfl⟩ := rep_form hk
  obtain ⟨xk, xb, xn, xs, xa, xl, xc, xf, xm, xd, rfl, rfl, rfl, rfl, rfl, rfl⟩ := rep_form rx
  obtain ⟨yk, yb, yn, ys, ya, yl, yc, yf, ym, yd, rfl, rfl, rfl, rfl, rfl, rfl⟩ := rep_form ry
  obtain ⟨w1, hw1⟩ : ∃ w1, w1 = ((w.alloc (.cells #[.bool ha, .bool oa, .int .u8 (xk : Int), .bool xb, .int .i64 xn, .string xs, .slice xa xl xc, .slice xf xm xd] 29)).alloc (.cells #[.bool hb, .bool ob, .int .u8 (yk : Int), .bool yb, .int .i64 yn, .string ys, .slice ya yl yc, .slice yf ym yd] 29)).alloc (.cells #[.int .u8 (zk : Int), .bool zb, .int .i64 zn, .string zs, .slice za zl zc, .slice zf zm zd] 27) := ⟨_, rfl⟩
  obtain ⟨Bl, hBl⟩ : ∃ Bl, Bl = w.heap.size := ⟨_, rfl⟩
  obtain ⟨Bh, hBh⟩ : ∃ Bh, Bh = w.heap.size + 1 := ⟨_, rfl⟩
  obtain ⟨Bk, hBk⟩ : ∃ Bk, Bk = w.heap.size + 1 + 1 := ⟨_, rfl⟩
  obtain ⟨b1, e1, e2, e3⟩ : Below w.heap.size w w1 ∧ w1.heap[Bl]? = some (.cells #[.bool ha, .bool oa, .int .u8 (xk : Int), .bool xb, .int .i64 xn, .string xs, .slice xa xl xc, .slice xf xm xd] 29 (0, 0)) ∧ w1.heap[Bh]? = some (.cells #[.bool hb, .bool ob, .int .u8 (yk : Int), .bool yb, .int .i64 yn, .string ys, .slice ya yl yc, .slice yf ym yd] 29 (0, 0)) ∧ w1.heap[Bk]? = some (.cells #[.int .u8 (zk : Int), .bool zb, .int .i64 zn, .string zs, .slice za zl zc, .slice zf zm zd] 27 (0, 0)) := by
    rw [hw1, hBk, hBl, hBh]
    exact three_new (Below.refl _ _) _ _ _ _ _ _
  have HD : Hid (∀ W, Below w1.heap.size w1 W → Below w.heap.size w W ∧ W.heap[Bl]? = some (.cells #[.bool ha, .bool oa, .int .u8 (xk : Int), .bool xb, .int .i64 xn, .string xs, .slice xa xl xc, .slice xf xm xd] 29 (0, 0)) ∧ W.heap[Bh]? = some (.cells #[.bool hb, .bool ob, .int .u8 (yk : Int), .bool yb, .int .i64 yn, .string ys, .slice ya yl yc, .slice yf ym yd] 29 (0, 0)) ∧ W.heap[Bk]? = some (.cells #[.int .u8 (zk : Int), .bool zb, .int .i64 zn, .string zs, .slice za zl zc, .slice zf zm zd] 27 (0, 0))) := fun W hW => ⟨b1.trans (hW.mono b1.size), (hW.block _ (lt_of_row e1)).trans e1, (hW.block _ (lt_of_row e2)).trans e2, (hW.block _ (lt_of_row e3)).trans e3⟩
  have CL : Hid (∀ W, Below w1.heap.size w1 W → Calls Tryz.prog 10 #[] W fun e w' => e = .returned (.bool true) ∧ Below W.heap.size W w') := fun W hW => livesB_c W (hU.stays (HD.out W hW).1)
  have CF : Hid (∀ W, Below w1.heap.size w1 W → Calls Tryz.prog 9 #[.slice la l.length lc] W fun e w' => ∃ tb L a c, e = .returned (.tuple #[.pointer (some ⟨tb, 0, none⟩), .slice a (List.length L) c, .bool true]) ∧ Hid (FS W tb L L a (fun _ _ => False) w' ∧ Below w1.heap.size w1 w')) := fun W hW => by
    have hWw := (HD.out W hW).1
    refine (filled_at W W (hU.stays hWw) (Below.refl _ _) l la lc hl ((hI.stays hWw).up hWw.size)).mono ?_
    rintro e w' ⟨tb, L, a, c, rfl, h1, h2⟩
    exact ⟨tb, L, a, c, rfl, h1, hW.trans (h2.mono hW.size)⟩
  have HU : Hid (∀ W, Below w1.heap.size w1 W → Bn.HasU W) := fun W hW => hU.stays (HD.out W hW).1
  have HB : Hid (∀ W, Below w1.heap.size w1 W → Bnd W W.heap.size lo (.agg #[.bool ha, .bool oa, .int .u8 (xk : Int), .bool xb, .int .i64 xn, .string xs, .slice xa xl xc, .slice xf xm xd]) ∧ Bnd W W.heap.size hi (.agg #[.bool hb, .bool ob, .int .u8 (yk : Int), .bool yb, .int .i64 yn, .string ys, .slice ya yl yc, .slice yf ym yd]) ∧ Rep W W.heap.size z (.agg #[.int .u8 (zk : Int), .bool zb, .int .i64 zn, .string zs, .slice za zl zc, .slice zf zm zd])) := fun W hW => ⟨(hlo'.stays (HD.out W hW).1).up (HD.out W hW).1.size, (hhi'.stays (HD.out W hW).1).up (HD.out W hW).1.size, rep_stays (HD.out W hW).1 (HD.out W hW).1.size _ _ hk⟩
  obtain ⟨ke, hke⟩ : ∃ ke, ke = Bt.kerr z := ⟨_, rfl⟩
  have CK : Hid (∀ W, Below w1.heap.size w1 W → Calls Tryz.prog 14 #[.agg #[.int .u8 (zk : Int), .bool zb, .int .i64 zn, .string zs, .slice za zl zc, .slice zf zm zd]] W fun e w' => e = .returned (.int .i64 (ke : Int)) ∧ Below W.heap.size W w') := fun W hW => by
    rw [hke]
    exact rcheck19 z W W.heap.size _ (Nat.le_refl _) (HB.out W hW).2.2
  have HKE : Hid (ke = Bt.kerr z) := hke
  clear hlo' hhi' hk rx ry ea eb b1 e1 e2 e3 hU hl hI hke
  go_enter Tryz.func3, Tryz.ntmps3
  go_upto_region 1 with fail
  rw [← hw1, ← hBk, ← hBh, ← hBl]
  clear hw1 hBk hBh hBl
  go_wp2_with fail
  refine (CF.out _ (Below.refl _ _)).mono ?_
  rintro e w2 ⟨tb, L, wa, wc, rfl, HFS⟩
  obtain ⟨wn, hwn⟩ : ∃ wn, wn = L.length := ⟨_, rfl⟩
  rw [← hwn]
  have HWN : Hid (wn = L.length) := hwn
  clear hwn
  have K2 : Hid (Below w1.heap.size w1 w2) := HFS.out.2
  have HLW : Hid (Bt.LW L) := HFS.out.1.lw
  go_wp2_with fail
  refine (CL.out _ K2.out).mono ?_
  rintro e w3 ⟨rfl, hb3⟩
  have K3 : Hid (Below w1.heap.size w1 w3) := K2.out.trans (hb3.mono K2.out.size)
  have HT : Hid (∃ F O, TSt w3 F O tb L) := by
    obtain ⟨F, O, hT, _⟩ := HFS.out.1.ex
    exact ⟨F, O, hT.stays hb3⟩
  have hfew : ∀ p ∈ L, p.2.length ≤ 1000000 := fun p hp => by have := HLW.out.few hp; omega
  have HWE : Hid (EntsAt w3 wa L) := by
    obtain ⟨F, O, hT, hE, _⟩ := HFS.out.1.ex
    exact (hE.at (fun g hg => hg.1) hfew).stays hb3
  have HSM : Hid (∀ p ∈ L, Vl.small p.1 ∧ 1 ≤ p.2.length) := fun p hp => by
    obtain ⟨F, O, hT, _⟩ := HFS.out.1.ex
    exact ⟨hT.smalls p hp, (HLW.out.asc p hp).2⟩
  have KW : Hid (∀ W, Below w3.heap.size w3 W → Below w1.heap.size w1 W) := fun W hW => K3.out.trans (hW.mono K3.out.size)
  obtain ⟨er, her⟩ : ∃ er, er = Bt.rerr lo hi := ⟨_, rfl⟩
  obtain ⟨LF, hLF⟩ : ∃ LF, LF = (if Bt.rerr lo hi = 0 then L.filter fun p => Bt.inR lo hi p.1 else []) := ⟨_, rfl⟩
  have CR : Hid (∀ W, Below w3.heap.size w3 W → Calls Tryz.prog 11 #[.pointer (some ⟨tb, 0, none⟩), .agg #[.bool ha, .bool oa, .int .u8 (xk : Int), .bool xb, .int .i64 xn, .string xs, .slice xa xl xc, .slice xf xm xd], .agg #[.bool hb, .bool ob, .int .u8 (yk : Int), .bool yb, .int .i64 yn, .string ys, .slice ya yl yc, .slice yf ym yd]] W fun ex w' => ∃ a n c, ex = .returned (.tuple #[.slice a n c, .int .i64 (er : Int)]) ∧ Hid (n = LF.length ∧ n ≤ 1024 ∧ EntsA w' (fun g => g < w'.heap.size) a LF ∧ Below W.heap.size W w')) := fun W hW => by
    obtain ⟨F, O, hT⟩ := HT.out
    refine (range_e (hT.stays hW) (HU.out W (KW.out W hW)) lo hi _ _ (HB.out W (KW.out W hW)).1 (HB.out W (KW.out W hW)).2.1).mono ?_
    rintro ex w' ⟨a, n, c, rfl, q1, q2, q3, q4⟩
    rw [← hLF] at q1 q3
    exact ⟨a, n, c, by rw [her], q1, q2, q3.stays (fun _ _ => rfl) (fun g hg => hg.1), q4⟩
  have CRR : Hid (∀ W, Below w3.heap.size w3 W → Calls Tryz.prog 12 #[.slice wa wn wc, .agg #[.bool ha, .bool oa, .int .u8 (xk : Int), .bool xb, .int .i64 xn, .string xs, .slice xa xl xc, .slice xf xm xd], .agg #[.bool hb, .bool ob, .int .u8 (yk : Int), .bool yb, .int .i64 yn, .string ys, .slice ya yl yc, .slice yf ym yd]] W fun ex w' => ∃ a n c, ex = .returned (.tuple #[.slice a n c, .int .i64 (er : Int)]) ∧ Hid (n = LF.length ∧ EntsA w' (fun g => g < w'.heap.size) a LF ∧ Below W.heap.size W w')) := fun W hW => by
    rw [HWN.out]
    refine (rrange_c L wa wc W (by have := HLW.out.len; omega) HSM.out (HWE.out.stays hW) lo hi _ _ (HB.out W (KW.out W hW)).1 (HB.out W (KW.out W hW)).2.1).mono ?_
    rintro ex w' ⟨a, n, c, rfl, q1, q2, q3⟩
    rw [← hLF] at q1 q2
    exact ⟨a, n, c, by rw [her], q1, q2.stays (fun _ _ => rfl) (fun g hg => hg.elim (fun q => q.elim) (fun q => q.2)), q3⟩
  have CFD : Hid (∀ W, Below w3.heap.size w3 W → Calls Tryz.prog 13 #[.pointer (some ⟨tb, 0, none⟩), .agg #[.int .u8 (zk : Int), .bool zb, .int .i64 zn, .string zs, .slice za zl zc, .slice zf zm zd]] W fun ex w' => ∃ pi m cap, ex = .returned (.tuple #[.slice pi m cap, .int .i64 (ke : Int)]) ∧ Hid ((ke = 0 → m = (Bt.lids z L).length ∧ NumsAt w' pi (Bt.lids z L)) ∧ (ke ≠ 0 → m = 0) ∧ Below W.heap.size W w')) := fun W hW => by
    obtain ⟨F, O, hT⟩ := HT.out
    refine (find_a (hT.stays hW) (HU.out W (KW.out W hW)) (HB.out W (KW.out W hW)).2.2).mono ?_
    rintro ex w' ⟨pi, m, cap, rfl, q1, q2, q3⟩
    rw [← HKE.out] at q1 q2 ⊢
    refine ⟨pi, m, cap, rfl, fun h0 => ?_, fun h0 => ?_, q3⟩
    · rw [if_pos h0] at q1 q2
      exact ⟨q1, q2⟩
    · rw [if_neg h0] at q1
      exact q1
  have CRF : Hid (∀ W, Below w3.heap.size w3 W → Calls Tryz.prog 17 #[.slice wa wn wc, .agg #[.int .u8 (zk : Int), .bool zb, .int .i64 zn, .string zs, .slice za zl zc, .slice zf zm zd]] W (NumR W (Bt.lids z L))) := fun W hW => by
    rw [HWN.out]
    exact rfind_c L wa wc W z _ (by have := HLW.out.len; omega) (fun p hp => (HSM.out p hp).2) (HWE.out.stays hW) (HB.out W (KW.out W hW)).2.2
  obtain ⟨sm, hsm⟩ : ∃ sm, sm = Bt.lsum L := ⟨_, rfl⟩
  have CN : Hid (∀ W, Below w3.heap.size w3 W → Calls Tryz.prog 18 #[.pointer (some ⟨tb, 0, none⟩)] W fun e w' => e = .returned (.int .i64 (sm : Int)) ∧ w' = W) := fun W hW => by
    obtain ⟨F, O, hT⟩ := HT.out
    rw [hsm]
    exact count_s (hT.stays hW)
  have CRN : Hid (∀ W, Below w3.heap.size w3 W → Calls Tryz.prog 19 #[.slice wa wn wc] W fun e w' => e = .returned (.int .i64 (sm : Int)) ∧ Below W.heap.size W w') := fun W hW => by
    rw [HWN.out, hsm]
    exact rcount_c L wa wc W (by have := HLW.out.len; omega) (by have := HLW.out.le; omega) (HWE.out.stays hW)
  have HFEW : Hid (LF.length ≤ 1024 ∧ ∀ p ∈ LF, p.2.length ≤ 1000000) := by
    rw [hLF]
    split
    · exact ⟨Nat.le_trans (List.length_filter_le _ _) HLW.out.len, fun p hp => hfew p (List.mem_filter.1 hp).1⟩
    · exact ⟨by simp, fun p hp => by cases hp⟩
  have CS : Hid (∀ (W : World) a ca b cb n, n = LF.length → EntsA W (fun g => g < W.heap.size) a LF → EntsA W (fun g => g < W.heap.size) b LF → Calls Tryz.prog 15 #[.slice a n ca, .slice b n cb] W fun e w' => e = .returned (.bool true) ∧ Below W.heap.size W w') := fun W a ca b cb n hn ha hb => by
    rw [hn]
    exact sameE_c LF a b ca cb W (by have := HFEW.out.1; omega) (ha.at (fun g hg => hg) HFEW.out.2) (hb.at (fun g hg => hg) HFEW.out.2)
  have hfl : (Bt.lids z L).length ≤ 1000000 := by
    rw [Bt.lids]
    cases h : Bt.lat z L with
    | none => exact Nat.zero_le _
    | some p => exact hfew p (Bt.lat_mem h).1
  have CID : Hid (∀ (W : World) pa ca pb cb m, m = (Bt.lids z L).length → NumsAt W pa (Bt.lids z L) → NumsAt W pb (Bt.lids z L) → Calls Tryz.prog 16 #[.slice pa m ca, .slice pb (Bt.lids z L).length cb] W fun e w' => e = .returned (.bool true) ∧ Below W.heap.size W w') := fun W pa ca pb cb m hm h1 h2 => by
    rw [hm]
    have h := ids_c (Bt.lids z L) (Bt.lids z L) pa pb ca cb W hfl h1 h2
    simpa using h
  clear HFS CF K2 hb3 CL hfew her hLF hsm hfl
  have tq := HD.out _ K3.out
  have b0 := cells_at tq.2.1 0 _ rfl
  have b1 := cells_at tq.2.1 1 _ rfl
  have b2 := cells_at tq.2.1 2 _ rfl
  have b3 := cells_at tq.2.1 3 _ rfl
  have b4 := cells_at tq.2.1 4 _ rfl
  have b5 := cells_at tq.2.1 5 _ rfl
  have b6 := cells_at tq.2.1 6 _ rfl
  have b7 := cells_at tq.2.1 7 _ rfl
  have c0 := cells_at tq.2.2.1 0 _ rfl
  have c1 := cells_at tq.2.2.1 1 _ rfl
  have c2 := cells_at tq.2.2.1 2 _ rfl
  have c3 := cells_at tq.2.2.1 3 _ rfl
  have c4 := cells_at tq.2.2.1 4 _ rfl
  have c5 := cells_at tq.2.2.1 5 _ rfl
  have c6 := cells_at tq.2.2.1 6 _ rfl
  have c7 := cells_at tq.2.2.1 7 _ rfl
  have a0 := cells_at tq.2.2.2 0 _ rfl
  have a1 := cells_at tq.2.2.2 1 _ rfl
  have a2 := cells_at tq.2.2.2 2 _ rfl
  have a3 := cells_at tq.2.2.2 3 _ rfl
  have a4 := cells_at tq.2.2.2 4 _ rfl
  have a5 := cells_at tq.2.2.2 5 _ rfl
  clear tq
  go_wp2_with fail
  refine (CR.out _ (Below.refl _ _)).mono ?_
  rintro e w4 ⟨pa, pn, pc, rfl, HV4⟩
  have K4 : Hid (Below w3.heap.size w3 w4) := HV4.out.2.2.2
  clear b0 b1 b2 b3 b4 b5 b6 b7 c0 c1 c2 c3 c4 c5 c6 c7 a0 a1 a2 a3 a4 a5
  have tq := HD.out _ (KW.out _ K4.out)
  have b0 := cells_at tq.2.1 0 _ rfl
  have b1 := cells_at tq.2.1 1 _ rfl
  have b2 := cells_at tq.2.1 2 _ rfl
  have b3 := cells_at tq.2.1 3 _ rfl
  have b4 := cells_at tq.2.1 4 _ rfl
  have b5 := cells_at tq.2.1 5 _ rfl
  have b6 := cells_at tq.2.1 6 _ rfl
  have b7 := cells_at tq.2.1 7 _ rfl
  have c0 := cells_at tq.2.2.1 0 _ rfl
  have c1 := cells_at tq.2.2.1 1 _ rfl
  have c2 := cells_at tq.2.2.1 2 _ rfl
  have c3 := cells_at tq.2.2.1 3 _ rfl
  have c4 := cells_at tq.2.2.1 4 _ rfl
  have c5 := cells_at tq.2.2.1 5 _ rfl
  have c6 := cells_at tq.2.2.1 6 _ rfl
  have c7 := cells_at tq.2.2.1 7 _ rfl
  have a0 := cells_at tq.2.2.2 0 _ rfl
  have a1 := cells_at tq.2.2.2 1 _ rfl
  have a2 := cells_at tq.2.2.2 2 _ rfl
  have a3 := cells_at tq.2.2.2 3 _ rfl
  have a4 := cells_at tq.2.2.2 4 _ rfl
  have a5 := cells_at tq.2.2.2 5 _ rfl
  clear tq
  go_wp2_with fail
  refine (CRR.out _ K4.out).mono ?_
  rintro e w5 ⟨qa, qn, qc, rfl, HV5⟩
  have K5 : Hid (Below w3.heap.size w3 w5) := K4.out.trans (HV5.out.2.2.mono K4.out.size)
  clear b0 b1 b2 b3 b4 b5 b6 b7 c0 c1 c2 c3 c4 c5 c6 c7 a0 a1 a2 a3 a4 a5
  have tq := HD.out _ (KW.out _ K5.out)
  have b0 := cells_at tq.2.1 0 _ rfl
  have b1 := cells_at tq.2.1 1 _ rfl
  have b2 := cells_at tq.2.1 2 _ rfl
  have b3 := cells_at tq.2.1 3 _ rfl
  have b4 := cells_at tq.2.1 4 _ rfl
  have b5 := cells_at tq.2.1 5 _ rfl
  have b6 := cells_at tq.2.1 6 _ rfl
  have b7 := cells_at tq.2.1 7 _ rfl
  have c0 := cells_at tq.2.2.1 0 _ rfl
  have c1 := cells_at tq.2.2.1 1 _ rfl
  have c2 := cells_at tq.2.2.1 2 _ rfl
  have c3 := cells_at tq.2.2.1 3 _ rfl
  have c4 := cells_at tq.2.2.1 4 _ rfl
  have c5 := cells_at tq.2.2.1 5 _ rfl
  have c6 := cells_at tq.2.2.1 6 _ rfl
  have c7 := cells_at tq.2.2.1 7 _ rfl
  have a0 := cells_at tq.2.2.2 0 _ rfl
  have a1 := cells_at tq.2.2.2 1 _ rfl
  have a2 := cells_at tq.2.2.2 2 _ rfl
  have a3 := cells_at tq.2.2.2 3 _ rfl
  have a4 := cells_at tq.2.2.2 4 _ rfl
  have a5 := cells_at tq.2.2.2 5 _ rfl
  clear tq
  go_wp2_with fail
  refine (CFD.out _ K5.out).mono ?_
  rintro e w6 ⟨fi, fm, fc, rfl, HV6⟩
  have K6 : Hid (Below w3.heap.size w3 w6) := K5.out.trans (HV6.out.2.2.mono K5.out.size)
  clear b0 b1 b2 b3 b4 b5 b6 b7 c0 c1 c2 c3 c4 c5 c6 c7 a0 a1 a2 a3 a4 a5
  have tq := HD.out _ (KW.out _ K6.out)
  have b0 := cells_at tq.2.1 0 _ rfl
  have b1 := cells_at tq.2.1 1 _ rfl
  have b2 := cells_at tq.2.1 2 _ rfl
  have b3 := cells_at tq.2.1 3 _ rfl
  have b4 := cells_at tq.2.1 4 _ rfl
  have b5 := cells_at tq.2.1 5 _ rfl
  have b6 := cells_at tq.2.1 6 _ rfl
  have b7 := cells_at tq.2.1 7 _ rfl
  have c0 := cells_at tq.2.2.1 0 _ rfl
  have c1 := cells_at tq.2.2.1 1 _ rfl
  have c2 := cells_at tq.2.2.1 2 _ rfl
  have c3 := cells_at tq.2.2.1 3 _ rfl
  have c4 := cells_at tq.2.2.1 4 _ rfl
  have c5 := cells_at tq.2.2.1 5 _ rfl
  have c6 := cells_at tq.2.2.1 6 _ rfl
  have c7 := cells_at tq.2.2.1 7 _ rfl
  have a0 := cells_at tq.2.2.2 0 _ rfl
  have a1 := cells_at tq.2.2.2 1 _ rfl
  have a2 := cells_at tq.2.2.2 2 _ rfl
  have a3 := cells_at tq.2.2.2 3 _ rfl
  have a4 := cells_at tq.2.2.2 4 _ rfl
  have a5 := cells_at tq.2.2.2 5 _ rfl
  clear tq
  go_wp2_with fail
  refine (CK.out _ (KW.out _ K6.out)).mono ?_
  rintro e w7 ⟨rfl, hb7⟩
  have K7 : Hid (Below w3.heap.size w3 w7) := K6.out.trans (hb7.mono K6.out.size)
  clear b0 b1 b2 b3 b4 b5 b6 b7 c0 c1 c2 c3 c4 c5 c6 c7 a0 a1 a2 a3 a4 a5
  have b67 : Below w6.heap.size w6 w7 := hb7
  have b57 : Below w5.heap.size w5 w7 := HV6.out.2.2.trans (b67.mono HV6.out.2.2.size)
  have b47 : Below w4.heap.size w4 w7 := HV5.out.2.2.trans (b57.mono HV5.out.2.2.size)
  have HA : Hid (EntsA w7 (fun g => g < w7.heap.size) pa LF ∧ EntsA w7 (fun g => g < w7.heap.size) qa LF ∧ pn = LF.length ∧ qn = LF.length) := ⟨HV4.out.2.2.1.stays (fun g hg => b47.block g hg) (fun g hg => Nat.lt_of_lt_of_le hg b47.size), HV5.out.2.1.stays (fun g hg => b57.block g hg) (fun g hg => Nat.lt_of_lt_of_le hg b57.size), HV4.out.1, HV5.out.1⟩
  have HNI : Hid (ke = 0 → fm = (Bt.lids z L).length ∧ NumsAt w7 fi (Bt.lids z L)) := fun h0 => ⟨(HV6.out.1 h0).1, (HV6.out.1 h0).2.stays b67⟩
  have HNZ : Hid (ke ≠ 0 → fm = 0) := HV6.out.2.1
  have HQN : Hid (qn = pn) := by show _ = _; rw [HA.out.2.2.1, HA.out.2.2.2]
  obtain rfl : qn = pn := HQN.out
  clear b67 b57 b47 hb7 HV4 HV5 HV6 CK CR CRR CFD
  by_cases hz : ke = 0
  · subst hz
    have HF0 : Hid (fm = (Bt.lids z L).length ∧ NumsAt w7 fi (Bt.lids z L)) := HNI.out (by first | rfl | trivial)
    go_wp2_with fail
    refine (CS.out _ _ _ _ _ _ HA.out.2.2.1 HA.out.1 HA.out.2.1).mono ?_
    rintro e w8 ⟨rfl, hb8⟩
    have K8 : Hid (Below w3.heap.size w3 w8 ∧ Below w7.heap.size w7 w8) := ⟨K7.out.trans (hb8.mono K7.out.size), hb8⟩
    clear hb8
    have tq := HD.out _ (KW.out _ K8.out.1)
    have b0 := cells_at tq.2.1 0 _ rfl
    have b1 := cells_at tq.2.1 1 _ rfl
    have b2 := cells_at tq.2.1 2 _ rfl
    have b3 := cells_at tq.2.1 3 _ rfl
    have b4 := cells_at tq.2.1 4 _ rfl
    have b5 := cells_at tq.2.1 5 _ rfl
    have b6 := cells_at tq.2.1 6 _ rfl
    have b7 := cells_at tq.2.1 7 _ rfl
    have c0 := cells_at tq.2.2.1 0 _ rfl
    have c1 := cells_at tq.2.2.1 1 _ rfl
    have c2 := cells_at tq.2.2.1 2 _ rfl
    have c3 := cells_at tq.2.2.1 3 _ rfl
    have c4 := cells_at tq.2.2.1 4 _ rfl
    have c5 := cells_at tq.2.2.1 5 _ rfl
    have c6 := cells_at tq.2.2.1 6 _ rfl
    have c7 := cells_at tq.2.2.1 7 _ rfl
    have a0 := cells_at tq.2.2.2 0 _ rfl
    have a1 := cells_at tq.2.2.2 1 _ rfl
    have a2 := cells_at tq.2.2.2 2 _ rfl
    have a3 := cells_at tq.2.2.2 3 _ rfl
    have a4 := cells_at tq.2.2.2 4 _ rfl
    have a5 := cells_at tq.2.2.2 5 _ rfl
    clear tq
    go_wp2_with fail
    refine (CRF.out _ K8.out.1).mono ?_
    rintro e w9 ⟨gi, gm, gc, rfl, rfl, hgN, hb9⟩
    have K9 : Hid (Below w3.heap.size w3 w9 ∧ Below w7.heap.size w7 w9) := ⟨K8.out.1.trans (hb9.mono K8.out.1.size), K8.out.2.trans (hb9.mono K8.out.2.size)⟩
    have HGN : Hid (NumsAt w9 gi (Bt.lids z L)) := hgN
    clear hb9 hgN
    clear b0 b1 b2 b3 b4 b5 b6 b7 c0 c1 c2 c3 c4 c5 c6 c7 a0 a1 a2 a3 a4 a5
    go_wp2_with fail
    refine (CID.out _ _ _ _ _ _ HF0.out.1 (HF0.out.2.stays K9.out.2) HGN.out).mono ?_
    rintro e w10 ⟨rfl, hb10⟩
    have K10 : Hid (Below w3.heap.size w3 w10) := K9.out.1.trans (hb10.mono K9.out.1.size)
    clear hb10
    go_wp2_with fail
    refine (CN.out _ K10.out).mono ?_
    rintro e w11 ⟨rfl, rfl⟩
    go_wp2_with fail
    refine (CRN.out _ K10.out).mono ?_
    rintro e w12 ⟨rfl, hb12⟩
    have K12 : Hid (Below w3.heap.size w3 w12) := K10.out.trans (hb12.mono K10.out.size)
    clear hb12
    go_wp2
    go_ret
    exact ⟨by first | rfl | simp, (HD.out _ (KW.out _ K12.out)).1⟩
  · have q1 : ((ke : Int) != 0) = true := by simp; omega
    have q2 : ¬ ((ke : Int) = 0) := by omega
    obtain rfl : fm = 0 := HNZ.out hz
    clear hz
    go_wp2_with fail
    refine (CS.out _ _ _ _ _ _ HA.out.2.2.1 HA.out.1 HA.out.2.1).mono ?_
    rintro e w8 ⟨rfl, hb8⟩
    have K8 : Hid (Below w3.heap.size w3 w8) := K7.out.trans (hb8.mono K7.out.size)
    clear hb8
    go_wp2
    go_ret
    exact ⟨by first | rfl | simp, (HD.out _ (KW.out _ K8.out)).1⟩
end Go.Proofs.YtkigenldiinioaaGreatDoor
