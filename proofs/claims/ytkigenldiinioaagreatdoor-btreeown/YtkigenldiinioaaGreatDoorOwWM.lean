/- What a tree answers is its asker's own; what it was handed in is not kept: walked. -/
import Derived.Test.YtkigenldiinioaaGreatDoorOwMM
namespace Go.Proofs.YtkigenldiinioaaGreatDoor
open Go.RowKit Go.Shelf
open Vl (V)
attribute [local go_sem ↓] Go.wp_at_zero Go.wp_at_succ
theorem range_own {w : World} {F O : Nat → Prop} {tb : Nat} {L : Bt.KL} (h : TSt w F O tb L) (hU : Bn.HasU w) : Calls Tryz.prog 11 #[.pointer (some ⟨tb, 0, none⟩), (.agg #[.bool false, .bool false, .int .u8 0, .bool false, .int .i64 0, .string ⟨#[]⟩, .slice none 0 0, .slice none 0 0]), (.agg #[.bool false, .bool false, .int .u8 0, .bool false, .int .i64 0, .string ⟨#[]⟩, .slice none 0 0, .slice none 0 0])] w fun ex w' => ∃ a c, ex = .returned (.tuple #[.slice a L.length c, .int .i64 0]) ∧ EntsAt w' a L ∧ Below w.heap.size w w' := by
  have hlw := h.lw
  refine (range_e h hU none none _ _ (bnd_none _ _) (bnd_none _ _)).mono ?_
  rintro ex w' ⟨a, n, c, rfl, q1, q2, q3, q4⟩
  have e0 : Bt.rerr none none = 0 := rfl
  rw [if_pos e0, Bt.filter_all] at q1 q3
  subst q1
  exact ⟨a, c, by rw [e0]; rfl, q3.at (fun g hg => hg.1) (fun p hp => by have := hlw.few hp; omega), q4⟩
set_option maxHeartbeats 16000000 in
set_option maxRecDepth 100000 in
theorem own_w (w : World) (hU : Bn.HasU w) (l : List (V × List Nat)) (la : Option Addr) (lc : Nat) (hl : l.length ≤ maxLen) (hI : InEs w w.heap.size la l) (z : V) (kv : Value) (hk : Rep w w.heap.size z kv) (hz : Vl.small z) : Calls Tryz.prog 8 #[.slice la l.length lc, kv] w fun e w' => e = .returned (.bool true) ∧ Below w.heap.size w w' := by
  obtain ⟨d0, d1, d2, d3, d4, d5, rfl⟩ := repV_box hk
  obtain ⟨zk, zb, zn, zs, za, zl, zc, zf, zm, zd, rfl, rfl, rfl, rfl, rfl, rfl⟩ := rep_form hk
  obtain ⟨w1, hw1⟩ : ∃ w1, w1 = w.alloc (.cells #[.int .u8 (zk : Int), .bool zb, .int .i64 zn, .string zs, .slice za zl zc, .slice zf zm zd] 27) := ⟨_, rfl⟩
  obtain ⟨Bk, hBk⟩ : ∃ Bk, Bk = w.heap.size := ⟨_, rfl⟩
  have b1 : Below w.heap.size w w1 := by rw [hw1]; exact below_new _ _
  have e3 : w1.heap[Bk]? = some (.cells #[.int .u8 (zk : Int), .bool zb, .int .i64 zn, .string zs, .slice za zl zc, .slice zf zm zd] 27 (0, 0)) := by rw [hw1, hBk]; exact heap_alloc_new w _
  have HD : Hid (∀ W, Below w1.heap.size w1 W → Below w.heap.size w W ∧ W.heap[Bk]? = some (.cells #[.int .u8 (zk : Int), .bool zb, .int .i64 zn, .string zs, .slice za zl zc, .slice zf zm zd] 27 (0, 0))) := fun W hW => ⟨b1.trans (hW.mono b1.size), (hW.block _ (lt_of_row e3)).trans e3⟩
  have CL : Hid (∀ W, Below w1.heap.size w1 W → Calls Tryz.prog 10 #[] W fun e w' => e = .returned (.bool true) ∧ Below w1.heap.size w1 w') := fun W hW => (livesB_c W (hU.stays (HD.out W hW).1)).mono (by
    rintro e w' ⟨rfl, hb⟩
    exact ⟨rfl, hW.trans (hb.mono hW.size)⟩)
  have CF : Hid (∀ W, Below w1.heap.size w1 W → Calls Tryz.prog 9 #[.slice la l.length lc] W fun e w' => ∃ tb L a c, e = .returned (.tuple #[.pointer (some ⟨tb, 0, none⟩), .slice a (List.length L) c, .bool true]) ∧ Hid (FS W tb L L a (fun _ _ => False) w' ∧ Below w1.heap.size w1 w')) := fun W hW => by
    have hWw := (HD.out W hW).1
    refine (filled_at W W (hU.stays hWw) (Below.refl _ _) l la lc hl ((hI.stays hWw).up hWw.size)).mono ?_
    rintro e w' ⟨tb, L, a, c, rfl, h1, h2⟩
    exact ⟨tb, L, a, c, rfl, h1, hW.trans (h2.mono hW.size)⟩
  have HU : Hid (∀ W, Below w1.heap.size w1 W → Bn.HasU W) := fun W hW => hU.stays (HD.out W hW).1
  have HB : Hid (∀ W, Below w1.heap.size w1 W → Rep W W.heap.size z (.agg #[.int .u8 (zk : Int), .bool zb, .int .i64 zn, .string zs, .slice za zl zc, .slice zf zm zd])) := fun W hW => rep_stays (HD.out W hW).1 (HD.out W hW).1.size _ _ hk
  have HZ : Hid (Vl.small z) := hz
  have CC : Hid (∀ W, Below w1.heap.size w1 W → Calls Tryz.prog 26 #[.agg #[.int .u8 (zk : Int), .bool zb, .int .i64 zn, .string zs, .slice za zl zc, .slice zf zm zd]] W fun e w' => ∃ (yk : Nat) (yb : Bool) (yn : Int) (ys : ByteArray) (ya : Option Addr) (yl yc : Nat) (ta : Option Addr) (tl tc : Nat), e = .returned (.agg #[.int .u8 (yk : Int), .bool yb, .int .i64 yn, .string ys, .slice ya yl yc, .slice ta tl tc]) ∧ Below W.heap.size W w' ∧ RepA w' (fun g => W.heap.size ≤ g ∧ g < w'.heap.size) z (.agg #[.int .u8 (yk : Int), .bool yb, .int .i64 yn, .string ys, .slice ya yl yc, .slice ta tl tc])) := fun W hW => by
    refine (copy9F z HZ.out W W.heap.size (.agg #[.int .u8 (zk : Int), .bool zb, .int .i64 zn, .string zs, .slice za zl zc, .slice zf zm zd]) (Nat.le_refl _) (HB.out W hW)).mono ?_
    rintro e w' ⟨v', rfl, h1, h2, -⟩
    obtain ⟨yk, yb, yn, ys, ya, yl, yc, ta, tl, tc, rfl⟩ := repA_form h2
    exact ⟨yk, yb, yn, ys, ya, yl, yc, ta, tl, tc, rfl, h1, h2⟩
  have CWH : Hid (∀ W, Calls Tryz.prog 28 #[.int .i64 (-9)] W fun e w' => e = .returned (.agg #[.int .u8 2, .bool false, .int .i64 (-9), .string ⟨#[]⟩, .slice none 0 0, .slice none 0 0]) ∧ Below W.heap.size W w') := fun W => whole_c (-9) W
  clear hk b1 e3 hU hl hI hz
  go_enter Tryz.func8, Tryz.ntmps8
  go_upto_region 1 with fail
  rw [← hw1, ← hBk]
  clear hw1 hBk
  go_wp2_with fail
  refine (CL.out _ (Below.refl _ _)).mono ?_
  rintro e w2 ⟨rfl, hb2⟩
  have K2 : Hid (Below w1.heap.size w1 w2) := hb2
  clear hb2 CL
  go_wp2_with fail
  refine (CF.out _ K2.out).mono ?_
  rintro e w3 ⟨tb, L, wa, wc, rfl, HFS⟩
  have K3 : Hid (Below w1.heap.size w1 w3) := HFS.out.2
  obtain ⟨wn, hwn⟩ : ∃ wn, wn = L.length := ⟨_, rfl⟩
  rw [← hwn]
  have HWN : Hid (wn = L.length) := hwn
  clear hwn CF
  have tq := (HD.out _ K3.out).2
  have a0 := cells_at tq 0 _ rfl
  have a1 := cells_at tq 1 _ rfl
  have a2 := cells_at tq 2 _ rfl
  have a3 := cells_at tq 3 _ rfl
  have a4 := cells_at tq 4 _ rfl
  have a5 := cells_at tq 5 _ rfl
  clear tq
  go_wp2_with fail
  refine (CC.out w3 K3.out).mono ?_
  rintro e w4 ⟨yk, yb, yn, ys, ya, yl, yc, ta, tl, tc, rfl, hb4, hr4⟩
  clear a0 a1 a2 a3 a4 a5
  have H4 : Hid (Below w3.heap.size w3 w4 ∧ RepA w4 (fun g => w3.heap.size ≤ g ∧ g < w4.heap.size) z (.agg #[.int .u8 (yk : Int), .bool yb, .int .i64 yn, .string ys, .slice ya yl yc, .slice ta tl tc])) := ⟨hb4, hr4⟩
  clear hb4 hr4 CC
  go_upto_region 5 with fail
  obtain ⟨w5, hw5⟩ : ∃ w5, w5 = w4.alloc (.cells #[.int .u8 (yk : Int), .bool yb, .int .i64 yn, .string ys, .slice ya yl yc, .slice ta tl tc] 27) := ⟨_, rfl⟩
  obtain ⟨GX, hGX⟩ : ∃ GX, GX = w4.heap.size := ⟨_, rfl⟩
  have H5 : Hid (Below w4.heap.size w4 w5 ∧ w5.heap[GX]? = some (.cells #[.int .u8 (yk : Int), .bool yb, .int .i64 yn, .string ys, .slice ya yl yc, .slice ta tl tc] 27 (0, 0)) ∧ GX = w4.heap.size ∧ Below w3.heap.size w3 w5) := by
    have hb : Below w4.heap.size w4 w5 := by rw [hw5]; exact below_new _ _
    exact ⟨hb, by rw [hw5, hGX]; exact heap_alloc_new w4 _, hGX, H4.out.1.trans (hb.mono H4.out.1.size)⟩
  rw [← hw5, ← hGX]
  clear hw5 hGX
  have CPG : Hid (Calls Tryz.prog 24 #[.pointer (some ⟨tb, 0, none⟩), .agg #[.int .u8 (yk : Int), .bool yb, .int .i64 yn, .string ys, .slice ya yl yc, .slice ta tl tc], .int .u64 5] w5 fun ex w' => ∃ pe : Nat, ex = .returned (.int .i64 (pe : Int)) ∧ Hid (TX w' (fun g => w3.heap.size ≤ g ∧ g < w4.heap.size) tb wa (if Bt.perr z 5 L = 0 then Bt.lput z 5 L else L) L ∧ Below w1.heap.size w1 w' ∧ ∀ g, w3.heap.size ≤ g → g < w5.heap.size → w'.heap[g]? = w5.heap[g]?)) := by
    have h4 : Rep w5 w5.heap.size z (.agg #[.int .u8 (yk : Int), .bool yb, .int .i64 yn, .string ys, .slice ya yl yc, .slice ta tl tc]) := rep_stays H5.out.1 H5.out.1.size _ _ (repA_rep (fun g hg => hg.2) _ _ H4.out.2)
    have h3 := K3.out.trans (H5.out.2.2.2.mono K3.out.size)
    refine (own_put HFS.out.1 (HU.out _ h3) H5.out.2.2.2 H5.out.1.size h4 5).mono ?_
    rintro ex w' ⟨rfl, r1, r2, r3⟩
    exact ⟨_, rfl, r1, h3.trans (r2.mono K2.out.size), r3⟩
  have tq := H5.out.2.1
  have g0 := cells_at tq 0 _ rfl
  have g1 := cells_at tq 1 _ rfl
  have g2 := cells_at tq 2 _ rfl
  have g3 := cells_at tq 3 _ rfl
  have g4 := cells_at tq 4 _ rfl
  have g5 := cells_at tq 5 _ rfl
  clear tq
  go_wp2_with fail
  refine (CPG.out).mono ?_
  rintro e w6 ⟨pe, rfl, H6⟩
  clear g0 g1 g2 g3 g4 g5 CPG
  have CRP : Hid (Calls Tryz.prog 27 #[.slice wa wn wc, .agg #[.int .u8 (zk : Int), .bool zb, .int .i64 zn, .string zs, .slice za zl zc, .slice zf zm zd], .int .u64 5] w6 fun ex w' => ∃ (a' : Option Addr) (n c pe : Nat), ex = .returned (.tuple #[.slice a' n c, .int .i64 (pe : Int)]) ∧ Hid (n = (if Bt.perr z 5 L = 0 then Bt.lput z 5 L else L).length ∧ TX w' (fun g => w3.heap.size ≤ g ∧ g < w4.heap.size) tb a' (if Bt.perr z 5 L = 0 then Bt.lput z 5 L else L) (if Bt.perr z 5 L = 0 then Bt.lput z 5 L else L) ∧ Below w6.heap.size w6 w')) := by
    have h1 := own_rput wc H6.out.1 HFS.out.1.lw (HB.out w6 H6.out.2.1) 5
    rw [← HWN.out] at h1
    refine h1.mono ?_
    rintro ex w' ⟨a', n, c, rfl, r1, r2, r3⟩
    exact ⟨a', n, c, _, rfl, r1, r2, r3⟩
  have tq := (HD.out _ H6.out.2.1).2
  have a0 := cells_at tq 0 _ rfl
  have a1 := cells_at tq 1 _ rfl
  have a2 := cells_at tq 2 _ rfl
  have a3 := cells_at tq 3 _ rfl
  have a4 := cells_at tq 4 _ rfl
  have a5 := cells_at tq 5 _ rfl
  clear tq
  go_wp2_with fail
  refine (CRP.out).mono ?_
  rintro e w7 ⟨wb, mn, md, pe2, rfl, H7⟩
  clear a0 a1 a2 a3 a4 a5 CRP
  obtain ⟨M, hM⟩ : ∃ M, M = (if Bt.perr z 5 L = 0 then Bt.lput z 5 L else L) := ⟨_, rfl⟩
  rw [← hM] at H7
  clear hM
  have K7 : Hid (Below w1.heap.size w1 w7) := H6.out.2.1.trans (H7.out.2.2.mono H6.out.2.1.size)
  have HB7 : Hid (∀ g, w3.heap.size ≤ g → g < w5.heap.size → w7.heap[g]? = w5.heap[g]?) := fun g g1 g2 => (H7.out.2.2.block g (by
    have h1 := H6.out.2.2 g g1 g2
    obtain ⟨o, ho⟩ : ∃ o, w5.heap[g]? = some o := ⟨_, Array.getElem?_eq_getElem g2⟩
    rw [ho] at h1
    exact lt_of_row h1)).trans (H6.out.2.2 g g1 g2)
  have HR7 : Hid (RepA w7 (fun g => w3.heap.size ≤ g ∧ g < w4.heap.size) z (.agg #[.int .u8 (yk : Int), .bool yb, .int .i64 yn, .string ys, .slice ya yl yc, .slice ta tl tc])) := repA_stays (fun g hg => (HB7.out g hg.1 (Nat.lt_of_lt_of_le hg.2 H5.out.1.size)).trans (H5.out.1.block g hg.2)) (fun g hg => hg) _ _ H4.out.2
  have HG7 : Hid (w7.heap[GX]? = some (.cells #[.int .u8 (yk : Int), .bool yb, .int .i64 yn, .string ys, .slice ya yl yc, .slice ta tl tc] 27 (0, 0)) ∧ ¬ ((fun g => w3.heap.size ≤ g ∧ g < w4.heap.size) GX)) := ⟨(HB7.out GX (by rw [H5.out.2.2.1]; exact H4.out.1.size) (lt_of_row H5.out.2.1)).trans H5.out.2.1, fun q => by have := H5.out.2.2.1; omega⟩
  have HT7 : Hid (mn = M.length ∧ TX w7 (fun g => w3.heap.size ≤ g ∧ g < w4.heap.size) tb wb M M) := ⟨H7.out.1, H7.out.2.1⟩
  obtain ⟨X, hXX⟩ : ∃ X : Nat → Prop, X = fun g => w3.heap.size ≤ g ∧ g < w4.heap.size := ⟨_, rfl⟩
  have HXX : Hid (∀ g, X g → w1.heap.size ≤ g) := fun g q => by
    rw [hXX] at q
    exact Nat.le_trans K3.out.size q.1
  rw [← hXX] at HR7 HG7 HT7
  clear hXX H7 HB7 H6 H5 H4 HFS K2 HWN K3 HZ HB
  obtain ⟨k0, b0, n0, s0, l0, f0⟩ := z
  have HSL := hidden (Spare.list HR7.out).slice
  have HSF := hidden (Spare.fields HR7.out).slice
  clear HR7
  have HN : Hid (yl ≤ 9223372036854775807 ∧ tl ≤ 9223372036854775807 ∧ mn ≤ 1024) := by
    have h1 := HSL.out.1
    have h2 := HSF.out.1
    obtain ⟨F, O, hT⟩ := HT7.out.2.ex
    have := hT.lw.len
    have := HT7.out.1
    unfold maxLen at h1 h2
    exact ⟨by omega, by omega, by omega⟩
  have HGC : Hid (∀ W, SQ X w7 W → W.cell? ⟨GX, 4, none⟩ = some (.slice ya yl yc) ∧ W.cell? ⟨GX, 5, none⟩ = some (.slice ta tl tc) ∧ GX < W.heap.size) := fun W hW => by
    have h1 := (hW.kept.block GX (lt_of_row HG7.out.1) HG7.out.2).trans HG7.out.1
    exact ⟨cells_at h1 4 _ rfl, cells_at h1 5 _ rfl, lt_of_row h1⟩
  obtain ⟨p4, p5, p6⟩ := HGC.out w7 (SQ.refl _ _)
  go_wp2
  clear p4 p5 p6
  go_loopw [40] (fun i wr => ∃ j : Nat, j ≤ yl ∧ i = .int .i64 j ∧ SQ X w7 wr) (fun i _ => yl - (intOf i).toNat)
  case atStart => exact ⟨0, Nat.zero_le _, rfl, SQ.refl _ _⟩
  case round =>
    obtain ⟨j, hj, rfl, hS⟩ := hrel
    have S : Hid (SQ X w7 wr) := hS
    clear hS
    by_cases hlt : j < yl
    · have q0 : (j : Int) < (yl : Int) := by omega
      have q1 : (0 : Int) ≤ (j : Int) := by omega
      obtain ⟨F, o, rfl, hF, fz, hc⟩ := HSL.out.2 (by omega)
      obtain ⟨j1, hj1⟩ : ∃ j1, j1 = j + 1 := ⟨_, rfl⟩
      have HVV : Hid (IntKind.i64.wrap ((j : Int) + 1) = (j1 : Int) ∧ wrap64 ((j : Int) + 1) = (j1 : Int)) := wr63 (by omega) (by have := HN.out; omega)
      have HJ : Hid (j1 = j + 1 ∧ j1 ≤ yl) := ⟨hj1, by omega⟩
      have HC : Hid (∀ m, m < 6 → ∃ u, w7.cell? ⟨F, o + j * 6 + m, none⟩ = some u) := fun m hm => by
        have := hc (j * 6 + m) (by omega)
        rwa [← Nat.add_assoc] at this
      have HF : Hid (X F ∧ F ≠ GX) := ⟨hF, fun e => HG7.out.2 (e ▸ hF)⟩
      have HW : Hid (∀ W, SQ X w7 W → (∃ u, W.cell? ⟨F, o + j * 6, none⟩ = some u) ∧ (∃ u, W.cell? ⟨F, o + j * 6 + 1, none⟩ = some u) ∧ (∃ u, W.cell? ⟨F, o + j * 6 + 2, none⟩ = some u) ∧ (∃ u, W.cell? ⟨F, o + j * 6 + 3, none⟩ = some u) ∧ (∃ u, W.cell? ⟨F, o + j * 6 + 4, none⟩ = some u) ∧ (∃ u, W.cell? ⟨F, o + j * 6 + 5, none⟩ = some u) ∧ F < W.heap.size ∧ ∀ r, W.frozen? ⟨F, r, none⟩ = false) := fun W hW => by
        have h := fun m (hm : m < 6) => (HC.out m hm).elim fun v hv => hW.has _ _ v hv
        obtain ⟨v0, hv0⟩ := HC.out 0 (by omega)
        have hl := Bn.lt_of_cell hv0
        exact ⟨h 0 (by omega), h 1 (by omega), h 2 (by omega), h 3 (by omega), h 4 (by omega), h 5 (by omega), Nat.lt_of_lt_of_le hl hW.kept.size, fun r => (hW.frozen F r hl).trans (fz r)⟩
      obtain ⟨p4, p5, p6⟩ := HGC.out wr S.out
      clear fz hc hF hj1 hj hlt
      go_upto_region 10 with fail
      go_region_held3 (fun W' => W'.cell? ⟨GX, 4, none⟩ = some (.slice (some ⟨F, o, none⟩) yl yc)) (go_keep) (first
        | (go_at_call 28; refine (CWH.out _).mono ?_; rintro en w9 ⟨rfl, hb9⟩; have S9 : Hid (SQ X w7 w9) := (by first | exact S.out.call hb9 | exact (S.out.call (Below.refl _ _).drew).call hb9); clear hb9; (obtain ⟨p4, p5, p6⟩ := HGC.out w9 S9.out); obtain ⟨⟨u0, z0⟩, ⟨u1, z1⟩, ⟨u2, z2⟩, ⟨u3, z3⟩, ⟨u4, z4⟩, ⟨u5, z5⟩, z6, z7⟩ := HW.out w9 S9.out; have z8 := HF.out.2; have z9 := fun e => HF.out.2 (Eq.symm e)))
      obtain ⟨v1, v2⟩ := HVV.out
      have N9 : Hid (∀ W, SQ X w7 W → SQ X w7 (W.setCells F (o + j * 6) [.int .u8 2, .bool false, .int .i64 (-9), .string ⟨#[]⟩, .slice none 0 0, .slice none 0 0])) := fun W hW => SQ.sets HF.out.1 _ _ _ hW fun m hm => HC.out m (by simpa using hm)
      go_wp2
      clear v1 v2
      go_roundw
      case rel => first | exact ⟨j1, HJ.out.2, rfl, by first | exact N9.out _ S9.out | exact N9.out _ (S9.out.call (Below.refl _ _).drew) | exact (N9.out _ S9.out).call (Below.refl _ _).drew⟩ | ((repeat apply Exists.intro); exact ⟨⟨j1, HJ.out.2, rfl, by first | exact N9.out _ S9.out | exact N9.out _ (S9.out.call (Below.refl _ _).drew) | exact (N9.out _ S9.out).call (Below.refl _ _).drew⟩, rfl⟩)
      case measure =>
        simp only [intOf]
        have := HJ.out
        omega
    · have q0 : ¬ (j : Int) < (yl : Int) := by omega
      clear hlt hj
      obtain ⟨w8, rfl⟩ : ∃ w8, w8 = wr := ⟨_, rfl⟩
      obtain ⟨p4, p5, p6⟩ := HGC.out w8 S.out
      go_wp2
      clear p4 p5 p6 q0
      go_loopw [52] (fun i wr => ∃ j : Nat, j ≤ tl ∧ i = .int .i64 j ∧ SQ X w7 wr) (fun i _ => tl - (intOf i).toNat)
      case atStart => exact ⟨0, Nat.zero_le _, rfl, S.out⟩
      case round =>
        clear S
        obtain ⟨j, hj, rfl, hS⟩ := hrel
        have S : Hid (SQ X w7 wr) := hS
        clear hS
        by_cases hlt : j < tl
        · have q0 : (j : Int) < (tl : Int) := by omega
          have q1 : (0 : Int) ≤ (j : Int) := by omega
          obtain ⟨F, o, rfl, hF, fz, hc⟩ := HSF.out.2 (by omega)
          obtain ⟨j1, hj1⟩ : ∃ j1, j1 = j + 1 := ⟨_, rfl⟩
          have HVV : Hid (IntKind.i64.wrap ((j : Int) + 1) = (j1 : Int) ∧ wrap64 ((j : Int) + 1) = (j1 : Int)) := wr63 (by omega) (by have := HN.out; omega)
          have HJ : Hid (j1 = j + 1 ∧ j1 ≤ tl) := ⟨hj1, by omega⟩
          obtain ⟨u0, hu0⟩ := hc (j * 7) (by omega)
          obtain ⟨u1, z0⟩ := S.out.has _ _ _ hu0
          have z1 : ∀ r, wr.frozen? ⟨F, r, none⟩ = false := fun r => (S.out.frozen F r (Bn.lt_of_cell hu0)).trans (fz r)
          have z2 := Bn.lt_of_cell z0
          have N9 : Hid (SQ X w7 (wr.setCells F (o + j * 7) [.string ⟨#[115, 112, 111, 105, 108, 116]⟩])) := SQ.sets hF _ _ _ S.out fun m hm => by
            obtain rfl : m = 0 := by simpa using hm
            exact ⟨_, hu0⟩
          obtain ⟨p4, p5, p6⟩ := HGC.out wr S.out
          clear fz hc hF hj1 hj hlt hu0
          obtain ⟨v1, v2⟩ := HVV.out
          go_wp2
          clear v1 v2
          go_roundw
          case rel => first | exact ⟨j1, HJ.out.2, rfl, N9.out⟩ | ((repeat apply Exists.intro); exact ⟨⟨j1, HJ.out.2, rfl, N9.out⟩, rfl⟩)
          case measure =>
            simp only [intOf]
            have := HJ.out
            omega
        · have q0 : ¬ (j : Int) < (tl : Int) := by omega
          clear hlt hj
          obtain ⟨w9, rfl⟩ : ∃ w9, w9 = wr := ⟨_, rfl⟩
          have HT9 : Hid (mn = M.length ∧ TX w9 X tb wb M M) := ⟨HT7.out.1, HT7.out.2.spoilt S.out.kept⟩
          have K9 : Hid (Below w1.heap.size w1 w9) := K7.out.trans (S.out.kept.below HXX.out K7.out.size)
          have CRA : Hid (Calls Tryz.prog 11 #[.pointer (some ⟨tb, 0, none⟩), (.agg #[.bool false, .bool false, .int .u8 0, .bool false, .int .i64 0, .string ⟨#[]⟩, .slice none 0 0, .slice none 0 0]), (.agg #[.bool false, .bool false, .int .u8 0, .bool false, .int .i64 0, .string ⟨#[]⟩, .slice none 0 0, .slice none 0 0])] w9 fun ex w' => ∃ a c, ex = .returned (.tuple #[.slice a mn c, .int .i64 0]) ∧ ∃ Y, Hid (YE w' Y a mn ∧ TX w' Y tb wb M M ∧ Below w1.heap.size w1 w' ∧ ∀ g, Y g → w1.heap.size ≤ g)) := by
            obtain ⟨F, O, hT⟩ := HT9.out.2.ex
            rw [HT9.out.1]
            refine (range_y hT (HU.out _ K9.out) (.agg #[.bool false, .bool false, .int .u8 0, .bool false, .int .i64 0, .string ⟨#[]⟩, .slice none 0 0, .slice none 0 0]) (fun W H => bnd_none W H)).mono ?_
            rintro ex w' ⟨a, c, Y, rfl, r1, r2, r3⟩
            exact ⟨a, c, rfl, Y, r1, HT9.out.2.widen r3 r2, K9.out.trans (r3.mono K9.out.size), fun g q => Nat.le_trans K9.out.size (r2 g q).1⟩
          have HMN : Hid (mn = M.length) := HT7.out.1
          clear S HT7 HXX HSL HSF HGC HG7 K7
          go_wp2_with fail
          refine (CRA.out).mono ?_
          rintro e w10 ⟨aa, ac, rfl, Y, HY⟩
          clear CRA HT9 K9
          have HM : Hid (mn = M.length) := HMN.out
          go_wp2
          go_loopw [70] (fun i wr => ∃ j : Nat, j ≤ mn ∧ i = .int .i64 j ∧ SQ Y w10 wr) (fun i _ => mn - (intOf i).toNat)
          case atStart => exact ⟨0, Nat.zero_le _, rfl, SQ.refl _ _⟩
          case round =>
            obtain ⟨i, hi, rfl, hS⟩ := hrel
            have S : Hid (SQ Y w10 wr) := hS
            clear hS
            by_cases hlt : i < mn
            · have q0 : (i : Int) < (mn : Int) := by omega
              have q1 : (0 : Int) ≤ (i : Int) := by omega
              obtain ⟨g, k0, k1, k2, k3, k4, k5, y, rfl, hg, c0, c1, c2, c3, c4, c5, c6, hk4, hy⟩ := HY.out.1 i hlt
              obtain ⟨ka, kn, kc, rfl⟩ := hk4.form
              obtain ⟨ia, im, ic, rfl⟩ := hy.form
              obtain ⟨qo, hqo⟩ : ∃ qo, qo = i * 7 := ⟨_, rfl⟩
              rw [← hqo] at c0 c1 c2 c3 c4 c5 c6
              have hqo' := hqo.symm
              obtain ⟨i1, hi1⟩ : ∃ i1, i1 = i + 1 := ⟨_, rfl⟩
              have HVI : Hid (IntKind.i64.wrap ((i : Int) + 1) = (i1 : Int) ∧ wrap64 ((i : Int) + 1) = (i1 : Int)) := wr63 (by omega) (by have := HN.out; omega)
              have HI1 : Hid (i1 = i + 1 ∧ i1 ≤ mn) := ⟨hi1, by omega⟩
              have HK4 := hidden hk4.slice
              have HIY := hidden hy.slice
              have HKN : Hid (kn ≤ 9223372036854775807 ∧ im ≤ 9223372036854775807) := by
                have h1 := HK4.out.1
                have h2 := HIY.out.1
                unfold maxLen at h1 h2
                exact ⟨by omega, by omega⟩
              have HG : Hid (¬ Y g) := hg
              have HCG : Hid (∀ W, SQ Y w10 W → W.cell? ⟨g, qo + 4, none⟩ = some (.slice ka kn kc) ∧ W.cell? ⟨g, qo + 6, none⟩ = some (.slice ia im ic) ∧ W.cell? ⟨g, qo + 0 + 4, none⟩ = some (.slice ka kn kc)) := fun W hW => by
                have hb : W.heap[g]? = w10.heap[g]? := hW.kept.block g (Bn.lt_of_cell c4) HG.out
                have h4 := (cell_block (o := qo + 4) hb).trans c4
                exact ⟨h4, (cell_block hb).trans c6, h4⟩
              clear c0 c1 c2 c3 c4 c5 c6 hk4 hy hg hi1 hqo hi hlt
              obtain ⟨p4, p6, p5⟩ := HCG.out wr S.out
              go_wp2
              go_loopw [79] (fun k wr => ∃ j : Nat, j ≤ im ∧ k = .int .i64 j ∧ SQ Y w10 wr) (fun k _ => im - (intOf k).toNat)
              case atStart => exact ⟨0, Nat.zero_le _, rfl, S.out⟩
              case round =>
                clear S p4 p5 p6
                obtain ⟨j, hj, rfl, hS⟩ := hrel
                have S : Hid (SQ Y w10 wr) := hS
                clear hS
                obtain ⟨p4, p6, p5⟩ := HCG.out wr S.out
                by_cases hlt : j < im
                · have q2 : (j : Int) < (im : Int) := by omega
                  have q3 : (0 : Int) ≤ (j : Int) := by omega
                  obtain ⟨F, o, rfl, hF, fz, hc⟩ := HIY.out.2 (by omega)
                  obtain ⟨j1, hj1⟩ : ∃ j1, j1 = j + 1 := ⟨_, rfl⟩
                  have HVV : Hid (IntKind.i64.wrap ((j : Int) + 1) = (j1 : Int) ∧ wrap64 ((j : Int) + 1) = (j1 : Int)) := wr63 (by omega) (by have := HKN.out; omega)
                  have HJ : Hid (j1 = j + 1 ∧ j1 ≤ im) := ⟨hj1, by omega⟩
                  obtain ⟨u0, hu0⟩ := hc j (by omega)
                  obtain ⟨u1, z0⟩ := S.out.has _ _ _ hu0
                  have z1 : ∀ r, wr.frozen? ⟨F, r, none⟩ = false := fun r => (S.out.frozen F r (Bn.lt_of_cell hu0)).trans (fz r)
                  have z2 := Bn.lt_of_cell z0
                  have N9 : Hid (SQ Y w10 (wr.setCells F (o + j) [.int .u64 99])) := SQ.sets hF _ _ _ S.out fun m hm => by
                    obtain rfl : m = 0 := by simpa using hm
                    exact ⟨_, hu0⟩
                  clear fz hc hF hj1 hj hlt hu0
                  obtain ⟨v1, v2⟩ := HVV.out
                  go_wp2
                  clear v1 v2
                  go_roundw
                  case rel => first | exact ⟨j1, HJ.out.2, rfl, N9.out⟩ | ((repeat apply Exists.intro); exact ⟨⟨j1, HJ.out.2, rfl, N9.out⟩, rfl⟩)
                  case measure =>
                    simp only [intOf]
                    have := HJ.out
                    omega
                · have q2 : ¬ (j : Int) < (im : Int) := by omega
                  clear hlt hj
                  obtain ⟨w11, rfl⟩ : ∃ w11, w11 = wr := ⟨_, rfl⟩
                  go_wp2
                  clear q2 p4 p5 p6
                  go_loopw [97] (fun k wr => ∃ j : Nat, j ≤ kn ∧ k = .int .i64 j ∧ SQ Y w10 wr) (fun k _ => kn - (intOf k).toNat)
                  case atStart => exact ⟨0, Nat.zero_le _, rfl, S.out⟩
                  case round =>
                    clear S
                    obtain ⟨j, hj, rfl, hS⟩ := hrel
                    have S : Hid (SQ Y w10 wr) := hS
                    clear hS
                    by_cases hlt : j < kn
                    · have q2 : (j : Int) < (kn : Int) := by omega
                      have q3 : (0 : Int) ≤ (j : Int) := by omega
                      obtain ⟨F, o, rfl, hF, fz, hc⟩ := HK4.out.2 (by omega)
                      obtain ⟨j1, hj1⟩ : ∃ j1, j1 = j + 1 := ⟨_, rfl⟩
                      have HVV : Hid (IntKind.i64.wrap ((j : Int) + 1) = (j1 : Int) ∧ wrap64 ((j : Int) + 1) = (j1 : Int)) := wr63 (by omega) (by have := HKN.out; omega)
                      have HJ : Hid (j1 = j + 1 ∧ j1 ≤ kn) := ⟨hj1, by omega⟩
                      have HC : Hid (∀ m, m < 6 → ∃ u, w10.cell? ⟨F, o + j * 6 + m, none⟩ = some u) := fun m hm => by
                        have := hc (j * 6 + m) (by omega)
                        rwa [← Nat.add_assoc] at this
                      have HF : Hid (Y F ∧ F ≠ g) := ⟨hF, fun e => HG.out (e ▸ hF)⟩
                      have HW : Hid (∀ W, SQ Y w10 W → (∃ u, W.cell? ⟨F, o + j * 6, none⟩ = some u) ∧ (∃ u, W.cell? ⟨F, o + j * 6 + 1, none⟩ = some u) ∧ (∃ u, W.cell? ⟨F, o + j * 6 + 2, none⟩ = some u) ∧ (∃ u, W.cell? ⟨F, o + j * 6 + 3, none⟩ = some u) ∧ (∃ u, W.cell? ⟨F, o + j * 6 + 4, none⟩ = some u) ∧ (∃ u, W.cell? ⟨F, o + j * 6 + 5, none⟩ = some u) ∧ F < W.heap.size ∧ ∀ r, W.frozen? ⟨F, r, none⟩ = false) := fun W hW => by
                        have h := fun m (hm : m < 6) => (HC.out m hm).elim fun v hv => hW.has _ _ v hv
                        obtain ⟨v0, hv0⟩ := HC.out 0 (by omega)
                        have hl := Bn.lt_of_cell hv0
                        exact ⟨h 0 (by omega), h 1 (by omega), h 2 (by omega), h 3 (by omega), h 4 (by omega), h 5 (by omega), Nat.lt_of_lt_of_le hl hW.kept.size, fun r => (hW.frozen F r hl).trans (fz r)⟩
                      obtain ⟨p4, p6, p5⟩ := HCG.out wr S.out
                      clear fz hc hF hj1 hj hlt
                      go_upto_region 29 with fail
                      go_region_held3 (fun W' => W'.cell? ⟨g, qo + 4, none⟩ = some (.slice (some ⟨F, o, none⟩) kn kc) ∧ W'.cell? ⟨g, qo + 0 + 4, none⟩ = some (.slice (some ⟨F, o, none⟩) kn kc)) (go_keep) (first
                        | (go_at_call 28; refine (CWH.out _).mono ?_; rintro en w12 ⟨rfl, hb12⟩; have S9 : Hid (SQ Y w10 w12) := (by first | exact S.out.call hb12 | exact (S.out.call (Below.refl _ _).drew).call hb12); clear hb12; (obtain ⟨p4, p6, p5⟩ := HCG.out w12 S9.out); obtain ⟨⟨u0, z0⟩, ⟨u1, z1⟩, ⟨u2, z2⟩, ⟨u3, z3⟩, ⟨u4, z4⟩, ⟨u5, z5⟩, z6, z7⟩ := HW.out w12 S9.out; have z8 := HF.out.2; have z9 := fun e => HF.out.2 (Eq.symm e)))
                      obtain ⟨v1, v2⟩ := HVV.out
                      have N9 : Hid (∀ W, SQ Y w10 W → SQ Y w10 (W.setCells F (o + j * 6) [.int .u8 2, .bool false, .int .i64 (-9), .string ⟨#[]⟩, .slice none 0 0, .slice none 0 0])) := fun W hW => SQ.sets HF.out.1 _ _ _ hW fun m hm => HC.out m (by simpa using hm)
                      go_wp2
                      clear v1 v2
                      go_roundw
                      case rel => first | exact ⟨j1, HJ.out.2, rfl, by first | exact N9.out _ S9.out | exact N9.out _ (S9.out.call (Below.refl _ _).drew) | exact (N9.out _ S9.out).call (Below.refl _ _).drew⟩ | ((repeat apply Exists.intro); exact ⟨⟨j1, HJ.out.2, rfl, by first | exact N9.out _ S9.out | exact N9.out _ (S9.out.call (Below.refl _ _).drew) | exact (N9.out _ S9.out).call (Below.refl _ _).drew⟩, rfl⟩)
                      case measure =>
                        simp only [intOf]
                        have := HJ.out
                        omega
                    · have q2 : ¬ (j : Int) < (kn : Int) := by omega
                      obtain ⟨v1, v2⟩ := HVI.out
                      go_wp2
                      clear v1 v2
                      go_roundw
                      case rel => first | exact ⟨i1, HI1.out.2, rfl, S.out⟩ | ((repeat apply Exists.intro); exact ⟨⟨i1, HI1.out.2, rfl, S.out⟩, rfl⟩)
                      case measure =>
                        simp only [intOf]
                        have := HI1.out
                        omega
            · have q0 : ¬ (i : Int) < (mn : Int) := by omega
              clear hlt hi
              obtain ⟨w13, rfl⟩ : ∃ w13, w13 = wr := ⟨_, rfl⟩
              have HT : Hid (TX w13 Y tb wb M M ∧ Below w1.heap.size w1 w13) := ⟨HY.out.2.1.spoilt S.out.kept, HY.out.2.2.1.trans (S.out.kept.below HY.out.2.2.2 HY.out.2.2.1.size)⟩
              have CRE : Hid (Calls Tryz.prog 11 #[.pointer (some ⟨tb, 0, none⟩), (.agg #[.bool false, .bool false, .int .u8 0, .bool false, .int .i64 0, .string ⟨#[]⟩, .slice none 0 0, .slice none 0 0]), (.agg #[.bool false, .bool false, .int .u8 0, .bool false, .int .i64 0, .string ⟨#[]⟩, .slice none 0 0, .slice none 0 0])] w13 fun ex w' => ∃ a c, ex = .returned (.tuple #[.slice a mn c, .int .i64 0]) ∧ Hid (EntsAt w' a M ∧ EntsAt w' wb M ∧ Below w1.heap.size w1 w')) := by
                obtain ⟨F, O, hT⟩ := HT.out.1.ex
                have hlw := hT.lw
                rw [HM.out]
                refine (range_own hT (HU.out _ HT.out.2)).mono ?_
                rintro ex w' ⟨a, c, rfl, r1, r2⟩
                exact ⟨a, c, rfl, r1, (HT.out.1.at hlw).stays r2, HT.out.2.trans (r2.mono HT.out.2.size)⟩
              clear S HY
              go_wp2_with fail
              refine (CRE.out).mono ?_
              rintro e w14 ⟨ba, bc, rfl, H14⟩
              have CSA : Hid (Calls Tryz.prog 15 #[.slice ba mn bc, .slice wb mn md] w14 fun e w' => e = .returned (.bool true) ∧ Below w1.heap.size w1 w') := by
                have hm := HN.out.2.2
                rw [HM.out] at hm ⊢
                refine (sameE_c M ba wb bc md w14 (by omega) H14.out.1 H14.out.2.1).mono ?_
                rintro e w' ⟨rfl, r1⟩
                exact ⟨rfl, H14.out.2.2.trans (r1.mono H14.out.2.2.size)⟩
              clear CRE HT
              go_wp2_with fail
              refine (CSA.out).mono ?_
              rintro e w15 ⟨rfl, h15⟩
              have H15 : Hid (Below w1.heap.size w1 w15) := h15
              clear h15
              go_wp2
              go_ret
              exact ⟨by first | rfl | simp, (HD.out _ H15.out).1⟩
end Go.Proofs.YtkigenldiinioaaGreatDoor
