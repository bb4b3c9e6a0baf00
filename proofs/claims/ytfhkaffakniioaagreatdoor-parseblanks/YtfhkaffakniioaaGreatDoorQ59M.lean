/- Several texts, joined: QlO, QmB -/
import Derived.Test.YtfhkaffakniioaaGreatDoorQ58M
import Derived.Test.YtfhkaffakniioaaGreatDoorQ55M
/- What is read is right, and what is printed of it is read as the same: the law ParseOnce, walked. -/
namespace Go.Proofs.YtfhkaffakniioaaGreatDoor
open Go.RowKit
namespace Ps
/-- a statement's values -/
def Vals (x : St) (k : Int) (t f : ByteArray) (n m : Nat) (h d : Bool) : Prop := k = (x.kind : Int) ∧ t = Lx.bs x.table ∧ f = Lx.bs x.field ∧ n = x.items.length ∧ m = x.expr.length ∧ h = x.history ∧ d = x.desc
theorem parseV_c (t : Bs) (ht : t.length ≤ 140737488351232) (w : World) (hO : HasO w) (hL : HasL w) : Calls Tryz.prog 20 #[.string (Lx.bs t)] w fun e w' => ∃ ia ic ea ec xk xt xf xn xm xh xd, e = .returned (.tuple #[.agg #[.int .u8 xk, .string xt, .string xf, .slice ia xn ic, .slice ea xm ec, .bool xh, .bool xd], .int .i64 (((parseX t).2.1 : Nat) : Int), .int .i64 (((parseX t).2.2 : Nat) : Int)]) ∧ Hid (Below w.heap.size w w' ∧ StM w' ia ea (parseX t).1 ∧ FitX (parseX t).1 ∧ Vals (parseX t).1 xk xt xf xn xm xh xd) := by
  refine (parse_c t ht w hO hL).mono ?_
  rintro e w' ⟨ia, ic, ea, ec, rfl, G⟩
  exact ⟨ia, ic, ea, ec, _, _, _, _, _, _, _, rfl, G.out.1, G.out.2.1, G.out.2.2.1, rfl, rfl, rfl, rfl, rfl, rfl, rfl⟩
theorem sameV_c {x : St} {xk : Int} {xt xf : ByteArray} {xn xm : Nat} {xh xd : Bool} (hv : Vals x xk xt xf xn xm xh xd) {yk : Int} {yt yf : ByteArray} {yn ym : Nat} {yh yd : Bool} (hy : Vals x yk yt yf yn ym yh yd) (hx : FitX x) (ia ea ja fa : Option Addr) (ic ec jc fc : Nat) (w : World) (h1 : StM w ia ea x) (h2 : StM w ja fa x) : Calls Tryz.prog 21 #[.agg #[.int .u8 xk, .string xt, .string xf, .slice ia xn ic, .slice ea xm ec, .bool xh, .bool xd], .agg #[.int .u8 yk, .string yt, .string yf, .slice ja yn jc, .slice fa ym fc, .bool yh, .bool yd]] w fun e w' => e = .returned (.bool true) ∧ Below w.heap.size w w' := by
  obtain ⟨rfl, rfl, rfl, rfl, rfl, rfl, rfl⟩ := hv
  obtain ⟨rfl, rfl, rfl, rfl, rfl, rfl, rfl⟩ := hy
  exact sameX_c x _ _ rfl rfl hx ia ea ja fa ic ec jc fc w h1 h2
theorem printV_c {x : St} {xk : Int} {xt xf : ByteArray} {xn xm : Nat} {xh xd : Bool} (hv : Vals x xk xt xf xn xm xh xd) (hx : FitX x) (hr : rightX x = true) (ia ea : Option Addr) (ic ec : Nat) (w : World) (h1 : StM w ia ea x) (hL : HasL w) (hO : HasO w) : Calls Tryz.prog 7 #[.agg #[.int .u8 xk, .string xt, .string xf, .slice ia xn ic, .slice ea xm ec, .bool xh, .bool xd]] w fun e w' => e = .returned (.tuple #[.string (Lx.bs (printX x)), .int .i64 0]) ∧ Below w.heap.size w w' := by
  obtain ⟨rfl, rfl, rfl, rfl, rfl, rfl, rfl⟩ := hv
  have h := print_c x ia ea ic ec w hx h1 hL hO
  rw [if_pos hr] at h
  exact h
theorem checkV_c {x : St} {xk : Int} {xt xf : ByteArray} {xn xm : Nat} {xh xd : Bool} (hv : Vals x xk xt xf xn xm xh xd) (hx : FitX x) (hr : rightX x = true) (ia ea : Option Addr) (ic ec : Nat) (w : World) (h1 : StM w ia ea x) (hL : HasL w) : Calls Tryz.prog 14 #[.agg #[.int .u8 xk, .string xt, .string xf, .slice ia xn ic, .slice ea xm ec, .bool xh, .bool xd]] w fun e w' => e = .returned (.int .i64 0) ∧ Below w.heap.size w w' := by
  obtain ⟨rfl, rfl, rfl, rfl, rfl, rfl, rfl⟩ := hv
  have h := checkX_c x ia ea ic ec w hx h1 hL
  rw [if_pos hr] at h
  exact h
theorem zero_fit : FitX stZero := ⟨⟨Nat.zero_le _, fun i q => by cases q⟩, Nat.zero_le _, fun p q => by cases q⟩
theorem zero_mem (w : World) (ia ea : Option Addr) : StM w ia ea stZero := ⟨Itm.nil _ _, Sts.nil _ _⟩
theorem zero_vals : Vals stZero 0 ⟨#[]⟩ ⟨#[]⟩ 0 0 false false := ⟨rfl, rfl, rfl, rfl, rfl, rfl, rfl⟩
set_option maxHeartbeats 8000000 in
set_option maxRecDepth 100000 in
theorem once_w (t : Bs) (ht : t.length ≤ 140737488351232) (w : World) (hO : HasO w) (hL : HasL w) : Calls Tryz.prog 5 #[.string (Lx.bs t)] w fun e w' => e = .returned (.bool true) ∧ Below w.heap.size w w' := by
  have LV : Hid (Calls Tryz.prog 13 #[] w fun e w' => e = .returned (.bool true) ∧ Below w.heap.size w w') := lives_c w hO hL
  obtain ⟨x, hx⟩ : ∃ x, x = (parseX t).1 := ⟨_, rfl⟩
  obtain ⟨why, hwhy⟩ : ∃ y, y = (parseX t).2.1 := ⟨_, rfl⟩
  obtain ⟨ps, hps⟩ : ∃ y, y = (parseX t).2.2 := ⟨_, rfl⟩
  obtain ⟨s, hs⟩ : ∃ s, s = Lx.bs t := ⟨_, rfl⟩
  obtain ⟨nt, hnt⟩ : ∃ nt : Int, nt = (t.length : Int) := ⟨_, rfl⟩
  have hsz : (s.size : Int) = nt := by rw [hs, Lx.bs_size, hnt]
  have q1 : (0 : Int) ≤ (ps : Int) := by omega
  have q2 : (ps : Int) ≤ nt := by have := parse_pos t; rw [hnt, hps]; omega
  have CP : Hid (∀ W, Below w.heap.size w W → Calls Tryz.prog 20 #[.string s] W fun e w' => ∃ ia ic ea ec xk xt xf xn xm xh xd, e = .returned (.tuple #[.agg #[.int .u8 xk, .string xt, .string xf, .slice ia xn ic, .slice ea xm ec, .bool xh, .bool xd], .int .i64 (why : Int), .int .i64 (ps : Int)]) ∧ Hid (Below W.heap.size W w' ∧ StM w' ia ea x ∧ FitX x ∧ Vals x xk xt xf xn xm xh xd)) := fun W hW => by
    rw [hs, hx, hwhy, hps]
    exact parseV_c t ht W (hO.stays hW) (hL.stays hW)
  have HZ : Hid (why ≠ 0 → x = stZero) := fun h => by rw [hx]; exact read_zero (by rw [← hwhy]; exact h)
  have HR : Hid (why = 0 → rightX x = true) := fun h => by rw [hx]; exact read_right (by rw [← hwhy]; exact h)
  have HO : Hid (∀ W, Below w.heap.size w W → HasO W ∧ HasL W) := fun W hW => ⟨hO.stays hW, hL.stays hW⟩
  rw [← hs]
  clear hs hnt hO hL hx hwhy hps ht
  go_enter Tryz.func5, Tryz.ntmps5
  go_wp2_with fail
  refine (LV.out).mono ?_
  rintro e w1 ⟨rfl, hb1⟩
  have X1 := hidp hb1
  clear hb1 LV
  go_wp2_with fail
  refine (CP.out w1 X1.out).mono ?_
  rintro e w2 ⟨ia, ic, ea, ec, xk, xt, xf, xn, xm, xh, xd, rfl, G2⟩
  have X2 : Hid (Below w.heap.size w w2) := X1.out.trans (G2.out.1.mono X1.out.size)
  clear CP
  obtain ⟨w3, hw3⟩ : ∃ w3, w3 = w2.alloc (.cells #[.int .u8 xk, .string xt, .string xf, .slice ia xn ic, .slice ea xm ec, .bool xh, .bool xd] 26) := ⟨_, rfl⟩
  obtain ⟨X, hX⟩ : ∃ X, X = w2.heap.size := ⟨_, rfl⟩
  have X3 : Hid (w3.heap[X]? = some (.cells #[.int .u8 xk, .string xt, .string xf, .slice ia xn ic, .slice ea xm ec, .bool xh, .bool xd] 26 (0, 0)) ∧ Below w2.heap.size w2 w3) := ⟨by rw [hw3, hX]; exact heap_alloc_new w2 _, by rw [hw3]; exact bnew _ _⟩
  have Xw : Hid (Below w.heap.size w w3) := X2.out.trans (X3.out.2.mono X2.out.size)
  have M3 : Hid (StM w3 ia ea x ∧ FitX x ∧ Vals x xk xt xf xn xm xh xd) := ⟨G2.out.2.1.call X3.out.2, G2.out.2.2.1, G2.out.2.2.2⟩
  have XX : Hid (∀ W, Below w3.heap.size w3 W → W.cell? ⟨X, 0, none⟩ = some (.int .u8 xk) ∧ W.cell? ⟨X, 1, none⟩ = some (.string xt) ∧ W.cell? ⟨X, 2, none⟩ = some (.string xf) ∧ W.cell? ⟨X, 3, none⟩ = some (.slice ia xn ic) ∧ W.cell? ⟨X, 4, none⟩ = some (.slice ea xm ec) ∧ W.cell? ⟨X, 5, none⟩ = some (.bool xh) ∧ W.cell? ⟨X, 6, none⟩ = some (.bool xd)) := fun W hW => by
    have r := (hW.block X (row_lt X3.out.1)).trans X3.out.1
    have c : ∀ k v, (#[.int .u8 xk, .string xt, .string xf, .slice ia xn ic, .slice ea xm ec, .bool xh, .bool xd] : Array Value)[k]? = some v → W.cell? ⟨X, k, none⟩ = some v := fun k v hv => by rw [cell_of_row _ _ _ _ _ _ r]; exact hv
    exact ⟨c 0 _ rfl, c 1 _ rfl, c 2 _ rfl, c 3 _ rfl, c 4 _ rfl, c 5 _ rfl, c 6 _ rfl⟩
  clear G2 X2 X1
  go_upto_region 4 with fail
  rw [← hw3, ← hX]
  clear hw3 hX
  obtain ⟨y0, y1, y2, y3, y4, y5, y6⟩ := XX.out w3 (Below.refl _ _)
  by_cases h0 : why = 0
  · subst h0
    have HRR := hidp (HR.out rfl)
    obtain ⟨s1, hs1⟩ : ∃ s, s = Lx.bs (printX x) := ⟨_, rfl⟩
    obtain ⟨z1, hz1⟩ : ∃ z : Int, z = ((printX x).length : Int) := ⟨_, rfl⟩
    have hss : (s1.size : Int) = z1 := by rw [hs1, Lx.bs_size, hz1]
    have HXX : Hid (s1 = Lx.bs (printX x) ∧ z1 = ((printX x).length : Int)) := ⟨hs1, hz1⟩
    have CPr : Hid (Calls Tryz.prog 7 #[.agg #[.int .u8 xk, .string xt, .string xf, .slice ia xn ic, .slice ea xm ec, .bool xh, .bool xd]] w3 fun e w' => e = .returned (.tuple #[.string s1, .int .i64 0]) ∧ Below w3.heap.size w3 w') := by
      rw [hs1]
      exact printV_c M3.out.2.2 M3.out.2.1 HRR.out ia ea ic ec w3 M3.out.1 (HO.out w3 Xw.out).2 (HO.out w3 Xw.out).1
    clear hs1 hz1 HZ HR q1 q2
    go_wp2_with fail
    refine (CPr.out).mono ?_
    rintro e w4 ⟨rfl, hb4⟩
    have X4 := hidp hb4
    clear hb4 CPr y0 y1 y2 y3 y4 y5 y6
    obtain ⟨y, hy⟩ : ∃ y, y = (parseX (printX x)).1 := ⟨_, rfl⟩
    obtain ⟨no, hno⟩ : ∃ y, y = (parseX (printX x)).2.1 := ⟨_, rfl⟩
    obtain ⟨qs, hqs⟩ : ∃ y, y = (parseX (printX x)).2.2 := ⟨_, rfl⟩
    have CQ : Hid (Calls Tryz.prog 20 #[.string s1] w4 fun e w' => ∃ ja jc fa fc yk yt yf yn ym yh yd, e = .returned (.tuple #[.agg #[.int .u8 yk, .string yt, .string yf, .slice ja yn jc, .slice fa ym fc, .bool yh, .bool yd], .int .i64 (no : Int), .int .i64 (qs : Int)]) ∧ Hid (Below w4.heap.size w4 w' ∧ StM w' ja fa y ∧ FitX y ∧ Vals y yk yt yf yn ym yh yd)) := by
      have hB := Xw.out.trans (X4.out.mono Xw.out.size)
      rw [HXX.out.1, hy, hno, hqs]
      exact parseV_c (printX x) (Nat.le_trans (print_few M3.out.2.1) (by decide)) w4 (HO.out w4 hB).1 (HO.out w4 hB).2
    have HC : Hid ((16384 < z1 ∧ no = 4) ∨ (no = 0 ∧ y = x) ∨ no = 10) := by
      rcases back_cases M3.out.2.1 HRR.out with ⟨a, b⟩ | ⟨a, b, c⟩ | ⟨a, b, c⟩
      · exact .inl ⟨by rw [HXX.out.2]; omega, by rw [hno]; exact b⟩
      · exact .inr (.inl ⟨by rw [hno]; exact b, by rw [hy]; exact c⟩)
      · exact .inr (.inr (by rw [hno]; exact b))
    clear hy hno hqs
    go_wp2_with fail
    refine (CQ.out).mono ?_
    rintro e w5 ⟨ja, jc, fa, fc, yk, yt, yf, yn, ym, yh, yd, rfl, G5⟩
    have X5 : Hid (Below w3.heap.size w3 w5) := X4.out.trans (G5.out.1.mono X4.out.size)
    clear CQ
    obtain ⟨w6, hw6⟩ : ∃ w6, w6 = w5.alloc (.cells #[.int .u8 yk, .string yt, .string yf, .slice ja yn jc, .slice fa ym fc, .bool yh, .bool yd] 26) := ⟨_, rfl⟩
    obtain ⟨Y, hY⟩ : ∃ Y, Y = w5.heap.size := ⟨_, rfl⟩
    have X6 : Hid (w6.heap[Y]? = some (.cells #[.int .u8 yk, .string yt, .string yf, .slice ja yn jc, .slice fa ym fc, .bool yh, .bool yd] 26 (0, 0)) ∧ Below w5.heap.size w5 w6) := ⟨by rw [hw6, hY]; exact heap_alloc_new w5 _, by rw [hw6]; exact bnew _ _⟩
    have X7 : Hid (Below w3.heap.size w3 w6) := X5.out.trans (X6.out.2.mono X5.out.size)
    have YY : Hid (∀ W, Below w6.heap.size w6 W → W.cell? ⟨Y, 0, none⟩ = some (.int .u8 yk) ∧ W.cell? ⟨Y, 1, none⟩ = some (.string yt) ∧ W.cell? ⟨Y, 2, none⟩ = some (.string yf) ∧ W.cell? ⟨Y, 3, none⟩ = some (.slice ja yn jc) ∧ W.cell? ⟨Y, 4, none⟩ = some (.slice fa ym fc) ∧ W.cell? ⟨Y, 5, none⟩ = some (.bool yh) ∧ W.cell? ⟨Y, 6, none⟩ = some (.bool yd)) := fun W hW => by
      have r := (hW.block Y (row_lt X6.out.1)).trans X6.out.1
      have c : ∀ k v, (#[.int .u8 yk, .string yt, .string yf, .slice ja yn jc, .slice fa ym fc, .bool yh, .bool yd] : Array Value)[k]? = some v → W.cell? ⟨Y, k, none⟩ = some v := fun k v hv => by rw [cell_of_row _ _ _ _ _ _ r]; exact hv
      exact ⟨c 0 _ rfl, c 1 _ rfl, c 2 _ rfl, c 3 _ rfl, c 4 _ rfl, c 5 _ rfl, c 6 _ rfl⟩
    obtain ⟨y0, y1, y2, y3, y4, y5, y6⟩ := XX.out w6 X7.out
    have CK : Hid (Calls Tryz.prog 14 #[.agg #[.int .u8 xk, .string xt, .string xf, .slice ia xn ic, .slice ea xm ec, .bool xh, .bool xd]] w6 fun e w' => e = .returned (.int .i64 0) ∧ Below w6.heap.size w6 w') := checkV_c M3.out.2.2 M3.out.2.1 HRR.out ia ea ic ec w6 (M3.out.1.call X7.out) (HO.out w6 (Xw.out.trans (X7.out.mono Xw.out.size))).2
    go_upto_region 8 with fail
    rw [← hw6, ← hY]
    clear hw6 hY
    go_wp2_with fail
    refine (CK.out).mono ?_
    rintro e w7 ⟨rfl, hb7⟩
    have X8 := hidp hb7
    have X9 : Hid (Below w3.heap.size w3 w7) := X7.out.trans (hb7.mono X7.out.size)
    clear hb7 CK y0 y1 y2 y3 y4 y5 y6
    rcases HC.out with ⟨q1, q2⟩ | ⟨q1, q2⟩ | q1
    · subst q2
      go_wp2
      go_ret
      exact ⟨rfl, Xw.out.trans (X9.out.mono Xw.out.size)⟩
    · subst q1
      obtain ⟨y0, y1, y2, y3, y4, y5, y6⟩ := XX.out w7 X9.out
      obtain ⟨z0, z1, z2, z3, z4, z5, z6⟩ := YY.out w7 X8.out
      have CS : Hid (Calls Tryz.prog 21 #[.agg #[.int .u8 xk, .string xt, .string xf, .slice ia xn ic, .slice ea xm ec, .bool xh, .bool xd], .agg #[.int .u8 yk, .string yt, .string yf, .slice ja yn jc, .slice fa ym fc, .bool yh, .bool yd]] w7 fun e w' => e = .returned (.bool true) ∧ Below w7.heap.size w7 w') := by
        have g1 := G5.out.2.1
        have g2 := G5.out.2.2.2
        rw [q2] at g1 g2
        exact sameV_c M3.out.2.2 g2 M3.out.2.1 ia ea ja fa ic ec jc fc w7 (M3.out.1.call X9.out) (g1.call (X6.out.2.trans (X8.out.mono X6.out.2.size)))
      clear q2
      go_wp2_with fail
      refine (CS.out).mono ?_
      rintro e w8 ⟨rfl, hb8⟩
      have X10 : Hid (Below w3.heap.size w3 w8) := X9.out.trans (hb8.mono X9.out.size)
      clear hb8 CS y0 y1 y2 y3 y4 y5 y6 z0 z1 z2 z3 z4 z5 z6
      go_wp2
      go_ret
      exact ⟨rfl, Xw.out.trans (X10.out.mono Xw.out.size)⟩
    · subst q1
      go_wp2
      go_ret
      exact ⟨rfl, Xw.out.trans (X9.out.mono Xw.out.size)⟩
  · have hz := HZ.out h0
    have qw : ((why : Int) != 0) = true := by
      rw [bne_iff_ne]
      omega
    have CS : Hid (Calls Tryz.prog 21 #[.agg #[.int .u8 xk, .string xt, .string xf, .slice ia xn ic, .slice ea xm ec, .bool xh, .bool xd], .agg #[.int .u8 0, .string ⟨#[]⟩, .string ⟨#[]⟩, .slice none 0 0, .slice none 0 0, .bool false, .bool false]] w3 fun e w' => e = .returned (.bool true) ∧ Below w3.heap.size w3 w') := by
      have g1 := M3.out.2.2
      rw [hz] at g1
      exact sameV_c g1 zero_vals zero_fit ia ea none none ic ec 0 0 w3 (zero_mem _ _ _) (zero_mem _ _ _)
    clear hz HZ HR h0
    go_wp2_with fail
    refine (CS.out).mono ?_
    rintro e w8 ⟨rfl, hb8⟩
    have X10 : Hid (Below w.heap.size w w8) := Xw.out.trans (hb8.mono Xw.out.size)
    clear hb8 CS y0 y1 y2 y3 y4 y5 y6
    go_wp2
    go_ret
    exact ⟨rfl, X10.out⟩
end Ps
end Go.Proofs.YtfhkaffakniioaaGreatDoor
/- Blanks at both ends, and brackets around a condition, are no matter: the law ParseBlanks, walked. -/
namespace Go.Proofs.YtfhkaffakniioaaGreatDoor
open Go.RowKit
namespace Ps
set_option maxHeartbeats 4000000 in
set_option maxRecDepth 100000 in
theorem showE_c (l : List Sp) (a : Option Addr) (n c : Nat) (w : World) (hn : n = l.length) (hb : n ≤ 9223372036854775807) (hs : Sts w a l) (hf : ∀ p ∈ l, fitS p) (hL : HasL w) (hO : HasO w) : Calls Tryz.prog 9 #[.slice a n c] w fun e w' => e = .returned (.tuple #[.string (Lx.bs (if rightE l = true then shownE l else [])), .int .i64 (if rightE l = true then 0 else 13)]) ∧ Below w.heap.size w w' := by
  obtain ⟨r, hr⟩ : ∃ r, r = rightE l := ⟨_, rfl⟩
  have CR : Hid (Calls Tryz.prog 16 #[.slice a n c] w fun e w' => e = .returned (.bool r) ∧ Below w.heap.size w w') := by
    rw [hr]
    exact right_c l a n c w hn hb hs hf hL
  obtain ⟨s, hss⟩ : ∃ s, s = Lx.bs (shownE l) := ⟨_, rfl⟩
  have CS : Hid (r = true → ∀ W, Below w.heap.size w W → Calls Tryz.prog 27 #[.slice a n c] W fun e w' => e = .returned (.string s) ∧ Below W.heap.size W w') := fun h W hW => by
    rw [hss]
    exact shown_c l a n c W (by rw [← hr]; exact h) hn (hs.call hW) hf (hL.stays hW) (hO.stays hW)
  have CC : Hid (r = true → ∀ W, Calls Tryz.prog 26 #[.string s] W fun e w' => e = .returned (.string s) ∧ Below W.heap.size W w') := fun h W => sclone_c s (by
    have := shown_len (by rw [← hr]; exact h) hf
    rw [hss, Lx.bs_size]
    omega) W
  rw [← hr]
  have HSS := hidp hss
  clear hn hb hs hf hL hO hr hss
  go_enter Tryz.func9, Tryz.ntmps9
  go_wp2_with fail
  refine (CR.out).mono ?_
  rintro e w1 ⟨rfl, hb1⟩
  have X1 := hidp hb1
  clear hb1 CR
  cases r with
  | false =>
    go_wp2
    go_ret2
    exact ⟨rfl, X1.out⟩
  | true =>
    have C1 := hidp (CS.out rfl w1 X1.out)
    have CCC := hidp (CC.out rfl)
    clear CS CC
    go_wp2_with fail
    refine (C1.out).mono ?_
    rintro e w2 ⟨rfl, hb2⟩
    have X2 : Hid (Below w.heap.size w w2) := X1.out.trans (hb2.mono X1.out.size)
    clear hb2 C1
    have C2 := hidp (CCC.out w2)
    go_wp2_with fail
    refine (C2.out).mono ?_
    rintro e w3 ⟨rfl, hb3⟩
    have X3 : Hid (Below w.heap.size w w3) := X2.out.trans (hb3.mono X2.out.size)
    clear hb3 C2 CCC
    go_wp2
    go_ret2
    exact ⟨by rw [HSS.out]; rfl, X3.out⟩
set_option maxHeartbeats 16000000 in
set_option maxRecDepth 100000 in
theorem blanks_w (t : Bs) (ht : t.length ≤ 140737488351232) (l : List Sp) (la : Option Addr) (lc : Nat) (w : World) (hb : l.length ≤ 9223372036854775807) (hs : Sts w la l) (hf : ∀ p ∈ l, fitS p) (hO : HasO w) (hL : HasL w) : Calls Tryz.prog 6 #[.string (Lx.bs t), .slice la l.length lc] w fun e w' => e = .returned (.bool true) ∧ Below w.heap.size w w' := by
  have LV : Hid (Calls Tryz.prog 13 #[] w fun e w' => e = .returned (.bool true) ∧ Below w.heap.size w w') := lives_c w hO hL
  have HO : Hid (∀ W, Below w.heap.size w W → HasO W ∧ HasL W) := fun W hW => ⟨hO.stays hW, hL.stays hW⟩
  have HS : Hid (∀ W, Below w.heap.size w W → Sts W la l) := fun W hW => hs.call hW
  have HF : Hid ((∀ p ∈ l, fitS p) ∧ l.length ≤ 9223372036854775807 ∧ t.length ≤ 140737488351232) := ⟨hf, hb, ht⟩
  obtain ⟨nl, hnl⟩ : ∃ n, n = l.length := ⟨_, rfl⟩
  obtain ⟨s, hs0⟩ : ∃ s, s = Lx.bs t := ⟨_, rfl⟩
  obtain ⟨nt, hnt⟩ : ∃ n : Int, n = (t.length : Int) := ⟨_, rfl⟩
  obtain ⟨n9, hn9⟩ : ∃ n : Nat, n = t.length + 9 := ⟨_, rfl⟩
  have hsz : (s.size : Int) = nt := by rw [hs0, Lx.bs_size, hnt]
  obtain ⟨v1, v2⟩ := wrp (x := nt + 9) (c := n9) (by omega) (by omega)
  have HNL : Hid (nl = l.length ∧ n9 = t.length + 9 ∧ s = Lx.bs t) := ⟨hnl, hn9, hs0⟩
  rw [← hs0, ← hnl]
  clear hs0 hnl hn9 hnt hs hf hb hO hL ht
  go_enter Tryz.func6, Tryz.ntmps6
  go_wp2_with fail
  refine (LV.out).mono ?_
  rintro e w1 ⟨rfl, hb1⟩
  have X1 := hidp hb1
  clear hb1 LV
  by_cases hbig : (16384 : Int) < (n9 : Int)
  · go_wp2
    go_ret
    exact ⟨rfl, X1.out⟩
  · have HB9 : Hid (t.length + 9 ≤ 16384) := by show _ ≤ _; have := HNL.out.2.1; omega
    obtain ⟨x, hx⟩ : ∃ x, x = (parseX t).1 := ⟨_, rfl⟩
    obtain ⟨why, hwhy⟩ : ∃ y, y = (parseX t).2.1 := ⟨_, rfl⟩
    obtain ⟨p1, hp1⟩ : ∃ y, y = (parseX t).2.2 := ⟨_, rfl⟩
    have CA : Hid (Calls Tryz.prog 20 #[.string s] w1 fun e w' => ∃ ia ca ea da ka ta fa na ma ha ba, e = .returned (.tuple #[.agg #[.int .u8 ka, .string ta, .string fa, .slice ia na ca, .slice ea ma da, .bool ha, .bool ba], .int .i64 (why : Int), .int .i64 (p1 : Int)]) ∧ Hid (Below w1.heap.size w1 w' ∧ StM w' ia ea x ∧ FitX x ∧ Vals x ka ta fa na ma ha ba)) := by
      rw [HNL.out.2.2, hx, hwhy, hp1]
      exact parseV_c t HF.out.2.2 w1 (HO.out w1 X1.out).1 (HO.out w1 X1.out).2
    obtain ⟨z1, hz1⟩ : ∃ z, z = Lx.bs ([32, 10] ++ t) := ⟨_, rfl⟩
    obtain ⟨z2, hz2⟩ : ∃ z, z = Lx.bs ([32, 10] ++ t ++ [9, 32]) := ⟨_, rfl⟩
    have a1 := add_s (a := ⟨#[32, 10]⟩) (b := s) (x := [32, 10]) (y := t) rfl HNL.out.2.2 (by have := HB9.out; simp only [List.length_cons, List.length_nil]; omega)
    have a2 := add_s (a := z1) (b := ⟨#[9, 32]⟩) (x := [32, 10] ++ t) (y := [9, 32]) hz1 rfl (by have := HB9.out; simp only [List.length_append, List.length_cons, List.length_nil]; omega)
    rw [← hz1] at a1
    rw [← hz2] at a2
    obtain ⟨p2, hp2⟩ : ∃ y, y = (parseX ([32, 10] ++ t ++ [9, 32])).2.2 := ⟨_, rfl⟩
    have CB : Hid (∀ W, Below w.heap.size w W → Calls Tryz.prog 20 #[.string z2] W fun e w' => ∃ ib cb eb db kb tb fb nb mb hb bb, e = .returned (.tuple #[.agg #[.int .u8 kb, .string tb, .string fb, .slice ib nb cb, .slice eb mb db, .bool hb, .bool bb], .int .i64 (why : Int), .int .i64 (p2 : Int)]) ∧ Hid (Below W.heap.size W w' ∧ StM w' ib eb x ∧ FitX x ∧ Vals x kb tb fb nb mb hb bb)) := fun W hW => by
      obtain ⟨e1, e2⟩ := blanks_read HB9.out
      rw [hz2, hx, hwhy, hp2, ← e1, ← e2]
      exact parseV_c _ (by have := HB9.out; simp only [List.length_append, List.length_cons, List.length_nil]; omega) W (HO.out W hW).1 (HO.out W hW).2
    clear hx hwhy hp1 hz1 hz2 hp2
    go_wp2_with fail
    refine (CA.out).mono ?_
    rintro e w2 ⟨ia, ca, ea, da, ka, ta, fa, na, ma, ha, ba, rfl, Ga⟩
    have X2 : Hid (Below w.heap.size w w2) := X1.out.trans (Ga.out.1.mono X1.out.size)
    clear CA v1 v2 hbig
    obtain ⟨w3, hw3⟩ : ∃ v, v = w2.alloc (.cells #[.int .u8 ka, .string ta, .string fa, .slice ia na ca, .slice ea ma da, .bool ha, .bool ba] 26) := ⟨_, rfl⟩
    obtain ⟨X, hX⟩ : ∃ v, v = w2.heap.size := ⟨_, rfl⟩
    have BX : Hid (w3.heap[X]? = some (.cells #[.int .u8 ka, .string ta, .string fa, .slice ia na ca, .slice ea ma da, .bool ha, .bool ba] 26 (0, 0)) ∧ Below w2.heap.size w2 w3) := ⟨by rw [hw3, hX]; exact heap_alloc_new w2 _, by rw [hw3]; exact bnew _ _⟩
    have GX : Hid (∀ W, Below w3.heap.size w3 W → W.cell? ⟨X, 0, none⟩ = some (.int .u8 ka) ∧ W.cell? ⟨X, 1, none⟩ = some (.string ta) ∧ W.cell? ⟨X, 2, none⟩ = some (.string fa) ∧ W.cell? ⟨X, 3, none⟩ = some (.slice ia na ca) ∧ W.cell? ⟨X, 4, none⟩ = some (.slice ea ma da) ∧ W.cell? ⟨X, 5, none⟩ = some (.bool ha) ∧ W.cell? ⟨X, 6, none⟩ = some (.bool ba)) := fun W hW => by
      have r := (hW.block X (row_lt BX.out.1)).trans BX.out.1
      have c : ∀ k v, (#[.int .u8 ka, .string ta, .string fa, .slice ia na ca, .slice ea ma da, .bool ha, .bool ba] : Array Value)[k]? = some v → W.cell? ⟨X, k, none⟩ = some v := fun k v hv => by rw [cell_of_row _ _ _ _ _ _ r]; exact hv
      exact ⟨c 0 _ rfl, c 1 _ rfl, c 2 _ rfl, c 3 _ rfl, c 4 _ rfl, c 5 _ rfl, c 6 _ rfl⟩
    have X3 : Hid (Below w.heap.size w w3) := X2.out.trans (BX.out.2.mono X2.out.size)
    have CB3 := hidp (CB.out w3 X3.out)
    go_upto_region 6 with fail
    rw [← hw3, ← hX]
    clear hw3 hX CB
    go_wp2_with fail
    refine (CB3.out).mono ?_
    rintro e w4 ⟨ib, cb, eb, db, kb, tb, fb, nb, mb, hb, bb, rfl, Gb⟩
    have X4 : Hid (Below w.heap.size w w4) := X3.out.trans (Gb.out.1.mono X3.out.size)
    clear CB3 a1 a2
    obtain ⟨w5, hw5⟩ : ∃ v, v = w4.alloc (.cells #[.int .u8 kb, .string tb, .string fb, .slice ib nb cb, .slice eb mb db, .bool hb, .bool bb] 26) := ⟨_, rfl⟩
    obtain ⟨Y, hY⟩ : ∃ v, v = w4.heap.size := ⟨_, rfl⟩
    have BY : Hid (w5.heap[Y]? = some (.cells #[.int .u8 kb, .string tb, .string fb, .slice ib nb cb, .slice eb mb db, .bool hb, .bool bb] 26 (0, 0)) ∧ Below w4.heap.size w4 w5) := ⟨by rw [hw5, hY]; exact heap_alloc_new w4 _, by rw [hw5]; exact bnew _ _⟩
    have GY : Hid (∀ W, Below w5.heap.size w5 W → W.cell? ⟨Y, 0, none⟩ = some (.int .u8 kb) ∧ W.cell? ⟨Y, 1, none⟩ = some (.string tb) ∧ W.cell? ⟨Y, 2, none⟩ = some (.string fb) ∧ W.cell? ⟨Y, 3, none⟩ = some (.slice ib nb cb) ∧ W.cell? ⟨Y, 4, none⟩ = some (.slice eb mb db) ∧ W.cell? ⟨Y, 5, none⟩ = some (.bool hb) ∧ W.cell? ⟨Y, 6, none⟩ = some (.bool bb)) := fun W hW => by
      have r := (hW.block Y (row_lt BY.out.1)).trans BY.out.1
      have c : ∀ k v, (#[.int .u8 kb, .string tb, .string fb, .slice ib nb cb, .slice eb mb db, .bool hb, .bool bb] : Array Value)[k]? = some v → W.cell? ⟨Y, k, none⟩ = some v := fun k v hv => by rw [cell_of_row _ _ _ _ _ _ r]; exact hv
      exact ⟨c 0 _ rfl, c 1 _ rfl, c 2 _ rfl, c 3 _ rfl, c 4 _ rfl, c 5 _ rfl, c 6 _ rfl⟩
    have X5 : Hid (Below w.heap.size w w5) := X4.out.trans (BY.out.2.mono X4.out.size)
    have q0 : ((why : Int) != (why : Int)) = false := by rw [bne, beq_self_eq_true]; rfl
    obtain ⟨y0, y1, y2, y3, y4, y5, y6⟩ := GX.out w5 (Gb.out.1.trans (BY.out.2.mono Gb.out.1.size))
    obtain ⟨u0, u1, u2, u3, u4, u5, u6⟩ := GY.out w5 (Below.refl _ _)
    have CS : Hid (Calls Tryz.prog 21 #[.agg #[.int .u8 ka, .string ta, .string fa, .slice ia na ca, .slice ea ma da, .bool ha, .bool ba], .agg #[.int .u8 kb, .string tb, .string fb, .slice ib nb cb, .slice eb mb db, .bool hb, .bool bb]] w5 fun e w' => e = .returned (.bool true) ∧ Below w5.heap.size w5 w') := sameV_c Ga.out.2.2.2 Gb.out.2.2.2 Ga.out.2.2.1 ia ea ib eb ca da cb db w5 (Ga.out.2.1.call (BX.out.2.trans ((Gb.out.1.trans (BY.out.2.mono Gb.out.1.size)).mono BX.out.2.size))) (Gb.out.2.1.call BY.out.2)
    go_upto_region 7 with fail
    rw [← hw5, ← hY]
    clear hw5 hY
    go_wp2_with fail
    refine (CS.out).mono ?_
    rintro e w6 ⟨rfl, hb6⟩
    have X6 : Hid (Below w.heap.size w w6) := X5.out.trans (hb6.mono X5.out.size)
    clear hb6 CS q0 y0 y1 y2 y3 y4 y5 y6 u0 u1 u2 u3 u4 u5 u6 GX GY BX BY Ga Gb X1 X2 X3 X4 X5
    obtain ⟨rl, hrl⟩ : ∃ r, r = rightE l := ⟨_, rfl⟩
    obtain ⟨tx, htx⟩ : ∃ z, z = Lx.bs (if rightE l = true then shownE l else []) := ⟨_, rfl⟩
    obtain ⟨wy, hwy⟩ : ∃ z : Int, z = if rightE l = true then 0 else 13 := ⟨_, rfl⟩
    have CE : Hid (Calls Tryz.prog 9 #[.slice la nl lc] w6 fun e w' => e = .returned (.tuple #[.string tx, .int .i64 wy]) ∧ Below w6.heap.size w6 w') := by
      rw [htx, hwy]
      exact showE_c l la nl lc w6 HNL.out.1 (by rw [HNL.out.1]; exact HF.out.2.1) (HS.out w6 X6.out) HF.out.1 (HO.out w6 X6.out).2 (HO.out w6 X6.out).1
    have HT : Hid (rl = true → rightE l = true ∧ tx = Lx.bs (shownE l)) := fun h => by
      rw [hrl] at h
      exact ⟨h, by rw [htx, if_pos h]⟩
    rw [← hrl] at hwy
    clear hrl htx
    go_wp2_with fail
    refine (CE.out).mono ?_
    rintro e w7 ⟨rfl, hb7⟩
    have X7 : Hid (Below w.heap.size w w7) := X6.out.trans (hb7.mono X6.out.size)
    clear hb7 CE
    cases rl with
    | false =>
      rw [if_neg (by decide)] at hwy
      subst hwy
      go_wp2
      go_ret
      exact ⟨rfl, X7.out⟩
    | true =>
    rw [if_pos rfl] at hwy
    subst hwy
    obtain ⟨hre, hte⟩ := HT.out rfl
    have HRE := hidp hre
    obtain ⟨z4, hz4⟩ : ∃ z : Int, z = ((shownE l).length : Int) := ⟨_, rfl⟩
    have hsx : (tx.size : Int) = z4 := by rw [hte, Lx.bs_size, hz4]
    by_cases h8 : (8000 : Int) < z4
    · clear hte hz4
      go_wp2
      go_ret
      exact ⟨rfl, X7.out⟩
    · have h8n : (shownE l).length ≤ 8000 := by omega
      have HBR := hidp (brackets (fun p hp => (HF.out.1 p hp).2.2) hre h8n)
      obtain ⟨s1, hs1⟩ : ∃ z, z = Lx.bs (wide (shownE l)) := ⟨_, rfl⟩
      obtain ⟨s2, hs2⟩ : ∃ z, z = Lx.bs ([100, 101, 108, 101, 116, 101, 32, 102, 114, 111, 109, 32, 116, 32, 119, 104, 101, 114, 101, 32, 40, 40] ++ shownE l) := ⟨_, rfl⟩
      obtain ⟨s3, hs3⟩ : ∃ z, z = Lx.bs (tight (shownE l)) := ⟨_, rfl⟩
      have a1 : ∀ W, (Op.stringOp .add ⟨#[68, 69, 76, 69, 84, 69, 32, 70, 82, 79, 77, 32, 116, 32, 87, 72, 69, 82, 69, 32]⟩ tx).run Tryz.prog W = .ok (.string s1) W := fun W => by
        rw [hs1]
        exact add_s (x := [68, 69, 76, 69, 84, 69, 32, 70, 82, 79, 77, 32, 116, 32, 87, 72, 69, 82, 69, 32]) (y := shownE l) rfl hte (by show 20 + _ ≤ _; omega) W
      have a2 : ∀ W, (Op.stringOp .add ⟨#[100, 101, 108, 101, 116, 101, 32, 102, 114, 111, 109, 32, 116, 32, 119, 104, 101, 114, 101, 32, 40, 40]⟩ tx).run Tryz.prog W = .ok (.string s2) W := fun W => by
        rw [hs2]
        exact add_s (x := [100, 101, 108, 101, 116, 101, 32, 102, 114, 111, 109, 32, 116, 32, 119, 104, 101, 114, 101, 32, 40, 40]) (y := shownE l) rfl hte (by show 22 + _ ≤ _; omega) W
      have a3 : ∀ W, (Op.stringOp .add s2 ⟨#[41, 41]⟩).run Tryz.prog W = .ok (.string s3) W := fun W => by
        rw [hs3]
        exact add_s (x := [100, 101, 108, 101, 116, 101, 32, 102, 114, 111, 109, 32, 116, 32, 119, 104, 101, 114, 101, 32, 40, 40] ++ shownE l) (y := [41, 41]) hs2 rfl (by rw [List.length_append]; show 22 + _ + 2 ≤ _; omega) W
      obtain ⟨x3, hx3⟩ : ∃ x, x = (parseX (wide (shownE l))).1 := ⟨_, rfl⟩
      obtain ⟨r3, hr3⟩ : ∃ x, x = (parseX (wide (shownE l))).2.1 := ⟨_, rfl⟩
      obtain ⟨p3, hp3⟩ : ∃ x, x = (parseX (wide (shownE l))).2.2 := ⟨_, rfl⟩
      obtain ⟨x4, hx4⟩ : ∃ x, x = (parseX (tight (shownE l))).1 := ⟨_, rfl⟩
      obtain ⟨r4, hr4⟩ : ∃ x, x = (parseX (tight (shownE l))).2.1 := ⟨_, rfl⟩
      obtain ⟨p4, hp4⟩ : ∃ x, x = (parseX (tight (shownE l))).2.2 := ⟨_, rfl⟩
      have CC : Hid (∀ W, Below w.heap.size w W → Calls Tryz.prog 20 #[.string s1] W fun e w' => ∃ ic cc ec dc kc tc fc nc mc hc bc, e = .returned (.tuple #[.agg #[.int .u8 kc, .string tc, .string fc, .slice ic nc cc, .slice ec mc dc, .bool hc, .bool bc], .int .i64 (r3 : Int), .int .i64 (p3 : Int)]) ∧ Hid (Below W.heap.size W w' ∧ StM w' ic ec x3 ∧ FitX x3 ∧ Vals x3 kc tc fc nc mc hc bc)) := fun W hW => by
        rw [hs1, hx3, hr3, hp3]
        exact parseV_c _ (by unfold wide; rw [List.length_append]; show 20 + _ ≤ _; omega) W (HO.out W hW).1 (HO.out W hW).2
      have CD : Hid (∀ W, Below w.heap.size w W → Calls Tryz.prog 20 #[.string s3] W fun e w' => ∃ id' cd ed dd kd td fd nd md hd bd, e = .returned (.tuple #[.agg #[.int .u8 kd, .string td, .string fd, .slice id' nd cd, .slice ed md dd, .bool hd, .bool bd], .int .i64 (r4 : Int), .int .i64 (p4 : Int)]) ∧ Hid (Below W.heap.size W w' ∧ StM w' id' ed x4 ∧ FitX x4 ∧ Vals x4 kd td fd nd md hd bd)) := fun W hW => by
        rw [hs3, hx4, hr4, hp4]
        exact parseV_c _ (by unfold tight; rw [List.length_append, List.length_append]; show 22 + _ + 2 ≤ _; omega) W (HO.out W hW).1 (HO.out W hW).2
      have HQ : Hid ((r4 = 10 ∧ 5 ≤ nl) ∨ (r4 = 0 ∧ x4 = delT l ∧ r3 = 0 ∧ x3 = delT l)) := by
        show _ ∨ _
        rw [hr4, hx4, hr3, hx3, HNL.out.1]
        exact HBR.out
      clear hte hz4 hs1 hs2 hs3 hx3 hr3 hp3 hx4 hr4 hp4 HBR hre h8n HT
      go_wp2_with fail
      refine (CC.out w7 X7.out).mono ?_
      rintro e w8 ⟨ic, cc, ec, dc, kc, tc, fc, nc, mc, hc, bc, rfl, Gc⟩
      have X8 : Hid (Below w.heap.size w w8) := X7.out.trans (Gc.out.1.mono X7.out.size)
      clear CC a1 h8
      obtain ⟨w9, hw9⟩ : ∃ v, v = w8.alloc (.cells #[.int .u8 kc, .string tc, .string fc, .slice ic nc cc, .slice ec mc dc, .bool hc, .bool bc] 26) := ⟨_, rfl⟩
      obtain ⟨P, hP⟩ : ∃ v, v = w8.heap.size := ⟨_, rfl⟩
      have BP : Hid (w9.heap[P]? = some (.cells #[.int .u8 kc, .string tc, .string fc, .slice ic nc cc, .slice ec mc dc, .bool hc, .bool bc] 26 (0, 0)) ∧ Below w8.heap.size w8 w9) := ⟨by rw [hw9, hP]; exact heap_alloc_new w8 _, by rw [hw9]; exact bnew _ _⟩
      have GP : Hid (∀ W, Below w9.heap.size w9 W → W.cell? ⟨P, 0, none⟩ = some (.int .u8 kc) ∧ W.cell? ⟨P, 1, none⟩ = some (.string tc) ∧ W.cell? ⟨P, 2, none⟩ = some (.string fc) ∧ W.cell? ⟨P, 3, none⟩ = some (.slice ic nc cc) ∧ W.cell? ⟨P, 4, none⟩ = some (.slice ec mc dc) ∧ W.cell? ⟨P, 5, none⟩ = some (.bool hc) ∧ W.cell? ⟨P, 6, none⟩ = some (.bool bc)) := fun W hW => by
        have r := (hW.block P (row_lt BP.out.1)).trans BP.out.1
        have c : ∀ k v, (#[.int .u8 kc, .string tc, .string fc, .slice ic nc cc, .slice ec mc dc, .bool hc, .bool bc] : Array Value)[k]? = some v → W.cell? ⟨P, k, none⟩ = some v := fun k v hv => by rw [cell_of_row _ _ _ _ _ _ r]; exact hv
        exact ⟨c 0 _ rfl, c 1 _ rfl, c 2 _ rfl, c 3 _ rfl, c 4 _ rfl, c 5 _ rfl, c 6 _ rfl⟩
      have X9 : Hid (Below w.heap.size w w9) := X8.out.trans (BP.out.2.mono X8.out.size)
      have CD9 := hidp (CD.out w9 X9.out)
      go_upto_region 13 with fail
      rw [← hw9, ← hP]
      clear hw9 hP CD
      go_wp2_with fail
      refine (CD9.out).mono ?_
      rintro e w10 ⟨id', cd, ed, dd, kd, td, fd, nd, md, hd, bd, rfl, Gd⟩
      have X10 : Hid (Below w.heap.size w w10) := X9.out.trans (Gd.out.1.mono X9.out.size)
      clear CD9 a2 a3
      obtain ⟨w11, hw11⟩ : ∃ v, v = w10.alloc (.cells #[.int .u8 kd, .string td, .string fd, .slice id' nd cd, .slice ed md dd, .bool hd, .bool bd] 26) := ⟨_, rfl⟩
      obtain ⟨Q, hQ⟩ : ∃ v, v = w10.heap.size := ⟨_, rfl⟩
      have BQ : Hid (w11.heap[Q]? = some (.cells #[.int .u8 kd, .string td, .string fd, .slice id' nd cd, .slice ed md dd, .bool hd, .bool bd] 26 (0, 0)) ∧ Below w10.heap.size w10 w11) := ⟨by rw [hw11, hQ]; exact heap_alloc_new w10 _, by rw [hw11]; exact bnew _ _⟩
      have GQ : Hid (∀ W, Below w11.heap.size w11 W → W.cell? ⟨Q, 0, none⟩ = some (.int .u8 kd) ∧ W.cell? ⟨Q, 1, none⟩ = some (.string td) ∧ W.cell? ⟨Q, 2, none⟩ = some (.string fd) ∧ W.cell? ⟨Q, 3, none⟩ = some (.slice id' nd cd) ∧ W.cell? ⟨Q, 4, none⟩ = some (.slice ed md dd) ∧ W.cell? ⟨Q, 5, none⟩ = some (.bool hd) ∧ W.cell? ⟨Q, 6, none⟩ = some (.bool bd)) := fun W hW => by
        have r := (hW.block Q (row_lt BQ.out.1)).trans BQ.out.1
        have c : ∀ k v, (#[.int .u8 kd, .string td, .string fd, .slice id' nd cd, .slice ed md dd, .bool hd, .bool bd] : Array Value)[k]? = some v → W.cell? ⟨Q, k, none⟩ = some v := fun k v hv => by rw [cell_of_row _ _ _ _ _ _ r]; exact hv
        exact ⟨c 0 _ rfl, c 1 _ rfl, c 2 _ rfl, c 3 _ rfl, c 4 _ rfl, c 5 _ rfl, c 6 _ rfl⟩
      have X11 : Hid (Below w.heap.size w w11) := X10.out.trans (BQ.out.2.mono X10.out.size)
      go_upto_region 14 with fail
      rw [← hw11, ← hQ]
      clear hw11 hQ
      rcases HQ.out with ⟨q1, q2⟩ | ⟨q1, q2, q3, q4⟩
      · subst q1
        have q5 : (4 : Int) < (nl : Int) := by omega
        clear q2
        go_wp2
        go_ret
        exact ⟨rfl, X11.out⟩
      · subst q1 q3
        obtain ⟨y0, y1, y2, y3, y4, y5, y6⟩ := GP.out w11 (Gd.out.1.trans (BQ.out.2.mono Gd.out.1.size))
        obtain ⟨u0, u1, u2, u3, u4, u5, u6⟩ := GQ.out w11 (Below.refl _ _)
        have M3 : Hid (StM w11 ic ec (delT l) ∧ FitX (delT l) ∧ Vals (delT l) kc tc fc nc mc hc bc) := by
          have g1 := Gc.out.2
          rw [q4] at g1
          exact ⟨g1.1.call (BP.out.2.trans ((Gd.out.1.trans (BQ.out.2.mono Gd.out.1.size)).mono BP.out.2.size)), g1.2.1, g1.2.2⟩
        have M4 : Hid (StM w11 id' ed (delT l) ∧ FitX (delT l) ∧ Vals (delT l) kd td fd nd md hd bd) := by
          have g1 := Gd.out.2
          rw [q2] at g1
          exact ⟨g1.1.call BQ.out.2, g1.2.1, g1.2.2⟩
        have CS : Hid (Calls Tryz.prog 21 #[.agg #[.int .u8 kc, .string tc, .string fc, .slice ic nc cc, .slice ec mc dc, .bool hc, .bool bc], .agg #[.int .u8 kd, .string td, .string fd, .slice id' nd cd, .slice ed md dd, .bool hd, .bool bd]] w11 fun e w' => e = .returned (.bool true) ∧ Below w11.heap.size w11 w') := sameV_c M3.out.2.2 M4.out.2.2 M3.out.2.1 ic ec id' ed cc dc cd dd w11 M3.out.1 M4.out.1
        have CT : Hid (∀ W, Below w11.heap.size w11 W → Calls Tryz.prog 22 #[.slice ec mc dc, .slice la nl lc] W fun e w' => e = .returned (.bool true) ∧ Below W.heap.size W w') := fun W hW => by
          have e5 : mc = l.length := M3.out.2.2.2.2.2.2.1
          rw [e5, HNL.out.1]
          exact sameSteps_c l l.length rfl HF.out.2.1 ec la dc lc W (M3.out.1.exp.call hW) (HS.out W (X11.out.trans (hW.mono X11.out.size)))
        clear q2 q4
        go_wp2_with fail
        refine (CS.out).mono ?_
        rintro e w12 ⟨rfl, hb12⟩
        have X12 := hidp hb12
        clear hb12 CS y0 y1 y2 y3 y4 y5 y6 u0 u1 u2 u3 u4 u5 u6
        obtain ⟨y0, y1, y2, y3, y4, y5, y6⟩ := GP.out w12 ((Gd.out.1.trans (BQ.out.2.mono Gd.out.1.size)).trans (X12.out.mono (Gd.out.1.trans (BQ.out.2.mono Gd.out.1.size)).size))
        go_wp2_with fail
        refine (CT.out w12 X12.out).mono ?_
        rintro e w13 ⟨rfl, hb13⟩
        have X13 : Hid (Below w.heap.size w w13) := X11.out.trans ((X12.out.trans (hb13.mono X12.out.size)).mono X11.out.size)
        clear hb13 CT y0 y1 y2 y3 y4 y5 y6
        go_wp2
        go_ret
        exact ⟨rfl, X13.out⟩
end Ps
end Go.Proofs.YtfhkaffakniioaaGreatDoor
