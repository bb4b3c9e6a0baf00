/- Several texts, joined: SameL, Same, RSame, RSameT -/
import Derived.Test.YtkigenldiinioaaGreatDoorQ04M
import Derived.Deep.QuietTactic
import Derived.BigQuiet
/- sameLists at values and at fields, and Same itself, walked: whatever two values are, the answer is whether they are the same. -/
namespace Go.Proofs.YtkigenldiinioaaGreatDoor
open Go.RowKit
open Vl (V)
namespace Vl
end Vl
end Go.Proofs.YtkigenldiinioaaGreatDoor
/- Same, walked: whatever two values are, it answers whether they are the same, and changes nothing that lay there. -/
namespace Go.Proofs.YtkigenldiinioaaGreatDoor
open Go.RowKit
open Vl (V)
end Go.Proofs.YtkigenldiinioaaGreatDoor
/- The document's own Same, walked: it answers as the program's does. -/
namespace Go.Proofs.YtkigenldiinioaaGreatDoor
open Go.RowKit
open Vl (V)
set_option maxHeartbeats 4000000 in
set_option maxRecDepth 100000 in
/-- what differs at its head -/
theorem rsame17_head (k : Nat) (b : Bool) (n : Int) (s : ByteArray) (ao fo : Option Addr) (ll lc fl fc : Nat) (k2 : Nat) (b2 : Bool) (n2 : Int) (s2 : ByteArray) (ao2 fo2 : Option Addr) (ll2 lc2 fl2 fc2 : Nat) (w : World)
    (h : ¬ (k = k2 ∧ b = b2 ∧ n = n2 ∧ s = s2 ∧ ll = ll2 ∧ fl = fl2)) :
    Calls Tryz.prog 36 #[.agg #[.int .u8 (k : Int), .bool b, .int .i64 n, .string s, .slice ao ll lc, .slice fo fl fc], .agg #[.int .u8 (k2 : Int), .bool b2, .int .i64 n2, .string s2, .slice ao2 ll2 lc2, .slice fo2 fl2 fc2]] w fun e w' => e = .returned (.bool false) ∧ Below w.heap.size w w' := by
  have HS : Hid (s = s2 ↔ s.toList = s2.toList) := ⟨fun h => by rw [h], fun h => Decidable.byContradiction fun hn => Vl.toList_ne hn h⟩
  have HN : Hid (¬ (k = k2 ∧ b = b2 ∧ n = n2 ∧ s = s2 ∧ ll = ll2 ∧ fl = fl2)) := h
  clear h
  go_enter Tryz.func36, Tryz.ntmps36
  go_wp2
  all_goals first
    | exact ⟨rfl, _, results_tmp (by rfl) _ _ _, rfl, below_new2 _ _ _⟩
    | (exfalso; have hS := HS.out; have hN := HN.out; clear HS HN; simp_all <;> omega)
end Go.Proofs.YtkigenldiinioaaGreatDoor
/- The document's own Same, walked to its end. -/
namespace Go.Proofs.YtkigenldiinioaaGreatDoor
open Go.RowKit
open Vl (V)
theorem drawn_below (w : World) (n : Nat) : Below w.heap.size w (w.drewN n) := by
  induction n with
  | zero => exact Below.refl _ _
  | succ n ih => exact ih.drew
/-- what a round over fields looks at -/
structure FR (P : Nat) (W0 W : World) (g o g2 o2 i : Nat) (sa sb : Value) (ma mb : ByteArray) (c0 c1 c2 c3 c4 c5 b0 b1 b2 b3 b4 b5 : Value) : Prop where
  low : P + 1 < W0.heap.size ∧ g < W0.heap.size ∧ g2 < W0.heap.size
  below : Below W0.heap.size W0 W
  a5 : W.cell? ⟨P, 5, none⟩ = some sa
  x5 : W.cell? ⟨P + 1, 5, none⟩ = some sb
  dm : W.cell? ⟨g, o + i * 7, none⟩ = some (.string ma)
  em : W.cell? ⟨g2, o2 + i * 7, none⟩ = some (.string mb)
  d0 : W.cell? ⟨g, o + i * 7 + 1, none⟩ = some c0
  d1 : W.cell? ⟨g, o + i * 7 + 2, none⟩ = some c1
  d2 : W.cell? ⟨g, o + i * 7 + 3, none⟩ = some c2
  d3 : W.cell? ⟨g, o + i * 7 + 4, none⟩ = some c3
  d4 : W.cell? ⟨g, o + i * 7 + 5, none⟩ = some c4
  d5 : W.cell? ⟨g, o + i * 7 + 6, none⟩ = some c5
  e0 : W.cell? ⟨g2, o2 + i * 7 + 1, none⟩ = some b0
  e1 : W.cell? ⟨g2, o2 + i * 7 + 2, none⟩ = some b1
  e2 : W.cell? ⟨g2, o2 + i * 7 + 3, none⟩ = some b2
  e3 : W.cell? ⟨g2, o2 + i * 7 + 4, none⟩ = some b3
  e4 : W.cell? ⟨g2, o2 + i * 7 + 5, none⟩ = some b4
  e5 : W.cell? ⟨g2, o2 + i * 7 + 6, none⟩ = some b5
theorem FR.call {P : Nat} {W0 W W' : World} {g o g2 o2 i : Nat} {sa sb : Value} {ma mb : ByteArray} {c0 c1 c2 c3 c4 c5 b0 b1 b2 b3 b4 b5 : Value} (h : FR P W0 W g o g2 o2 i sa sb ma mb c0 c1 c2 c3 c4 c5 b0 b1 b2 b3 b4 b5) (hb : Below W.heap.size W W') : FR P W0 W' g o g2 o2 i sa sb ma mb c0 c1 c2 c3 c4 c5 b0 b1 b2 b3 b4 b5 := by
  have hs := h.below.size
  obtain ⟨l1, l2, l3⟩ := h.low
  exact ⟨h.low, h.below.trans (hb.mono hs), (hb.cell (p := ⟨P, 5, none⟩) (by simp; omega)).trans h.a5, (hb.cell (p := ⟨P + 1, 5, none⟩) (by simp; omega)).trans h.x5, (hb.cell (p := ⟨g, o + i * 7, none⟩) (by simp; omega)).trans h.dm, (hb.cell (p := ⟨g2, o2 + i * 7, none⟩) (by simp; omega)).trans h.em, (hb.cell (p := ⟨g, o + i * 7 + 1, none⟩) (by simp; omega)).trans h.d0, (hb.cell (p := ⟨g, o + i * 7 + 2, none⟩) (by simp; omega)).trans h.d1, (hb.cell (p := ⟨g, o + i * 7 + 3, none⟩) (by simp; omega)).trans h.d2, (hb.cell (p := ⟨g, o + i * 7 + 4, none⟩) (by simp; omega)).trans h.d3, (hb.cell (p := ⟨g, o + i * 7 + 5, none⟩) (by simp; omega)).trans h.d4, (hb.cell (p := ⟨g, o + i * 7 + 6, none⟩) (by simp; omega)).trans h.d5, (hb.cell (p := ⟨g2, o2 + i * 7 + 1, none⟩) (by simp; omega)).trans h.e0, (hb.cell (p := ⟨g2, o2 + i * 7 + 2, none⟩) (by simp; omega)).trans h.e1, (hb.cell (p := ⟨g2, o2 + i * 7 + 3, none⟩) (by simp; omega)).trans h.e2, (hb.cell (p := ⟨g2, o2 + i * 7 + 4, none⟩) (by simp; omega)).trans h.e3, (hb.cell (p := ⟨g2, o2 + i * 7 + 5, none⟩) (by simp; omega)).trans h.e4, (hb.cell (p := ⟨g2, o2 + i * 7 + 6, none⟩) (by simp; omega)).trans h.e5⟩
set_option maxHeartbeats 8000000 in
set_option maxRecDepth 100000 in
theorem rsame17_tail (N : Nat) (IH : Hid (∀ (t : V), Vl.count t ≤ N → ∀ (u : V) (w : World) (H : Nat) (va vb : Value), H ≤ w.heap.size → Rep w H t va → Rep w H u vb → Calls Tryz.prog 36 #[va, vb] w fun e w' => e = .returned (.bool (Vl.same t u)) ∧ Below w.heap.size w w')) (k : Nat) (b : Bool) (n : Int) (s : ByteArray) (l l2 : List V) (f f2 : List (ByteArray × V)) (ao fo : Option Addr) (ll lc fl fc : Nat) (ao2 fo2 : Option Addr) (lc2 fc2 : Nat) (w : World) (H : Nat) (hH : H ≤ w.heap.size)
    (HT : Hid (Vl.count ⟨k, b, n, s, l, f⟩ ≤ N + 1)) (HLL : Hid (ll = l.length ∧ ll = l2.length)) (HFL : Hid (fl = f.length ∧ fl = f2.length)) (h5 : ll ≤ 9223372036854775807) (h6 : fl ≤ 9223372036854775807)
    (H7 : Hid (0 < l.length → ∃ g o, ao = some ⟨g, o, none⟩ ∧ g < H ∧ RepL w H g o l)) (H8 : Hid (0 < f.length → ∃ g o, fo = some ⟨g, o, none⟩ ∧ g < H ∧ RepF w H g o f))
    (G7 : Hid (0 < l2.length → ∃ g o, ao2 = some ⟨g, o, none⟩ ∧ g < H ∧ RepL w H g o l2)) (G8 : Hid (0 < f2.length → ∃ g o, fo2 = some ⟨g, o, none⟩ ∧ g < H ∧ RepF w H g o f2)) :
    Calls Tryz.prog 36 #[.agg #[.int .u8 (k : Int), .bool b, .int .i64 n, .string s, .slice ao ll lc, .slice fo fl fc], .agg #[.int .u8 (k : Int), .bool b, .int .i64 n, .string s, .slice ao2 ll lc2, .slice fo2 fl fc2]] w fun e w' => e = .returned (.bool (Vl.sameL l l2 && Vl.sameF f f2)) ∧ Below w.heap.size w w' := by
  obtain ⟨r, hr⟩ : ∃ r, r = (Vl.sameL l l2 && Vl.sameF f f2) := ⟨_, rfl⟩
  have HR : Hid (r = (Vl.sameL l l2 && Vl.sameF f f2)) := hr
  rw [← hr]
  clear hr
  go_enter Tryz.func36, Tryz.ntmps36
  go_wp2
  obtain ⟨w1, hw1⟩ : ∃ w1, w1 = (w.alloc (.cells #[.int .u8 (k : Int), .bool b, .int .i64 n, .string s, .slice ao ll lc, .slice fo fl fc] 27)).alloc (.cells #[.int .u8 (k : Int), .bool b, .int .i64 n, .string s, .slice ao2 ll lc2, .slice fo2 fl fc2] 27) := ⟨_, rfl⟩
  have HB1 : Hid (Below w.heap.size w w1) := by show Below _ _ _; rw [hw1]; exact below_new2 _ _ _
  have HA4 : Hid (w1.cell? ⟨w.heap.size, 4, none⟩ = some (.slice ao ll lc)) := by show _ = _; rw [hw1]; exact boxA _ _ _ _ _ _ _ rfl
  have HA5 : Hid (w1.cell? ⟨w.heap.size, 5, none⟩ = some (.slice fo fl fc)) := by show _ = _; rw [hw1]; exact boxA _ _ _ _ _ _ _ rfl
  have HE4 : Hid (w1.cell? ⟨w.heap.size + 1, 4, none⟩ = some (.slice ao2 ll lc2)) := by show _ = _; rw [hw1]; exact boxB _ _ _ _ _ _ _ rfl
  have HE5 : Hid (w1.cell? ⟨w.heap.size + 1, 5, none⟩ = some (.slice fo2 fl fc2)) := by show _ = _; rw [hw1]; exact boxB _ _ _ _ _ _ _ rfl
  have HN1 : Hid (w1.heap.size = w.heap.size + 2) := by show _ = _; rw [hw1]; simp
  rw [← hw1]
  clear hw1
  go_loopw [54] (fun i wr => ∃ j : Nat, j ≤ ll ∧ i = .int .i64 j ∧ Below w1.heap.size w1 wr ∧ ∀ (i : Nat) (x y : V), i < j → l[i]? = some x → l2[i]? = some y → Vl.same x y = true) (fun i _ => ll - (intOf i).toNat)
  case atStart => exact ⟨0, Nat.zero_le _, rfl, Below.refl _ _, fun i x y h => by omega⟩
  case round =>
    obtain ⟨j, hj, rfl, hb, hz⟩ := hrel
    have HZ : Hid (∀ (i : Nat) (x y : V), i < j → l[i]? = some x → l2[i]? = some y → Vl.same x y = true) := hz
    have HB : Hid (Below w1.heap.size w1 wr) := hb
    have hbw : Below w.heap.size w wr := HB1.out.trans (hb.mono HB1.out.size)
    have HBW : Hid (Below w.heap.size w wr) := hbw
    have a5 : wr.cell? ⟨w.heap.size, 5, none⟩ = some (.slice fo fl fc) := (hb.cell (p := ⟨w.heap.size, 5, none⟩) (by have := HN1.out; simp; omega)).trans HA5.out
    by_cases hlt : j < ll
    · have ha : j < l.length := by rw [← HLL.out.1]; omega
      have hb' : j < l2.length := by rw [← HLL.out.2]; omega
      obtain ⟨g, o, rfl, hg, hr⟩ := H7.out (by omega)
      obtain ⟨g2, o2, rfl, hg2, hr2⟩ := G7.out (by omega)
      obtain ⟨x, hx⟩ : ∃ x, l[j]? = some x := ⟨_, List.getElem?_eq_getElem ha⟩
      obtain ⟨y, hy⟩ : ∃ y, l2[j]? = some y := ⟨_, List.getElem?_eq_getElem hb'⟩
      obtain ⟨c0, c1, c2, c3, c4, c5, ⟨d0, d1, d2, d3, d4, d5⟩, hrx⟩ := repL_at l o (repL_stays (hbw.mono hH) (Nat.le_refl _) hg l o hr) j x hx
      obtain ⟨b0, b1, b2, b3, b4, b5, ⟨e0, e1, e2, e3, e4, e5⟩, hry⟩ := repL_at l2 o2 (repL_stays (hbw.mono hH) (Nat.le_refl _) hg2 l2 o2 hr2) j y hy
      obtain ⟨xk, xb, xn, xs, xa, xl, xc, ya, yl, yc, rfl, rfl, rfl, rfl, rfl, rfl⟩ := rep_form hrx
      obtain ⟨zk, zb, zn, zs, za, zl, zc, ta, tl, tc, rfl, rfl, rfl, rfl, rfl, rfl⟩ := rep_form hry
      have a4 : wr.cell? ⟨w.heap.size, 4, none⟩ = some (.slice (some ⟨g, o, none⟩) ll lc) := (hb.cell (p := ⟨w.heap.size, 4, none⟩) (by have := HN1.out; simp; omega)).trans HA4.out
      have x4 : wr.cell? ⟨w.heap.size + 1, 4, none⟩ = some (.slice (some ⟨g2, o2, none⟩) ll lc2) := (hb.cell (p := ⟨w.heap.size + 1, 4, none⟩) (by have := HN1.out; simp; omega)).trans HE4.out
      obtain ⟨c, hc⟩ : ∃ c, c = Vl.same x y := ⟨_, rfl⟩
      have HC : Hid (c = Vl.same x y) := hc
      have C17 : Hid (∀ W, Below wr.heap.size wr W → Calls Tryz.prog 36 #[.agg #[.int .u8 (xk : Int), .bool xb, .int .i64 xn, .string xs, .slice xa xl xc, .slice ya yl yc], .agg #[.int .u8 (zk : Int), .bool zb, .int .i64 zn, .string zs, .slice za zl zc, .slice ta tl tc]] W fun e w' => e = .returned (.bool c) ∧ Below W.heap.size W w') := fun W hW => by
        rw [hc]
        exact IH.out x (by have := Vl.count_partL (k := k) (b := b) (n := n) (s := s) (f := f) hx; have := HT.out; omega) y W H _ _ (by have := hW.size; have := hbw.size; omega) (rep_stays (hW.mono (by have := hbw.size; omega)) (Nat.le_refl _) x _ hrx) (rep_stays (hW.mono (by have := hbw.size; omega)) (Nat.le_refl _) y _ hry)
      have HX : Hid (l[j]? = some x) := hx
      have HY : Hid (l2[j]? = some y) := hy
      clear hrx hry hr hr2 H7 G7 hx hy hc hb hbw hz ha hb' a5
      go_wp2
      go_region_with (first | (go_at_call 36; refine (C17.out _ (Below.refl _ _).drew).mono ?_; rintro e w3 ⟨rfl, hb3⟩))
      all_goals
        have HB3 : Hid (Below w1.heap.size w1 w3) := HB.out.trans (((Below.refl _ _).drew.trans hb3).mono HB.out.size)
        clear hb3 d0 d1 d2 d3 d4 d5 e0 e1 e2 e3 e4 e5 a4 x4
        by_cases hc0 : c = true
        · subst hc0
          go_wp2
          go_roundw
          case rel =>
            refine ⟨j + 1, by omega, by go_num, HB3.out, fun i x' y' hi hx' hy' => ?_⟩
            by_cases hij : i < j
            · exact HZ.out i x' y' hij hx' hy'
            · have hij' : i = j := by omega
              subst hij'
              have h1 := HX.out
              have h2 := HY.out
              rw [hx'] at h1
              rw [hy'] at h2
              cases h1; cases h2
              exact HC.out.symm
          case measure => simp [intOf]; omega
        · have hc1 : c = false := by simpa using hc0
          subst hc1
          go_wp2
          exact ⟨rfl, _, results_tmp (by rfl) _ _ _, by rw [HR.out, Vl.sameL_no l l2 j x y HX.out HY.out HC.out.symm]; rfl, HB1.out.trans (HB3.out.mono HB1.out.size)⟩
    · have hall : Vl.sameL l l2 = true := by
        refine Vl.sameL_all l l2 (by rw [← HLL.out.1, ← HLL.out.2]) fun i x y hx hy => HZ.out i x y ?_ hx hy
        have h1 := (List.getElem?_eq_some_iff.1 hx).1
        rw [← HLL.out.1] at h1
        omega
      have HR2 : Hid (r = Vl.sameF f f2) := by show _ = _; rw [HR.out, hall, Bool.true_and]
      have hsz := hb.size
      have HNR : Hid (w.heap.size + 2 ≤ wr.heap.size) := by show _ ≤ _; have := HN1.out; omega
      have HX5 : Hid (wr.cell? ⟨w.heap.size + 1, 5, none⟩ = some (.slice fo2 fl fc2)) := (hb.cell (p := ⟨w.heap.size + 1, 5, none⟩) (by have := HN1.out; simp; omega)).trans HE5.out
      have HX6 : Hid (wr.cell? ⟨w.heap.size, 5, none⟩ = some (.slice fo fl fc)) := a5
      clear hall hb hz hbw hsz HN1 HA4 HA5 HE4 HE5 HB1 HB HZ HR H7 G7 HLL
      obtain ⟨w2, rfl⟩ : ∃ w2, w2 = wr := ⟨_, rfl⟩
      go_wp2
      clear a5 hj hlt h5
      go_loopw [73] (fun i wr => ∃ j : Nat, j ≤ fl ∧ i = .int .i64 j ∧ Below w2.heap.size w2 wr ∧ ∀ (i : Nat) (x y : ByteArray × V), i < j → f[i]? = some x → f2[i]? = some y → Vl.same1 x y = true) (fun i _ => fl - (intOf i).toNat)
      case atStart => exact ⟨0, Nat.zero_le _, rfl, Below.refl _ _, fun i x y h => by omega⟩
      case round =>
        obtain ⟨i, hi, rfl, hb, hz⟩ := hrel
        have HZ : Hid (∀ (j : Nat) (x y : ByteArray × V), j < i → f[j]? = some x → f2[j]? = some y → Vl.same1 x y = true) := hz
        have HB : Hid (Below w2.heap.size w2 wr) := hb
        have hbw : Below w.heap.size w wr := HBW.out.trans (hb.mono HBW.out.size)
        have HBR : Hid (Below w.heap.size w wr) := hbw
        by_cases hlt : i < fl
        · have ha : i < f.length := by rw [← HFL.out.1]; omega
          have hb' : i < f2.length := by rw [← HFL.out.2]; omega
          obtain ⟨g, o, rfl, hg, hr⟩ := H8.out (by omega)
          obtain ⟨g2, o2, rfl, hg2, hr2⟩ := G8.out (by omega)
          obtain ⟨⟨ma, x⟩, hx⟩ : ∃ x, f[i]? = some x := ⟨_, List.getElem?_eq_getElem ha⟩
          obtain ⟨⟨mb, y⟩, hy⟩ : ∃ y, f2[i]? = some y := ⟨_, List.getElem?_eq_getElem hb'⟩
          obtain ⟨dm, _, c0, c1, c2, c3, c4, c5, ⟨d0, d1, d2, d3, d4, d5⟩, hrx⟩ := repF_at f o (repF_stays (hbw.mono hH) (Nat.le_refl _) hg f o hr) i ma x hx
          obtain ⟨em, _, b0, b1, b2, b3, b4, b5, ⟨e0, e1, e2, e3, e4, e5⟩, hry⟩ := repF_at f2 o2 (repF_stays (hbw.mono hH) (Nat.le_refl _) hg2 f2 o2 hr2) i mb y hy
          obtain ⟨xk, xb, xn, xs, xa, xl, xc, ya, yl, yc, rfl, rfl, rfl, rfl, rfl, rfl⟩ := rep_form hrx
          obtain ⟨zk, zb, zn, zs, za, zl, zc, ta, tl, tc, rfl, rfl, rfl, rfl, rfl, rfl⟩ := rep_form hry
          rw [show o + i * 7 + 1 + 1 = o + i * 7 + 2 by omega] at d1
          rw [show o + i * 7 + 1 + 2 = o + i * 7 + 3 by omega] at d2
          rw [show o + i * 7 + 1 + 3 = o + i * 7 + 4 by omega] at d3
          rw [show o + i * 7 + 1 + 4 = o + i * 7 + 5 by omega] at d4
          rw [show o + i * 7 + 1 + 5 = o + i * 7 + 6 by omega] at d5
          rw [show o2 + i * 7 + 1 + 1 = o2 + i * 7 + 2 by omega] at e1
          rw [show o2 + i * 7 + 1 + 2 = o2 + i * 7 + 3 by omega] at e2
          rw [show o2 + i * 7 + 1 + 3 = o2 + i * 7 + 4 by omega] at e3
          rw [show o2 + i * 7 + 1 + 4 = o2 + i * 7 + 5 by omega] at e4
          rw [show o2 + i * 7 + 1 + 5 = o2 + i * 7 + 6 by omega] at e5
          have a5 : wr.cell? ⟨w.heap.size, 5, none⟩ = some (.slice (some ⟨g, o, none⟩) fl fc) := (hb.cell (p := ⟨w.heap.size, 5, none⟩) (by have := HNR.out; simp; omega)).trans HX6.out
          have x5 : wr.cell? ⟨w.heap.size + 1, 5, none⟩ = some (.slice (some ⟨g2, o2, none⟩) fl fc2) := (hb.cell (p := ⟨w.heap.size + 1, 5, none⟩) (by have := HNR.out; simp; omega)).trans HX5.out
          obtain ⟨c, hc⟩ : ∃ c, c = Vl.same x y := ⟨_, rfl⟩
          have HC : Hid (c = Vl.same x y) := hc
          have C17 : Hid (∀ W, Below wr.heap.size wr W → Calls Tryz.prog 36 #[.agg #[.int .u8 (xk : Int), .bool xb, .int .i64 xn, .string xs, .slice xa xl xc, .slice ya yl yc], .agg #[.int .u8 (zk : Int), .bool zb, .int .i64 zn, .string zs, .slice za zl zc, .slice ta tl tc]] W fun e w' => e = .returned (.bool c) ∧ Below W.heap.size W w') := fun W hW => by
            rw [hc]
            exact IH.out x (by have := Vl.count_partF (k := k) (b := b) (n := n) (s := s) (l := l) hx; have := HT.out; omega) y W H _ _ (by have := hW.size; have := hbw.size; omega) (rep_stays (hW.mono (by have := hbw.size; omega)) (Nat.le_refl _) x _ hrx) (rep_stays (hW.mono (by have := hbw.size; omega)) (Nat.le_refl _) y _ hry)
          have HX : Hid (f[i]? = some (ma, x)) := hx
          have HY : Hid (f2[i]? = some (mb, y)) := hy
          have F0 : Hid (FR w.heap.size wr wr g o g2 o2 i (.slice (some ⟨g, o, none⟩) fl fc) (.slice (some ⟨g2, o2, none⟩) fl fc2) ma mb (.int .u8 (xk : Int)) (.bool xb) (.int .i64 xn) (.string xs) (.slice xa xl xc) (.slice ya yl yc) (.int .u8 (zk : Int)) (.bool zb) (.int .i64 zn) (.string zs) (.slice za zl zc) (.slice ta tl tc)) := ⟨by have := HNR.out; have := hb.size; have := hbw.size; omega, Below.refl _ _, a5, x5, dm, em, d0, d1, d2, d3, d4, d5, e0, e1, e2, e3, e4, e5⟩
          clear hrx hry hr hr2 H8 G8 hx hy hc hb hbw hz ha hb'
          by_cases hmp : ma = mb
          · subst hmp
            go_wp2
            go_region_held3 (fun W' => W'.cell? ⟨w.heap.size, 5, none⟩ = some (.slice (some ⟨g, o, none⟩) fl fc) ∧ W'.cell? ⟨w.heap.size + 1, 5, none⟩ = some (.slice (some ⟨g2, o2, none⟩) fl fc2) ∧ W'.cell? ⟨g, o + i * 7, none⟩ = some (.string ma) ∧ W'.cell? ⟨g2, o2 + i * 7, none⟩ = some (.string ma) ∧ W'.cell? ⟨g, o + i * 7 + 1, none⟩ = some (.int .u8 (xk : Int)) ∧ W'.cell? ⟨g, o + i * 7 + 2, none⟩ = some (.bool xb) ∧ W'.cell? ⟨g, o + i * 7 + 3, none⟩ = some (.int .i64 xn) ∧ W'.cell? ⟨g, o + i * 7 + 4, none⟩ = some (.string xs) ∧ W'.cell? ⟨g, o + i * 7 + 5, none⟩ = some (.slice xa xl xc) ∧ W'.cell? ⟨g, o + i * 7 + 6, none⟩ = some (.slice ya yl yc) ∧ W'.cell? ⟨g2, o2 + i * 7 + 1, none⟩ = some (.int .u8 (zk : Int)) ∧ W'.cell? ⟨g2, o2 + i * 7 + 2, none⟩ = some (.bool zb) ∧ W'.cell? ⟨g2, o2 + i * 7 + 3, none⟩ = some (.int .i64 zn) ∧ W'.cell? ⟨g2, o2 + i * 7 + 4, none⟩ = some (.string zs) ∧ W'.cell? ⟨g2, o2 + i * 7 + 5, none⟩ = some (.slice za zl zc) ∧ W'.cell? ⟨g2, o2 + i * 7 + 6, none⟩ = some (.slice ta tl tc)) (go_keep) (first
              | (go_at_call 36; refine (C17.out _ ?_).mono ?_; (first | exact (F0.out.call (Below.refl _ _).drew).below | exact F0.out.below); rintro e w3 ⟨rfl, hb3⟩
                 have F0 : Hid (FR w.heap.size wr w3 g o g2 o2 i (.slice (some ⟨g, o, none⟩) fl fc) (.slice (some ⟨g2, o2, none⟩) fl fc2) ma ma (.int .u8 (xk : Int)) (.bool xb) (.int .i64 xn) (.string xs) (.slice xa xl xc) (.slice ya yl yc) (.int .u8 (zk : Int)) (.bool zb) (.int .i64 zn) (.string zs) (.slice za zl zc) (.slice ta tl tc)) := F0.out.call (by first | exact hb3 | exact (Below.refl _ _).drew.trans hb3)
                 clear hb3
                 obtain ⟨_, _, a5, x5, dm, em, d0, d1, d2, d3, d4, d5, e0, e1, e2, e3, e4, e5⟩ := F0.out))
            all_goals
              have HB3 : Hid (Below w2.heap.size w2 _) := HB.out.trans (F0.out.below.mono HB.out.size)
              clear a5 x5 dm em d0 d1 d2 d3 d4 d5 e0 e1 e2 e3 e4 e5 F0
              by_cases hc0 : c = true
              · subst hc0
                go_wp2
                go_roundw
                case rel =>
                  refine ⟨i + 1, by omega, by go_num, HB3.out, fun j x' y' hj hx' hy' => ?_⟩
                  by_cases hij : j < i
                  · exact HZ.out j x' y' hij hx' hy'
                  · have hij' : j = i := by omega
                    subst hij'
                    have h1 := HX.out
                    have h2 := HY.out
                    rw [hx'] at h1
                    rw [hy'] at h2
                    cases h1; cases h2
                    rw [Vl.same1, ← HC.out]
                    simp
                case measure => simp [intOf]; omega
              · have hc1 : c = false := by simpa using hc0
                subst hc1
                go_wp2
                exact ⟨rfl, _, results_tmp (by rfl) _ _ _, by rw [HR2.out, Vl.sameF_no f f2 i _ _ HX.out HY.out (by rw [Vl.same1, ← HC.out]; simp)]; rfl, HBW.out.trans (HB3.out.mono HBW.out.size)⟩
          · have hne := Vl.toList_ne hmp
            have hne2 : (ma.toList == mb.toList) = false := by simpa using hne
            have hne3 : decide (ma.toList = mb.toList) = false := by simpa using hne
            have hne5 : (ma.toList != mb.toList) = true := by simpa using hne
            go_wp2
            go_quiet (fail)
            go_wp2
            exact ⟨rfl, _, results_tmp (by rfl) _ _ _, by rw [HR2.out, Vl.sameF_no f f2 i _ _ HX.out HY.out (by rw [Vl.same1]; simp [hmp])]; rfl, HBR.out.trans ((drawn_below _ _).mono HBR.out.size)⟩
        · have HALL : Hid (Vl.sameF f f2 = true) := by
            refine Vl.sameF_all f f2 (by rw [← HFL.out.1, ← HFL.out.2]) fun j x y hx hy => HZ.out j x y ?_ hx hy
            have h1 := (List.getElem?_eq_some_iff.1 hx).1
            rw [← HFL.out.1] at h1
            omega
          clear hb hz hbw
          go_wp2
          exact ⟨rfl, _, results_tmp (by rfl) _ _ _, by rw [HR2.out, HALL.out]; rfl, HBR.out⟩
end Go.Proofs.YtkigenldiinioaaGreatDoor
