/- The document's Compare, walked at lists. -/
import Derived.Test.YtcgkoogdgagddaaDoorRCmpS
namespace Go.Proofs.YtcgkoogdgagddaaDoor
open Go.RowKit
open Vl (V)
set_option maxHeartbeats 8000000 in
set_option maxRecDepth 100000 in
theorem rcompare20_list (N : Nat) (IH : Hid (∀ (t : V), Vl.count t ≤ N → ∀ (u : V) (w : World) (H : Nat) (va vb : Value), H ≤ w.heap.size → Rep w H t va → Rep w H u vb → Calls Tryd.prog 20 #[va, vb] w fun e w' => e = .returned (.int .i64 (Vl.cmp t u)) ∧ Below w.heap.size w w')) (b : Bool) (n : Int) (s : ByteArray) (l l2 : List V) (f : List (ByteArray × V)) (ao : Option Addr) (ll lc : Nat) (fa : Value) (b2 : Bool) (n2 : Int) (s2 : ByteArray) (ao2 : Option Addr) (ll2 lc2 : Nat) (fa2 : Value) (w : World) (H : Nat) (hH : H ≤ w.heap.size)
    (HT : Hid (Vl.count ⟨5, b, n, s, l, f⟩ ≤ N + 1)) (HLL : Hid (ll = l.length ∧ ll2 = l2.length)) (h5 : ll ≤ 9223372036854775807) (h6 : ll2 ≤ 9223372036854775807)
    (H7 : Hid (0 < l.length → ∃ g o, ao = some ⟨g, o, none⟩ ∧ g < H ∧ RepL w H g o l)) (G7 : Hid (0 < l2.length → ∃ g o, ao2 = some ⟨g, o, none⟩ ∧ g < H ∧ RepL w H g o l2)) :
    Calls Tryd.prog 20 #[.agg #[.int .u8 5, .bool b, .int .i64 n, .string s, .slice ao ll lc, fa], .agg #[.int .u8 5, .bool b2, .int .i64 n2, .string s2, .slice ao2 ll2 lc2, fa2]] w fun e w' => e = .returned (.int .i64 (Vl.cmpL l l2)) ∧ Below w.heap.size w w' := by
  obtain ⟨r, hr⟩ : ∃ r, r = Vl.cmpL l l2 := ⟨_, rfl⟩
  have HR : Hid (r = Vl.cmpL l l2) := hr
  rw [← hr]
  clear hr
  go_enter Tryd.func20, Tryd.ntmps20
  go_wp2
  obtain ⟨w1, hw1⟩ : ∃ w1, w1 = (w.alloc (.cells #[.int .u8 5, .bool b, .int .i64 n, .string s, .slice ao ll lc, fa] 26)).alloc (.cells #[.int .u8 5, .bool b2, .int .i64 n2, .string s2, .slice ao2 ll2 lc2, fa2] 26) := ⟨_, rfl⟩
  have HB1 : Hid (Below w.heap.size w w1) := by show Below _ _ _; rw [hw1]; exact below_new2 _ _ _
  have HA4 : Hid (w1.cell? ⟨w.heap.size, 4, none⟩ = some (.slice ao ll lc)) := by show _ = _; rw [hw1]; exact boxA _ _ _ _ _ _ _ rfl
  have HE4 : Hid (w1.cell? ⟨w.heap.size + 1, 4, none⟩ = some (.slice ao2 ll2 lc2)) := by show _ = _; rw [hw1]; exact boxB _ _ _ _ _ _ _ rfl
  have HN1 : Hid (w1.heap.size = w.heap.size + 2) := by show _ = _; rw [hw1]; simp
  rw [← hw1]
  clear hw1
  go_loopw [5] (fun i wr => ∃ j : Nat, j ≤ ll ∧ j ≤ ll2 ∧ i = .int .i64 j ∧ Below w1.heap.size w1 wr ∧ ∀ (i : Nat) (x y : V), i < j → l[i]? = some x → l2[i]? = some y → Vl.cmp x y = 0) (fun i _ => ll - (intOf i).toNat)
  case atStart => exact ⟨0, Nat.zero_le _, Nat.zero_le _, rfl, Below.refl _ _, fun i x y h => by omega⟩
  case round =>
    obtain ⟨j, hj, hj2, rfl, hb, hz⟩ := hrel
    have HZ : Hid (∀ (i : Nat) (x y : V), i < j → l[i]? = some x → l2[i]? = some y → Vl.cmp x y = 0) := hz
    have HB : Hid (Below w1.heap.size w1 wr) := hb
    have hbw : Below w.heap.size w wr := HB1.out.trans (hb.mono HB1.out.size)
    have HBW : Hid (Below w.heap.size w wr) := hbw
    have a4 : wr.cell? ⟨w.heap.size, 4, none⟩ = some (.slice ao ll lc) := (hb.cell (p := ⟨w.heap.size, 4, none⟩) (by have := HN1.out; simp; omega)).trans HA4.out
    have x4 : wr.cell? ⟨w.heap.size + 1, 4, none⟩ = some (.slice ao2 ll2 lc2) := (hb.cell (p := ⟨w.heap.size + 1, 4, none⟩) (by have := HN1.out; simp; omega)).trans HE4.out
    by_cases hlt : j < ll ∧ j < ll2
    · obtain ⟨hlt1, hlt2⟩ := hlt
      have ha : j < l.length := by rw [← HLL.out.1]; omega
      have hb' : j < l2.length := by rw [← HLL.out.2]; omega
      obtain ⟨g, o, rfl, hg, hr⟩ := H7.out (by omega)
      obtain ⟨g2, o2, rfl, hg2, hr2⟩ := G7.out (by omega)
      obtain ⟨x, hx⟩ : ∃ x, l[j]? = some x := ⟨_, List.getElem?_eq_getElem ha⟩
      obtain ⟨y, hy⟩ : ∃ y, l2[j]? = some y := ⟨_, List.getElem?_eq_getElem hb'⟩
      obtain ⟨c0, c1, c2, c3, c4, c5, ⟨d0, d1, d2, d3, d4, d5⟩, hrx⟩ := repL_at l o (repL_stays (hbw.mono hH) (Nat.le_refl _) hg l o hr) j x hx
      obtain ⟨b0, b1, b2', b3, b4, b5, ⟨e0, e1, e2, e3, e4, e5⟩, hry⟩ := repL_at l2 o2 (repL_stays (hbw.mono hH) (Nat.le_refl _) hg2 l2 o2 hr2) j y hy
      obtain ⟨xk, xb, xn, xs, xa, xl, xc, ya, yl, yc, rfl, rfl, rfl, rfl, rfl, rfl⟩ := rep_form hrx
      obtain ⟨zk, zb, zn, zs, za, zl, zc, ta, tl, tc, rfl, rfl, rfl, rfl, rfl, rfl⟩ := rep_form hry
      obtain ⟨c, hc⟩ : ∃ c, c = Vl.cmp x y := ⟨_, rfl⟩
      have HC : Hid (c = Vl.cmp x y) := hc
      have C20 : Hid (∀ W, Below wr.heap.size wr W → Calls Tryd.prog 20 #[.agg #[.int .u8 (xk : Int), .bool xb, .int .i64 xn, .string xs, .slice xa xl xc, .slice ya yl yc], .agg #[.int .u8 (zk : Int), .bool zb, .int .i64 zn, .string zs, .slice za zl zc, .slice ta tl tc]] W fun e w' => e = .returned (.int .i64 c) ∧ Below W.heap.size W w') := fun W hW => by
        rw [hc]
        exact IH.out x (by have := Vl.count_partL (k := 5) (b := b) (n := n) (s := s) (f := f) hx; have := HT.out; omega) y W H _ _ (by have := hW.size; have := hbw.size; omega) (rep_stays (hW.mono (by have := hbw.size; omega)) (Nat.le_refl _) x _ hrx) (rep_stays (hW.mono (by have := hbw.size; omega)) (Nat.le_refl _) y _ hry)
      have HX : Hid (l[j]? = some x) := hx
      have HY : Hid (l2[j]? = some y) := hy
      have hi1 : (j : Int) < (ll : Int) := by omega
      have hi2 : (j : Int) < (ll2 : Int) := by omega
      clear hrx hry hr hr2 H7 G7 hx hy hc hb hbw hz ha hb'
      go_wp2
      go_region_with (first | (go_at_call 20; refine (C20.out _ (Below.refl _ _).drew).mono ?_; rintro e w3 ⟨rfl, hb3⟩))
      all_goals
        have HB3 : Hid (Below w1.heap.size w1 w3) := HB.out.trans (((Below.refl _ _).drew.trans hb3).mono HB.out.size)
        clear hb3 d0 d1 d2 d3 d4 d5 e0 e1 e2 e3 e4 e5 a4 x4
        by_cases hc0 : c = 0
        · subst hc0
          go_wp2
          go_roundw
          case rel =>
            refine ⟨j + 1, by omega, by omega, by go_num, HB3.out, fun i x' y' hi hx' hy' => ?_⟩
            by_cases hij : i < j
            · exact HZ.out i x' y' hij hx' hy'
            · have hij' : i = j := by omega
              subst hij'
              have h1 := HX.out
              have h2 := HY.out
              rw [hx'] at h1
              rw [hy'] at h2
              cases h1; cases h2
              exact HC.out.symm
          case measure => simp [intOf]; omega
        · have hcb : (c == 0) = false := by simp [hc0]
          have HNE : Hid (Vl.cmp x y ≠ 0) := fun h => hc0 (HC.out.trans h)
          clear hc0
          go_wp2
          exact ⟨rfl, _, results_tmp (by rfl) _ _ _, by rw [HR.out, Vl.cmpL_prefix l l2 j x y HZ.out HX.out HY.out HNE.out, ← HC.out]; rfl, HB1.out.trans (HB3.out.mono HB1.out.size)⟩
    · have hall : Vl.cmpL l l2 = Lib.compareInt (ll : Int) (ll2 : Int) := by
        rw [HLL.out.1, HLL.out.2]
        refine Vl.cmpL_all l l2 fun i x y hx hy => HZ.out i x y ?_ hx hy
        have h1 := (List.getElem?_eq_some_iff.1 hx).1
        have h2 := (List.getElem?_eq_some_iff.1 hy).1
        rw [← HLL.out.1] at h1
        rw [← HLL.out.2] at h2
        omega
      have HR2 : Hid (r = Lib.compareInt (ll : Int) (ll2 : Int)) := by show _ = _; rw [HR.out, hall]
      clear hall hb hz hbw HZ HB HR H7 G7
      rcases Nat.lt_trichotomy ll ll2 with h | h | h
      · have hm : j = ll := by omega
        subst hm
        have e : r = -1 := by rw [HR2.out]; unfold Lib.compareInt; rw [if_pos (by omega)]
        have i1 : (j : Int) < (ll2 : Int) := by omega
        have i2 : ¬ (ll2 : Int) < (j : Int) := by omega
        subst e
        clear hlt HR2
        go_wp2_with (go_at_call 43; refine (rorder43 true false _).mono ?_; rintro e w' ⟨rfl, rfl⟩)
        exact ⟨rfl, _, results_tmp (by rfl) _ _ _, rfl, HBW.out⟩
      · subst h
        have hm : j = ll := by omega
        subst hm
        have e : r = 0 := by rw [HR2.out]; unfold Lib.compareInt; rw [if_neg (by omega), if_neg (by omega)]
        subst e
        clear hlt HR2
        go_wp2_with (go_at_call 43; refine (rorder43 false false _).mono ?_; rintro e w' ⟨rfl, rfl⟩)
        exact ⟨rfl, _, results_tmp (by rfl) _ _ _, rfl, HBW.out⟩
      · have hm : j = ll2 := by omega
        subst hm
        have e : r = 1 := by rw [HR2.out]; unfold Lib.compareInt; rw [if_neg (by omega), if_pos (by omega)]
        have i1 : (j : Int) < (ll : Int) := by omega
        have i2 : ¬ (ll : Int) < (j : Int) := by omega
        subst e
        clear hlt HR2
        go_wp2_with (go_at_call 43; refine (rorder43 false true _).mono ?_; rintro e w' ⟨rfl, rfl⟩)
        exact ⟨rfl, _, results_tmp (by rfl) _ _ _, rfl, HBW.out⟩
end Go.Proofs.YtcgkoogdgagddaaDoor
