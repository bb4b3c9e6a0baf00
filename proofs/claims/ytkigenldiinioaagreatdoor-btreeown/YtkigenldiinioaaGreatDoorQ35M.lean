/- Several texts, joined: RCmp, RCmpS, RCmpL, RCmpF -/
import Derived.Test.YtkigenldiinioaaGreatDoorQ26M
import Derived.Test.YtkigenldiinioaaGreatDoorQ05M
import Derived.Laws.Cover1
import Derived.Test.YtkigenldiinioaaGreatDoorQ08M
/- The document's Compare, walked at values of two kinds, and of one without parts. -/
namespace Go.Proofs.YtkigenldiinioaaGreatDoor
open Go.RowKit
open Vl (V)
set_option maxHeartbeats 4000000 in
set_option maxRecDepth 100000 in
theorem rorder43 (x y : Bool) (w : World) : Calls Tryz.prog 38 #[.bool x, .bool y] w fun e w' => e = .returned (.int .i64 (if x then -1 else if y then 1 else 0)) ∧ w' = w := by
  cases x <;> cases y
  all_goals
    go_enter Tryz.func38, Tryz.ntmps38
    go_wp2
    go_ret
    exact ⟨rfl, rfl⟩
set_option maxHeartbeats 4000000 in
set_option maxRecDepth 100000 in
theorem rcompare20_kinds (k : Nat) (b : Bool) (n : Int) (s : ByteArray) (la fa : Value) (k2 : Nat) (b2 : Bool) (n2 : Int) (s2 : ByteArray) (la2 fa2 : Value) (w : World) (hk : k ≠ k2) :
    Calls Tryz.prog 21 #[.agg #[.int .u8 (k : Int), .bool b, .int .i64 n, .string s, la, fa], .agg #[.int .u8 (k2 : Int), .bool b2, .int .i64 n2, .string s2, la2, fa2]] w fun e w' => e = .returned (.int .i64 (Lib.compareInt k k2)) ∧ Below w.heap.size w w' := by
  have h0 : ((k : Int) == (k2 : Int)) = false := by simp; omega
  by_cases h1 : (k : Int) < (k2 : Int)
  · have e : Lib.compareInt (k : Int) (k2 : Int) = -1 := by unfold Lib.compareInt; rw [if_pos h1]
    have h2 : ¬ (k2 : Int) < (k : Int) := by omega
    rw [e]
    clear hk e
    go_enter Tryz.func21, Tryz.ntmps21
    go_wp2_with (go_at_call 38; refine (rorder43 true false _).mono ?_; rintro e w' ⟨rfl, rfl⟩)
    go_ret
    exact ⟨rfl, below_new2 _ _ _⟩
  · have h2 : (k2 : Int) < (k : Int) := by omega
    have e : Lib.compareInt (k : Int) (k2 : Int) = 1 := by unfold Lib.compareInt; rw [if_neg h1, if_pos h2]
    rw [e]
    clear hk e
    go_enter Tryz.func21, Tryz.ntmps21
    go_wp2_with (go_at_call 38; refine (rorder43 false true _).mono ?_; rintro e w' ⟨rfl, rfl⟩)
    go_ret
    exact ⟨rfl, below_new2 _ _ _⟩
set_option maxHeartbeats 4000000 in
set_option maxRecDepth 100000 in
theorem rcompare20_int (b : Bool) (n : Int) (s : ByteArray) (la fa : Value) (b2 : Bool) (n2 : Int) (s2 : ByteArray) (la2 fa2 : Value) (w : World) :
    Calls Tryz.prog 21 #[.agg #[.int .u8 2, .bool b, .int .i64 n, .string s, la, fa], .agg #[.int .u8 2, .bool b2, .int .i64 n2, .string s2, la2, fa2]] w fun e w' => e = .returned (.int .i64 (Lib.compareInt n n2)) ∧ Below w.heap.size w w' := by
  by_cases h1 : n < n2
  · have e : Lib.compareInt n n2 = -1 := by unfold Lib.compareInt; rw [if_pos h1]
    have h2 : ¬ n2 < n := by omega
    rw [e]
    clear e
    go_enter Tryz.func21, Tryz.ntmps21
    go_wp2_with (go_at_call 38; refine (rorder43 true false _).mono ?_; rintro e w' ⟨rfl, rfl⟩)
    go_ret
    exact ⟨rfl, below_new2 _ _ _⟩
  · by_cases h2 : n2 < n
    · have e : Lib.compareInt n n2 = 1 := by unfold Lib.compareInt; rw [if_neg h1, if_pos h2]
      rw [e]
      clear e
      go_enter Tryz.func21, Tryz.ntmps21
      go_wp2_with (go_at_call 38; refine (rorder43 false true _).mono ?_; rintro e w' ⟨rfl, rfl⟩)
      go_ret
      exact ⟨rfl, below_new2 _ _ _⟩
    · have e : Lib.compareInt n n2 = 0 := by unfold Lib.compareInt; rw [if_neg h1, if_neg h2]
      rw [e]
      clear e
      go_enter Tryz.func21, Tryz.ntmps21
      go_wp2_with (go_at_call 38; refine (rorder43 false false _).mono ?_; rintro e w' ⟨rfl, rfl⟩)
      go_ret
      exact ⟨rfl, below_new2 _ _ _⟩
set_option maxHeartbeats 4000000 in
set_option maxRecDepth 100000 in
theorem rcompare20_bool (b : Bool) (n : Int) (s : ByteArray) (la fa : Value) (b2 : Bool) (n2 : Int) (s2 : ByteArray) (la2 fa2 : Value) (w : World) :
    Calls Tryz.prog 21 #[.agg #[.int .u8 1, .bool b, .int .i64 n, .string s, la, fa], .agg #[.int .u8 1, .bool b2, .int .i64 n2, .string s2, la2, fa2]] w fun e w' => e = .returned (.int .i64 (Vl.cmpBool b b2)) ∧ Below w.heap.size w w' := by
  cases b <;> cases b2
  all_goals
    go_enter Tryz.func21, Tryz.ntmps21
    go_wp2_with (go_at_call 38; refine (rorder43 _ _ _).mono ?_; rintro e w' ⟨rfl, rfl⟩)
    go_ret
    exact ⟨rfl, below_new2 _ _ _⟩
set_option maxHeartbeats 4000000 in
set_option maxRecDepth 100000 in
theorem rcompare20_else (k : Nat) (h1 : k ≠ 1) (h2 : k ≠ 2) (h3 : k ≠ 3) (h4 : k ≠ 4) (h5 : k ≠ 5) (h6 : k ≠ 6) (b : Bool) (n : Int) (s : ByteArray) (la fa : Value) (b2 : Bool) (n2 : Int) (s2 : ByteArray) (la2 fa2 : Value) (w : World) :
    Calls Tryz.prog 21 #[.agg #[.int .u8 (k : Int), .bool b, .int .i64 n, .string s, la, fa], .agg #[.int .u8 (k : Int), .bool b2, .int .i64 n2, .string s2, la2, fa2]] w fun e w' => e = .returned (.int .i64 0) ∧ Below w.heap.size w w' := by
  have e1 : ((k : Int) == 1) = false := by simp; omega
  have e2 : ((k : Int) == 2) = false := by simp; omega
  have e3 : ((k : Int) == 3) = false := by simp; omega
  have e4 : ((k : Int) == 4) = false := by simp; omega
  have e5 : ((k : Int) == 5) = false := by simp; omega
  have e6 : ((k : Int) == 6) = false := by simp; omega
  clear h1 h2 h3 h4 h5 h6
  go_enter Tryz.func21, Tryz.ntmps21
  go_wp2
  go_ret
  exact ⟨rfl, below_new2 _ _ _⟩
end Go.Proofs.YtkigenldiinioaaGreatDoor
/- The document's Compare, walked at texts. -/
namespace Go.Proofs.YtkigenldiinioaaGreatDoor
open Go.RowKit
open Vl (V)
namespace Vl
theorem bytes_lt : ∀ a b : List UInt8, Op.bytesLess a b = decide (Lib.compareBytes a b < 0)
  | [], [] => by simp [Op.bytesLess, Lib.compareBytes]
  | [], _ :: _ => by simp [Op.bytesLess, Lib.compareBytes]
  | _ :: _, [] => by simp [Op.bytesLess, Lib.compareBytes]
  | x :: r, y :: q => by
    have ih := bytes_lt r q
    rw [Lib.compareBytes, Op.bytesLess]
    by_cases h1 : x < y
    · simp [h1]
    · by_cases h2 : y < x
      · have h3 : ¬ x = y := fun e => by subst e; exact h1 h2
        simp [h1, h2, h3]
      · have e : x = y := UInt8.le_antisymm (UInt8.not_lt.1 h2) (UInt8.not_lt.1 h1)
        subst e
        simp [h1, ih]
theorem str_lt (m p : ByteArray) : Op.bytesLess m.toList p.toList = decide (cmpS m p < 0) := by
  rw [Go.ByteArray.toList_eq, Go.ByteArray.toList_eq, bytes_lt]; rfl
theorem cmpS_way (m p : ByteArray) : cmpS m p = -1 ∨ cmpS m p = 0 ∨ cmpS m p = 1 := by
  unfold cmpS
  generalize m.data.toList = a
  generalize p.data.toList = b
  induction a generalizing b with
  | nil => cases b <;> simp [Lib.compareBytes]
  | cons x r ih =>
    cases b with
    | nil => simp [Lib.compareBytes]
    | cons y q =>
      rw [Lib.compareBytes]
      by_cases h1 : x < y
      · simp [h1]
      · by_cases h2 : y < x
        · simp [h1, h2]
        · simp only [h1, h2, if_false]
          exact ih q
end Vl
set_option maxHeartbeats 4000000 in
set_option maxRecDepth 100000 in
theorem rcompare20_text (k : Nat) (hk : k = 3 ∨ k = 4) (b : Bool) (n : Int) (s : ByteArray) (la fa : Value) (b2 : Bool) (n2 : Int) (s2 : ByteArray) (la2 fa2 : Value) (w : World) :
    Calls Tryz.prog 21 #[.agg #[.int .u8 (k : Int), .bool b, .int .i64 n, .string s, la, fa], .agg #[.int .u8 (k : Int), .bool b2, .int .i64 n2, .string s2, la2, fa2]] w fun e w' => e = .returned (.int .i64 (Vl.cmpS s s2)) ∧ Below w.heap.size w w' := by
  have hlt := Vl.str_lt s s2
  have hle := Vl.str_le s s2
  rcases Vl.cmpS_way s s2 with h | h | h
  · rw [h] at hlt hle ⊢
    have e1 : Op.bytesLess s.toList s2.toList = true := by rw [hlt]; rfl
    have e2 : (Op.bytesLess s.toList s2.toList || s.toList == s2.toList) = true := by rw [hle]; rfl
    clear hlt hle h
    rcases hk with rfl | rfl
    all_goals
      go_enter Tryz.func21, Tryz.ntmps21
      go_wp2_with (go_at_call 38; refine (rorder43 true false _).mono ?_; rintro e w' ⟨rfl, rfl⟩)
      go_ret
      exact ⟨rfl, below_new2 _ _ _⟩
  · rw [h] at hlt hle ⊢
    have e1 : Op.bytesLess s.toList s2.toList = false := by rw [hlt]; rfl
    have e2 : (s.toList == s2.toList) = true := by rw [e1, Bool.false_or] at hle; rw [hle]; rfl
    clear hlt hle h
    rcases hk with rfl | rfl
    all_goals
      go_enter Tryz.func21, Tryz.ntmps21
      go_wp2_with (go_at_call 38; refine (rorder43 false false _).mono ?_; rintro e w' ⟨rfl, rfl⟩)
      go_ret
      exact ⟨rfl, below_new2 _ _ _⟩
  · rw [h] at hlt hle ⊢
    have e1 : Op.bytesLess s.toList s2.toList = false := by rw [hlt]; rfl
    have e2 : (s.toList == s2.toList) = false := by rw [e1, Bool.false_or] at hle; rw [hle]; rfl
    clear hlt hle h
    rcases hk with rfl | rfl
    all_goals
      go_enter Tryz.func21, Tryz.ntmps21
      go_wp2_with (go_at_call 38; refine (rorder43 false true _).mono ?_; rintro e w' ⟨rfl, rfl⟩)
      go_ret
      exact ⟨rfl, below_new2 _ _ _⟩
end Go.Proofs.YtkigenldiinioaaGreatDoor
/- The document's Compare, walked at lists. -/
namespace Go.Proofs.YtkigenldiinioaaGreatDoor
open Go.RowKit
open Vl (V)
set_option maxHeartbeats 8000000 in
set_option maxRecDepth 100000 in
theorem rcompare20_list (N : Nat) (IH : Hid (∀ (t : V), Vl.count t ≤ N → ∀ (u : V) (w : World) (H : Nat) (va vb : Value), H ≤ w.heap.size → Rep w H t va → Rep w H u vb → Calls Tryz.prog 21 #[va, vb] w fun e w' => e = .returned (.int .i64 (Vl.cmp t u)) ∧ Below w.heap.size w w')) (b : Bool) (n : Int) (s : ByteArray) (l l2 : List V) (f : List (ByteArray × V)) (ao : Option Addr) (ll lc : Nat) (fa : Value) (b2 : Bool) (n2 : Int) (s2 : ByteArray) (ao2 : Option Addr) (ll2 lc2 : Nat) (fa2 : Value) (w : World) (H : Nat) (hH : H ≤ w.heap.size)
    (HT : Hid (Vl.count ⟨5, b, n, s, l, f⟩ ≤ N + 1)) (HLL : Hid (ll = l.length ∧ ll2 = l2.length)) (h5 : ll ≤ 9223372036854775807) (h6 : ll2 ≤ 9223372036854775807)
    (H7 : Hid (0 < l.length → ∃ g o, ao = some ⟨g, o, none⟩ ∧ g < H ∧ RepL w H g o l)) (G7 : Hid (0 < l2.length → ∃ g o, ao2 = some ⟨g, o, none⟩ ∧ g < H ∧ RepL w H g o l2)) :
    Calls Tryz.prog 21 #[.agg #[.int .u8 5, .bool b, .int .i64 n, .string s, .slice ao ll lc, fa], .agg #[.int .u8 5, .bool b2, .int .i64 n2, .string s2, .slice ao2 ll2 lc2, fa2]] w fun e w' => e = .returned (.int .i64 (Vl.cmpL l l2)) ∧ Below w.heap.size w w' := by
  obtain ⟨r, hr⟩ : ∃ r, r = Vl.cmpL l l2 := ⟨_, rfl⟩
  have HR : Hid (r = Vl.cmpL l l2) := hr
  rw [← hr]
  clear hr
  go_enter Tryz.func21, Tryz.ntmps21
  go_wp2
  obtain ⟨w1, hw1⟩ : ∃ w1, w1 = (w.alloc (.cells #[.int .u8 5, .bool b, .int .i64 n, .string s, .slice ao ll lc, fa] 27)).alloc (.cells #[.int .u8 5, .bool b2, .int .i64 n2, .string s2, .slice ao2 ll2 lc2, fa2] 27) := ⟨_, rfl⟩
  have HB1 : Hid (Below w.heap.size w w1) := by show Below _ _ _; rw [hw1]; exact below_new2 _ _ _
  have HA4 : Hid (w1.cell? ⟨w.heap.size, 4, none⟩ = some (.slice ao ll lc)) := by show _ = _; rw [hw1]; exact boxA _ _ _ _ _ _ _ rfl
  have HE4 : Hid (w1.cell? ⟨w.heap.size + 1, 4, none⟩ = some (.slice ao2 ll2 lc2)) := by show _ = _; rw [hw1]; exact boxB _ _ _ _ _ _ _ rfl
  have HN1 : Hid (w1.heap.size = w.heap.size + 2) := by show _ = _; rw [hw1]; simp
  rw [← hw1]
  clear hw1
  go_loopw [5] (fun i wr => ∃ j : Nat, j ≤ ll ∧ j ≤ ll2 ∧ i = .int .i64 j ∧ Below w1.heap.size w1 wr ∧ ∀ (i : Nat) (x y : V), i < j → l[i]? = some x → l2[i]? = some y → Vl.cmp x y = 0) (fun i _ => ll - (intOf i).toNat)
  case atStart => exact ⟨0, Nat.zero_le _, Nat.zero_le _, rfl, Below.refl _ _, fun i x y h => by omega⟩
  case round =>
    obtain ⟨j, hj, hj2, rfl, hb, hz⟩ := hrel
    have HZ : Hid (∀ (i : Nat) (x y : V), i < j → l[i]? = some x → l2[i]? = some y → Vl.cmp x y = 0) := hz
    have HB : Hid (Below w1.heap.size w1 wr) := hb
    have hbw : Below w.heap.size w wr := HB1.out.trans (hb.mono HB1.out.size)
    have HBW : Hid (Below w.heap.size w wr) := hbw
    have a4 : wr.cell? ⟨w.heap.size, 4, none⟩ = some (.slice ao ll lc) := (hb.cell (p := ⟨w.heap.size, 4, none⟩) (by have := HN1.out; simp; omega)).trans HA4.out
    have x4 : wr.cell? ⟨w.heap.size + 1, 4, none⟩ = some (.slice ao2 ll2 lc2) := (hb.cell (p := ⟨w.heap.size + 1, 4, none⟩) (by have := HN1.out; simp; omega)).trans HE4.out
    by_cases hlt : j < ll ∧ j < ll2
    · obtain ⟨hlt1, hlt2⟩ := hlt
      have ha : j < l.length := by rw [← HLL.out.1]; omega
      have hb' : j < l2.length := by rw [← HLL.out.2]; omega
      obtain ⟨g, o, rfl, hg, hr⟩ := H7.out (by omega)
      obtain ⟨g2, o2, rfl, hg2, hr2⟩ := G7.out (by omega)
      obtain ⟨x, hx⟩ : ∃ x, l[j]? = some x := ⟨_, List.getElem?_eq_getElem ha⟩
      obtain ⟨y, hy⟩ : ∃ y, l2[j]? = some y := ⟨_, List.getElem?_eq_getElem hb'⟩
      obtain ⟨c0, c1, c2, c3, c4, c5, ⟨d0, d1, d2, d3, d4, d5⟩, hrx⟩ := repL_at l o (repL_stays (hbw.mono hH) (Nat.le_refl _) hg l o hr) j x hx
      obtain ⟨b0, b1, b2', b3, b4, b5, ⟨e0, e1, e2, e3, e4, e5⟩, hry⟩ := repL_at l2 o2 (repL_stays (hbw.mono hH) (Nat.le_refl _) hg2 l2 o2 hr2) j y hy
      obtain ⟨xk, xb, xn, xs, xa, xl, xc, ya, yl, yc, rfl, rfl, rfl, rfl, rfl, rfl⟩ := rep_form hrx
      obtain ⟨zk, zb, zn, zs, za, zl, zc, ta, tl, tc, rfl, rfl, rfl, rfl, rfl, rfl⟩ := rep_form hry
      obtain ⟨c, hc⟩ : ∃ c, c = Vl.cmp x y := ⟨_, rfl⟩
      have HC : Hid (c = Vl.cmp x y) := hc
      have C20 : Hid (∀ W, Below wr.heap.size wr W → Calls Tryz.prog 21 #[.agg #[.int .u8 (xk : Int), .bool xb, .int .i64 xn, .string xs, .slice xa xl xc, .slice ya yl yc], .agg #[.int .u8 (zk : Int), .bool zb, .int .i64 zn, .string zs, .slice za zl zc, .slice ta tl tc]] W fun e w' => e = .returned (.int .i64 c) ∧ Below W.heap.size W w') := fun W hW => by
        rw [hc]
        exact IH.out x (by have := Vl.count_partL (k := 5) (b := b) (n := n) (s := s) (f := f) hx; have := HT.out; omega) y W H _ _ (by have := hW.size; have := hbw.size; omega) (rep_stays (hW.mono (by have := hbw.size; omega)) (Nat.le_refl _) x _ hrx) (rep_stays (hW.mono (by have := hbw.size; omega)) (Nat.le_refl _) y _ hry)
      have HX : Hid (l[j]? = some x) := hx
      have HY : Hid (l2[j]? = some y) := hy
      have hi1 : (j : Int) < (ll : Int) := by omega
      have hi2 : (j : Int) < (ll2 : Int) := by omega
      clear hrx hry hr hr2 H7 G7 hx hy hc hb hbw hz ha hb'
      go_wp2
      go_region_with (first | (go_at_call 21; refine (C20.out _ (Below.refl _ _).drew).mono ?_; rintro e w3 ⟨rfl, hb3⟩))
      all_goals
        have HB3 : Hid (Below w1.heap.size w1 w3) := HB.out.trans (((Below.refl _ _).drew.trans hb3).mono HB.out.size)
        clear hb3 d0 d1 d2 d3 d4 d5 e0 e1 e2 e3 e4 e5 a4 x4
        by_cases hc0 : c = 0
        · subst hc0
          go_wp2
          go_roundw
          case rel =>
            refine ⟨j + 1, by omega, by omega, by go_num, HB3.out, fun i x' y' hi hx' hy' => ?_⟩
            by_cases hij : i < j
            · exact HZ.out i x' y' hij hx' hy'
            · have hij' : i = j := by omega
              subst hij'
              have h1 := HX.out
              have h2 := HY.out
              rw [hx'] at h1
              rw [hy'] at h2
              cases h1; cases h2
              exact HC.out.symm
          case measure => simp [intOf]; omega
        · have hcb : (c == 0) = false := by simp [hc0]
          have HNE : Hid (Vl.cmp x y ≠ 0) := fun h => hc0 (HC.out.trans h)
          clear hc0
          go_wp2
          exact ⟨rfl, _, results_tmp (by rfl) _ _ _, by rw [HR.out, Vl.cmpL_prefix l l2 j x y HZ.out HX.out HY.out HNE.out, ← HC.out]; rfl, HB1.out.trans (HB3.out.mono HB1.out.size)⟩
    · have hall : Vl.cmpL l l2 = Lib.compareInt (ll : Int) (ll2 : Int) := by
        rw [HLL.out.1, HLL.out.2]
        refine Vl.cmpL_all l l2 fun i x y hx hy => HZ.out i x y ?_ hx hy
        have h1 := (List.getElem?_eq_some_iff.1 hx).1
        have h2 := (List.getElem?_eq_some_iff.1 hy).1
        rw [← HLL.out.1] at h1
        rw [← HLL.out.2] at h2
        omega
      have HR2 : Hid (r = Lib.compareInt (ll : Int) (ll2 : Int)) := by show _ = _; rw [HR.out, hall]
      clear hall hb hz hbw HZ HB HR H7 G7
      rcases Nat.lt_trichotomy ll ll2 with h | h | h
      · have hm : j = ll := by omega
        subst hm
        have e : r = -1 := by rw [HR2.out]; unfold Lib.compareInt; rw [if_pos (by omega)]
        have i1 : (j : Int) < (ll2 : Int) := by omega
        have i2 : ¬ (ll2 : Int) < (j : Int) := by omega
        subst e
        clear hlt HR2
        go_wp2_with (go_at_call 38; refine (rorder43 true false _).mono ?_; rintro e w' ⟨rfl, rfl⟩)
        exact ⟨rfl, _, results_tmp (by rfl) _ _ _, rfl, HBW.out⟩
      · subst h
        have hm : j = ll := by omega
        subst hm
        have e : r = 0 := by rw [HR2.out]; unfold Lib.compareInt; rw [if_neg (by omega), if_neg (by omega)]
        subst e
        clear hlt HR2
        go_wp2_with (go_at_call 38; refine (rorder43 false false _).mono ?_; rintro e w' ⟨rfl, rfl⟩)
        exact ⟨rfl, _, results_tmp (by rfl) _ _ _, rfl, HBW.out⟩
      · have hm : j = ll2 := by omega
        subst hm
        have e : r = 1 := by rw [HR2.out]; unfold Lib.compareInt; rw [if_neg (by omega), if_pos (by omega)]
        have i1 : (j : Int) < (ll : Int) := by omega
        have i2 : ¬ (ll : Int) < (j : Int) := by omega
        subst e
        clear hlt HR2
        go_wp2_with (go_at_call 38; refine (rorder43 false true _).mono ?_; rintro e w' ⟨rfl, rfl⟩)
        exact ⟨rfl, _, results_tmp (by rfl) _ _ _, rfl, HBW.out⟩
end Go.Proofs.YtkigenldiinioaaGreatDoor
/- The document's Compare, walked at structs. -/
namespace Go.Proofs.YtkigenldiinioaaGreatDoor
open Go.RowKit
open Vl (V)
set_option maxHeartbeats 8000000 in
set_option maxRecDepth 100000 in
theorem rcompare20_struct (N : Nat) (IH : Hid (∀ (t : V), Vl.count t ≤ N → ∀ (u : V) (w : World) (H : Nat) (va vb : Value), H ≤ w.heap.size → Rep w H t va → Rep w H u vb → Calls Tryz.prog 21 #[va, vb] w fun e w' => e = .returned (.int .i64 (Vl.cmp t u)) ∧ Below w.heap.size w w')) (b : Bool) (n : Int) (s : ByteArray) (l : List V) (f f2 : List (ByteArray × V)) (la : Value) (ao : Option Addr) (ll lc : Nat) (b2 : Bool) (n2 : Int) (s2 : ByteArray) (la2 : Value) (ao2 : Option Addr) (ll2 lc2 : Nat) (w : World) (H : Nat) (hH : H ≤ w.heap.size)
    (HT : Hid (Vl.count ⟨6, b, n, s, l, f⟩ ≤ N + 1)) (HLL : Hid (ll = f.length ∧ ll2 = f2.length)) (h5 : ll ≤ 9223372036854775807) (h6 : ll2 ≤ 9223372036854775807)
    (H7 : Hid (0 < f.length → ∃ g o, ao = some ⟨g, o, none⟩ ∧ g < H ∧ RepF w H g o f)) (G7 : Hid (0 < f2.length → ∃ g o, ao2 = some ⟨g, o, none⟩ ∧ g < H ∧ RepF w H g o f2)) :
    Calls Tryz.prog 21 #[.agg #[.int .u8 6, .bool b, .int .i64 n, .string s, la, .slice ao ll lc], .agg #[.int .u8 6, .bool b2, .int .i64 n2, .string s2, la2, .slice ao2 ll2 lc2]] w fun e w' => e = .returned (.int .i64 (Vl.cmpF f f2)) ∧ Below w.heap.size w w' := by
  obtain ⟨r, hr⟩ : ∃ r, r = Vl.cmpF f f2 := ⟨_, rfl⟩
  have HR : Hid (r = Vl.cmpF f f2) := hr
  rw [← hr]
  clear hr
  go_enter Tryz.func21, Tryz.ntmps21
  go_wp2
  obtain ⟨w1, hw1⟩ : ∃ w1, w1 = (w.alloc (.cells #[.int .u8 6, .bool b, .int .i64 n, .string s, la, .slice ao ll lc] 27)).alloc (.cells #[.int .u8 6, .bool b2, .int .i64 n2, .string s2, la2, .slice ao2 ll2 lc2] 27) := ⟨_, rfl⟩
  have HB1 : Hid (Below w.heap.size w w1) := by show Below _ _ _; rw [hw1]; exact below_new2 _ _ _
  have HA4 : Hid (w1.cell? ⟨w.heap.size, 5, none⟩ = some (.slice ao ll lc)) := by show _ = _; rw [hw1]; exact boxA _ _ _ _ _ _ _ rfl
  have HE4 : Hid (w1.cell? ⟨w.heap.size + 1, 5, none⟩ = some (.slice ao2 ll2 lc2)) := by show _ = _; rw [hw1]; exact boxB _ _ _ _ _ _ _ rfl
  have HN1 : Hid (w1.heap.size = w.heap.size + 2) := by show _ = _; rw [hw1]; simp
  rw [← hw1]
  clear hw1
  go_loopw [7] (fun i wr => ∃ j : Nat, j ≤ ll ∧ j ≤ ll2 ∧ i = .int .i64 j ∧ Below w1.heap.size w1 wr ∧ ∀ (i : Nat) (x y : ByteArray × V), i < j → f[i]? = some x → f2[i]? = some y → Vl.cmp1 x y = 0) (fun i _ => ll - (intOf i).toNat)
  case atStart => exact ⟨0, Nat.zero_le _, Nat.zero_le _, rfl, Below.refl _ _, fun i x y h => by omega⟩
  case round =>
    obtain ⟨j, hj, hj2, rfl, hb, hz⟩ := hrel
    have HZ : Hid (∀ (i : Nat) (x y : ByteArray × V), i < j → f[i]? = some x → f2[i]? = some y → Vl.cmp1 x y = 0) := hz
    have HB : Hid (Below w1.heap.size w1 wr) := hb
    have hbw : Below w.heap.size w wr := HB1.out.trans (hb.mono HB1.out.size)
    have HBW : Hid (Below w.heap.size w wr) := hbw
    have HNR : Hid (w.heap.size + 2 ≤ wr.heap.size) := by show _ ≤ _; have := HN1.out; have := hb.size; omega
    have a4 : wr.cell? ⟨w.heap.size, 5, none⟩ = some (.slice ao ll lc) := (hb.cell (p := ⟨w.heap.size, 5, none⟩) (by have := HN1.out; simp; omega)).trans HA4.out
    have x4 : wr.cell? ⟨w.heap.size + 1, 5, none⟩ = some (.slice ao2 ll2 lc2) := (hb.cell (p := ⟨w.heap.size + 1, 5, none⟩) (by have := HN1.out; simp; omega)).trans HE4.out
    by_cases hlt : j < ll ∧ j < ll2
    · obtain ⟨hlt1, hlt2⟩ := hlt
      have ha : j < f.length := by rw [← HLL.out.1]; omega
      have hb' : j < f2.length := by rw [← HLL.out.2]; omega
      obtain ⟨g, o, rfl, hg, hr⟩ := H7.out (by omega)
      obtain ⟨g2, o2, rfl, hg2, hr2⟩ := G7.out (by omega)
      obtain ⟨⟨ma, x⟩, hx⟩ : ∃ x, f[j]? = some x := ⟨_, List.getElem?_eq_getElem ha⟩
      obtain ⟨⟨mb, y⟩, hy⟩ : ∃ y, f2[j]? = some y := ⟨_, List.getElem?_eq_getElem hb'⟩
      obtain ⟨dm, _, c0, c1, c2, c3, c4, c5, ⟨d0, d1, d2, d3, d4, d5⟩, hrx⟩ := repF_at f o (repF_stays (hbw.mono hH) (Nat.le_refl _) hg f o hr) j ma x hx
      obtain ⟨em, _, b0, b1, b2', b3, b4, b5, ⟨e0, e1, e2, e3, e4, e5⟩, hry⟩ := repF_at f2 o2 (repF_stays (hbw.mono hH) (Nat.le_refl _) hg2 f2 o2 hr2) j mb y hy
      obtain ⟨xk, xb, xn, xs, xa, xl, xc, ya, yl, yc, rfl, rfl, rfl, rfl, rfl, rfl⟩ := rep_form hrx
      obtain ⟨zk, zb, zn, zs, za, zl, zc, ta, tl, tc, rfl, rfl, rfl, rfl, rfl, rfl⟩ := rep_form hry
      rw [show o + j * 7 + 1 + 1 = o + j * 7 + 2 by omega] at d1
      rw [show o + j * 7 + 1 + 2 = o + j * 7 + 3 by omega] at d2
      rw [show o + j * 7 + 1 + 3 = o + j * 7 + 4 by omega] at d3
      rw [show o + j * 7 + 1 + 4 = o + j * 7 + 5 by omega] at d4
      rw [show o + j * 7 + 1 + 5 = o + j * 7 + 6 by omega] at d5
      rw [show o2 + j * 7 + 1 + 1 = o2 + j * 7 + 2 by omega] at e1
      rw [show o2 + j * 7 + 1 + 2 = o2 + j * 7 + 3 by omega] at e2
      rw [show o2 + j * 7 + 1 + 3 = o2 + j * 7 + 4 by omega] at e3
      rw [show o2 + j * 7 + 1 + 4 = o2 + j * 7 + 5 by omega] at e4
      rw [show o2 + j * 7 + 1 + 5 = o2 + j * 7 + 6 by omega] at e5
      obtain ⟨c, hc⟩ : ∃ c, c = Vl.cmp x y := ⟨_, rfl⟩
      obtain ⟨d, hd⟩ : ∃ d, d = Vl.cmpS ma mb := ⟨_, rfl⟩
      have HD : Hid (d = Vl.cmpS ma mb) := hd
      have HC : Hid (Vl.cmp1 (ma, x) (mb, y) = if d ≠ 0 then d else c) := by rw [hd, hc]; rfl
      have C20 : Hid (∀ W, Below wr.heap.size wr W → Calls Tryz.prog 21 #[.agg #[.int .u8 (xk : Int), .bool xb, .int .i64 xn, .string xs, .slice xa xl xc, .slice ya yl yc], .agg #[.int .u8 (zk : Int), .bool zb, .int .i64 zn, .string zs, .slice za zl zc, .slice ta tl tc]] W fun e w' => e = .returned (.int .i64 c) ∧ Below W.heap.size W w') := fun W hW => by
        rw [hc]
        exact IH.out x (by have := Vl.count_partF (k := 6) (b := b) (n := n) (s := s) (l := l) hx; have := HT.out; omega) y W H _ _ (by have := hW.size; have := hbw.size; omega) (rep_stays (hW.mono (by have := hbw.size; omega)) (Nat.le_refl _) x _ hrx) (rep_stays (hW.mono (by have := hbw.size; omega)) (Nat.le_refl _) y _ hry)
      have HX : Hid (f[j]? = some (ma, x)) := hx
      have HY : Hid (f2[j]? = some (mb, y)) := hy
      have hi1 : (j : Int) < (ll : Int) := by omega
      have hi2 : (j : Int) < (ll2 : Int) := by omega
      have hgw : g < wr.heap.size := by have := hbw.size; omega
      have hgw2 : g2 < wr.heap.size := by have := hbw.size; omega
      have hww : w.heap.size < wr.heap.size := by have := HNR.out; omega
      have hww2 : w.heap.size + 1 < wr.heap.size := by have := HNR.out; omega
      clear hrx hry hr hr2 H7 G7 hx hy hc hd hb hbw hz ha hb'
      go_wp2
      go_region_held3 (fun W' => W'.cell? ⟨w.heap.size, 5, none⟩ = some (.slice (some ⟨g, o, none⟩) ll lc) ∧ W'.cell? ⟨w.heap.size + 1, 5, none⟩ = some (.slice (some ⟨g2, o2, none⟩) ll2 lc2) ∧ W'.cell? ⟨g, o + j * 7, none⟩ = some (.string ma) ∧ W'.cell? ⟨g, o + j * 7 + 1, none⟩ = some (.int .u8 (xk : Int)) ∧ W'.cell? ⟨g, o + j * 7 + 2, none⟩ = some (.bool xb) ∧ W'.cell? ⟨g, o + j * 7 + 3, none⟩ = some (.int .i64 xn) ∧ W'.cell? ⟨g, o + j * 7 + 4, none⟩ = some (.string xs) ∧ W'.cell? ⟨g, o + j * 7 + 5, none⟩ = some (.slice xa xl xc) ∧ W'.cell? ⟨g, o + j * 7 + 6, none⟩ = some (.slice ya yl yc) ∧ W'.cell? ⟨g2, o2 + j * 7, none⟩ = some (.string mb) ∧ W'.cell? ⟨g2, o2 + j * 7 + 1, none⟩ = some (.int .u8 (zk : Int)) ∧ W'.cell? ⟨g2, o2 + j * 7 + 2, none⟩ = some (.bool zb) ∧ W'.cell? ⟨g2, o2 + j * 7 + 3, none⟩ = some (.int .i64 zn) ∧ W'.cell? ⟨g2, o2 + j * 7 + 4, none⟩ = some (.string zs) ∧ W'.cell? ⟨g2, o2 + j * 7 + 5, none⟩ = some (.slice za zl zc) ∧ W'.cell? ⟨g2, o2 + j * 7 + 6, none⟩ = some (.slice ta tl tc)) (go_keep) (fail)
      ·
        have HBV : Hid (Below wr.heap.size wr (((wr.alloc (.cells #[.string ma, .int .u8 (xk : Int), .bool xb, .int .i64 xn, .string xs, .slice xa xl xc, .slice ya yl yc] 62)).alloc (.cells #[.string mb, .int .u8 (zk : Int), .bool zb, .int .i64 zn, .string zs, .slice za zl zc, .slice ta tl tc] 62)).drew)) := (below_new2 wr _ _).drew
        have HBN : Hid (Below w.heap.size w (((wr.alloc (.cells #[.string ma, .int .u8 (xk : Int), .bool xb, .int .i64 xn, .string xs, .slice xa xl xc, .slice ya yl yc] 62)).alloc (.cells #[.string mb, .int .u8 (zk : Int), .bool zb, .int .i64 zn, .string zs, .slice za zl zc, .slice ta tl tc] 62)).drew)) := HBW.out.trans (HBV.out.mono HBW.out.size)
        have HBM : Hid (Below w1.heap.size w1 (((wr.alloc (.cells #[.string ma, .int .u8 (xk : Int), .bool xb, .int .i64 xn, .string xs, .slice xa xl xc, .slice ya yl yc] 62)).alloc (.cells #[.string mb, .int .u8 (zk : Int), .bool zb, .int .i64 zn, .string zs, .slice za zl zc, .slice ta tl tc] 62)).drew)) := HB.out.trans (HBV.out.mono HB.out.size)
        have hslt := Vl.str_lt ma mb
        have hsle := Vl.str_le ma mb
        have hway := Vl.cmpS_way ma mb
        rw [← HD.out] at hslt hsle hway
        clear a4 x4 dm em d0 d1 d2 d3 d4 d5 e0 e1 e2 e3 e4 e5 HA4 HE4 HD
        rcases hway with h | h | h
        · subst h
          have s1 : Op.bytesLess ma.toList mb.toList = true := by rw [hslt]; rfl
          have s2 : (Op.bytesLess ma.toList mb.toList || ma.toList == mb.toList) = true := by rw [hsle]; rfl
          have HK : Hid (Vl.cmp1 (ma, x) (mb, y) = -1) := by show _ = _; rw [HC.out, if_pos (by decide)]
          clear hslt hsle HC
          go_wp2_with (go_at_call 38; refine (rorder43 true false _).mono ?_; rintro e w' ⟨rfl, rfl⟩)
          exact ⟨rfl, _, results_tmp (by rfl) _ _ _, by rw [HR.out, Vl.cmpF_prefix f f2 j (ma, x) (mb, y) HZ.out HX.out HY.out (by rw [HK.out]; decide), HK.out]; rfl, HBN.out⟩
        · subst h
          have s1 : Op.bytesLess ma.toList mb.toList = false := by rw [hslt]; rfl
          have s2 : (ma.toList == mb.toList) = true := by rw [s1, Bool.false_or] at hsle; rw [hsle]; rfl
          have HK : Hid (Vl.cmp1 (ma, x) (mb, y) = c) := by show _ = _; rw [HC.out, if_neg (by decide)]
          clear hslt hsle HC
          by_cases hc0 : c = 0
          · subst hc0
            go_wp2_with (first
              | (go_at_call 38; refine (rorder43 false false _).mono ?_; rintro e w' ⟨rfl, rfl⟩)
              | (go_at_call 21; refine (C20.out _ HBV.out).mono ?_; rintro e w3 ⟨rfl, hb3⟩))
            have HB3 : Hid (Below w1.heap.size w1 w3) := HBM.out.trans (hb3.mono HBM.out.size)
            clear hb3
            go_roundw
            case rel =>
              refine ⟨j + 1, by omega, by omega, by go_num, HB3.out, fun i x' y' hi hx' hy' => ?_⟩
              by_cases hij : i < j
              · exact HZ.out i x' y' hij hx' hy'
              · have hij' : i = j := by omega
                subst hij'
                have h1 := HX.out
                have h2 := HY.out
                rw [hx'] at h1
                rw [hy'] at h2
                cases h1; cases h2
                exact HK.out
            case measure => simp [intOf]; omega
          · have hcb : (c == 0) = false := by simp [hc0]
            have hcn : (c != 0) = true := by simp [hc0]
            have HNE : Hid (Vl.cmp1 (ma, x) (mb, y) ≠ 0) := fun h => hc0 (HK.out.symm.trans h)
            clear hc0
            go_wp2_with (first
              | (go_at_call 38; refine (rorder43 false false _).mono ?_; rintro e w' ⟨rfl, rfl⟩)
              | (go_at_call 21; refine (C20.out _ HBV.out).mono ?_; rintro e w3 ⟨rfl, hb3⟩))
            have HB3 : Hid (Below w1.heap.size w1 w3) := HBM.out.trans (hb3.mono HBM.out.size)
            clear hb3
            exact ⟨rfl, _, results_tmp (by rfl) _ _ _, by rw [HR.out, Vl.cmpF_prefix f f2 j (ma, x) (mb, y) HZ.out HX.out HY.out HNE.out, HK.out]; rfl, HB1.out.trans (HB3.out.mono HB1.out.size)⟩
        · subst h
          have s1 : Op.bytesLess ma.toList mb.toList = false := by rw [hslt]; rfl
          have s2 : (ma.toList == mb.toList) = false := by rw [s1, Bool.false_or] at hsle; rw [hsle]; rfl
          have HK : Hid (Vl.cmp1 (ma, x) (mb, y) = 1) := by show _ = _; rw [HC.out, if_pos (by decide)]
          clear hslt hsle HC
          go_wp2_with (go_at_call 38; refine (rorder43 false true _).mono ?_; rintro e w' ⟨rfl, rfl⟩)
          exact ⟨rfl, _, results_tmp (by rfl) _ _ _, by rw [HR.out, Vl.cmpF_prefix f f2 j (ma, x) (mb, y) HZ.out HX.out HY.out (by rw [HK.out]; decide), HK.out]; rfl, HBN.out⟩
      ·
        have HBV : Hid (Below wr.heap.size wr (((wr.alloc (.cells #[.string mb, .int .u8 (zk : Int), .bool zb, .int .i64 zn, .string zs, .slice za zl zc, .slice ta tl tc] 62)).alloc (.cells #[.string ma, .int .u8 (xk : Int), .bool xb, .int .i64 xn, .string xs, .slice xa xl xc, .slice ya yl yc] 62)).drew)) := (below_new2 wr _ _).drew
        have HBN : Hid (Below w.heap.size w (((wr.alloc (.cells #[.string mb, .int .u8 (zk : Int), .bool zb, .int .i64 zn, .string zs, .slice za zl zc, .slice ta tl tc] 62)).alloc (.cells #[.string ma, .int .u8 (xk : Int), .bool xb, .int .i64 xn, .string xs, .slice xa xl xc, .slice ya yl yc] 62)).drew)) := HBW.out.trans (HBV.out.mono HBW.out.size)
        have HBM : Hid (Below w1.heap.size w1 (((wr.alloc (.cells #[.string mb, .int .u8 (zk : Int), .bool zb, .int .i64 zn, .string zs, .slice za zl zc, .slice ta tl tc] 62)).alloc (.cells #[.string ma, .int .u8 (xk : Int), .bool xb, .int .i64 xn, .string xs, .slice xa xl xc, .slice ya yl yc] 62)).drew)) := HB.out.trans (HBV.out.mono HB.out.size)
        have hslt := Vl.str_lt ma mb
        have hsle := Vl.str_le ma mb
        have hway := Vl.cmpS_way ma mb
        rw [← HD.out] at hslt hsle hway
        clear a4 x4 dm em d0 d1 d2 d3 d4 d5 e0 e1 e2 e3 e4 e5 HA4 HE4 HD
        rcases hway with h | h | h
        · subst h
          have s1 : Op.bytesLess ma.toList mb.toList = true := by rw [hslt]; rfl
          have s2 : (Op.bytesLess ma.toList mb.toList || ma.toList == mb.toList) = true := by rw [hsle]; rfl
          have HK : Hid (Vl.cmp1 (ma, x) (mb, y) = -1) := by show _ = _; rw [HC.out, if_pos (by decide)]
          clear hslt hsle HC
          go_wp2_with (go_at_call 38; refine (rorder43 true false _).mono ?_; rintro e w' ⟨rfl, rfl⟩)
          exact ⟨rfl, _, results_tmp (by rfl) _ _ _, by rw [HR.out, Vl.cmpF_prefix f f2 j (ma, x) (mb, y) HZ.out HX.out HY.out (by rw [HK.out]; decide), HK.out]; rfl, HBN.out⟩
        · subst h
          have s1 : Op.bytesLess ma.toList mb.toList = false := by rw [hslt]; rfl
          have s2 : (ma.toList == mb.toList) = true := by rw [s1, Bool.false_or] at hsle; rw [hsle]; rfl
          have HK : Hid (Vl.cmp1 (ma, x) (mb, y) = c) := by show _ = _; rw [HC.out, if_neg (by decide)]
          clear hslt hsle HC
          by_cases hc0 : c = 0
          · subst hc0
            go_wp2_with (first
              | (go_at_call 38; refine (rorder43 false false _).mono ?_; rintro e w' ⟨rfl, rfl⟩)
              | (go_at_call 21; refine (C20.out _ HBV.out).mono ?_; rintro e w3 ⟨rfl, hb3⟩))
            have HB3 : Hid (Below w1.heap.size w1 w3) := HBM.out.trans (hb3.mono HBM.out.size)
            clear hb3
            go_roundw
            case rel =>
              refine ⟨j + 1, by omega, by omega, by go_num, HB3.out, fun i x' y' hi hx' hy' => ?_⟩
              by_cases hij : i < j
              · exact HZ.out i x' y' hij hx' hy'
              · have hij' : i = j := by omega
                subst hij'
                have h1 := HX.out
                have h2 := HY.out
                rw [hx'] at h1
                rw [hy'] at h2
                cases h1; cases h2
                exact HK.out
            case measure => simp [intOf]; omega
          · have hcb : (c == 0) = false := by simp [hc0]
            have hcn : (c != 0) = true := by simp [hc0]
            have HNE : Hid (Vl.cmp1 (ma, x) (mb, y) ≠ 0) := fun h => hc0 (HK.out.symm.trans h)
            clear hc0
            go_wp2_with (first
              | (go_at_call 38; refine (rorder43 false false _).mono ?_; rintro e w' ⟨rfl, rfl⟩)
              | (go_at_call 21; refine (C20.out _ HBV.out).mono ?_; rintro e w3 ⟨rfl, hb3⟩))
            have HB3 : Hid (Below w1.heap.size w1 w3) := HBM.out.trans (hb3.mono HBM.out.size)
            clear hb3
            exact ⟨rfl, _, results_tmp (by rfl) _ _ _, by rw [HR.out, Vl.cmpF_prefix f f2 j (ma, x) (mb, y) HZ.out HX.out HY.out HNE.out, HK.out]; rfl, HB1.out.trans (HB3.out.mono HB1.out.size)⟩
        · subst h
          have s1 : Op.bytesLess ma.toList mb.toList = false := by rw [hslt]; rfl
          have s2 : (ma.toList == mb.toList) = false := by rw [s1, Bool.false_or] at hsle; rw [hsle]; rfl
          have HK : Hid (Vl.cmp1 (ma, x) (mb, y) = 1) := by show _ = _; rw [HC.out, if_pos (by decide)]
          clear hslt hsle HC
          go_wp2_with (go_at_call 38; refine (rorder43 false true _).mono ?_; rintro e w' ⟨rfl, rfl⟩)
          exact ⟨rfl, _, results_tmp (by rfl) _ _ _, by rw [HR.out, Vl.cmpF_prefix f f2 j (ma, x) (mb, y) HZ.out HX.out HY.out (by rw [HK.out]; decide), HK.out]; rfl, HBN.out⟩
    · have hall : Vl.cmpF f f2 = Lib.compareInt (ll : Int) (ll2 : Int) := by
        rw [HLL.out.1, HLL.out.2]
        refine Vl.cmpF_all f f2 fun i x y hx hy => HZ.out i x y ?_ hx hy
        have h1 := (List.getElem?_eq_some_iff.1 hx).1
        have h2 := (List.getElem?_eq_some_iff.1 hy).1
        rw [← HLL.out.1] at h1
        rw [← HLL.out.2] at h2
        omega
      have HR2 : Hid (r = Lib.compareInt (ll : Int) (ll2 : Int)) := by show _ = _; rw [HR.out, hall]
      clear hall hb hz hbw HZ HB HR H7 G7
      rcases Nat.lt_trichotomy ll ll2 with h | h | h
      · have hm : j = ll := by omega
        subst hm
        have e : r = -1 := by rw [HR2.out]; unfold Lib.compareInt; rw [if_pos (by omega)]
        have i1 : (j : Int) < (ll2 : Int) := by omega
        have i2 : ¬ (ll2 : Int) < (j : Int) := by omega
        subst e
        clear hlt HR2
        go_wp2_with (go_at_call 38; refine (rorder43 true false _).mono ?_; rintro e w' ⟨rfl, rfl⟩)
        exact ⟨rfl, _, results_tmp (by rfl) _ _ _, rfl, HBW.out⟩
      · subst h
        have hm : j = ll := by omega
        subst hm
        have e : r = 0 := by rw [HR2.out]; unfold Lib.compareInt; rw [if_neg (by omega), if_neg (by omega)]
        subst e
        clear hlt HR2
        go_wp2_with (go_at_call 38; refine (rorder43 false false _).mono ?_; rintro e w' ⟨rfl, rfl⟩)
        exact ⟨rfl, _, results_tmp (by rfl) _ _ _, rfl, HBW.out⟩
      · have hm : j = ll2 := by omega
        subst hm
        have e : r = 1 := by rw [HR2.out]; unfold Lib.compareInt; rw [if_neg (by omega), if_pos (by omega)]
        have i1 : (j : Int) < (ll : Int) := by omega
        have i2 : ¬ (ll : Int) < (j : Int) := by omega
        subst e
        clear hlt HR2
        go_wp2_with (go_at_call 38; refine (rorder43 false true _).mono ?_; rintro e w' ⟨rfl, rfl⟩)
        exact ⟨rfl, _, results_tmp (by rfl) _ _ _, rfl, HBW.out⟩
end Go.Proofs.YtkigenldiinioaaGreatDoor
