/- Several texts, joined: CmpF, Compare, BtE -/
import Derived.Test.YtkigenldiinioaaGreatDoorQ04M
import Derived.Test.YtkigenldiinioaaGreatDoorQ03M
import Derived.Deep.CutRange
import Derived.Deep.CutBlock
/- compareLists at fields, and Compare itself, walked: whatever two values are, the answer is how they are held against each other. -/
namespace Go.Proofs.YtkigenldiinioaaGreatDoor
open Go.RowKit
open Vl (V)
namespace Vl
/-- how two fields are held against each other -/
def cmp1 (a b : ByteArray × V) : Int := if cmpS a.1 b.1 ≠ 0 then cmpS a.1 b.1 else cmp a.2 b.2
theorem cmpF_cons (a b : ByteArray × V) (l r : List (ByteArray × V)) : cmpF (a :: l) (b :: r) = if cmp1 a b ≠ 0 then cmp1 a b else cmpF l r := by
  obtain ⟨m, x⟩ := a
  obtain ⟨p, y⟩ := b
  rw [cmpF, cmp1]
  by_cases h : cmpS m p = 0
  · simp [h]
  · simp [h]
theorem cmpF_prefix : ∀ (l r : List (ByteArray × V)) (j : Nat) (x y : ByteArray × V), (∀ (i : Nat) (x y : ByteArray × V), i < j → l[i]? = some x → r[i]? = some y → cmp1 x y = 0) → l[j]? = some x → r[j]? = some y → cmp1 x y ≠ 0 → cmpF l r = cmp1 x y
  | [], _, _, _, _, _, h, _, _ => by simp at h
  | _ :: _, [], _, _, _, _, _, h, _ => by simp at h
  | x :: l, y :: r, 0, x', y', _, h1, h2, h3 => by
    simp only [List.getElem?_cons_zero, Option.some.injEq] at h1 h2
    subst h1; subst h2
    rw [cmpF_cons, if_pos h3]
  | x :: l, y :: r, j + 1, x', y', h0, h1, h2, h3 => by
    rw [cmpF_cons, if_neg (by simp [h0 0 x y (by omega) rfl rfl])]
    exact cmpF_prefix l r j x' y' (fun i a b hi ha hb => h0 (i + 1) a b (by omega) (by simpa using ha) (by simpa using hb)) (by simpa using h1) (by simpa using h2) h3
theorem cmpF_all : ∀ (l r : List (ByteArray × V)), (∀ (i : Nat) (x y : ByteArray × V), l[i]? = some x → r[i]? = some y → cmp1 x y = 0) → cmpF l r = Lib.compareInt l.length r.length
  | [], [], _ => by rw [cmpF, List.length_nil, int_refl]
  | [], y :: r, _ => by rw [cmpF, List.length_nil, List.length_cons]; simp only [Lib.compareInt]; rw [if_pos (by omega)]
  | x :: l, [], _ => by rw [cmpF, List.length_nil, List.length_cons]; simp only [Lib.compareInt]; rw [if_neg (by omega), if_pos (by omega)]
  | x :: l, y :: r, h => by
    rw [cmpF_cons, if_neg (by simp [h 0 x y rfl rfl]), cmpF_all l r (fun i a b ha hb => h (i + 1) a b (by simpa using ha) (by simpa using hb)), List.length_cons, List.length_cons]
    simp only [Lib.compareInt]
    (repeat' split) <;> omega
end Vl
set_option maxHeartbeats 4000000 in
set_option maxRecDepth 100000 in
theorem fields29 (m p : ByteArray) (x y : V) (w : World) (c0 c1 c2 c3 c4 c5 b0 b1 b2 b3 b4 b5 : Value) (H : Nat) (hH : H ≤ w.heap.size) (hx : Rep w H x (.agg #[c0, c1, c2, c3, c4, c5])) (hy : Rep w H y (.agg #[b0, b1, b2, b3, b4, b5]))
    (E : ∀ (W : World) (va vb : Value), H ≤ W.heap.size → Rep W H x va → Rep W H y vb → Calls Tryz.prog 73 #[va, vb] W fun e w' => e = .returned (.int .i64 (Vl.cmp x y)) ∧ Below W.heap.size W w') :
    Calls Tryz.prog 90 #[.agg #[.string m, c0, c1, c2, c3, c4, c5], .agg #[.string p, b0, b1, b2, b3, b4, b5]] w fun e w' => e = .returned (.int .i64 (Vl.cmp1 (m, x) (p, y))) ∧ Below w.heap.size w w' := by
  obtain ⟨xk, xb, xn, xs, xa, xl, xc, ya, yl, yc, rfl, rfl, rfl, rfl, rfl, rfl⟩ := rep_form hx
  obtain ⟨zk, zb, zn, zs, za, zl, zc, ta, tl, tc, rfl, rfl, rfl, rfl, rfl, rfl⟩ := rep_form hy
  obtain ⟨c, hc⟩ : ∃ c, c = Vl.cmp x y := ⟨_, rfl⟩
  obtain ⟨d, hd⟩ : ∃ d, d = Vl.cmpS m p := ⟨_, rfl⟩
  have HR : Hid (Vl.cmp1 (m, x) (p, y) = if d ≠ 0 then d else c) := by rw [hd, hc]; rfl
  have C10 : Hid (∀ W, Below w.heap.size w W → Calls Tryz.prog 73 #[.agg #[.int .u8 (xk : Int), .bool xb, .int .i64 xn, .string xs, .slice xa xl xc, .slice ya yl yc], .agg #[.int .u8 (zk : Int), .bool zb, .int .i64 zn, .string zs, .slice za zl zc, .slice ta tl tc]] W fun e w' => e = .returned (.int .i64 c) ∧ Below W.heap.size W w') := fun W hW => by
    rw [hc]
    exact E W _ _ (by have := hW.size; omega) (rep_stays (hW.mono hH) (Nat.le_refl _) x _ hx) (rep_stays (hW.mono hH) (Nat.le_refl _) y _ hy)
  have S26 : Hid (∀ W, Calls Tryz.prog 87 #[.string m, .string p] W fun e w' => e = .returned (.int .i64 d) ∧ w' = W) := fun W => by rw [hd]; exact strs26 m p W
  clear E hx hy hc hd
  go_enter Tryz.func90, Tryz.ntmps90
  go_wp2_with fail
  refine (S26.out _).mono ?_
  rintro e w' ⟨rfl, rfl⟩
  by_cases hd0 : d = 0
  · subst hd0
    go_wp2_with fail
    refine (C10.out _ ?_).mono ?_
    · exact (below_new _ _).trans ((below_new _ _).mono (by simp))
    rintro e w3 ⟨rfl, hb3⟩
    go_wp2
    exact ⟨rfl, _, results_tmp (by rfl) _ _ _, by rw [HR.out, if_neg (by simp)]; rfl, (below_new _ _).trans (((below_new _ _).trans (hb3.mono (by simp))).mono (by simp))⟩
  · go_wp2
    exact ⟨rfl, _, results_tmp (by rfl) _ _ _, by rw [HR.out, if_pos hd0]; rfl, (below_new _ _).trans ((below_new _ _).mono (by simp))⟩
set_option maxHeartbeats 4000000 in
set_option maxRecDepth 100000 in
theorem lists28 (la lb : List (ByteArray × V)) (ao bo : Option Addr) (ac bc : Nat) (w : World) (H : Nat) (hH : H ≤ w.heap.size) (hA : LiesF w H ao la) (hB : LiesF w H bo lb)
    (E : ∀ x ∈ la, ∀ y ∈ lb, ∀ (W : World) (va vb : Value), H ≤ W.heap.size → Rep W H x.2 va → Rep W H y.2 vb → Calls Tryz.prog 73 #[va, vb] W fun e w' => e = .returned (.int .i64 (Vl.cmp x.2 y.2)) ∧ Below W.heap.size W w') :
    Calls Tryz.prog 89 #[.slice ao la.length ac, .slice bo lb.length bc, .func (.func 90) #[] #[]] w fun e w' => e = .returned (.int .i64 (Vl.cmpF la lb)) ∧ Below w.heap.size w w' := by
  have HE : Hid (∀ x ∈ la, ∀ y ∈ lb, ∀ (W : World) (va vb : Value), H ≤ W.heap.size → Rep W H x.2 va → Rep W H y.2 vb → Calls Tryz.prog 73 #[va, vb] W fun e w' => e = .returned (.int .i64 (Vl.cmp x.2 y.2)) ∧ Below W.heap.size W w') := E
  obtain ⟨na, hna⟩ : ∃ n, n = la.length := ⟨_, rfl⟩
  obtain ⟨nb, hnb⟩ : ∃ n, n = lb.length := ⟨_, rfl⟩
  have h1 := maxLen_lt hA.1
  have h2 := maxLen_lt hB.1
  have HNA : Hid (na = la.length) := hna
  have HNB : Hid (nb = lb.length) := hnb
  have HA : Hid (0 < la.length → ∃ g o, ao = some ⟨g, o, none⟩ ∧ g < H ∧ RepF w H g o la) := hA.2
  have HB : Hid (0 < lb.length → ∃ g o, bo = some ⟨g, o, none⟩ ∧ g < H ∧ RepF w H g o lb) := hB.2
  rw [← hna] at h1 ⊢
  rw [← hnb] at h2 ⊢
  clear E hA hB hna hnb
  go_enter Tryz.func89, Tryz.ntmps89
  go_wp2
  · rename_i hmin
    have hmm : nb ≤ na := by omega
    go_loopw [14] (fun i wr => ∃ j : Nat, j ≤ nb ∧ i = .int .i64 j ∧ Below w.heap.size w wr ∧ ∀ (i : Nat) (x y : ByteArray × V), i < j → la[i]? = some x → lb[i]? = some y → Vl.cmp1 x y = 0) (fun i _ => nb - (intOf i).toNat)
    case atStart => exact ⟨0, Nat.zero_le _, rfl, Below.refl _ _, fun i x y h => by omega⟩
    case round =>
      obtain ⟨j, hj, rfl, hb, hz⟩ := hrel
      have HZ : Hid (∀ (i : Nat) (x y : ByteArray × V), i < j → la[i]? = some x → lb[i]? = some y → Vl.cmp1 x y = 0) := hz
      have HBW : Hid (Below w.heap.size w wr) := hb
      by_cases hlt : j < nb
      · have ha : j < la.length := by rw [← HNA.out]; omega
        have hb' : j < lb.length := by rw [← HNB.out]; omega
        have ha' : j < na := by omega
        have hb'' : j < nb := by omega
        obtain ⟨g, o, rfl, hg, hr⟩ := HA.out (by omega)
        obtain ⟨g2, o2, rfl, hg2, hr2⟩ := HB.out (by omega)
        obtain ⟨⟨ma, x⟩, hx⟩ : ∃ x, la[j]? = some x := ⟨_, List.getElem?_eq_getElem ha⟩
        obtain ⟨⟨mb, y⟩, hy⟩ : ∃ y, lb[j]? = some y := ⟨_, List.getElem?_eq_getElem hb'⟩
        obtain ⟨dm, _, c0, c1, c2, c3, c4, c5, ⟨d0, d1, d2, d3, d4, d5⟩, hrx⟩ := repF_at la o (repF_stays (hb.mono hH) (Nat.le_refl _) hg la o hr) j ma x hx
        obtain ⟨em, _, b0, b1, b2, b3, b4, b5, ⟨e0, e1, e2, e3, e4, e5⟩, hry⟩ := repF_at lb o2 (repF_stays (hb.mono hH) (Nat.le_refl _) hg2 lb o2 hr2) j mb y hy
        rw [show o + j * 7 + 1 + 1 = o + j * 7 + 2 by omega] at d1
        rw [show o + j * 7 + 1 + 2 = o + j * 7 + 3 by omega] at d2
        rw [show o + j * 7 + 1 + 3 = o + j * 7 + 4 by omega] at d3
        rw [show o + j * 7 + 1 + 4 = o + j * 7 + 5 by omega] at d4
        rw [show o + j * 7 + 1 + 5 = o + j * 7 + 6 by omega] at d5
        rw [show o2 + j * 7 + 1 + 1 = o2 + j * 7 + 2 by omega] at e1
        rw [show o2 + j * 7 + 1 + 2 = o2 + j * 7 + 3 by omega] at e2
        rw [show o2 + j * 7 + 1 + 3 = o2 + j * 7 + 4 by omega] at e3
        rw [show o2 + j * 7 + 1 + 4 = o2 + j * 7 + 5 by omega] at e4
        rw [show o2 + j * 7 + 1 + 5 = o2 + j * 7 + 6 by omega] at e5
        obtain ⟨c, hc⟩ : ∃ c, c = Vl.cmp1 (ma, x) (mb, y) := ⟨_, rfl⟩
        have HC : Hid (c = Vl.cmp1 (ma, x) (mb, y)) := hc
        have C10 : Hid (∀ W, Below wr.heap.size wr W → Calls Tryz.prog 90 #[.agg #[.string ma, c0, c1, c2, c3, c4, c5], .agg #[.string mb, b0, b1, b2, b3, b4, b5]] W fun e w' => e = .returned (.int .i64 c) ∧ Below W.heap.size W w') := fun W hW => by
          rw [hc]
          exact fields29 ma mb x y W _ _ _ _ _ _ _ _ _ _ _ _ H (by have := hW.size; have := hb.size; omega) (rep_stays (hW.mono (by have := hb.size; omega)) (Nat.le_refl _) x _ hrx) (rep_stays (hW.mono (by have := hb.size; omega)) (Nat.le_refl _) y _ hry) (HE.out (ma, x) (List.mem_of_getElem? hx) (mb, y) (List.mem_of_getElem? hy))
        have HX : Hid (la[j]? = some (ma, x)) := hx
        have HY : Hid (lb[j]? = some (mb, y)) := hy
        clear hrx hry hr hr2 HA HB hx hy hc hb hz ha hb'
        go_wp2
        go_region_with (first | (go_at_call 90; refine (C10.out _ (Below.refl _ _).drew).mono ?_; rintro e w3 ⟨rfl, hb3⟩))
        all_goals
          have HB3 : Hid (Below w.heap.size w w3) := HBW.out.trans (((Below.refl _ _).drew.trans hb3).mono HBW.out.size)
          clear hb3 dm em d0 d1 d2 d3 d4 d5 e0 e1 e2 e3 e4 e5
          by_cases hc0 : c = 0
          · subst hc0
            go_wp2
            go_roundw
            case rel =>
              refine ⟨j + 1, by omega, by go_num, HB3.out, fun i x' y' hi hx' hy' => ?_⟩
              by_cases hij : i < j
              · exact HZ.out i x' y' hij hx' hy'
              · have hij' : i = j := by omega
                subst hij'
                have h1 := HX.out
                have h2 := HY.out
                rw [hx'] at h1
                rw [hy'] at h2
                cases h1; cases h2
                exact HC.out.symm
            case measure => simp [intOf]; omega
          · go_wp2
            exact ⟨rfl, _, results_tmp (by rfl) _ _ _, by rw [Vl.cmpF_prefix la lb j (ma, x) (mb, y) HZ.out HX.out HY.out (by rw [← HC.out]; exact hc0), ← HC.out]; rfl, HB3.out⟩
      · have hall : Vl.cmpF la lb = Lib.compareInt na nb := by
          rw [HNA.out, HNB.out]
          refine Vl.cmpF_all la lb fun i x y hx hy => HZ.out i x y ?_ hx hy
          have h1 := (List.getElem?_eq_some_iff.1 hx).1
          have h2 := (List.getElem?_eq_some_iff.1 hy).1
          rw [← HNA.out] at h1
          rw [← HNB.out] at h2
          omega
        have HALL : Hid (Vl.cmpF la lb = Lib.compareInt na nb) := hall
        clear hall
        go_wp2_with (go_at_call 105; refine (ints47 _ _ _).mono ?_; rintro e w' ⟨rfl, rfl⟩)
        exact ⟨rfl, _, results_tmp (by rfl) _ _ _, by rw [HALL.out]; rfl, HBW.out⟩
  · rename_i hmin
    have hmm : na ≤ nb := by omega
    go_loopw [14] (fun i wr => ∃ j : Nat, j ≤ na ∧ i = .int .i64 j ∧ Below w.heap.size w wr ∧ ∀ (i : Nat) (x y : ByteArray × V), i < j → la[i]? = some x → lb[i]? = some y → Vl.cmp1 x y = 0) (fun i _ => na - (intOf i).toNat)
    case atStart => exact ⟨0, Nat.zero_le _, rfl, Below.refl _ _, fun i x y h => by omega⟩
    case round =>
      obtain ⟨j, hj, rfl, hb, hz⟩ := hrel
      have HZ : Hid (∀ (i : Nat) (x y : ByteArray × V), i < j → la[i]? = some x → lb[i]? = some y → Vl.cmp1 x y = 0) := hz
      have HBW : Hid (Below w.heap.size w wr) := hb
      by_cases hlt : j < na
      · have ha : j < la.length := by rw [← HNA.out]; omega
        have hb' : j < lb.length := by rw [← HNB.out]; omega
        have ha' : j < na := by omega
        have hb'' : j < nb := by omega
        obtain ⟨g, o, rfl, hg, hr⟩ := HA.out (by omega)
        obtain ⟨g2, o2, rfl, hg2, hr2⟩ := HB.out (by omega)
        obtain ⟨⟨ma, x⟩, hx⟩ : ∃ x, la[j]? = some x := ⟨_, List.getElem?_eq_getElem ha⟩
        obtain ⟨⟨mb, y⟩, hy⟩ : ∃ y, lb[j]? = some y := ⟨_, List.getElem?_eq_getElem hb'⟩
        obtain ⟨dm, _, c0, c1, c2, c3, c4, c5, ⟨d0, d1, d2, d3, d4, d5⟩, hrx⟩ := repF_at la o (repF_stays (hb.mono hH) (Nat.le_refl _) hg la o hr) j ma x hx
        obtain ⟨em, _, b0, b1, b2, b3, b4, b5, ⟨e0, e1, e2, e3, e4, e5⟩, hry⟩ := repF_at lb o2 (repF_stays (hb.mono hH) (Nat.le_refl _) hg2 lb o2 hr2) j mb y hy
        rw [show o + j * 7 + 1 + 1 = o + j * 7 + 2 by omega] at d1
        rw [show o + j * 7 + 1 + 2 = o + j * 7 + 3 by omega] at d2
        rw [show o + j * 7 + 1 + 3 = o + j * 7 + 4 by omega] at d3
        rw [show o + j * 7 + 1 + 4 = o + j * 7 + 5 by omega] at d4
        rw [show o + j * 7 + 1 + 5 = o + j * 7 + 6 by omega] at d5
        rw [show o2 + j * 7 + 1 + 1 = o2 + j * 7 + 2 by omega] at e1
        rw [show o2 + j * 7 + 1 + 2 = o2 + j * 7 + 3 by omega] at e2
        rw [show o2 + j * 7 + 1 + 3 = o2 + j * 7 + 4 by omega] at e3
        rw [show o2 + j * 7 + 1 + 4 = o2 + j * 7 + 5 by omega] at e4
        rw [show o2 + j * 7 + 1 + 5 = o2 + j * 7 + 6 by omega] at e5
        obtain ⟨c, hc⟩ : ∃ c, c = Vl.cmp1 (ma, x) (mb, y) := ⟨_, rfl⟩
        have HC : Hid (c = Vl.cmp1 (ma, x) (mb, y)) := hc
        have C10 : Hid (∀ W, Below wr.heap.size wr W → Calls Tryz.prog 90 #[.agg #[.string ma, c0, c1, c2, c3, c4, c5], .agg #[.string mb, b0, b1, b2, b3, b4, b5]] W fun e w' => e = .returned (.int .i64 c) ∧ Below W.heap.size W w') := fun W hW => by
          rw [hc]
          exact fields29 ma mb x y W _ _ _ _ _ _ _ _ _ _ _ _ H (by have := hW.size; have := hb.size; omega) (rep_stays (hW.mono (by have := hb.size; omega)) (Nat.le_refl _) x _ hrx) (rep_stays (hW.mono (by have := hb.size; omega)) (Nat.le_refl _) y _ hry) (HE.out (ma, x) (List.mem_of_getElem? hx) (mb, y) (List.mem_of_getElem? hy))
        have HX : Hid (la[j]? = some (ma, x)) := hx
        have HY : Hid (lb[j]? = some (mb, y)) := hy
        clear hrx hry hr hr2 HA HB hx hy hc hb hz ha hb'
        go_wp2
        go_region_with (first | (go_at_call 90; refine (C10.out _ (Below.refl _ _).drew).mono ?_; rintro e w3 ⟨rfl, hb3⟩))
        all_goals
          have HB3 : Hid (Below w.heap.size w w3) := HBW.out.trans (((Below.refl _ _).drew.trans hb3).mono HBW.out.size)
          clear hb3 dm em d0 d1 d2 d3 d4 d5 e0 e1 e2 e3 e4 e5
          by_cases hc0 : c = 0
          · subst hc0
            go_wp2
            go_roundw
            case rel =>
              refine ⟨j + 1, by omega, by go_num, HB3.out, fun i x' y' hi hx' hy' => ?_⟩
              by_cases hij : i < j
              · exact HZ.out i x' y' hij hx' hy'
              · have hij' : i = j := by omega
                subst hij'
                have h1 := HX.out
                have h2 := HY.out
                rw [hx'] at h1
                rw [hy'] at h2
                cases h1; cases h2
                exact HC.out.symm
            case measure => simp [intOf]; omega
          · go_wp2
            exact ⟨rfl, _, results_tmp (by rfl) _ _ _, by rw [Vl.cmpF_prefix la lb j (ma, x) (mb, y) HZ.out HX.out HY.out (by rw [← HC.out]; exact hc0), ← HC.out]; rfl, HB3.out⟩
      · have hall : Vl.cmpF la lb = Lib.compareInt na nb := by
          rw [HNA.out, HNB.out]
          refine Vl.cmpF_all la lb fun i x y hx hy => HZ.out i x y ?_ hx hy
          have h1 := (List.getElem?_eq_some_iff.1 hx).1
          have h2 := (List.getElem?_eq_some_iff.1 hy).1
          rw [← HNA.out] at h1
          rw [← HNB.out] at h2
          omega
        have HALL : Hid (Vl.cmpF la lb = Lib.compareInt na nb) := hall
        clear hall
        go_wp2_with (go_at_call 105; refine (ints47 _ _ _).mono ?_; rintro e w' ⟨rfl, rfl⟩)
        exact ⟨rfl, _, results_tmp (by rfl) _ _ _, by rw [HALL.out]; rfl, HBW.out⟩
end Go.Proofs.YtkigenldiinioaaGreatDoor
/- Compare, walked: whatever two values are, it answers how they are held against each other, and changes nothing that lay there. -/
namespace Go.Proofs.YtkigenldiinioaaGreatDoor
open Go.RowKit
open Vl (V)
namespace Vl
end Vl
set_option maxHeartbeats 4000000 in
set_option maxRecDepth 100000 in
theorem compare10 : ∀ (N : Nat) (a : V), Vl.count a ≤ N → ∀ (b : V) (w : World) (H : Nat) (va vb : Value), H ≤ w.heap.size → Rep w H a va → Rep w H b vb →
    Calls Tryz.prog 73 #[va, vb] w fun e w' => e = .returned (.int .i64 (Vl.cmp a b)) ∧ Below w.heap.size w w' := by
  intro N
  induction N with
  | zero => intro t ht; obtain ⟨k, b, n, s, l, f⟩ := t; rw [Vl.count] at ht; omega
  | succ N ih =>
    rintro ⟨k, b, n, s, l, f⟩ ht ⟨k2, b2, n2, s2, l2, f2⟩ w H va vb hH hA hB
    rw [Rep] at hA hB
    obtain ⟨ao, ac, fo, fc, rfl, h2, h3, h4, h5, h6, h7, h8⟩ := hA
    obtain ⟨ao2, ac2, fo2, fc2, rfl, g2, g3, g4, g5, g6, g7, g8⟩ := hB
    have C27 : Hid (∀ W, Below w.heap.size w W → Calls Tryz.prog 88 #[.slice ao l.length ac, .slice ao2 l2.length ac2, .func (.func 73) #[] #[]] W fun e w' => e = .returned (.int .i64 (Vl.cmpL l l2)) ∧ Below W.heap.size W w') := fun W hW =>
      lists27 l l2 ao ao2 ac ac2 W H (by have := hW.size; omega) (LiesL.stays ⟨h5, h7⟩ (hW.mono hH) (Nat.le_refl _)) (LiesL.stays ⟨g5, g7⟩ (hW.mono hH) (Nat.le_refl _))
        (fun x hx y _ W va vb hW ha hb => ih x (by have := Vl.count_memL (k := k) (b := b) (n := n) (s := s) (f := f) hx; omega) y W H va vb hW ha hb)
    have C28 : Hid (∀ W, Below w.heap.size w W → Calls Tryz.prog 89 #[.slice fo f.length fc, .slice fo2 f2.length fc2, .func (.func 90) #[] #[]] W fun e w' => e = .returned (.int .i64 (Vl.cmpF f f2)) ∧ Below W.heap.size W w') := fun W hW =>
      lists28 f f2 fo fo2 fc fc2 W H (by have := hW.size; omega) (LiesF.stays ⟨h6, h8⟩ (hW.mono hH) (Nat.le_refl _)) (LiesF.stays ⟨g6, g8⟩ (hW.mono hH) (Nat.le_refl _))
        (fun x hx y _ W va vb hW ha hb => ih x.2 (by have := Vl.count_memF (k := k) (b := b) (n := n) (s := s) (l := l) hx; omega) y.2 W H va vb hW ha hb)
    obtain ⟨r, hr⟩ : ∃ r, r = Vl.cmp ⟨k, b, n, s, l, f⟩ ⟨k2, b2, n2, s2, l2, f2⟩ := ⟨_, rfl⟩
    have HR : Hid (r = Vl.cmp ⟨k, b, n, s, l, f⟩ ⟨k2, b2, n2, s2, l2, f2⟩) := hr
    rw [← hr]
    obtain ⟨cl, hcl⟩ : ∃ c, c = Vl.cmpL l l2 := ⟨_, rfl⟩
    obtain ⟨cf, hcf⟩ : ∃ c, c = Vl.cmpF f f2 := ⟨_, rfl⟩
    have HCL : Hid (cl = Vl.cmpL l l2) := hcl
    have HCF : Hid (cf = Vl.cmpF f f2) := hcf
    rw [← hcl] at C27
    rw [← hcf] at C28
    obtain ⟨ll, hll⟩ : ∃ n, n = l.length := ⟨_, rfl⟩
    obtain ⟨ll2, hll2⟩ : ∃ n, n = l2.length := ⟨_, rfl⟩
    obtain ⟨fl, hfl⟩ : ∃ n, n = f.length := ⟨_, rfl⟩
    obtain ⟨fl2, hfl2⟩ : ∃ n, n = f2.length := ⟨_, rfl⟩
    rw [← hll, ← hll2] at C27
    rw [← hfl, ← hfl2] at C28
    rw [← hll, ← hll2, ← hfl, ← hfl2]
    clear ih ht hr hcl hcf h5 h6 h7 h8 g5 g6 g7 g8 hll hll2 hfl hfl2 h3 g3 h4 g4
    go_enter Tryz.func73, Tryz.ntmps73
    go_wp2_with (first
      | (go_at_call 84; refine (kinds23 _ _ _).mono ?_; rintro e w' ⟨rfl, rfl⟩)
      | (go_at_call 85; refine (bools24 _ _ _).mono ?_; rintro e w' ⟨rfl, rfl⟩)
      | (go_at_call 86; refine (whole25 _ _ _).mono ?_; rintro e w' ⟨rfl, rfl⟩)
      | (go_at_call 87; refine (strs26 _ _ _).mono ?_; rintro e w' ⟨rfl, rfl⟩)
      | (go_at_call 88; refine (C27.out _ (below_new2 _ _ _)).mono ?_; rintro e w' ⟨rfl, hbx⟩)
      | (go_at_call 89; refine (C28.out _ (below_new2 _ _ _)).mono ?_; rintro e w' ⟨rfl, hbx⟩))
    all_goals
      have hr := HR.out
      rw [Vl.cmp, ← HCL.out, ← HCF.out] at hr
      simp only [bne_iff_ne, beq_iff_eq, bne_eq_false_iff_eq, beq_eq_false_iff_ne, ne_eq] at *
      refine ⟨rfl, _, results_tmp (by rfl) _ _ _, ?_, ?_⟩
      · refine congrArg (fun z => Ending.returned (Value.int .i64 z)) (Eq.symm ?_)
        rw [hr]
        (repeat' split) <;> first | rfl | (exfalso; omega)
      · first | exact below_new2 _ _ _ | exact (below_new2 _ _ _).trans (hbx.mono (below_new2 _ _ _).size)
end Go.Proofs.YtkigenldiinioaaGreatDoor
/- Where a key lies among entries: walked. -/
namespace Go.Proofs.YtkigenldiinioaaGreatDoor
open Go.RowKit
open Vl (V)
attribute [local go_sem ↓] Go.wp_at_zero Go.wp_at_succ
/-- an entry's key in memory -/
def EK (w : World) (H : Nat) (k : V) (e : Nat) : Prop := e < H ∧ ∃ c0 c1 c2 c3 c4 c5 row, w.heap[e]? = some (.cells #[c0, c1, c2, c3, c4, c5, row] 73 (0, 0)) ∧ Rep w H k (.agg #[c0, c1, c2, c3, c4, c5])
theorem EK.stays {w w' : World} {H : Nat} {k : V} {e : Nat} (h : EK w H k e) (hb : Below H w w') : EK w' H k e := by
  obtain ⟨he, c0, c1, c2, c3, c4, c5, row, h1, h2⟩ := h
  exact ⟨he, c0, c1, c2, c3, c4, c5, row, (hb.block _ he).trans h1, rep_stays hb (Nat.le_refl _) _ _ h2⟩
theorem EK.up {w : World} {H K : Nat} {k : V} {e : Nat} (h : EK w H k e) (hK : H ≤ K) : EK w K k e := by
  obtain ⟨he, c0, c1, c2, c3, c4, c5, row, h1, h2⟩ := h
  exact ⟨Nat.lt_of_lt_of_le he hK, c0, c1, c2, c3, c4, c5, row, h1, rep_stays (Below.refl _ _) hK _ _ h2⟩
theorem lt_of_row {w : World} {g : Nat} {o : Obj} (h : w.heap[g]? = some o) : g < w.heap.size := (Array.getElem?_eq_some_iff.1 h).1
set_option maxHeartbeats 2000000 in
set_option maxRecDepth 100000 in
theorem keyAhead_c (e B H : Nat) (k x : V) (d0 d1 d2 d3 d4 d5 : Value) (W : World) (hH : H ≤ W.heap.size) (he : EK W H k e) (hB : W.heap[B]? = some (.cells #[d0, d1, d2, d3, d4, d5] 27 (0, 0))) (hx : Rep W H x (.agg #[d0, d1, d2, d3, d4, d5])) :
    Calls Tryz.prog 77 #[.pointer (some ⟨e, 0, none⟩), .pointer (some ⟨B, 0, none⟩)] W fun ex w' => ex = .returned (.bool (decide (Vl.cmp k x < 0))) ∧ Below W.heap.size W w' := by
  obtain ⟨hel, c0, c1, c2, c3, c4, c5, row, h1, h2⟩ := he
  have hBl := lt_of_row hB
  have hel' : e < W.heap.size := Nat.lt_of_lt_of_le hel hH
  have p0 : ∀ p : BelowOf W.heap.size W, p.W.cell? ⟨e, 0, none⟩ = some c0 := fun p => cells_at ((p.h.block _ hel').trans h1) 0 _ rfl
  have p1 : ∀ p : BelowOf W.heap.size W, p.W.cell? ⟨e, 1, none⟩ = some c1 := fun p => cells_at ((p.h.block _ hel').trans h1) 1 _ rfl
  have p2 : ∀ p : BelowOf W.heap.size W, p.W.cell? ⟨e, 2, none⟩ = some c2 := fun p => cells_at ((p.h.block _ hel').trans h1) 2 _ rfl
  have p3 : ∀ p : BelowOf W.heap.size W, p.W.cell? ⟨e, 3, none⟩ = some c3 := fun p => cells_at ((p.h.block _ hel').trans h1) 3 _ rfl
  have p4 : ∀ p : BelowOf W.heap.size W, p.W.cell? ⟨e, 4, none⟩ = some c4 := fun p => cells_at ((p.h.block _ hel').trans h1) 4 _ rfl
  have p5 : ∀ p : BelowOf W.heap.size W, p.W.cell? ⟨e, 5, none⟩ = some c5 := fun p => cells_at ((p.h.block _ hel').trans h1) 5 _ rfl
  have b0 : ∀ p : BelowOf W.heap.size W, p.W.cell? ⟨B, 0, none⟩ = some d0 := fun p => cells_at ((p.h.block _ hBl).trans hB) 0 _ rfl
  have b1 : ∀ p : BelowOf W.heap.size W, p.W.cell? ⟨B, 1, none⟩ = some d1 := fun p => cells_at ((p.h.block _ hBl).trans hB) 1 _ rfl
  have b2 : ∀ p : BelowOf W.heap.size W, p.W.cell? ⟨B, 2, none⟩ = some d2 := fun p => cells_at ((p.h.block _ hBl).trans hB) 2 _ rfl
  have b3 : ∀ p : BelowOf W.heap.size W, p.W.cell? ⟨B, 3, none⟩ = some d3 := fun p => cells_at ((p.h.block _ hBl).trans hB) 3 _ rfl
  have b4 : ∀ p : BelowOf W.heap.size W, p.W.cell? ⟨B, 4, none⟩ = some d4 := fun p => cells_at ((p.h.block _ hBl).trans hB) 4 _ rfl
  have b5 : ∀ p : BelowOf W.heap.size W, p.W.cell? ⟨B, 5, none⟩ = some d5 := fun p => cells_at ((p.h.block _ hBl).trans hB) 5 _ rfl
  obtain ⟨z, hz⟩ : ∃ z, z = Vl.cmp k x := ⟨_, rfl⟩
  have C : Hid (∀ W', Below W.heap.size W W' → Calls Tryz.prog 73 #[.agg #[c0, c1, c2, c3, c4, c5], .agg #[d0, d1, d2, d3, d4, d5]] W' fun ex w' => ex = .returned (.int .i64 z) ∧ Below W'.heap.size W' w') := fun W' hW => by
    rw [hz]
    exact compare10 _ k (Nat.le_refl _) x W' H _ _ (Nat.le_trans hH hW.size) (rep_stays (hW.mono hH) (Nat.le_refl _) _ _ h2) (rep_stays (hW.mono hH) (Nat.le_refl _) _ _ hx)
  rw [← hz]
  clear hz hx h1 h2 hB hel hel' hBl hH
  go_enter Tryz.func77, Tryz.ntmps77
  go_upto_region 1 with fail
  by_cases hlt : z < 0
  · have q : decide (z < 0) = true := decide_eq_true hlt
    refine wp_region_below W.heap.size W (Below.refl _ _) (by kernel_rfl) (by kernel_rfl) ?_
    repeat (go_big_quiet_step (first | (go_at_call 73; exact below_call _ (Nat.le_refl _) (C.out _ (BelowOf.h _)))))
    refine wpQuiet_nil ?_
    intro _ hw'
    obtain ⟨pq, hw''⟩ := hw'
    subst hw''
    have HF := pq.h
    go_wp2
    go_ret
    exact ⟨by first | rfl | (rw [q]; rfl), HF⟩
  · have q : decide (z < 0) = false := decide_eq_false hlt
    refine wp_region_below W.heap.size W (Below.refl _ _) (by kernel_rfl) (by kernel_rfl) ?_
    repeat (go_big_quiet_step (first | (go_at_call 73; exact below_call _ (Nat.le_refl _) (C.out _ (BelowOf.h _)))))
    refine wpQuiet_nil ?_
    intro _ hw'
    obtain ⟨pq, hw''⟩ := hw'
    subst hw''
    have HF := pq.h
    go_wp2
    go_ret
    exact ⟨by first | rfl | (rw [q]; rfl), HF⟩
/-- whether a key is there -/
def Bt.hit (key : Nat → V) (x : V) (l : List Nat) : Bool := match l[Bt.spot key x l]? with
  | some e => decide (Vl.cmp (key e) x = 0)
  | none => false
theorem repV_box {w : World} {H : Nat} {x : V} {v : Value} (h : Rep w H x v) : ∃ d0 d1 d2 d3 d4 d5, v = .agg #[d0, d1, d2, d3, d4, d5] := by
  obtain ⟨k, b, n, s, l, f⟩ := x
  rw [Rep] at h
  obtain ⟨ao, lc, fo, fc, h1, _⟩ := h
  exact ⟨_, _, _, _, _, _, h1⟩
theorem keyAt_of {w W : World} {g o n H : Nat} {es : List Nat} {key : Nat → V} (hb : Below w.heap.size w W) (hg : g < w.heap.size) (hH : H ≤ w.heap.size) (hx : ∀ (j e : Nat), es[j]? = some e → w.cell? ⟨g, o + j, none⟩ = some (.pointer (some ⟨e, 0, none⟩))) (hk : ∀ e ∈ es, EK w H (key e) e) {j e : Nat} (hj : es[j]? = some e) (hn : n = es.length) :
    W.cell? ⟨g, o + j, none⟩ = some (.pointer (some ⟨e, 0, none⟩)) ∧ EK W H (key e) e ∧ j < n :=
  ⟨(hb.cell (p := ⟨g, o + j, none⟩) hg).trans (hx j e hj), (hk e (List.mem_of_getElem? hj)).stays (hb.mono hH), by rw [hn]; exact (List.getElem?_eq_some_iff.1 hj).1⟩
set_option maxHeartbeats 4000000 in
set_option maxRecDepth 100000 in
theorem placeOf_c (g o n c H : Nat) (es : List Nat) (key : Nat → V) (x : V) (v : Value) (w : World) (hn : n = es.length) (hl : n ≤ 1000000) (hg : g < w.heap.size)
    (hx : ∀ (j e : Nat), es[j]? = some e → w.cell? ⟨g, o + j, none⟩ = some (.pointer (some ⟨e, 0, none⟩))) (hk : ∀ e ∈ es, EK w H (key e) e) (hr : Bt.Rises key es) (hH : H ≤ w.heap.size) (hv : Rep w H x v) :
    Calls Tryz.prog 64 #[.slice (some ⟨g, o, none⟩) n c, v] w fun ex w' => ex = .returned (.tuple #[.int .i64 (Bt.spot key x es : Int), .bool (Bt.hit key x es)]) ∧ Below w.heap.size w w' := by
  obtain ⟨d0, d1, d2, d3, d4, d5, rfl⟩ := repV_box hv
  obtain ⟨k, hkk⟩ : ∃ k, k = Bt.spot key x es := ⟨_, rfl⟩
  have hc := Bt.spot_cut (key := key) (x := x) hr
  rw [← hkk] at hc ⊢
  obtain ⟨w1, hw1⟩ : ∃ w1, w1 = w.alloc (.cells #[d0, d1, d2, d3, d4, d5] 27) := ⟨_, rfl⟩
  have b1 : Below w.heap.size w w1 := by rw [hw1]; exact below_new _ _
  have hB : w1.heap[w.heap.size]? = some (.cells #[d0, d1, d2, d3, d4, d5] 27 (0, 0)) := by rw [hw1]; exact heap_alloc_new w _
  have hs1 : w1.heap.size = w.heap.size + 1 := by rw [hw1]; simp
  obtain ⟨B, hBe⟩ : ∃ B, B = w.heap.size := ⟨_, rfl⟩
  have CP : Hid (Calls Tryz.prog 51 #[.slice (some ⟨g, o, none⟩) n c, .func (.func 77) #[] #[.pointer (some ⟨B, 0, none⟩)]] w1 fun e w' => e = .returned (.int .i64 (k : Int)) ∧ Below w1.heap.size w1 w') := by
    show Calls _ _ _ _ _
    rw [hBe]
    refine placeK_c _ (Bt.ahead key x) es g o n c k w1 hn hl (by omega) (fun j e he => (b1.cell (p := ⟨g, o + j, none⟩) hg).trans (hx j e he)) hc (fun e W he hW => ?_)
    have hb := b1.trans (hW.mono b1.size)
    exact keyAhead_c e w.heap.size H (key e) x d0 d1 d2 d3 d4 d5 W (Nat.le_trans hH hb.size) ((hk e he).stays (hb.mono hH)) ((hW.block _ (by omega)).trans hB) (rep_stays (hb.mono hH) (Nat.le_refl _) _ _ hv)
  have HB1 : Hid (Below w.heap.size w w1 ∧ w1.heap[B]? = some (.cells #[d0, d1, d2, d3, d4, d5] 27 (0, 0)) ∧ B < w1.heap.size) := ⟨b1, by rw [hBe]; exact hB, by omega⟩
  have HK : Hid (∀ W, Below w.heap.size w W → ∀ j e, es[j]? = some e → W.cell? ⟨g, o + j, none⟩ = some (.pointer (some ⟨e, 0, none⟩)) ∧ EK W H (key e) e ∧ j < n) := fun W hW j e hj => keyAt_of hW hg hH hx hk hj hn
  have HC : Hid (∀ W, Below w.heap.size w W → ∀ e c0 c1 c2 c3 c4 c5, Rep W H (key e) (.agg #[c0, c1, c2, c3, c4, c5]) → ∀ W', Below W.heap.size W W' → Calls Tryz.prog 73 #[.agg #[c0, c1, c2, c3, c4, c5], .agg #[d0, d1, d2, d3, d4, d5]] W' fun ex w' => ex = .returned (.int .i64 (Vl.cmp (key e) x)) ∧ Below W'.heap.size W' w') := fun W hW e c0 c1 c2 c3 c4 c5 h2 W' hW' => by
    have hb := hW.trans (hW'.mono hW.size)
    exact compare10 _ _ (Nat.le_refl _) x W' H _ _ (Nat.le_trans hH hb.size) (rep_stays (hW'.mono (Nat.le_trans hH hW.size)) (Nat.le_refl _) _ _ h2) (rep_stays (hb.mono hH) (Nat.le_refl _) _ _ hv)
  have HKK : Hid (k = Bt.spot key x es) := hkk
  have HN : Hid (n = es.length ∧ n ≤ 1000000 ∧ k ≤ es.length) := ⟨hn, hl, hc.1⟩
  clear hkk hc hx hk hr hv hB hn hl hg hs1 b1
  go_enter Tryz.func64, Tryz.ntmps64
  go_upto_region 1 with fail
  rw [← hw1, ← hBe]
  clear hw1 hBe
  go_wp2_with fail
  refine CP.out.mono ?_
  rintro e w2 ⟨rfl, hb2⟩
  have HB2 : Hid (Below w.heap.size w w2 ∧ w2.heap[B]? = some (.cells #[d0, d1, d2, d3, d4, d5] 27 (0, 0)) ∧ B < w2.heap.size) := ⟨HB1.out.1.trans (hb2.mono HB1.out.1.size), (hb2.block _ HB1.out.2.2).trans HB1.out.2.1, Nat.lt_of_lt_of_le HB1.out.2.2 hb2.size⟩
  clear hb2 CP
  go_upto_region 2 with fail
  rcases hlook : es[k]? with _ | e
  · have hkn : k = n := by have := HN.out; rw [List.getElem?_eq_none_iff] at hlook; omega
    have E : Hid (Bt.hit key x es = false) := by show _ = _; rw [Bt.hit, ← HKK.out, hlook]
    clear hlook
    subst hkn
    have q0 : ¬ (k : Int) < (k : Int) := by omega
    have q : decide ((k : Int) < (k : Int)) = false := by simp
    refine wp_region_below w2.heap.size w2 (Below.refl _ _) (by kernel_rfl) (by kernel_rfl) ?_
    repeat (go_big_quiet_step (fail))
    refine wpQuiet_nil ?_
    intro _ hw'
    obtain ⟨pq, hw''⟩ := hw'
    subst hw''
    have HF := HB2.out.1.trans (pq.h.mono HB2.out.1.size)
    go_wp2
    go_ret2
    exact ⟨by rw [E.out]; rfl, HF⟩
  · obtain ⟨k1, ⟨hel, c0, c1, c2, c3, c4, c5, row, h1, h2⟩, k3⟩ := HK.out w2 HB2.out.1 k e hlook
    have E : Hid (Bt.hit key x es = decide (Vl.cmp (key e) x = 0)) := by show _ = _; rw [Bt.hit, ← HKK.out, hlook]
    have hel' : e < w2.heap.size := lt_of_row h1
    have hg2 : g < w2.heap.size := by
      rcases Nat.lt_or_ge g w2.heap.size with h | h
      · exact h
      · exfalso
        have : w2.heap[g]? = none := Array.getElem?_eq_none h
        simp [World.cell?, this] at k1
    have l0 : ∀ p : BelowOf w2.heap.size w2, p.W.cell? ⟨g, o + k, none⟩ = some (.pointer (some ⟨e, 0, none⟩)) := fun p => (p.h.cell (p := ⟨g, o + k, none⟩) hg2).trans k1
    have p0 : ∀ p : BelowOf w2.heap.size w2, p.W.cell? ⟨e, 0, none⟩ = some c0 := fun p => cells_at ((p.h.block _ hel').trans h1) 0 _ rfl
    have p1 : ∀ p : BelowOf w2.heap.size w2, p.W.cell? ⟨e, 1, none⟩ = some c1 := fun p => cells_at ((p.h.block _ hel').trans h1) 1 _ rfl
    have p2 : ∀ p : BelowOf w2.heap.size w2, p.W.cell? ⟨e, 2, none⟩ = some c2 := fun p => cells_at ((p.h.block _ hel').trans h1) 2 _ rfl
    have p3 : ∀ p : BelowOf w2.heap.size w2, p.W.cell? ⟨e, 3, none⟩ = some c3 := fun p => cells_at ((p.h.block _ hel').trans h1) 3 _ rfl
    have p4 : ∀ p : BelowOf w2.heap.size w2, p.W.cell? ⟨e, 4, none⟩ = some c4 := fun p => cells_at ((p.h.block _ hel').trans h1) 4 _ rfl
    have p5 : ∀ p : BelowOf w2.heap.size w2, p.W.cell? ⟨e, 5, none⟩ = some c5 := fun p => cells_at ((p.h.block _ hel').trans h1) 5 _ rfl
    have HBB := HB2.out.2
    have b0 : ∀ p : BelowOf w2.heap.size w2, p.W.cell? ⟨B, 0, none⟩ = some d0 := fun p => cells_at ((p.h.block _ HBB.2).trans HBB.1) 0 _ rfl
    have b1 : ∀ p : BelowOf w2.heap.size w2, p.W.cell? ⟨B, 1, none⟩ = some d1 := fun p => cells_at ((p.h.block _ HBB.2).trans HBB.1) 1 _ rfl
    have b2 : ∀ p : BelowOf w2.heap.size w2, p.W.cell? ⟨B, 2, none⟩ = some d2 := fun p => cells_at ((p.h.block _ HBB.2).trans HBB.1) 2 _ rfl
    have b3 : ∀ p : BelowOf w2.heap.size w2, p.W.cell? ⟨B, 3, none⟩ = some d3 := fun p => cells_at ((p.h.block _ HBB.2).trans HBB.1) 3 _ rfl
    have b4 : ∀ p : BelowOf w2.heap.size w2, p.W.cell? ⟨B, 4, none⟩ = some d4 := fun p => cells_at ((p.h.block _ HBB.2).trans HBB.1) 4 _ rfl
    have b5 : ∀ p : BelowOf w2.heap.size w2, p.W.cell? ⟨B, 5, none⟩ = some d5 := fun p => cells_at ((p.h.block _ HBB.2).trans HBB.1) 5 _ rfl
    have C : Hid (∀ W', Below w2.heap.size w2 W' → Calls Tryz.prog 73 #[.agg #[c0, c1, c2, c3, c4, c5], .agg #[d0, d1, d2, d3, d4, d5]] W' fun ex w' => ex = .returned (.int .i64 (Vl.cmp (key e) x)) ∧ Below W'.heap.size W' w') := HC.out w2 HB2.out.1 e _ _ _ _ _ _ h2
    obtain ⟨z, hz⟩ : ∃ z, z = Vl.cmp (key e) x := ⟨_, rfl⟩
    rw [← hz] at C E
    have q0 : (0 : Int) ≤ (k : Int) := by omega
    have q1 : (k : Int) < (n : Int) := by omega
    have q : decide ((k : Int) < (n : Int)) = true := decide_eq_true q1
    clear hz h1 h2 k1 k3 hlook hel hel' hg2 HBB
    by_cases hzz : z = 0
    · subst hzz
      refine wp_region_below w2.heap.size w2 (Below.refl _ _) (by kernel_rfl) (by kernel_rfl) ?_
      repeat (go_big_quiet_step (first | (go_at_call 73; exact below_call _ (Nat.le_refl _) (C.out _ (BelowOf.h _)))))
      refine wpQuiet_nil ?_
      intro _ hw'
      obtain ⟨pq, hw''⟩ := hw'
      subst hw''
      have HF := HB2.out.1.trans (pq.h.mono HB2.out.1.size)
      go_wp2
      go_ret2
      exact ⟨by rw [E.out]; rfl, HF⟩
    · have qz : (z == 0) = false := by simpa using hzz
      have qd : decide (z = 0) = false := by simpa using hzz
      have E2 : Hid (Bt.hit key x es = false) := E.out.trans qd
      refine wp_region_below w2.heap.size w2 (Below.refl _ _) (by kernel_rfl) (by kernel_rfl) ?_
      repeat (go_big_quiet_step (first | (go_at_call 73; exact below_call _ (Nat.le_refl _) (C.out _ (BelowOf.h _)))))
      refine wpQuiet_nil ?_
      intro _ hw'
      obtain ⟨pq, hw''⟩ := hw'
      subst hw''
      have HF := HB2.out.1.trans (pq.h.mono HB2.out.1.size)
      go_wp2
      go_ret2
      exact ⟨by rw [E2.out]; rfl, HF⟩
end Go.Proofs.YtkigenldiinioaaGreatDoor
