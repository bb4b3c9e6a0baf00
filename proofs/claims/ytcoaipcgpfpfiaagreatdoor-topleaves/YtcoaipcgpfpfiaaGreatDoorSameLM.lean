/- sameLists at values and at fields, and Same itself, walked: whatever two values are, the answer is whether they are the same. -/
import Derived.Test.YtcoaipcgpfpfiaaGreatDoorJAM
namespace Go.Proofs.YtcoaipcgpfpfiaaGreatDoor
open Go.RowKit
open Vl (V)
namespace Vl
end Vl
set_option maxHeartbeats 4000000 in
set_option maxRecDepth 100000 in
theorem sames31 (la lb : List V) (ao bo : Option Addr) (ac bc : Nat) (w : World) (H : Nat) (hH : H ≤ w.heap.size) (hA : LiesL w H ao la) (hB : LiesL w H bo lb)
    (E : ∀ x ∈ la, ∀ y ∈ lb, ∀ (W : World) (va vb : Value), H ≤ W.heap.size → Rep W H x va → Rep W H y vb → Calls Tryz.prog 9 #[va, vb] W fun e w' => e = .returned (.bool (Vl.same x y)) ∧ Below W.heap.size W w') :
    Calls Tryz.prog 23 #[.slice ao la.length ac, .slice bo lb.length bc, .func (.func 9) #[] #[]] w fun e w' => e = .returned (.bool (Vl.sameL la lb)) ∧ Below w.heap.size w w' := by
  have HE : Hid (∀ x ∈ la, ∀ y ∈ lb, ∀ (W : World) (va vb : Value), H ≤ W.heap.size → Rep W H x va → Rep W H y vb → Calls Tryz.prog 9 #[va, vb] W fun e w' => e = .returned (.bool (Vl.same x y)) ∧ Below W.heap.size W w') := E
  obtain ⟨na, hna⟩ : ∃ n, n = la.length := ⟨_, rfl⟩
  obtain ⟨nb, hnb⟩ : ∃ n, n = lb.length := ⟨_, rfl⟩
  have h1 := maxLen_lt hA.1
  have h2 := maxLen_lt hB.1
  have HNA : Hid (na = la.length) := hna
  have HNB : Hid (nb = lb.length) := hnb
  have HA : Hid (0 < la.length → ∃ g o, ao = some ⟨g, o, none⟩ ∧ g < H ∧ RepL w H g o la) := hA.2
  have HB : Hid (0 < lb.length → ∃ g o, bo = some ⟨g, o, none⟩ ∧ g < H ∧ RepL w H g o lb) := hB.2
  rw [← hna] at h1 ⊢
  rw [← hnb] at h2 ⊢
  clear E hA hB hna hnb
  by_cases hne : na = nb
  · subst hne
    go_enter Tryz.func23, Tryz.ntmps23
    go_wp2
    go_loopw [15] (fun i wr => ∃ j : Nat, j ≤ na ∧ i = .int .i64 j ∧ Below w.heap.size w wr ∧ ∀ (i : Nat) (x y : V), i < j → la[i]? = some x → lb[i]? = some y → Vl.same x y = true) (fun i _ => na - (intOf i).toNat)
    case atStart => exact ⟨0, Nat.zero_le _, rfl, Below.refl _ _, fun i x y h => by omega⟩
    case round =>
      obtain ⟨j, hj, rfl, hb, hz⟩ := hrel
      have HZ : Hid (∀ (i : Nat) (x y : V), i < j → la[i]? = some x → lb[i]? = some y → Vl.same x y = true) := hz
      have HBW : Hid (Below w.heap.size w wr) := hb
      by_cases hlt : j < na
      · have ha : j < la.length := by rw [← HNA.out]; omega
        have hb' : j < lb.length := by rw [← HNB.out]; omega
        obtain ⟨g, o, rfl, hg, hr⟩ := HA.out (by omega)
        obtain ⟨g2, o2, rfl, hg2, hr2⟩ := HB.out (by omega)
        obtain ⟨x, hx⟩ : ∃ x, la[j]? = some x := ⟨_, List.getElem?_eq_getElem ha⟩
        obtain ⟨y, hy⟩ : ∃ y, lb[j]? = some y := ⟨_, List.getElem?_eq_getElem hb'⟩
        obtain ⟨c0, c1, c2, c3, c4, c5, ⟨d0, d1, d2, d3, d4, d5⟩, hrx⟩ := repL_at la o (repL_stays (hb.mono hH) (Nat.le_refl _) hg la o hr) j x hx
        obtain ⟨b0, b1, b2, b3, b4, b5, ⟨e0, e1, e2, e3, e4, e5⟩, hry⟩ := repL_at lb o2 (repL_stays (hb.mono hH) (Nat.le_refl _) hg2 lb o2 hr2) j y hy
        obtain ⟨c, hc⟩ : ∃ c, c = Vl.same x y := ⟨_, rfl⟩
        have HC : Hid (c = Vl.same x y) := hc
        have C10 : Hid (∀ W, Below wr.heap.size wr W → Calls Tryz.prog 9 #[.agg #[c0, c1, c2, c3, c4, c5], .agg #[b0, b1, b2, b3, b4, b5]] W fun e w' => e = .returned (.bool c) ∧ Below W.heap.size W w') := fun W hW => by
          rw [hc]
          exact HE.out x (List.mem_of_getElem? hx) y (List.mem_of_getElem? hy) W _ _ (by have := hW.size; have := hb.size; omega) (rep_stays (hW.mono (by have := hb.size; omega)) (Nat.le_refl _) x _ hrx) (rep_stays (hW.mono (by have := hb.size; omega)) (Nat.le_refl _) y _ hry)
        have HX : Hid (la[j]? = some x) := hx
        have HY : Hid (lb[j]? = some y) := hy
        clear hrx hry hr hr2 HA HB hx hy hc hb hz ha hb'
        go_wp2
        go_region_with (first | (go_at_call 9; refine (C10.out _ (Below.refl _ _).drew).mono ?_; rintro e w3 ⟨rfl, hb3⟩))
        all_goals
          have HB3 : Hid (Below w.heap.size w w3) := HBW.out.trans (((Below.refl _ _).drew.trans hb3).mono HBW.out.size)
          clear hb3 d0 d1 d2 d3 d4 d5 e0 e1 e2 e3 e4 e5
          by_cases hc0 : c = true
          · subst hc0
            go_wp2
            go_roundw
            case rel =>
              refine ⟨j + 1, by omega, by go_num, HB3.out, fun i x' y' hi hx' hy' => ?_⟩
              by_cases hij : i < j
              · exact HZ.out i x' y' hij hx' hy'
              · have hij' : i = j := by omega
                subst hij'
                have h1 := HX.out
                have h2 := HY.out
                rw [hx'] at h1
                rw [hy'] at h2
                cases h1; cases h2
                exact HC.out.symm
            case measure => simp [intOf]; omega
          · have hc1 : c = false := by simpa using hc0
            subst hc1
            go_wp2
            exact ⟨rfl, _, results_tmp (by rfl) _ _ _, by rw [Vl.sameL_no la lb j x y HX.out HY.out HC.out.symm]; rfl, HB3.out⟩
      · have hall : Vl.sameL la lb = true := by
          refine Vl.sameL_all la lb (by rw [← HNA.out, ← HNB.out]) fun i x y hx hy => HZ.out i x y ?_ hx hy
          have h1 := (List.getElem?_eq_some_iff.1 hx).1
          rw [← HNA.out] at h1
          omega
        have HALL : Hid (Vl.sameL la lb = true) := hall
        clear hall
        go_wp2
        exact ⟨rfl, _, results_tmp (by rfl) _ _ _, by rw [HALL.out]; rfl, HBW.out⟩
  · have HALL : Hid (Vl.sameL la lb = false) := Vl.sameL_len la lb (by rw [← HNA.out, ← HNB.out]; exact hne)
    go_enter Tryz.func23, Tryz.ntmps23
    go_wp2
    all_goals exact ⟨rfl, _, results_tmp (by rfl) _ _ _, by rw [HALL.out]; rfl, Below.refl _ _⟩
set_option maxHeartbeats 4000000 in
set_option maxRecDepth 100000 in
theorem fields33 (m p : ByteArray) (x y : V) (w : World) (c0 c1 c2 c3 c4 c5 b0 b1 b2 b3 b4 b5 : Value) (H : Nat) (hH : H ≤ w.heap.size) (hx : Rep w H x (.agg #[c0, c1, c2, c3, c4, c5])) (hy : Rep w H y (.agg #[b0, b1, b2, b3, b4, b5]))
    (E : ∀ (W : World) (va vb : Value), H ≤ W.heap.size → Rep W H x va → Rep W H y vb → Calls Tryz.prog 9 #[va, vb] W fun e w' => e = .returned (.bool (Vl.same x y)) ∧ Below W.heap.size W w') :
    Calls Tryz.prog 25 #[.agg #[.string m, c0, c1, c2, c3, c4, c5], .agg #[.string p, b0, b1, b2, b3, b4, b5]] w fun e w' => e = .returned (.bool (Vl.same1 (m, x) (p, y))) ∧ Below w.heap.size w w' := by
  obtain ⟨xk, xb, xn, xs, xa, xl, xc, ya, yl, yc, rfl, rfl, rfl, rfl, rfl, rfl⟩ := rep_form hx
  obtain ⟨zk, zb, zn, zs, za, zl, zc, ta, tl, tc, rfl, rfl, rfl, rfl, rfl, rfl⟩ := rep_form hy
  obtain ⟨c, hc⟩ : ∃ c, c = Vl.same x y := ⟨_, rfl⟩
  have HR : Hid (Vl.same1 (m, x) (p, y) = (decide (m = p) && c)) := by rw [hc]; rfl
  have C10 : Hid (∀ W, Below w.heap.size w W → Calls Tryz.prog 9 #[.agg #[.int .u8 (xk : Int), .bool xb, .int .i64 xn, .string xs, .slice xa xl xc, .slice ya yl yc], .agg #[.int .u8 (zk : Int), .bool zb, .int .i64 zn, .string zs, .slice za zl zc, .slice ta tl tc]] W fun e w' => e = .returned (.bool c) ∧ Below W.heap.size W w') := fun W hW => by
    rw [hc]
    exact E W _ _ (by have := hW.size; omega) (rep_stays (hW.mono hH) (Nat.le_refl _) x _ hx) (rep_stays (hW.mono hH) (Nat.le_refl _) y _ hy)
  clear E hx hy hc
  by_cases hmp : m = p
  · subst hmp
    go_enter Tryz.func25, Tryz.ntmps25
    go_wp2_with (go_at_call 9; refine (C10.out _ (below_new2 _ _ _)).mono ?_; rintro e w3 ⟨rfl, hb3⟩)
    all_goals exact ⟨rfl, _, results_tmp (by rfl) _ _ _, by rw [HR.out]; simp, (below_new2 _ _ _).trans (hb3.mono (below_new2 _ _ _).size)⟩
  · have hne := Vl.toList_ne hmp
    go_enter Tryz.func25, Tryz.ntmps25
    go_wp2_with (go_at_call 9; refine (C10.out _ (below_new2 _ _ _)).mono ?_; rintro e w3 ⟨rfl, hb3⟩)
    all_goals exact ⟨rfl, _, results_tmp (by rfl) _ _ _, by rw [HR.out]; simp [hmp], below_new2 _ _ _⟩
set_option maxHeartbeats 4000000 in
set_option maxRecDepth 100000 in
theorem sames32 (la lb : List (ByteArray × V)) (ao bo : Option Addr) (ac bc : Nat) (w : World) (H : Nat) (hH : H ≤ w.heap.size) (hA : LiesF w H ao la) (hB : LiesF w H bo lb)
    (E : ∀ x ∈ la, ∀ y ∈ lb, ∀ (W : World) (va vb : Value), H ≤ W.heap.size → Rep W H x.2 va → Rep W H y.2 vb → Calls Tryz.prog 9 #[va, vb] W fun e w' => e = .returned (.bool (Vl.same x.2 y.2)) ∧ Below W.heap.size W w') :
    Calls Tryz.prog 24 #[.slice ao la.length ac, .slice bo lb.length bc, .func (.func 25) #[] #[]] w fun e w' => e = .returned (.bool (Vl.sameF la lb)) ∧ Below w.heap.size w w' := by
  have HE : Hid (∀ x ∈ la, ∀ y ∈ lb, ∀ (W : World) (va vb : Value), H ≤ W.heap.size → Rep W H x.2 va → Rep W H y.2 vb → Calls Tryz.prog 9 #[va, vb] W fun e w' => e = .returned (.bool (Vl.same x.2 y.2)) ∧ Below W.heap.size W w') := E
  obtain ⟨na, hna⟩ : ∃ n, n = la.length := ⟨_, rfl⟩
  obtain ⟨nb, hnb⟩ : ∃ n, n = lb.length := ⟨_, rfl⟩
  have h1 := maxLen_lt hA.1
  have h2 := maxLen_lt hB.1
  have HNA : Hid (na = la.length) := hna
  have HNB : Hid (nb = lb.length) := hnb
  have HA : Hid (0 < la.length → ∃ g o, ao = some ⟨g, o, none⟩ ∧ g < H ∧ RepF w H g o la) := hA.2
  have HB : Hid (0 < lb.length → ∃ g o, bo = some ⟨g, o, none⟩ ∧ g < H ∧ RepF w H g o lb) := hB.2
  rw [← hna] at h1 ⊢
  rw [← hnb] at h2 ⊢
  clear E hA hB hna hnb
  by_cases hne : na = nb
  · subst hne
    go_enter Tryz.func24, Tryz.ntmps24
    go_wp2
    go_loopw [15] (fun i wr => ∃ j : Nat, j ≤ na ∧ i = .int .i64 j ∧ Below w.heap.size w wr ∧ ∀ (i : Nat) (x y : ByteArray × V), i < j → la[i]? = some x → lb[i]? = some y → Vl.same1 x y = true) (fun i _ => na - (intOf i).toNat)
    case atStart => exact ⟨0, Nat.zero_le _, rfl, Below.refl _ _, fun i x y h => by omega⟩
    case round =>
      obtain ⟨j, hj, rfl, hb, hz⟩ := hrel
      have HZ : Hid (∀ (i : Nat) (x y : ByteArray × V), i < j → la[i]? = some x → lb[i]? = some y → Vl.same1 x y = true) := hz
      have HBW : Hid (Below w.heap.size w wr) := hb
      by_cases hlt : j < na
      · have ha : j < la.length := by rw [← HNA.out]; omega
        have hb' : j < lb.length := by rw [← HNB.out]; omega
        obtain ⟨g, o, rfl, hg, hr⟩ := HA.out (by omega)
        obtain ⟨g2, o2, rfl, hg2, hr2⟩ := HB.out (by omega)
        obtain ⟨⟨ma, x⟩, hx⟩ : ∃ x, la[j]? = some x := ⟨_, List.getElem?_eq_getElem ha⟩
        obtain ⟨⟨mb, y⟩, hy⟩ : ∃ y, lb[j]? = some y := ⟨_, List.getElem?_eq_getElem hb'⟩
        obtain ⟨dm, _, c0, c1, c2, c3, c4, c5, ⟨d0, d1, d2, d3, d4, d5⟩, hrx⟩ := repF_at la o (repF_stays (hb.mono hH) (Nat.le_refl _) hg la o hr) j ma x hx
        obtain ⟨em, _, b0, b1, b2, b3, b4, b5, ⟨e0, e1, e2, e3, e4, e5⟩, hry⟩ := repF_at lb o2 (repF_stays (hb.mono hH) (Nat.le_refl _) hg2 lb o2 hr2) j mb y hy
        rw [show o + j * 7 + 1 + 1 = o + j * 7 + 2 by omega] at d1
        rw [show o + j * 7 + 1 + 2 = o + j * 7 + 3 by omega] at d2
        rw [show o + j * 7 + 1 + 3 = o + j * 7 + 4 by omega] at d3
        rw [show o + j * 7 + 1 + 4 = o + j * 7 + 5 by omega] at d4
        rw [show o + j * 7 + 1 + 5 = o + j * 7 + 6 by omega] at d5
        rw [show o2 + j * 7 + 1 + 1 = o2 + j * 7 + 2 by omega] at e1
        rw [show o2 + j * 7 + 1 + 2 = o2 + j * 7 + 3 by omega] at e2
        rw [show o2 + j * 7 + 1 + 3 = o2 + j * 7 + 4 by omega] at e3
        rw [show o2 + j * 7 + 1 + 4 = o2 + j * 7 + 5 by omega] at e4
        rw [show o2 + j * 7 + 1 + 5 = o2 + j * 7 + 6 by omega] at e5
        obtain ⟨c, hc⟩ : ∃ c, c = Vl.same1 (ma, x) (mb, y) := ⟨_, rfl⟩
        have HC : Hid (c = Vl.same1 (ma, x) (mb, y)) := hc
        have C10 : Hid (∀ W, Below wr.heap.size wr W → Calls Tryz.prog 25 #[.agg #[.string ma, c0, c1, c2, c3, c4, c5], .agg #[.string mb, b0, b1, b2, b3, b4, b5]] W fun e w' => e = .returned (.bool c) ∧ Below W.heap.size W w') := fun W hW => by
          rw [hc]
          exact fields33 ma mb x y W _ _ _ _ _ _ _ _ _ _ _ _ H (by have := hW.size; have := hb.size; omega) (rep_stays (hW.mono (by have := hb.size; omega)) (Nat.le_refl _) x _ hrx) (rep_stays (hW.mono (by have := hb.size; omega)) (Nat.le_refl _) y _ hry) (HE.out (ma, x) (List.mem_of_getElem? hx) (mb, y) (List.mem_of_getElem? hy))
        have HX : Hid (la[j]? = some (ma, x)) := hx
        have HY : Hid (lb[j]? = some (mb, y)) := hy
        clear hrx hry hr hr2 HA HB hx hy hc hb hz ha hb'
        go_wp2
        go_region_with (first | (go_at_call 25; refine (C10.out _ (Below.refl _ _).drew).mono ?_; rintro e w3 ⟨rfl, hb3⟩))
        all_goals
          have HB3 : Hid (Below w.heap.size w w3) := HBW.out.trans (((Below.refl _ _).drew.trans hb3).mono HBW.out.size)
          clear hb3 dm em d0 d1 d2 d3 d4 d5 e0 e1 e2 e3 e4 e5
          by_cases hc0 : c = true
          · subst hc0
            go_wp2
            go_roundw
            case rel =>
              refine ⟨j + 1, by omega, by go_num, HB3.out, fun i x' y' hi hx' hy' => ?_⟩
              by_cases hij : i < j
              · exact HZ.out i x' y' hij hx' hy'
              · have hij' : i = j := by omega
                subst hij'
                have h1 := HX.out
                have h2 := HY.out
                rw [hx'] at h1
                rw [hy'] at h2
                cases h1; cases h2
                exact HC.out.symm
            case measure => simp [intOf]; omega
          · have hc1 : c = false := by simpa using hc0
            subst hc1
            go_wp2
            exact ⟨rfl, _, results_tmp (by rfl) _ _ _, by rw [Vl.sameF_no la lb j (ma, x) (mb, y) HX.out HY.out HC.out.symm]; rfl, HB3.out⟩
      · have hall : Vl.sameF la lb = true := by
          refine Vl.sameF_all la lb (by rw [← HNA.out, ← HNB.out]) fun i x y hx hy => HZ.out i x y ?_ hx hy
          have h1 := (List.getElem?_eq_some_iff.1 hx).1
          rw [← HNA.out] at h1
          omega
        have HALL : Hid (Vl.sameF la lb = true) := hall
        clear hall
        go_wp2
        exact ⟨rfl, _, results_tmp (by rfl) _ _ _, by rw [HALL.out]; rfl, HBW.out⟩
  · have HALL : Hid (Vl.sameF la lb = false) := Vl.sameF_len la lb (by rw [← HNA.out, ← HNB.out]; exact hne)
    go_enter Tryz.func24, Tryz.ntmps24
    go_wp2
    all_goals exact ⟨rfl, _, results_tmp (by rfl) _ _ _, by rw [HALL.out]; rfl, Below.refl _ _⟩
end Go.Proofs.YtcoaipcgpfpfiaaGreatDoor
