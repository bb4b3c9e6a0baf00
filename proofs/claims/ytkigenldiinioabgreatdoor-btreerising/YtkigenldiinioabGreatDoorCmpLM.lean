/- compareLists at values and at fields, walked over whatever the parts' own comparison answers. -/
import Derived.Test.YtkigenldiinioabGreatDoorCmpM
import Derived.Test.YtkigenldiinioabGreatDoorGAM
import Derived.Deep.RegionWith
namespace Go.Proofs.YtkigenldiinioabGreatDoor
open Go.RowKit
open Vl (V)
namespace Vl
/-- the first two parts that are unlike tell -/
theorem cmpL_prefix : ∀ (l r : List V) (j : Nat) (x y : V), (∀ (i : Nat) (x y : V), i < j → l[i]? = some x → r[i]? = some y → cmp x y = 0) → l[j]? = some x → r[j]? = some y → cmp x y ≠ 0 → cmpL l r = cmp x y
  | [], _, _, _, _, _, h, _, _ => by simp at h
  | _ :: _, [], _, _, _, _, _, h, _ => by simp at h
  | x :: l, y :: r, 0, x', y', _, h1, h2, h3 => by
    simp only [List.getElem?_cons_zero, Option.some.injEq] at h1 h2
    subst h1; subst h2
    rw [cmpL, if_pos h3]
  | x :: l, y :: r, j + 1, x', y', h0, h1, h2, h3 => by
    rw [cmpL, if_neg (by simp [h0 0 x y (by omega) rfl rfl])]
    exact cmpL_prefix l r j x' y' (fun i a b hi ha hb => h0 (i + 1) a b (by omega) (by simpa using ha) (by simpa using hb)) (by simpa using h1) (by simpa using h2) h3
theorem cmpL_all : ∀ (l r : List V), (∀ (i : Nat) (x y : V), l[i]? = some x → r[i]? = some y → cmp x y = 0) → cmpL l r = Lib.compareInt l.length r.length
  | [], [], _ => by rw [cmpL, List.length_nil, int_refl]
  | [], y :: r, _ => by rw [cmpL, List.length_nil, List.length_cons]; simp only [Lib.compareInt]; rw [if_pos (by omega)]
  | x :: l, [], _ => by rw [cmpL, List.length_nil, List.length_cons]; simp only [Lib.compareInt]; rw [if_neg (by omega), if_pos (by omega)]
  | x :: l, y :: r, h => by
    rw [cmpL, if_neg (by simp [h 0 x y rfl rfl]), cmpL_all l r (fun i a b ha hb => h (i + 1) a b (by simpa using ha) (by simpa using hb)), List.length_cons, List.length_cons]
    simp only [Lib.compareInt]
    (repeat' split) <;> omega
end Vl
set_option maxHeartbeats 4000000 in
set_option maxRecDepth 100000 in
theorem lists27 (la lb : List V) (ao bo : Option Addr) (ac bc : Nat) (w : World) (H : Nat) (hH : H ≤ w.heap.size) (hA : LiesL w H ao la) (hB : LiesL w H bo lb)
    (E : ∀ x ∈ la, ∀ y ∈ lb, ∀ (W : World) (va vb : Value), H ≤ W.heap.size → Rep W H x va → Rep W H y vb → Calls Tryz.prog 64 #[va, vb] W fun e w' => e = .returned (.int .i64 (Vl.cmp x y)) ∧ Below W.heap.size W w') :
    Calls Tryz.prog 82 #[.slice ao la.length ac, .slice bo lb.length bc, .func (.func 64) #[] #[]] w fun e w' => e = .returned (.int .i64 (Vl.cmpL la lb)) ∧ Below w.heap.size w w' := by
  have HE : Hid (∀ x ∈ la, ∀ y ∈ lb, ∀ (W : World) (va vb : Value), H ≤ W.heap.size → Rep W H x va → Rep W H y vb → Calls Tryz.prog 64 #[va, vb] W fun e w' => e = .returned (.int .i64 (Vl.cmp x y)) ∧ Below W.heap.size W w') := E
  obtain ⟨na, hna⟩ : ∃ n, n = la.length := ⟨_, rfl⟩
  obtain ⟨nb, hnb⟩ : ∃ n, n = lb.length := ⟨_, rfl⟩
  have h1 := maxLen_lt hA.1
  have h2 := maxLen_lt hB.1
  have HNA : Hid (na = la.length) := hna
  have HNB : Hid (nb = lb.length) := hnb
  have HA : Hid (0 < la.length → ∃ g o, ao = some ⟨g, o, none⟩ ∧ g < H ∧ RepL w H g o la) := hA.2
  have HB : Hid (0 < lb.length → ∃ g o, bo = some ⟨g, o, none⟩ ∧ g < H ∧ RepL w H g o lb) := hB.2
  rw [← hna] at h1 ⊢
  rw [← hnb] at h2 ⊢
  clear E hA hB hna hnb
  go_enter Tryz.func82, Tryz.ntmps82
  go_wp2
  · rename_i hmin
    have hmm : nb ≤ na := by omega
    go_loopw [14] (fun i wr => ∃ j : Nat, j ≤ nb ∧ i = .int .i64 j ∧ Below w.heap.size w wr ∧ ∀ (i : Nat) (x y : V), i < j → la[i]? = some x → lb[i]? = some y → Vl.cmp x y = 0) (fun i _ => nb - (intOf i).toNat)
    case atStart => exact ⟨0, Nat.zero_le _, rfl, Below.refl _ _, fun i x y h => by omega⟩
    case round =>
      obtain ⟨j, hj, rfl, hb, hz⟩ := hrel
      have HZ : Hid (∀ (i : Nat) (x y : V), i < j → la[i]? = some x → lb[i]? = some y → Vl.cmp x y = 0) := hz
      have HBW : Hid (Below w.heap.size w wr) := hb
      by_cases hlt : j < nb
      · have ha : j < la.length := by rw [← HNA.out]; omega
        have hb' : j < lb.length := by rw [← HNB.out]; omega
        have ha' : j < na := by omega
        have hb'' : j < nb := by omega
        obtain ⟨g, o, rfl, hg, hr⟩ := HA.out (by omega)
        obtain ⟨g2, o2, rfl, hg2, hr2⟩ := HB.out (by omega)
        obtain ⟨x, hx⟩ : ∃ x, la[j]? = some x := ⟨_, List.getElem?_eq_getElem ha⟩
        obtain ⟨y, hy⟩ : ∃ y, lb[j]? = some y := ⟨_, List.getElem?_eq_getElem hb'⟩
        obtain ⟨c0, c1, c2, c3, c4, c5, ⟨d0, d1, d2, d3, d4, d5⟩, hrx⟩ := repL_at la o (repL_stays (hb.mono hH) (Nat.le_refl _) hg la o hr) j x hx
        obtain ⟨b0, b1, b2, b3, b4, b5, ⟨e0, e1, e2, e3, e4, e5⟩, hry⟩ := repL_at lb o2 (repL_stays (hb.mono hH) (Nat.le_refl _) hg2 lb o2 hr2) j y hy
        obtain ⟨c, hc⟩ : ∃ c, c = Vl.cmp x y := ⟨_, rfl⟩
        have HC : Hid (c = Vl.cmp x y) := hc
        have C10 : Hid (∀ W, Below wr.heap.size wr W → Calls Tryz.prog 64 #[.agg #[c0, c1, c2, c3, c4, c5], .agg #[b0, b1, b2, b3, b4, b5]] W fun e w' => e = .returned (.int .i64 c) ∧ Below W.heap.size W w') := fun W hW => by
          rw [hc]
          exact HE.out x (List.mem_of_getElem? hx) y (List.mem_of_getElem? hy) W _ _ (by have := hW.size; have := hb.size; omega) (rep_stays (hW.mono (by have := hb.size; omega)) (Nat.le_refl _) x _ hrx) (rep_stays (hW.mono (by have := hb.size; omega)) (Nat.le_refl _) y _ hry)
        have HX : Hid (la[j]? = some x) := hx
        have HY : Hid (lb[j]? = some y) := hy
        clear hrx hry hr hr2 HA HB hx hy hc hb hz ha hb'
        go_wp2
        go_region_with (first | (go_at_call 64; refine (C10.out _ (Below.refl _ _).drew).mono ?_; rintro e w3 ⟨rfl, hb3⟩))
        all_goals
          have HB3 : Hid (Below w.heap.size w w3) := HBW.out.trans (((Below.refl _ _).drew.trans hb3).mono HBW.out.size)
          clear hb3 d0 d1 d2 d3 d4 d5 e0 e1 e2 e3 e4 e5
          by_cases hc0 : c = 0
          · subst hc0
            go_wp2
            go_roundw
            case rel =>
              refine ⟨j + 1, by omega, by go_num, HB3.out, fun i x' y' hi hx' hy' => ?_⟩
              by_cases hij : i < j
              · exact HZ.out i x' y' hij hx' hy'
              · have hij' : i = j := by omega
                subst hij'
                have h1 := HX.out
                have h2 := HY.out
                rw [hx'] at h1
                rw [hy'] at h2
                cases h1; cases h2
                exact HC.out.symm
            case measure => simp [intOf]; omega
          · go_wp2
            exact ⟨rfl, _, results_tmp (by rfl) _ _ _, by rw [Vl.cmpL_prefix la lb j x y HZ.out HX.out HY.out (by rw [← HC.out]; exact hc0), ← HC.out]; rfl, HB3.out⟩
      · have hall : Vl.cmpL la lb = Lib.compareInt na nb := by
          rw [HNA.out, HNB.out]
          refine Vl.cmpL_all la lb fun i x y hx hy => HZ.out i x y ?_ hx hy
          have h1 := (List.getElem?_eq_some_iff.1 hx).1
          have h2 := (List.getElem?_eq_some_iff.1 hy).1
          rw [← HNA.out] at h1
          rw [← HNB.out] at h2
          omega
        have HALL : Hid (Vl.cmpL la lb = Lib.compareInt na nb) := hall
        clear hall
        go_wp2_with (go_at_call 99; refine (ints47 _ _ _).mono ?_; rintro e w' ⟨rfl, rfl⟩)
        exact ⟨rfl, _, results_tmp (by rfl) _ _ _, by rw [HALL.out]; rfl, HBW.out⟩
  · rename_i hmin
    have hmm : na ≤ nb := by omega
    go_loopw [14] (fun i wr => ∃ j : Nat, j ≤ na ∧ i = .int .i64 j ∧ Below w.heap.size w wr ∧ ∀ (i : Nat) (x y : V), i < j → la[i]? = some x → lb[i]? = some y → Vl.cmp x y = 0) (fun i _ => na - (intOf i).toNat)
    case atStart => exact ⟨0, Nat.zero_le _, rfl, Below.refl _ _, fun i x y h => by omega⟩
    case round =>
      obtain ⟨j, hj, rfl, hb, hz⟩ := hrel
      have HZ : Hid (∀ (i : Nat) (x y : V), i < j → la[i]? = some x → lb[i]? = some y → Vl.cmp x y = 0) := hz
      have HBW : Hid (Below w.heap.size w wr) := hb
      by_cases hlt : j < na
      · have ha : j < la.length := by rw [← HNA.out]; omega
        have hb' : j < lb.length := by rw [← HNB.out]; omega
        have ha' : j < na := by omega
        have hb'' : j < nb := by omega
        obtain ⟨g, o, rfl, hg, hr⟩ := HA.out (by omega)
        obtain ⟨g2, o2, rfl, hg2, hr2⟩ := HB.out (by omega)
        obtain ⟨x, hx⟩ : ∃ x, la[j]? = some x := ⟨_, List.getElem?_eq_getElem ha⟩
        obtain ⟨y, hy⟩ : ∃ y, lb[j]? = some y := ⟨_, List.getElem?_eq_getElem hb'⟩
        obtain ⟨c0, c1, c2, c3, c4, c5, ⟨d0, d1, d2, d3, d4, d5⟩, hrx⟩ := repL_at la o (repL_stays (hb.mono hH) (Nat.le_refl _) hg la o hr) j x hx
        obtain ⟨b0, b1, b2, b3, b4, b5, ⟨e0, e1, e2, e3, e4, e5⟩, hry⟩ := repL_at lb o2 (repL_stays (hb.mono hH) (Nat.le_refl _) hg2 lb o2 hr2) j y hy
        obtain ⟨c, hc⟩ : ∃ c, c = Vl.cmp x y := ⟨_, rfl⟩
        have HC : Hid (c = Vl.cmp x y) := hc
        have C10 : Hid (∀ W, Below wr.heap.size wr W → Calls Tryz.prog 64 #[.agg #[c0, c1, c2, c3, c4, c5], .agg #[b0, b1, b2, b3, b4, b5]] W fun e w' => e = .returned (.int .i64 c) ∧ Below W.heap.size W w') := fun W hW => by
          rw [hc]
          exact HE.out x (List.mem_of_getElem? hx) y (List.mem_of_getElem? hy) W _ _ (by have := hW.size; have := hb.size; omega) (rep_stays (hW.mono (by have := hb.size; omega)) (Nat.le_refl _) x _ hrx) (rep_stays (hW.mono (by have := hb.size; omega)) (Nat.le_refl _) y _ hry)
        have HX : Hid (la[j]? = some x) := hx
        have HY : Hid (lb[j]? = some y) := hy
        clear hrx hry hr hr2 HA HB hx hy hc hb hz ha hb'
        go_wp2
        go_region_with (first | (go_at_call 64; refine (C10.out _ (Below.refl _ _).drew).mono ?_; rintro e w3 ⟨rfl, hb3⟩))
        all_goals
          have HB3 : Hid (Below w.heap.size w w3) := HBW.out.trans (((Below.refl _ _).drew.trans hb3).mono HBW.out.size)
          clear hb3 d0 d1 d2 d3 d4 d5 e0 e1 e2 e3 e4 e5
          by_cases hc0 : c = 0
          · subst hc0
            go_wp2
            go_roundw
            case rel =>
              refine ⟨j + 1, by omega, by go_num, HB3.out, fun i x' y' hi hx' hy' => ?_⟩
              by_cases hij : i < j
              · exact HZ.out i x' y' hij hx' hy'
              · have hij' : i = j := by omega
                subst hij'
                have h1 := HX.out
                have h2 := HY.out
                rw [hx'] at h1
                rw [hy'] at h2
                cases h1; cases h2
                exact HC.out.symm
            case measure => simp [intOf]; omega
          · go_wp2
            exact ⟨rfl, _, results_tmp (by rfl) _ _ _, by rw [Vl.cmpL_prefix la lb j x y HZ.out HX.out HY.out (by rw [← HC.out]; exact hc0), ← HC.out]; rfl, HB3.out⟩
      · have hall : Vl.cmpL la lb = Lib.compareInt na nb := by
          rw [HNA.out, HNB.out]
          refine Vl.cmpL_all la lb fun i x y hx hy => HZ.out i x y ?_ hx hy
          have h1 := (List.getElem?_eq_some_iff.1 hx).1
          have h2 := (List.getElem?_eq_some_iff.1 hy).1
          rw [← HNA.out] at h1
          rw [← HNB.out] at h2
          omega
        have HALL : Hid (Vl.cmpL la lb = Lib.compareInt na nb) := hall
        clear hall
        go_wp2_with (go_at_call 99; refine (ints47 _ _ _).mono ?_; rintro e w' ⟨rfl, rfl⟩)
        exact ⟨rfl, _, results_tmp (by rfl) _ _ _, by rw [HALL.out]; rfl, HBW.out⟩
end Go.Proofs.YtkigenldiinioabGreatDoor
