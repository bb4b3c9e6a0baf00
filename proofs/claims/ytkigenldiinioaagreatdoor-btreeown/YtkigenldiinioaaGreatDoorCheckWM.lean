/- check, walked: whatever the value, it answers why it is not right, and changes nothing that lay there. -/
import Derived.Test.YtkigenldiinioaaGreatDoorQ08M
namespace Go.Proofs.YtkigenldiinioaaGreatDoor
open Go.RowKit
open Vl (V)
set_option maxHeartbeats 16000000 in
set_option maxRecDepth 100000 in
theorem check30 {u : ByteArray → Bool} {T : World → Prop} (hU : Utf u T) : ∀ (N : Nat) (t : V), Vl.count t ≤ N → ∀ (d : Nat), d ≤ 6 → ∀ (w : World) (H : Nat) (v : Value), T w → H ≤ w.heap.size → Rep w H t v →
    Calls Tryz.prog 49 #[v, .int .i64 (d : Int)] w fun e w' => e = .returned (.int .i64 ((Vl.check u d t : Nat) : Int)) ∧ Below w.heap.size w w' := by
  intro N
  induction N with
  | zero => intro t ht; obtain ⟨k, b, n, s, l, f⟩ := t; rw [Vl.count] at ht; omega
  | succ N ih =>
    rintro ⟨k, b, n, s, l, f⟩ ht d hd w H v hT hH hR
    rw [Rep] at hR
    obtain ⟨ao, lc, fo, fc, rfl, h2, h3, h4, h5, h6, h7, h8⟩ := hR
    have IH : Hid (∀ (t : V), Vl.count t ≤ N → ∀ (d : Nat), d ≤ 6 → ∀ (w : World) (H : Nat) (v : Value), T w → H ≤ w.heap.size → Rep w H t v → Calls Tryz.prog 49 #[v, .int .i64 (d : Int)] w fun e w' => e = .returned (.int .i64 ((Vl.check u d t : Nat) : Int)) ∧ Below w.heap.size w w') := ih
    have HU : Hid (Utf u T) := hU
    have HTW : Hid (T w) := hT
    have HT : Hid (Vl.count ⟨k, b, n, s, l, f⟩ ≤ N + 1) := ht
    have H7 : Hid (0 < l.length → ∃ g o, ao = some ⟨g, o, none⟩ ∧ g < H ∧ RepL w H g o l) := h7
    have H8 : Hid (0 < f.length → ∃ g o, fo = some ⟨g, o, none⟩ ∧ g < H ∧ RepF w H g o f) := h8
    obtain ⟨al, hal⟩ : ∃ al, al = Vl.alone u d ⟨k, b, n, s, l, f⟩ := ⟨_, rfl⟩
    have HAL : Hid (al = Vl.alone u d ⟨k, b, n, s, l, f⟩) := hal
    have C48 : Hid (∀ W, T W → Calls Tryz.prog 71 #[.agg #[.int .u8 (k : Int), .bool b, .int .i64 n, .string s, .slice ao l.length lc, .slice fo f.length fc], .int .i64 (d : Int)] W fun e w' => e = .returned (.int .i64 (al : Int)) ∧ Below W.heap.size W w') := fun W hW => by
      rw [hal]; exact alone48 hU k b n s l f ao lc fo fc d W hW h4 h5 h6 (by omega)
    obtain ⟨ck, hck⟩ : ∃ ck, ck = Vl.check u d ⟨k, b, n, s, l, f⟩ := ⟨_, rfl⟩
    have HCK : Hid (ck = if al ≠ 0 then al else if Vl.checkL u (d + 1) l ≠ 0 then Vl.checkL u (d + 1) l else Vl.checkF u (d + 1) none f) := by
      show _ = _
      rw [hck, Vl.check, hal]
    rw [← hck]
    obtain ⟨ll, hll⟩ : ∃ ll, ll = l.length := ⟨_, rfl⟩
    obtain ⟨fl, hfl⟩ : ∃ fl, fl = f.length := ⟨_, rfl⟩
    have HLL : Hid (ll = l.length) := hll
    have HFL : Hid (fl = f.length) := hfl
    have h5' := maxLen_lt h5
    have h6' := maxLen_lt h6
    rw [← hll] at h5' C48 ⊢
    rw [← hfl] at h6' C48 ⊢
    clear ih ht h7 h8 hll hfl hck hal hU hT h4 h5 h6 h3
    go_enter Tryz.func49, Tryz.ntmps49
    go_wp2_with fail
    refine (C48.out _ (HU.out.stays _ _ HTW.out (below_new _ _))).mono ?_
    rintro e w2 ⟨rfl, hb2⟩
    have HB2 : Hid (Below w.heap.size w w2) := (below_new _ _).trans (hb2.mono (below_new _ _).size)
    have HS2 : Hid (w.heap.size + 1 ≤ w2.heap.size) := by have := hb2.size; simp at this; exact this
    have HBOX : Hid (w2.heap[w.heap.size]? = some (.cells #[.int .u8 (k : Int), .bool b, .int .i64 n, .string s, .slice ao ll lc, .slice fo fl fc] 27 (0, 0))) := (hb2.block _ (by simp)).trans (heap_alloc_new w _)
    clear hb2
    by_cases ha0 : al = 0
    · subst ha0
      have q4 : w2.cell? ⟨w.heap.size, 4, none⟩ = some (.slice ao ll lc) := by rw [cell_of_row _ _ _ _ _ _ HBOX.out]; rfl
      have HDP : Hid (0 < l.length ∨ 0 < f.length → d < 6) := Vl.alone_depth u HAL.out.symm
      go_wp2
      go_loopw [22] (fun i wr => ∃ j : Nat, j ≤ ll ∧ i = .int .i64 j ∧ Below w2.heap.size w2 wr ∧ ∀ (i : Nat) (x : V), i < j → l[i]? = some x → Vl.check u (d + 1) x = 0) (fun i _ => ll - (intOf i).toNat)
      case atStart => exact ⟨0, Nat.zero_le _, rfl, Below.refl _ _, fun i x h => by omega⟩
      case round =>
        obtain ⟨j, hj, rfl, hb, hz⟩ := hrel
        have HZ : Hid (∀ (i : Nat) (x : V), i < j → l[i]? = some x → Vl.check u (d + 1) x = 0) := hz
        have HBW : Hid (Below w2.heap.size w2 wr) := hb
        have hbw : Below w.heap.size w wr := HB2.out.trans (hb.mono HB2.out.size)
        by_cases hlt : j < ll
        · have hlt' : j < l.length := by rw [← HLL.out]; exact hlt
          have hd6 := HDP.out (Or.inl (by omega))
          obtain ⟨g, o, rfl, hg, hr⟩ := H7.out (by omega)
          obtain ⟨x, hx⟩ : ∃ x, l[j]? = some x := ⟨_, List.getElem?_eq_getElem hlt'⟩
          obtain ⟨c0, c1, c2, c3, c4, c5, ⟨d0, d1, d2, d3, d4, d5⟩, hrx⟩ := repL_at l o (repL_stays (hbw.mono hH) (Nat.le_refl _) hg l o hr) j x hx
          obtain ⟨xk, xb, xn, xs, xa, xl, xc, ya, yl, yc, rfl, rfl, rfl, rfl, rfl, rfl⟩ := rep_form hrx
          have HX : Hid (l[j]? = some x) := hx
          have hxN : Vl.count x ≤ N := by have := Vl.count_partL (k := k) (b := b) (n := n) (s := s) (f := f) hx; have := HT.out; omega
          obtain ⟨c, hc⟩ : ∃ c, c = Vl.check u (d + 1) x := ⟨_, rfl⟩
          have HC : Hid (c = Vl.check u (d + 1) x) := hc
          have C30 : Hid (∀ W, Below wr.heap.size wr W → Calls Tryz.prog 49 #[.agg #[.int .u8 (xk : Int), .bool xb, .int .i64 xn, .string xs, .slice xa xl xc, .slice ya yl yc], .int .i64 ((d : Int) + 1)] W fun e w' => e = .returned (.int .i64 (c : Int)) ∧ Below W.heap.size W w') := fun W hW => by
            rw [hc]
            have hwW : Below w.heap.size w W := hbw.trans (hW.mono hbw.size)
            exact IH.out x hxN (d + 1) (by omega) W H _ (HU.out.stays w W HTW.out hwW) (by have := hwW.size; omega) (rep_stays (hW.mono (by have := hbw.size; omega)) (Nat.le_refl _) x _ hrx)
          have e1 : wrap64 ((d : Int) + 1) = (d : Int) + 1 := by unfold wrap64; omega
          clear hrx hr H7 hx hxN hc hb hbw hz hlt'
          go_wp2_with fail
          refine (C30.out _ (below_new _ _)).mono ?_
          rintro e w3 ⟨rfl, hb3⟩
          have HB3 : Hid (Below w2.heap.size w2 w3) := HBW.out.trans (((below_new _ _).trans (hb3.mono (below_new _ _).size)).mono HBW.out.size)
          clear hb3 d0 d1 d2 d3 d4 d5
          by_cases hc0 : c = 0
          · subst hc0
            go_wp2
            go_roundw
            case rel =>
              refine ⟨j + 1, by omega, by go_num, HB3.out, fun i x' hi hx' => ?_⟩
              by_cases hij : i < j
              · exact HZ.out i x' hij hx'
              · have hij' : i = j := by omega
                subst hij'
                have h1 := HX.out
                rw [hx'] at h1
                cases h1
                exact HC.out.symm
            case measure => simp [intOf]; omega
          · go_wp2
            have hst := Vl.checkL_stop u (d + 1) l j x HZ.out HX.out (by rw [← HC.out]; exact hc0)
            exact ⟨rfl, _, results_tmp (by rfl) _ _ _, by rw [HCK.out, if_neg (by simp), hst, ← HC.out, if_pos hc0]; rfl, HB2.out.trans (HB3.out.mono HB2.out.size)⟩
        · have hj' : j = ll := by omega
          subst hj'
          have HL0 : Hid (Vl.checkL u (d + 1) l = 0) := Vl.checkL_all u (d + 1) l fun i x hx => HZ.out i x (by rw [HLL.out]; exact (List.getElem?_eq_some_iff.1 hx).1) hx
          have HBX : Hid (wr.heap[w.heap.size]? = some (.cells #[.int .u8 (k : Int), .bool b, .int .i64 n, .string s, .slice ao j lc, .slice fo fl fc] 27 (0, 0))) := (hb.block _ HS2.out).trans HBOX.out
          have q5 : wr.cell? ⟨w.heap.size, 5, none⟩ = some (.slice fo fl fc) := by rw [cell_of_row _ _ _ _ _ _ HBX.out]; rfl
          have HB4 : Hid (Below w.heap.size w wr) := hbw
          have HS4 : Hid (w.heap.size + 1 ≤ wr.heap.size) := Nat.le_trans HS2.out hb.size
          clear HZ hz hb hbw HBW H7 q4 HB2 HS2 HBOX
          obtain ⟨w4, rfl⟩ : ∃ w4, w4 = wr := ⟨_, rfl⟩
          go_wp2
          go_loopw [37] (fun i wr => ∃ q : Nat, q ≤ fl ∧ i = .int .i64 q ∧ Below w4.heap.size w4 wr ∧ ∀ (i : Nat) (a : ByteArray × V), i < q → f[i]? = some a → Vl.check1 u (d + 1) (Vl.prevAt none f i) a = 0) (fun i _ => fl - (intOf i).toNat)
          case atStart => exact ⟨0, Nat.zero_le _, rfl, Below.refl _ _, fun i x h => by omega⟩
          case round =>
            obtain ⟨q, hq, rfl, hb, hz⟩ := hrel
            have HZ : Hid (∀ (i : Nat) (a : ByteArray × V), i < q → f[i]? = some a → Vl.check1 u (d + 1) (Vl.prevAt none f i) a = 0) := hz
            have HBW : Hid (Below w4.heap.size w4 wr) := hb
            have hbw : Below w.heap.size w wr := HB4.out.trans (hb.mono HB4.out.size)
            have HBWW : Hid (Below w.heap.size w wr) := hbw
            by_cases hlt : q < fl
            · have hlt' : q < f.length := by rw [← HFL.out]; exact hlt
              have hd6 := HDP.out (Or.inr (by omega))
              obtain ⟨g, o, rfl, hg, hr⟩ := H8.out (by omega)
              obtain ⟨⟨m, x⟩, hx⟩ : ∃ x, f[q]? = some x := ⟨_, List.getElem?_eq_getElem hlt'⟩
              have hrs := repF_stays (hbw.mono hH) (Nat.le_refl _) hg f o hr
              obtain ⟨dm, hms, c0, c1, c2, c3, c4, c5, ⟨d0, d1, d2, d3, d4, d5⟩, hrx⟩ := repF_at f o hrs q m x hx
              obtain ⟨xk, xb, xn, xs, xa, xl, xc, ya, yl, yc, rfl, rfl, rfl, rfl, rfl, rfl⟩ := rep_form hrx
              rw [show o + q * 7 + 1 + 1 = o + q * 7 + 2 by omega] at d1
              rw [show o + q * 7 + 1 + 2 = o + q * 7 + 3 by omega] at d2
              rw [show o + q * 7 + 1 + 3 = o + q * 7 + 4 by omega] at d3
              rw [show o + q * 7 + 1 + 4 = o + q * 7 + 5 by omega] at d4
              rw [show o + q * 7 + 1 + 5 = o + q * 7 + 6 by omega] at d5
              have HX : Hid (f[q]? = some (m, x)) := hx
              have hxN : Vl.count x ≤ N := by have := Vl.count_partF (k := k) (b := b) (n := n) (s := s) (l := l) hx; have := HT.out; omega
              obtain ⟨c, hc⟩ : ∃ c, c = Vl.check u (d + 1) x := ⟨_, rfl⟩
              have HC : Hid (c = Vl.check u (d + 1) x) := hc
              obtain ⟨ne, hne⟩ : ∃ c, c = Vl.nameErr u m := ⟨_, rfl⟩
              have HNE : Hid (ne = Vl.nameErr u m) := hne
              have C30 : Hid (∀ W, Below wr.heap.size wr W → Calls Tryz.prog 49 #[.agg #[.int .u8 (xk : Int), .bool xb, .int .i64 xn, .string xs, .slice xa xl xc, .slice ya yl yc], .int .i64 ((d : Int) + 1)] W fun e w' => e = .returned (.int .i64 (c : Int)) ∧ Below W.heap.size W w') := fun W hW => by
                rw [hc]
                have hwW : Below w.heap.size w W := hbw.trans (hW.mono hbw.size)
                exact IH.out x hxN (d + 1) (by omega) W H _ (HU.out.stays w W HTW.out hwW) (by have := hwW.size; omega) (rep_stays (hW.mono (by have := hbw.size; omega)) (Nat.le_refl _) x _ hrx)
              have C49 : Hid (∀ W, Below wr.heap.size wr W → Calls Tryz.prog 72 #[.string m] W fun e w' => e = .returned (.int .i64 (ne : Int)) ∧ Below W.heap.size W w') := fun W hW => by
                rw [hne]
                exact name49 HU.out m hms W (HU.out.stays w W HTW.out (hbw.trans (hW.mono hbw.size)))
              have e1 : wrap64 ((d : Int) + 1) = (d : Int) + 1 := by unfold wrap64; omega
              have HRS : Hid (RepF wr H g o f) := hrs
              have HGH : Hid (g < wr.heap.size) := by have := hbw.size; show g < _; omega
              clear hrx hr H8 hx hxN hc hne hb hbw hz hlt' hrs hms
              go_wp2_with fail
              refine (C49.out _ (below_new _ _)).mono ?_
              rintro e w5 ⟨rfl, hb5⟩
              have HB5 : Hid (Below wr.heap.size wr w5) := (below_new _ _).trans (hb5.mono (below_new _ _).size)
              have HBOX5 : Hid (w5.heap[wr.heap.size]? = some (.cells #[.string m, .int .u8 (xk : Int), .bool xb, .int .i64 xn, .string xs, .slice xa xl xc, .slice ya yl yc] 62 (0, 0))) := (hb5.block _ (by simp)).trans (heap_alloc_new wr _)
              clear hb5 dm d0 d1 d2 d3 d4 d5
              by_cases hn0 : ne = 0
              · subst hn0
                have n0 : w5.cell? ⟨wr.heap.size, 0, none⟩ = some (.string m) := by rw [cell_of_row _ _ _ _ _ _ HBOX5.out]; rfl
                have n1 : w5.cell? ⟨wr.heap.size, 1, none⟩ = some (.int .u8 (xk : Int)) := by rw [cell_of_row _ _ _ _ _ _ HBOX5.out]; rfl
                have n2 : w5.cell? ⟨wr.heap.size, 2, none⟩ = some (.bool xb) := by rw [cell_of_row _ _ _ _ _ _ HBOX5.out]; rfl
                have n3 : w5.cell? ⟨wr.heap.size, 3, none⟩ = some (.int .i64 xn) := by rw [cell_of_row _ _ _ _ _ _ HBOX5.out]; rfl
                have n4 : w5.cell? ⟨wr.heap.size, 4, none⟩ = some (.string xs) := by rw [cell_of_row _ _ _ _ _ _ HBOX5.out]; rfl
                have n5 : w5.cell? ⟨wr.heap.size, 5, none⟩ = some (.slice xa xl xc) := by rw [cell_of_row _ _ _ _ _ _ HBOX5.out]; rfl
                have n6 : w5.cell? ⟨wr.heap.size, 6, none⟩ = some (.slice ya yl yc) := by rw [cell_of_row _ _ _ _ _ _ HBOX5.out]; rfl
                have hw5 : w.heap.size < w5.heap.size := by have h1 := HB5.out.size; have h2 := HBW.out.size; have h3 := HS4.out; omega
                have bx5 : w5.cell? ⟨w.heap.size, 5, none⟩ = some (.slice (some ⟨g, o, none⟩) fl fc) := by
                  have e : w5.heap[w.heap.size]? = w4.heap[w.heap.size]? := (HB5.out.block _ (by have h2 := HBW.out.size; have h3 := HS4.out; omega)).trans (HBW.out.block _ HS4.out)
                  rw [cell_of_row _ _ _ _ _ _ (e.trans HBX.out)]; rfl
                rcases q with _ | p
                · have HK : Hid (Vl.check1 u (d + 1) (Vl.prevAt none f 0) (m, x) = Vl.check u (d + 1) x) := by
                    show _ = _
                    rw [Vl.check1, ← HNE.out, if_neg (by simp), Vl.prevAt, Vl.notUp, if_neg (by simp)]
                  go_wp2
                  go_region
                  have HB6 : Hid (Below w4.heap.size w4 w5.drew) := (HBW.out.trans (HB5.out.mono HBW.out.size)).drew
                  have C30' := C30.out w5.drew HB5.out.drew
                  go_wp2_with fail
                  refine C30'.mono ?_
                  rintro e w7 ⟨rfl, hb7⟩
                  have HB7 : Hid (Below w4.heap.size w4 w7) := HB6.out.trans (hb7.mono HB6.out.size)
                  clear hb7 C30' n0 n1 n2 n3 n4 n5 n6 bx5
                  by_cases hc0 : c = 0
                  · subst hc0
                    go_wp2
                    go_roundw
                    case rel =>
                      refine ⟨0 + 1, by omega, by go_num, HB7.out, fun i a hi ha => ?_⟩
                      by_cases hij : i < 0
                      · exact HZ.out i a hij ha
                      · have hij' : i = 0 := by omega
                        subst hij'
                        have h1 := HX.out
                        rw [ha] at h1
                        cases h1
                        rw [HK.out]
                        exact HC.out.symm
                    case measure => simp [intOf]; omega
                  · go_wp2
                    have hst := Vl.checkF_stop u (d + 1) f none (0) (m, x) HZ.out HX.out (by rw [HK.out, ← HC.out]; exact hc0)
                    exact ⟨rfl, _, results_tmp (by rfl) _ _ _, by rw [HCK.out, if_neg (by simp), HL0.out, if_neg (by simp), hst, HK.out, ← HC.out]; rfl, HB4.out.trans (HB7.out.mono HB4.out.size)⟩
                · have hp' : p < f.length := by have := HFL.out; omega
                  obtain ⟨⟨mp, xp⟩, hxp⟩ : ∃ x, f[p]? = some x := ⟨_, List.getElem?_eq_getElem hp'⟩
                  have pm : w5.cell? ⟨g, o + p * 7, none⟩ = some (.string mp) := (HB5.out.cell (p := ⟨g, o + p * 7, none⟩) HGH.out).trans (repF_at f o HRS.out p mp xp hxp).1
                  have HXP : Hid (Vl.prevAt none f (p + 1) = some mp) := Vl.prevAt_succ f none p (mp, xp) hxp
                  have hle := Vl.str_le m mp
                  obtain ⟨up, hup⟩ : ∃ up, up = decide (Vl.cmpS m mp ≤ 0) := ⟨_, rfl⟩
                  rw [← hup] at hle
                  have HUP : Hid (up = decide (Vl.cmpS m mp ≤ 0)) := hup
                  have HK : Hid (Vl.check1 u (d + 1) (Vl.prevAt none f (p + 1)) (m, x) = if up = true then 18 else Vl.check u (d + 1) x) := by
                    show _ = _
                    rw [Vl.check1, ← HNE.out, if_neg (by simp), HXP.out, Vl.notUp, ← hup]
                  clear hxp hp' hup
                  go_wp2
                  cases up
                  · have HK1 : Hid (Vl.check1 u (d + 1) (Vl.prevAt none f (p + 1)) (m, x) = Vl.check u (d + 1) x) := by
                      show _ = _
                      rw [HK.out, if_neg (by simp)]
                    go_region
                    have HB6 : Hid (Below w4.heap.size w4 w5.drew) := (HBW.out.trans (HB5.out.mono HBW.out.size)).drew
                    have C30' := C30.out w5.drew HB5.out.drew
                    go_wp2_with fail
                    refine C30'.mono ?_
                    rintro e w7 ⟨rfl, hb7⟩
                    have HB7 : Hid (Below w4.heap.size w4 w7) := HB6.out.trans (hb7.mono HB6.out.size)
                    clear hb7 C30' n0 n1 n2 n3 n4 n5 n6 bx5 pm hle
                    by_cases hc0 : c = 0
                    · subst hc0
                      go_wp2
                      go_roundw
                      case rel =>
                        refine ⟨p + 1 + 1, by omega, by go_num, HB7.out, fun i a hi ha => ?_⟩
                        by_cases hij : i < p + 1
                        · exact HZ.out i a hij ha
                        · have hij' : i = p + 1 := by omega
                          subst hij'
                          have h1 := HX.out
                          rw [ha] at h1
                          cases h1
                          rw [HK1.out]
                          exact HC.out.symm
                      case measure => simp [intOf]; omega
                    · go_wp2
                      have hst := Vl.checkF_stop u (d + 1) f none (p + 1) (m, x) HZ.out HX.out (by rw [HK1.out, ← HC.out]; exact hc0)
                      exact ⟨rfl, _, results_tmp (by rfl) _ _ _, by rw [HCK.out, if_neg (by simp), HL0.out, if_neg (by simp), hst, HK1.out, ← HC.out]; rfl, HB4.out.trans (HB7.out.mono HB4.out.size)⟩
                  · have HK1 : Hid (Vl.check1 u (d + 1) (Vl.prevAt none f (p + 1)) (m, x) = 18) := by
                      show _ = _
                      rw [HK.out, if_pos rfl]
                    go_region
                    go_wp2
                    have hst := Vl.checkF_stop u (d + 1) f none (p + 1) (m, x) HZ.out HX.out (by rw [HK1.out]; decide)
                    exact ⟨rfl, _, results_tmp (by rfl) _ _ _, by rw [HCK.out, if_neg (by simp), HL0.out, if_neg (by simp), hst, HK1.out]; rfl, (HBWW.out.trans (HB5.out.mono HBWW.out.size)).drew⟩
              · go_wp2
                have hst := Vl.checkF_stop u (d + 1) f none q (m, x) HZ.out HX.out (by rw [Vl.check1, ← HNE.out, if_pos hn0]; exact hn0)
                exact ⟨rfl, _, results_tmp (by rfl) _ _ _, by rw [HCK.out, if_neg (by simp), HL0.out, if_neg (by simp), hst, Vl.check1, ← HNE.out, if_pos hn0]; rfl, HBWW.out.trans (HB5.out.mono HBWW.out.size)⟩
            · have hF0 : Vl.checkF u (d + 1) none f = 0 := Vl.checkF_all u (d + 1) f none fun i a ha => HZ.out i a (by have := (List.getElem?_eq_some_iff.1 ha).1; have := HFL.out; omega) ha
              go_wp2
              exact ⟨rfl, _, results_tmp (by rfl) _ _ _, by rw [HCK.out, if_neg (by simp), HL0.out, if_neg (by simp), hF0]; rfl, HBWW.out⟩
    · go_wp2
      exact ⟨rfl, _, results_tmp (by rfl) _ _ _, by rw [HCK.out, if_pos ha0]; rfl, HB2.out⟩
end Go.Proofs.YtkigenldiinioaaGreatDoor
