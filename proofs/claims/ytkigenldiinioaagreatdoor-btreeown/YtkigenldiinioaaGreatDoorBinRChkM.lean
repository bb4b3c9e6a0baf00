/- The document's check and Check, walked: whatever the value, they answer why it is not right. -/
import Derived.Test.YtkigenldiinioaaGreatDoorQ36M
import Derived.Test.YtkigenldiinioaaGreatDoorQ37M
import Derived.Test.YtkigenldiinioaaGreatDoorQ08M
import Derived.Deep.CutRange
import Derived.Deep.CutBlock
namespace Go.Proofs.YtkigenldiinioaaGreatDoor
open Go.RowKit
open Vl (V)
namespace Vl
theorem bytes_ge : ∀ a b : List UInt8, Op.bytesLess b a = !(Op.bytesLess a b || a == b)
  | [], [] => rfl
  | [], _ :: _ => rfl
  | _ :: _, [] => rfl
  | x :: r, y :: q => by
    rw [Op.bytesLess, Op.bytesLess]
    by_cases h1 : x < y
    · have h2 : ¬ y < x := fun h => absurd (UInt8.lt_trans h1 h) (UInt8.lt_irrefl x)
      have h3 : ¬ y = x := fun e => by subst e; exact h2 h1
      simp [h1, h2, h3]
    · by_cases h2 : y < x
      · have h3 : ¬ x = y := fun e => by subst e; exact h1 h2
        simp [h1, h2, h3]
      · have e : x = y := UInt8.le_antisymm (UInt8.not_lt.1 h2) (UInt8.not_lt.1 h1)
        subst e
        have ih := bytes_ge r q
        simp [h1, ih]
theorem str_ge (m p : ByteArray) : Op.bytesLess p.toList m.toList = !decide (cmpS m p ≤ 0) := by
  rw [bytes_ge, str_le]
end Vl
set_option maxHeartbeats 16000000 in
set_option maxRecDepth 100000 in
theorem rcheck42 {u : ByteArray → Bool} (hU : RUtf u) : ∀ (N : Nat) (t : V), Vl.count t ≤ N → ∀ (d : Nat), d ≤ 6 → ∀ (w : World) (H : Nat) (v : Value), H ≤ w.heap.size → Rep w H t v →
    Calls Tryz.prog 35 #[v, .int .i64 (d : Int)] w fun e w' => e = .returned (.int .i64 ((Vl.check u d t : Nat) : Int)) ∧ Below w.heap.size w w' := by
  intro N
  induction N with
  | zero => intro t ht; obtain ⟨k, b, n, s, l, f⟩ := t; rw [Vl.count] at ht; omega
  | succ N ih =>
    rintro ⟨k, b, n, s, l, f⟩ ht d hd w H v hH hR
    rw [Rep] at hR
    obtain ⟨ao, lc, fo, fc, rfl, h2, h3, h4, h5, h6, h7, h8⟩ := hR
    have IH : Hid (∀ (t : V), Vl.count t ≤ N → ∀ (d : Nat), d ≤ 6 → ∀ (w : World) (H : Nat) (v : Value), H ≤ w.heap.size → Rep w H t v → Calls Tryz.prog 35 #[v, .int .i64 (d : Int)] w fun e w' => e = .returned (.int .i64 ((Vl.check u d t : Nat) : Int)) ∧ Below w.heap.size w w') := ih
    have HU : Hid (RUtf u) := hU
    have HT : Hid (Vl.count ⟨k, b, n, s, l, f⟩ ≤ N + 1) := ht
    have H7 : Hid (0 < l.length → ∃ g o, ao = some ⟨g, o, none⟩ ∧ g < H ∧ RepL w H g o l) := h7
    have H8 : Hid (0 < f.length → ∃ g o, fo = some ⟨g, o, none⟩ ∧ g < H ∧ RepF w H g o f) := h8
    obtain ⟨al, hal⟩ : ∃ al, al = Vl.alone u d ⟨k, b, n, s, l, f⟩ := ⟨_, rfl⟩
    have HAL : Hid (al = Vl.alone u d ⟨k, b, n, s, l, f⟩) := hal
    obtain ⟨z, hz⟩ : ∃ z, z = (decide (k < 7) && !Vl.strange ⟨k, b, n, s, l, f⟩) := ⟨_, rfl⟩
    obtain ⟨qu, hqu⟩ : ∃ q, q = u s := ⟨_, rfl⟩
    have C58 : Hid (∀ W, Calls Tryz.prog 58 #[.agg #[.int .u8 (k : Int), .bool b, .int .i64 n, .string s, .slice ao l.length lc, .slice fo f.length fc]] W fun e w' => e = .returned (.bool z) ∧ Below W.heap.size W w') := fun W => by
      rw [hz]; exact rzero58 k b n s l f ao lc fo fc W
    have C59 : Hid (s.size ≤ 1024 → ∀ W, Calls Tryz.prog 59 #[.string s] W fun e w' => e = .returned (.bool qu) ∧ Below W.heap.size W w') := fun h W => by
      rw [hqu]; exact hU s W h
    obtain ⟨ck, hck⟩ : ∃ ck, ck = Vl.check u d ⟨k, b, n, s, l, f⟩ := ⟨_, rfl⟩
    have HCK : Hid (ck = if al ≠ 0 then al else if Vl.checkL u (d + 1) l ≠ 0 then Vl.checkL u (d + 1) l else Vl.checkF u (d + 1) none f) := by
      show _ = _
      rw [hck, Vl.check, hal]
    rw [← hck]
    obtain ⟨ll, hll⟩ : ∃ ll, ll = l.length := ⟨_, rfl⟩
    obtain ⟨fl, hfl⟩ : ∃ fl, fl = f.length := ⟨_, rfl⟩
    have HLL : Hid (ll = l.length) := hll
    have HFL : Hid (fl = f.length) := hfl
    have HR : Hid (al = if z = false then 5 else if 1024 < s.size then 4 else if k = 3 ∧ qu = false then 9 else if 64 < ll ∨ 64 < fl then 3 else if (k = 5 ∨ k = 6) ∧ 6 ≤ d then 10 else 0) := by
      show _ = _
      rw [hal, Vl.alone, hz, hqu, hll, hfl]
      by_cases c1 : k < 7
      · by_cases c2 : Vl.strange ⟨k, b, n, s, l, f⟩ = true
        · simp [c1, c2]
        · simp [c1, c2, Nat.not_le.2 c1]
      · simp [c1, Nat.le_of_not_lt c1]
    have h4' := maxLen_lt h4
    have h5' := maxLen_lt h5
    have h6' := maxLen_lt h6
    rw [← hll] at h5' C58 ⊢
    rw [← hfl] at h6' C58 ⊢
    clear ih ht h7 h8 hll hfl hck hal hU h4 h5 h6 h3 hz hqu
    by_cases ha0 : al = 0
    · subst ha0
      have HCK : Hid (ck = if Vl.checkL u (d + 1) l ≠ 0 then Vl.checkL u (d + 1) l else Vl.checkF u (d + 1) none f) := by
        show _ = _
        rw [HCK.out, if_neg (by simp)]
      have hR := HR.out
      have hz : z = true := by cases z; · rw [if_pos rfl] at hR; cases hR
                               · rfl
      subst hz
      rw [if_neg (by decide)] at hR
      have h1 : ¬ 1024 < s.size := fun h => by rw [if_pos h] at hR; cases hR
      rw [if_neg h1] at hR
      have hq3 : ¬ (k = 3 ∧ qu = false) := fun h => by rw [if_pos h] at hR; cases hR
      rw [if_neg hq3] at hR
      have hm : ¬ (64 < ll ∨ 64 < fl) := fun h => by rw [if_pos h] at hR; cases hR
      rw [if_neg hm] at hR
      have hdp : ¬ ((k = 5 ∨ k = 6) ∧ 6 ≤ d) := fun h => by rw [if_pos h] at hR; cases hR
      clear hR HR
      have HQ3 : Hid (¬ (k = 3 ∧ qu = false)) := hq3
      have HDP5 : Hid (¬ ((k = 5 ∨ k = 6) ∧ 6 ≤ d)) := hdp
      have H1 : Hid (s.size ≤ 1024) := Nat.le_of_not_lt h1
      have i1 : ¬ (1024 : Int) < (s.size : Int) := by omega
      have i3 : ¬ (64 : Int) < (ll : Int) := by omega
      have i4 : ¬ (64 : Int) < (fl : Int) := by omega
      clear hq3 hdp h1 hm
      have HDP : Hid (0 < l.length ∨ 0 < f.length → d < 6) := Vl.alone_depth u HAL.out.symm
      go_enter Tryz.func35, Tryz.ntmps35
      go_upto_block 0 with fail
      go_cut [] from 11 to 53 (fun w2 => Below w.heap.size w w2 ∧ w.heap.size + 1 ≤ w2.heap.size ∧ w2.heap[w.heap.size]? = some (.cells #[.int .u8 (k : Int), .bool b, .int .i64 n, .string s, .slice ao ll lc, .slice fo fl fc] 27 (0, 0)))
      case first =>
        by_cases k3 : k = 3
        · subst k3
          have hqt : qu = true := by
            cases qu
            · exact absurd ⟨rfl, rfl⟩ HQ3.out
            · rfl
          subst hqt
          go_wp2_with (first
              | (go_at_call 58; refine (C58.out _).mono ?_; rintro e w3 ⟨rfl, hb3⟩
                 have HX3 : Hid (w3.heap[w.heap.size]? = some (.cells #[.int .u8 3, .bool b, .int .i64 n, .string s, .slice ao ll lc, .slice fo fl fc] 27 (0, 0))) := (hb3.block _ (by simp)).trans (heap_alloc_new w _)
                 have q0 : w3.cell? ⟨w.heap.size, 0, none⟩ = some (.int .u8 3) := by rw [cell_of_row _ _ _ _ _ _ HX3.out]; rfl
                 have q3 : w3.cell? ⟨w.heap.size, 3, none⟩ = some (.string s) := by rw [cell_of_row _ _ _ _ _ _ HX3.out]; rfl
                 have HB3 : Hid (Below w.heap.size w w3) := (below_new _ _).trans (hb3.mono (below_new _ _).size)
                 have HS3 : Hid (w.heap.size + 1 ≤ w3.heap.size) := by have := hb3.size; simp at this; exact this
                 clear hb3)
              | (go_at_call 59; refine (C59.out H1.out _).mono ?_; rintro e w4 ⟨rfl, hb4⟩
                 have HX4 : Hid (w4.heap[w.heap.size]? = some (.cells #[.int .u8 3, .bool b, .int .i64 n, .string s, .slice ao ll lc, .slice fo fl fc] 27 (0, 0))) := (hb4.block _ HS3.out).trans HX3.out
                 have p0 : w4.cell? ⟨w.heap.size, 0, none⟩ = some (.int .u8 3) := by rw [cell_of_row _ _ _ _ _ _ HX4.out]; rfl
                 have p4 : w4.cell? ⟨w.heap.size, 4, none⟩ = some (.slice ao ll lc) := by rw [cell_of_row _ _ _ _ _ _ HX4.out]; rfl
                 have p5 : w4.cell? ⟨w.heap.size, 5, none⟩ = some (.slice fo fl fc) := by rw [cell_of_row _ _ _ _ _ _ HX4.out]; rfl
                 have HB4 : Hid (Below w.heap.size w w4) := HB3.out.trans (hb4.mono HB3.out.size)
                 have HS4 : Hid (w.heap.size + 1 ≤ w4.heap.size) := Nat.le_trans HS3.out hb4.size
                 clear hb4))
          go_meet
          exact ⟨HB4.out, HS4.out, HX4.out⟩
        · have j3 : ((k : Int) == 3) = false := by simp; omega
          by_cases k5 : k = 5
          · subst k5
            have hd5 : ¬ (6 : Int) ≤ (d : Int) := fun h => HDP5.out ⟨Or.inl rfl, by omega⟩
            go_wp2_with
              (go_at_call 58; refine (C58.out _).mono ?_; rintro e w3 ⟨rfl, hb3⟩
               have HX3 : Hid (w3.heap[w.heap.size]? = some (.cells #[.int .u8 5, .bool b, .int .i64 n, .string s, .slice ao ll lc, .slice fo fl fc] 27 (0, 0))) := (hb3.block _ (by simp)).trans (heap_alloc_new w _)
               have q0 : w3.cell? ⟨w.heap.size, 0, none⟩ = some (.int .u8 5) := by rw [cell_of_row _ _ _ _ _ _ HX3.out]; rfl
               have q3 : w3.cell? ⟨w.heap.size, 3, none⟩ = some (.string s) := by rw [cell_of_row _ _ _ _ _ _ HX3.out]; rfl
               have q4 : w3.cell? ⟨w.heap.size, 4, none⟩ = some (.slice ao ll lc) := by rw [cell_of_row _ _ _ _ _ _ HX3.out]; rfl
               have q5 : w3.cell? ⟨w.heap.size, 5, none⟩ = some (.slice fo fl fc) := by rw [cell_of_row _ _ _ _ _ _ HX3.out]; rfl
               have HB3 : Hid (Below w.heap.size w w3) := (below_new _ _).trans (hb3.mono (below_new _ _).size)
               have HS3 : Hid (w.heap.size + 1 ≤ w3.heap.size) := by have := hb3.size; simp at this; exact this
               clear hb3)
            go_meet
            exact ⟨HB3.out, HS3.out, HX3.out⟩
          · have j5 : ((k : Int) == 5) = false := by simp; omega
            by_cases k6 : k = 6
            · subst k6
              have hd5 : ¬ (6 : Int) ≤ (d : Int) := fun h => HDP5.out ⟨Or.inr rfl, by omega⟩
              go_wp2_with
                (go_at_call 58; refine (C58.out _).mono ?_; rintro e w3 ⟨rfl, hb3⟩
                 have HX3 : Hid (w3.heap[w.heap.size]? = some (.cells #[.int .u8 6, .bool b, .int .i64 n, .string s, .slice ao ll lc, .slice fo fl fc] 27 (0, 0))) := (hb3.block _ (by simp)).trans (heap_alloc_new w _)
                 have q0 : w3.cell? ⟨w.heap.size, 0, none⟩ = some (.int .u8 6) := by rw [cell_of_row _ _ _ _ _ _ HX3.out]; rfl
                 have q3 : w3.cell? ⟨w.heap.size, 3, none⟩ = some (.string s) := by rw [cell_of_row _ _ _ _ _ _ HX3.out]; rfl
                 have q4 : w3.cell? ⟨w.heap.size, 4, none⟩ = some (.slice ao ll lc) := by rw [cell_of_row _ _ _ _ _ _ HX3.out]; rfl
                 have q5 : w3.cell? ⟨w.heap.size, 5, none⟩ = some (.slice fo fl fc) := by rw [cell_of_row _ _ _ _ _ _ HX3.out]; rfl
                 have HB3 : Hid (Below w.heap.size w w3) := (below_new _ _).trans (hb3.mono (below_new _ _).size)
                 have HS3 : Hid (w.heap.size + 1 ≤ w3.heap.size) := by have := hb3.size; simp at this; exact this
                 clear hb3)
              go_meet
              exact ⟨HB3.out, HS3.out, HX3.out⟩
            · have j6 : ((k : Int) == 6) = false := by simp; omega
              go_wp2_with
                (go_at_call 58; refine (C58.out _).mono ?_; rintro e w3 ⟨rfl, hb3⟩
                 have HX3 : Hid (w3.heap[w.heap.size]? = some (.cells #[.int .u8 (k : Int), .bool b, .int .i64 n, .string s, .slice ao ll lc, .slice fo fl fc] 27 (0, 0))) := (hb3.block _ (by simp)).trans (heap_alloc_new w _)
                 have q0 : w3.cell? ⟨w.heap.size, 0, none⟩ = some (.int .u8 (k : Int)) := by rw [cell_of_row _ _ _ _ _ _ HX3.out]; rfl
                 have q3 : w3.cell? ⟨w.heap.size, 3, none⟩ = some (.string s) := by rw [cell_of_row _ _ _ _ _ _ HX3.out]; rfl
                 have q4 : w3.cell? ⟨w.heap.size, 4, none⟩ = some (.slice ao ll lc) := by rw [cell_of_row _ _ _ _ _ _ HX3.out]; rfl
                 have q5 : w3.cell? ⟨w.heap.size, 5, none⟩ = some (.slice fo fl fc) := by rw [cell_of_row _ _ _ _ _ _ HX3.out]; rfl
                 have HB3 : Hid (Below w.heap.size w w3) := (below_new _ _).trans (hb3.mono (below_new _ _).size)
                 have HS3 : Hid (w.heap.size + 1 ≤ w3.heap.size) := by have := hb3.size; simp at this; exact this
                 clear hb3)
              go_meet
              exact ⟨HB3.out, HS3.out, HX3.out⟩
      case rest =>
        obtain ⟨hb2, hs2, hx2⟩ := hcut
        obtain ⟨w2, rfl⟩ : ∃ w2, w2 = wc := ⟨_, rfl⟩
        have HB2 : Hid (Below w.heap.size w w2) := hb2
        have HS2 : Hid (w.heap.size + 1 ≤ w2.heap.size) := hs2
        have HBOX : Hid (w2.heap[w.heap.size]? = some (.cells #[.int .u8 (k : Int), .bool b, .int .i64 n, .string s, .slice ao ll lc, .slice fo fl fc] 27 (0, 0))) := hx2
        clear hb2 hs2 hx2
        have q4 : w2.cell? ⟨w.heap.size, 4, none⟩ = some (.slice ao ll lc) := by rw [cell_of_row _ _ _ _ _ _ HBOX.out]; rfl
        go_wp2
        go_loopw [57] (fun i wr => ∃ j : Nat, j ≤ ll ∧ i = .int .i64 j ∧ Below w2.heap.size w2 wr ∧ ∀ (i : Nat) (x : V), i < j → l[i]? = some x → Vl.check u (d + 1) x = 0) (fun i _ => ll - (intOf i).toNat)
        case atStart => exact ⟨0, Nat.zero_le _, rfl, Below.refl _ _, fun i x h => by omega⟩
        case round =>
          obtain ⟨j, hj, rfl, hb, hz⟩ := hrel
          have HZ : Hid (∀ (i : Nat) (x : V), i < j → l[i]? = some x → Vl.check u (d + 1) x = 0) := hz
          have HBW : Hid (Below w2.heap.size w2 wr) := hb
          have hbw : Below w.heap.size w wr := HB2.out.trans (hb.mono HB2.out.size)
          by_cases hlt : j < ll
          · have hlt' : j < l.length := by rw [← HLL.out]; exact hlt
            have hd6 := HDP.out (Or.inl (by omega))
            obtain ⟨g, o, rfl, hg, hr⟩ := H7.out (by omega)
            obtain ⟨x, hx⟩ : ∃ x, l[j]? = some x := ⟨_, List.getElem?_eq_getElem hlt'⟩
            obtain ⟨c0, c1, c2, c3, c4, c5, ⟨d0, d1, d2, d3, d4, d5⟩, hrx⟩ := repL_at l o (repL_stays (hbw.mono hH) (Nat.le_refl _) hg l o hr) j x hx
            obtain ⟨xk, xb, xn, xs, xa, xl, xc, ya, yl, yc, rfl, rfl, rfl, rfl, rfl, rfl⟩ := rep_form hrx
            have HX : Hid (l[j]? = some x) := hx
            have hxN : Vl.count x ≤ N := by have := Vl.count_partL (k := k) (b := b) (n := n) (s := s) (f := f) hx; have := HT.out; omega
            obtain ⟨c, hc⟩ : ∃ c, c = Vl.check u (d + 1) x := ⟨_, rfl⟩
            have HC : Hid (c = Vl.check u (d + 1) x) := hc
            have C42 : Hid (∀ W, Below wr.heap.size wr W → Calls Tryz.prog 35 #[.agg #[.int .u8 (xk : Int), .bool xb, .int .i64 xn, .string xs, .slice xa xl xc, .slice ya yl yc], .int .i64 ((d : Int) + 1)] W fun e w' => e = .returned (.int .i64 (c : Int)) ∧ Below W.heap.size W w') := fun W hW => by
              rw [hc]
              have hwW : Below w.heap.size w W := hbw.trans (hW.mono hbw.size)
              exact IH.out x hxN (d + 1) (by omega) W H _ (by have := hwW.size; omega) (rep_stays (hW.mono (by have := hbw.size; omega)) (Nat.le_refl _) x _ hrx)
            have e1 : wrap64 ((d : Int) + 1) = (d : Int) + 1 := by unfold wrap64; omega
            clear hrx hr H7 hx hxN hc hb hbw hz hlt'
            go_wp2_with fail
            refine (C42.out _ (below_new _ _)).mono ?_
            rintro e w3 ⟨rfl, hb3⟩
            have HB3 : Hid (Below w2.heap.size w2 w3) := HBW.out.trans (((below_new _ _).trans (hb3.mono (below_new _ _).size)).mono HBW.out.size)
            clear hb3 d0 d1 d2 d3 d4 d5
            by_cases hc0 : c = 0
            · subst hc0
              go_wp2
              go_roundw
              case rel =>
                refine ⟨j + 1, by omega, by go_num, HB3.out, fun i x' hi hx' => ?_⟩
                by_cases hij : i < j
                · exact HZ.out i x' hij hx'
                · have hij' : i = j := by omega
                  subst hij'
                  have h1 := HX.out
                  rw [hx'] at h1
                  cases h1
                  exact HC.out.symm
              case measure => simp [intOf]; omega
            · go_wp2
              have hst := Vl.checkL_stop u (d + 1) l j x HZ.out HX.out (by rw [← HC.out]; exact hc0)
              exact ⟨rfl, _, results_tmp (by rfl) _ _ _, by rw [HCK.out, hst, ← HC.out, if_pos hc0]; rfl, HB2.out.trans (HB3.out.mono HB2.out.size)⟩
          · have hj' : j = ll := by omega
            subst hj'
            have HL0 : Hid (Vl.checkL u (d + 1) l = 0) := Vl.checkL_all u (d + 1) l fun i x hx => HZ.out i x (by rw [HLL.out]; exact (List.getElem?_eq_some_iff.1 hx).1) hx
            have HBX : Hid (wr.heap[w.heap.size]? = some (.cells #[.int .u8 (k : Int), .bool b, .int .i64 n, .string s, .slice ao j lc, .slice fo fl fc] 27 (0, 0))) := (hb.block _ HS2.out).trans HBOX.out
            have q5 : wr.cell? ⟨w.heap.size, 5, none⟩ = some (.slice fo fl fc) := by rw [cell_of_row _ _ _ _ _ _ HBX.out]; rfl
            have HB4 : Hid (Below w.heap.size w wr) := hbw
            have HS4 : Hid (w.heap.size + 1 ≤ wr.heap.size) := Nat.le_trans HS2.out hb.size
            clear HZ hz hb hbw HBW H7 q4 HB2 HS2 HBOX
            obtain ⟨w4, rfl⟩ : ∃ w4, w4 = wr := ⟨_, rfl⟩
            go_wp2
            go_loopw [72] (fun i wr => ∃ q : Nat, q ≤ fl ∧ i = .int .i64 q ∧ Below w4.heap.size w4 wr ∧ ∀ (i : Nat) (a : ByteArray × V), i < q → f[i]? = some a → Vl.check1 u (d + 1) (Vl.prevAt none f i) a = 0) (fun i _ => fl - (intOf i).toNat)
            case atStart => exact ⟨0, Nat.zero_le _, rfl, Below.refl _ _, fun i x h => by omega⟩
            case round =>
              obtain ⟨q, hq, rfl, hb, hz⟩ := hrel
              have HZ : Hid (∀ (i : Nat) (a : ByteArray × V), i < q → f[i]? = some a → Vl.check1 u (d + 1) (Vl.prevAt none f i) a = 0) := hz
              have HBW : Hid (Below w4.heap.size w4 wr) := hb
              have hbw : Below w.heap.size w wr := HB4.out.trans (hb.mono HB4.out.size)
              have HBWW : Hid (Below w.heap.size w wr) := hbw
              by_cases hlt : q < fl
              · have hlt' : q < f.length := by rw [← HFL.out]; exact hlt
                have hd6 := HDP.out (Or.inr (by omega))
                obtain ⟨g, o, rfl, hg, hr⟩ := H8.out (by omega)
                obtain ⟨⟨m, x⟩, hx⟩ : ∃ x, f[q]? = some x := ⟨_, List.getElem?_eq_getElem hlt'⟩
                have hrs := repF_stays (hbw.mono hH) (Nat.le_refl _) hg f o hr
                obtain ⟨dm, hms, c0, c1, c2, c3, c4, c5, ⟨d0, d1, d2, d3, d4, d5⟩, hrx⟩ := repF_at f o hrs q m x hx
                obtain ⟨xk, xb, xn, xs, xa, xl, xc, ya, yl, yc, rfl, rfl, rfl, rfl, rfl, rfl⟩ := rep_form hrx
                rw [show o + q * 7 + 1 + 1 = o + q * 7 + 2 by omega] at d1
                rw [show o + q * 7 + 1 + 2 = o + q * 7 + 3 by omega] at d2
                rw [show o + q * 7 + 1 + 3 = o + q * 7 + 4 by omega] at d3
                rw [show o + q * 7 + 1 + 4 = o + q * 7 + 5 by omega] at d4
                rw [show o + q * 7 + 1 + 5 = o + q * 7 + 6 by omega] at d5
                have HX : Hid (f[q]? = some (m, x)) := hx
                have hxN : Vl.count x ≤ N := by have := Vl.count_partF (k := k) (b := b) (n := n) (s := s) (l := l) hx; have := HT.out; omega
                obtain ⟨c, hc⟩ : ∃ c, c = Vl.check u (d + 1) x := ⟨_, rfl⟩
                have HC : Hid (c = Vl.check u (d + 1) x) := hc
                obtain ⟨ne, hne⟩ : ∃ c, c = Vl.nameErr u m := ⟨_, rfl⟩
                have HNE : Hid (ne = Vl.nameErr u m) := hne
                have C42 : Hid (∀ W, Below wr.heap.size wr W → Calls Tryz.prog 35 #[.agg #[.int .u8 (xk : Int), .bool xb, .int .i64 xn, .string xs, .slice xa xl xc, .slice ya yl yc], .int .i64 ((d : Int) + 1)] W fun e w' => e = .returned (.int .i64 (c : Int)) ∧ Below W.heap.size W w') := fun W hW => by
                  rw [hc]
                  have hwW : Below w.heap.size w W := hbw.trans (hW.mono hbw.size)
                  exact IH.out x hxN (d + 1) (by omega) W H _ (by have := hwW.size; omega) (rep_stays (hW.mono (by have := hbw.size; omega)) (Nat.le_refl _) x _ hrx)
                have C60 : Hid (∀ W, Below wr.heap.size wr W → Calls Tryz.prog 60 #[.string m] W fun e w' => e = .returned (.int .i64 (ne : Int)) ∧ Below W.heap.size W w') := fun W hW => by
                  rw [hne]
                  exact rname60 HU.out m hms W
                have e1 : wrap64 ((d : Int) + 1) = (d : Int) + 1 := by unfold wrap64; omega
                have HRS : Hid (RepF wr H g o f) := hrs
                have HGH : Hid (g < wr.heap.size) := by have := hbw.size; show g < _; omega
                clear hrx hr H8 hx hxN hc hne hb hbw hz hlt' hrs hms
                go_wp2_with fail
                refine (C60.out _ (below_new _ _)).mono ?_
                rintro e w5 ⟨rfl, hb5⟩
                have HB5 : Hid (Below wr.heap.size wr w5) := (below_new _ _).trans (hb5.mono (below_new _ _).size)
                have HBOX5 : Hid (w5.heap[wr.heap.size]? = some (.cells #[.string m, .int .u8 (xk : Int), .bool xb, .int .i64 xn, .string xs, .slice xa xl xc, .slice ya yl yc] 62 (0, 0))) := (hb5.block _ (by simp)).trans (heap_alloc_new wr _)
                clear hb5 dm d0 d1 d2 d3 d4 d5
                by_cases hn0 : ne = 0
                · subst hn0
                  have n0 : w5.cell? ⟨wr.heap.size, 0, none⟩ = some (.string m) := by rw [cell_of_row _ _ _ _ _ _ HBOX5.out]; rfl
                  have n1 : w5.cell? ⟨wr.heap.size, 1, none⟩ = some (.int .u8 (xk : Int)) := by rw [cell_of_row _ _ _ _ _ _ HBOX5.out]; rfl
                  have n2 : w5.cell? ⟨wr.heap.size, 2, none⟩ = some (.bool xb) := by rw [cell_of_row _ _ _ _ _ _ HBOX5.out]; rfl
                  have n3 : w5.cell? ⟨wr.heap.size, 3, none⟩ = some (.int .i64 xn) := by rw [cell_of_row _ _ _ _ _ _ HBOX5.out]; rfl
                  have n4 : w5.cell? ⟨wr.heap.size, 4, none⟩ = some (.string xs) := by rw [cell_of_row _ _ _ _ _ _ HBOX5.out]; rfl
                  have n5 : w5.cell? ⟨wr.heap.size, 5, none⟩ = some (.slice xa xl xc) := by rw [cell_of_row _ _ _ _ _ _ HBOX5.out]; rfl
                  have n6 : w5.cell? ⟨wr.heap.size, 6, none⟩ = some (.slice ya yl yc) := by rw [cell_of_row _ _ _ _ _ _ HBOX5.out]; rfl
                  have hw5 : w.heap.size < w5.heap.size := by have h1 := HB5.out.size; have h2 := HBW.out.size; have h3 := HS4.out; omega
                  have bx5 : w5.cell? ⟨w.heap.size, 5, none⟩ = some (.slice (some ⟨g, o, none⟩) fl fc) := by
                    have e : w5.heap[w.heap.size]? = w4.heap[w.heap.size]? := (HB5.out.block _ (by have h2 := HBW.out.size; have h3 := HS4.out; omega)).trans (HBW.out.block _ HS4.out)
                    rw [cell_of_row _ _ _ _ _ _ (e.trans HBX.out)]; rfl
                  rcases q with _ | p
                  · have HK : Hid (Vl.check1 u (d + 1) (Vl.prevAt none f 0) (m, x) = Vl.check u (d + 1) x) := by
                      show _ = _
                      rw [Vl.check1, ← HNE.out, if_neg (by simp), Vl.prevAt, Vl.notUp, if_neg (by simp)]
                    go_wp2
                    go_region
                    have HB6 : Hid (Below w4.heap.size w4 w5.drew) := (HBW.out.trans (HB5.out.mono HBW.out.size)).drew
                    have C42' := C42.out w5.drew HB5.out.drew
                    go_wp2_with fail
                    refine C42'.mono ?_
                    rintro e w7 ⟨rfl, hb7⟩
                    have HB7 : Hid (Below w4.heap.size w4 w7) := HB6.out.trans (hb7.mono HB6.out.size)
                    clear hb7 C42' n0 n1 n2 n3 n4 n5 n6 bx5
                    by_cases hc0 : c = 0
                    · subst hc0
                      go_wp2
                      go_roundw
                      case rel =>
                        refine ⟨0 + 1, by omega, by go_num, HB7.out, fun i a hi ha => ?_⟩
                        by_cases hij : i < 0
                        · exact HZ.out i a hij ha
                        · have hij' : i = 0 := by omega
                          subst hij'
                          have h1 := HX.out
                          rw [ha] at h1
                          cases h1
                          rw [HK.out]
                          exact HC.out.symm
                      case measure => simp [intOf]; omega
                    · go_wp2
                      have hst := Vl.checkF_stop u (d + 1) f none (0) (m, x) HZ.out HX.out (by rw [HK.out, ← HC.out]; exact hc0)
                      exact ⟨rfl, _, results_tmp (by rfl) _ _ _, by rw [HCK.out, HL0.out, if_neg (by simp), hst, HK.out, ← HC.out]; rfl, HB4.out.trans (HB7.out.mono HB4.out.size)⟩
                  · have hp' : p < f.length := by have := HFL.out; omega
                    obtain ⟨⟨mp, xp⟩, hxp⟩ : ∃ x, f[p]? = some x := ⟨_, List.getElem?_eq_getElem hp'⟩
                    have pm : w5.cell? ⟨g, o + p * 7, none⟩ = some (.string mp) := (HB5.out.cell (p := ⟨g, o + p * 7, none⟩) HGH.out).trans (repF_at f o HRS.out p mp xp hxp).1
                    have HXP : Hid (Vl.prevAt none f (p + 1) = some mp) := Vl.prevAt_succ f none p (mp, xp) hxp
                    have hle := Vl.str_ge m mp
                    obtain ⟨up, hup⟩ : ∃ up, up = decide (Vl.cmpS m mp ≤ 0) := ⟨_, rfl⟩
                    rw [← hup] at hle
                    have HUP : Hid (up = decide (Vl.cmpS m mp ≤ 0)) := hup
                    have HK : Hid (Vl.check1 u (d + 1) (Vl.prevAt none f (p + 1)) (m, x) = if up = true then 18 else Vl.check u (d + 1) x) := by
                      show _ = _
                      rw [Vl.check1, ← HNE.out, if_neg (by simp), HXP.out, Vl.notUp, ← hup]
                    clear hxp hp' hup
                    go_wp2
                    cases up
                    · rw [Bool.not_false] at hle
                      have HK1 : Hid (Vl.check1 u (d + 1) (Vl.prevAt none f (p + 1)) (m, x) = Vl.check u (d + 1) x) := by
                        show _ = _
                        rw [HK.out, if_neg (by simp)]
                      go_region
                      have HB6 : Hid (Below w4.heap.size w4 w5.drew) := (HBW.out.trans (HB5.out.mono HBW.out.size)).drew
                      have C42' := C42.out w5.drew HB5.out.drew
                      go_wp2_with fail
                      refine C42'.mono ?_
                      rintro e w7 ⟨rfl, hb7⟩
                      have HB7 : Hid (Below w4.heap.size w4 w7) := HB6.out.trans (hb7.mono HB6.out.size)
                      clear hb7 C42' n0 n1 n2 n3 n4 n5 n6 bx5 pm hle
                      by_cases hc0 : c = 0
                      · subst hc0
                        go_wp2
                        go_roundw
                        case rel =>
                          refine ⟨p + 1 + 1, by omega, by go_num, HB7.out, fun i a hi ha => ?_⟩
                          by_cases hij : i < p + 1
                          · exact HZ.out i a hij ha
                          · have hij' : i = p + 1 := by omega
                            subst hij'
                            have h1 := HX.out
                            rw [ha] at h1
                            cases h1
                            rw [HK1.out]
                            exact HC.out.symm
                        case measure => simp [intOf]; omega
                      · go_wp2
                        have hst := Vl.checkF_stop u (d + 1) f none (p + 1) (m, x) HZ.out HX.out (by rw [HK1.out, ← HC.out]; exact hc0)
                        exact ⟨rfl, _, results_tmp (by rfl) _ _ _, by rw [HCK.out, HL0.out, if_neg (by simp), hst, HK1.out, ← HC.out]; rfl, HB4.out.trans (HB7.out.mono HB4.out.size)⟩
                    · rw [Bool.not_true] at hle
                      have HK1 : Hid (Vl.check1 u (d + 1) (Vl.prevAt none f (p + 1)) (m, x) = 18) := by
                        show _ = _
                        rw [HK.out, if_pos rfl]
                      go_region
                      go_wp2
                      have hst := Vl.checkF_stop u (d + 1) f none (p + 1) (m, x) HZ.out HX.out (by rw [HK1.out]; decide)
                      exact ⟨rfl, _, results_tmp (by rfl) _ _ _, by rw [HCK.out, HL0.out, if_neg (by simp), hst, HK1.out]; rfl, (HBWW.out.trans (HB5.out.mono HBWW.out.size)).drew⟩
                · have hn1 : ((ne : Int) == 0) = false := by simp; omega
                  go_wp2
                  go_region
                  go_wp2
                  have hst := Vl.checkF_stop u (d + 1) f none q (m, x) HZ.out HX.out (by rw [Vl.check1, ← HNE.out, if_pos hn0]; exact hn0)
                  exact ⟨rfl, _, results_tmp (by rfl) _ _ _, by rw [HCK.out, HL0.out, if_neg (by simp), hst, Vl.check1, ← HNE.out, if_pos hn0]; rfl, (HBWW.out.trans (HB5.out.mono HBWW.out.size)).drew⟩
              · have hF0 : Vl.checkF u (d + 1) none f = 0 := Vl.checkF_all u (d + 1) f none fun i a ha => HZ.out i a (by have := (List.getElem?_eq_some_iff.1 ha).1; have := HFL.out; omega) ha
                go_wp2
                exact ⟨rfl, _, results_tmp (by rfl) _ _ _, by rw [HCK.out, HL0.out, if_neg (by simp), hF0]; rfl, HBWW.out⟩
    · exact rcheck42_head k b n s ao ll lc fo fl fc d w z qu ck C58 C59 h4' h5' h6' (by omega) (by
        show _ = _
        rw [HCK.out, if_pos ha0, HR.out]) (by
        show _ ≠ _
        rw [HCK.out, if_pos ha0]; exact ha0)
theorem rhasUtf : RUtf Bn.u8 := fun s w h => rutf59 s w h
set_option maxHeartbeats 4000000 in
theorem rcheck19 (t : V) (w : World) (H : Nat) (v : Value) (hH : H ≤ w.heap.size) (hR : Rep w H t v) :
    Calls Tryz.prog 14 #[v] w fun e w' => e = .returned (.int .i64 ((Vl.check Bn.u8 0 t : Nat) : Int)) ∧ Below w.heap.size w w' := by
  obtain ⟨xk, xb, xn, xs, xa, xl, xc, ya, yl, yc, hv⟩ := rep_shape hR
  subst hv
  have C42 : Hid (∀ W, Below w.heap.size w W → Calls Tryz.prog 35 #[.agg #[.int .u8 (xk : Int), .bool xb, .int .i64 xn, .string xs, .slice xa xl xc, .slice ya yl yc], .int .i64 0] W fun e w' => e = .returned (.int .i64 ((Vl.check Bn.u8 0 t : Nat) : Int)) ∧ Below W.heap.size W w') := fun W hW =>
    rcheck42 rhasUtf _ t (Nat.le_refl _) 0 (by omega) W H _ (by have := hW.size; omega) (rep_stays (hW.mono hH) (Nat.le_refl _) t _ hR)
  clear hR
  go_enter Tryz.func14, Tryz.ntmps14
  go_wp2_with (go_at_call 35; refine (C42.out _ (below_new _ _)).mono ?_; rintro e w2 ⟨rfl, hb2⟩)
  exact ⟨rfl, _, results_tmp (by rfl) _ _ _, rfl, (below_new _ _).trans (hb2.mono (below_new _ _).size)⟩
end Go.Proofs.YtkigenldiinioaaGreatDoor
