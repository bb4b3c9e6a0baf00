/- Several texts, joined: CpAc, BtEa -/
import Derived.Test.YtkigenldiinioaaGreatDoorQ32M
import Derived.Deep.CutRange
import Derived.Deep.CutBlock
import Derived.Deep.RegionLaw
import Derived.Deep.AppendLies
import Derived.Deep.Upon
/- The document's Copy, whatever the value. -/
namespace Go.Proofs.YtkigenldiinioaaGreatDoor
open Go.RowKit
open Vl (V)
set_option maxHeartbeats 8000000 in
set_option maxRecDepth 100000 in
theorem copy9_one (k : Nat) (b : Bool) (n : Int) (s : ByteArray) (l : List V) (f : List (ByteArray × V)) (hl : l.length ≤ 1759218604390) (hf : f.length ≤ 1466015503668) (hk : k < 256 ∧ (-9223372036854775808 ≤ n ∧ n < 9223372036854775808) ∧ s.size ≤ maxLen ∧ l.length ≤ maxLen ∧ f.length ≤ maxLen) (w : World) (H : Nat) (hH : H ≤ w.heap.size) (ao : Option Addr) (lc : Nat) (fo : Option Addr) (fc : Nat) (hA : 0 < l.length → ∃ g o, ao = some ⟨g, o, none⟩ ∧ g < H ∧ RepL w H g o l) (hAF : 0 < f.length → ∃ g o, fo = some ⟨g, o, none⟩ ∧ g < H ∧ RepF w H g o f)
    (E : ∀ x ∈ l, ∀ (W : World) (va : Value), H ≤ W.heap.size → Rep W H x va → Calls Tryz.prog 26 #[va] W fun e w' => ∃ v', e = .returned v' ∧ Below W.heap.size W w' ∧ RepA w' (fun g => W.heap.size ≤ g ∧ g < w'.heap.size) x v')
    (EFF : ∀ x ∈ f, ∀ (W : World) (va : Value), H ≤ W.heap.size → Rep W H x.2 va → Calls Tryz.prog 26 #[va] W fun e w' => ∃ v', e = .returned v' ∧ Below W.heap.size W w' ∧ RepA w' (fun g => W.heap.size ≤ g ∧ g < w'.heap.size) x.2 v') :
    Calls Tryz.prog 26 #[.agg #[.int .u8 (k : Int), .bool b, .int .i64 n, .string s, .slice ao l.length lc, .slice fo f.length fc]] w fun e w' => ∃ v', e = .returned v' ∧ Below w.heap.size w w' ∧ RepA w' (fun g => w.heap.size ≤ g ∧ g < w'.heap.size) ⟨k, b, n, s, l, f⟩ v' ∧ CX w' w.heap.size w'.heap.size ⟨k, b, n, s, l, f⟩ v' := by
  obtain ⟨na, hna⟩ : ∃ n, n = l.length := ⟨_, rfl⟩
  obtain ⟨nf, hnf⟩ : ∃ n, n = f.length := ⟨_, rfl⟩
  have HNA : Hid (na = l.length) := hna
  have HA : Hid (0 < l.length → ∃ g o, ao = some ⟨g, o, none⟩ ∧ g < H ∧ RepL w H g o l) := hA
  have HE : Hid (∀ x ∈ l, ∀ (W : World) (va : Value), H ≤ W.heap.size → Rep W H x va → Calls Tryz.prog 26 #[va] W fun e w' => ∃ v', e = .returned v' ∧ Below W.heap.size W w' ∧ RepA w' (fun g => W.heap.size ≤ g ∧ g < w'.heap.size) x v') := E
  have HEF : Hid (∀ x ∈ f, ∀ (W : World) (va : Value), H ≤ W.heap.size → Rep W H x.2 va → Calls Tryz.prog 26 #[va] W fun e w' => ∃ v', e = .returned v' ∧ Below W.heap.size W w' ∧ RepA w' (fun g => W.heap.size ≤ g ∧ g < w'.heap.size) x.2 v') := EFF
  have HAF : Hid (0 < f.length → ∃ g o, fo = some ⟨g, o, none⟩ ∧ g < H ∧ RepF w H g o f) := hAF
  have HNF : Hid (nf = f.length) := hnf
  have HKK : Hid (k < 256 ∧ (-9223372036854775808 ≤ n ∧ n < 9223372036854775808) ∧ s.size ≤ maxLen ∧ l.length ≤ maxLen ∧ f.length ≤ maxLen) := hk
  have HH : Hid (H ≤ w.heap.size) := hH
  rw [← hna] at hl
  rw [← hnf] at hf
  rw [← hna, ← hnf]
  obtain ⟨i0, hi, hz0, hz1, hz2⟩ := info_parts info26'
  obtain ⟨j0, hi', hz0', hz1', hz2'⟩ := info_parts info44'
  clear hA hAF E EFF hna hnf hH hk
  go_enter Tryz.func26, Tryz.ntmps26
  go_wp2
  go_loopw [14] (fun i wr => ∃ (j : Nat) (lv : Value), j ≤ na ∧ i = .int .i64 j ∧ CS w wr l j (.int .u8 (k : Int)) (.bool b) (.int .i64 n) (.string s) (.slice ao na lc) (.slice fo nf fc) lv) (fun i _ => na - (intOf i).toNat)
  case atStart => exact ⟨0, _, Nat.zero_le _, rfl, CS.start w l _ _ _ _ _ _⟩
  case round =>
    obtain ⟨j, lv, hj, rfl, hS⟩ := hrel
    have S : Hid (CS w wr l j (.int .u8 (k : Int)) (.bool b) (.int .i64 n) (.string s) (.slice ao na lc) (.slice fo nf fc) lv) := hS
    clear hS
    by_cases hlt : j < na
    · have ha : j < l.length := by rw [← HNA.out]; exact hlt
      obtain ⟨g, o, rfl, hg, hr⟩ := HA.out (by omega)
      obtain ⟨x, hx⟩ : ∃ x, l[j]? = some x := ⟨_, List.getElem?_eq_getElem ha⟩
      obtain ⟨c0, c1, c2, c3, c4, c5, ⟨d0, d1, d2, d3, d4, d5⟩, hrx⟩ := repL_at l o (repL_stays (S.out.below.mono HH.out) (Nat.le_refl _) hg l o hr) j x hx
      obtain ⟨xk, xb, xn, xs, xa, xl, xc, ya, yl, yc, rfl, rfl, rfl, rfl, rfl, rfl⟩ := rep_form hrx
      have HX : Hid (l[j]? = some x) := hx
      have HRX : Hid (Rep wr H x (.agg #[.int .u8 (xk : Int), .bool xb, .int .i64 xn, .string xs, .slice xa xl xc, .slice ya yl yc])) := hrx
      clear hr hx hrx ha HA
      go_upto_region 6 with fail
      obtain ⟨w2, hw2⟩ : ∃ w2, w2 = wr.alloc (.cells #[.int .u8 (xk : Int), .bool xb, .int .i64 xn, .string xs, .slice xa xl xc, .slice ya yl yc] 27) := ⟨_, rfl⟩
      obtain ⟨B, hB⟩ : ∃ B, B = wr.heap.size := ⟨_, rfl⟩
      have hb2 : Below wr.heap.size wr w2 := by rw [hw2]; exact below_new _ _
      have S2 : Hid (CS w w2 l j (.int .u8 (k : Int)) (.bool b) (.int .i64 n) (.string s) (.slice (some ⟨g, o, none⟩) na lc) (.slice fo nf fc) lv) := S.out.call hb2
      have HBX : Hid (Row6 w2 B (.int .u8 (xk : Int)) (.bool xb) (.int .i64 xn) (.string xs) (.slice xa xl xc) (.slice ya yl yc)) := by
        show Row6 _ _ _ _ _ _ _ _
        rw [hw2, hB]; exact ⟨by simp, heap_alloc_new wr _⟩
      have C9 : Hid (∀ W, Below w2.heap.size w2 W → Calls Tryz.prog 26 #[.agg #[.int .u8 (xk : Int), .bool xb, .int .i64 xn, .string xs, .slice xa xl xc, .slice ya yl yc]] W fun e w' => ∃ (zk : Nat) (zb : Bool) (zn : Int) (zs : ByteArray) (za : Option Addr) (zl zc : Nat) (ta : Option Addr) (tl tc : Nat), e = .returned (.agg #[.int .u8 (zk : Int), .bool zb, .int .i64 zn, .string zs, .slice za zl zc, .slice ta tl tc]) ∧ Below W.heap.size W w' ∧ RepA w' (fun g => W.heap.size ≤ g ∧ g < w'.heap.size) x (.agg #[.int .u8 (zk : Int), .bool zb, .int .i64 zn, .string zs, .slice za zl zc, .slice ta tl tc])) := fun W hW => by
        have h1 := S.out.below.size
        have h2 := hb2.size
        have h3 := hW.size
        have h4 := HH.out
        refine (HE.out x (List.mem_of_getElem? HX.out) W _ (by omega) (rep_stays ((hb2.trans (hW.mono h2)).mono (by omega)) (Nat.le_refl _) x _ HRX.out)).mono ?_
        rintro e w' ⟨v', rfl, hb, hr⟩
        obtain ⟨zk, zb, zn, zs, za, zl, zc, ta, tl, tc, rfl⟩ := repA_form hr
        exact ⟨zk, zb, zn, zs, za, zl, zc, ta, tl, tc, rfl, hb, hr⟩
      rw [← hw2, ← hB]
      clear hw2 hB hb2 d0 d1 d2 d3 d4 d5 S HRX
      obtain ⟨cs, hown, hel⟩ := S2.out.parts
      have HOWN : Hid (w2.ownsRow (w.heap.size + 3) 27 6 lv j cs) := hown
      have HEL : Hid (EL w2 (fun g => w.heap.size + 3 ≤ g ∧ some g ≠ lv.ownBlock ∧ g < w2.heap.size) (l.take j) cs) := hel
      clear hown hel
      obtain ⟨p0, p1, p2, p3, p4, p5⟩ := S2.out.out.cells
      obtain ⟨q0, q1, q2, q3, q4, q5⟩ := HBX.out.cells
      have ltB := HBX.out.1
      have ltO := S2.out.out.1
      have fit63 : Hid (j + 1 ≤ maxLen) := by show _ ≤ _; unfold maxLen; omega
      have fit47 : Hid ((j + 1) * 80 ≤ 140737488355328) := by show _ ≤ _; omega
      go_region_law (first
        | (refine step_append_lies _ (by rfl) _ _ _ (by rfl) (w.heap.size + 3) 27 i0 _ 6 80 Tryz.underlying24 hi hz0 hz1 hz2 rfl (by omega) lv j cs (by rfl) ((own_call HOWN.out HB3.out).alloc _) ⟨w3.heap.size, 0, none⟩ 1 1 [.int .u8 (zk : Int), .bool zb, .int .i64 zn, .string zs, .slice za zl zc, .slice ta tl tc] (by rfl) (by rfl) (World.news_of_block (heap_alloc_new w3 _)) (by simp [Value.oneCell']) (by omega) fit63.out fit47.out (by simp; omega) (w3.heap.size + 1) (by simp) ?_; intro gg cap w5 hown5 hgrow hat hglt
           have N := CS.next S2.out HX.out HOWN.out HEL.out HB3.out HR3.out (by first | exact below_new _ _ | exact (below_new _ _).drew) hgrow hown5 (by simpa using hat)
           have S5 : Hid (CS w (w5.setCell ⟨w.heap.size + 1 + 1, 4, none⟩ (.slice (some ⟨gg, 0, none⟩) (j + 1) cap)) l (j + 1) (.int .u8 (k : Int)) (.bool b) (.int .i64 n) (.string s) (.slice (some ⟨g, o, none⟩) na lc) (.slice fo nf fc) (.slice (some ⟨gg, 0, none⟩) (j + 1) cap)) := N.2
           obtain ⟨t0, t1, t2, t3, t4, t5⟩ := N.1.cells
           have fz5 := N.1.free
           have lt5 := N.1.1
           clear N hown5 hgrow hat hglt)
        | (go_simp; go_at_call 26; refine (C9.out _ ?_).mono ?_; (first | exact Below.refl _ _ | exact (Below.refl _ _).drew); rintro e w3 ⟨zk, zb, zn, zs, za, zl, zc, ta, tl, tc, rfl, hb3, hr3⟩
           have HB3 : Hid (Below w2.heap.size w2 w3) := (by first | exact (Below.refl _ _).drew.trans hb3 | exact hb3)
           have HR3 : Hid (RepA w3 (fun g => w2.heap.size ≤ g ∧ g < w3.heap.size) x (.agg #[.int .u8 (zk : Int), .bool zb, .int .i64 zn, .string zs, .slice za zl zc, .slice ta tl tc])) := (by exact hr3)
           obtain ⟨r0, r1, r2, r3, r4, r5⟩ := (S2.out.call HB3.out).out.cells
           have lt3 := (S2.out.call HB3.out).out.1
           clear hb3 hr3))
      all_goals
        go_wp2
        go_roundw
        case rel => first | exact ⟨j + 1, _, by omega, by go_num, S5.out⟩ | ((repeat apply Exists.intro); exact ⟨⟨j + 1, _, by omega, by go_num, S5.out⟩, rfl⟩)
        case measure => simp [intOf]; omega
    · have hjn : j = na := by omega
      subst hjn
      have T0 : Hid (CT w wr wr.heap.size l f 0 (.int .u8 (k : Int)) (.bool b) (.int .i64 n) (.string s) (.slice ao j lc) (.slice fo nf fc) lv (.slice none 0 0)) := by
        have h1 := S.out
        refine CT.start ?_
        rw [← HNA.out]; exact h1
      obtain ⟨M, hM⟩ : ∃ M, M = wr.heap.size := ⟨_, rfl⟩
      rw [← hM] at T0
      clear hM
      obtain ⟨w0, rfl⟩ : ∃ w0, w0 = wr := ⟨_, rfl⟩
      obtain ⟨a0, a1, a2, a3, a4, a5⟩ := T0.out.arg.cells
      clear S HA HE
      go_wp2
      go_loopw [29] (fun i wr => ∃ (j2 : Nat) (fv : Value), j2 ≤ nf ∧ i = .int .i64 j2 ∧ CT w wr M l f j2 (.int .u8 (k : Int)) (.bool b) (.int .i64 n) (.string s) (.slice ao j lc) (.slice fo nf fc) lv fv) (fun i _ => nf - (intOf i).toNat)
      case atStart => exact ⟨0, _, Nat.zero_le _, rfl, T0.out⟩
      case round =>
        obtain ⟨q, fv, hq, rfl, hT⟩ := hrel
        have T : Hid (CT w wr M l f q (.int .u8 (k : Int)) (.bool b) (.int .i64 n) (.string s) (.slice ao j lc) (.slice fo nf fc) lv fv) := hT
        clear hT T0 a0 a1 a2 a3 a4 a5
        by_cases hlt2 : q < nf
        · have ha : q < f.length := by rw [← HNF.out]; exact hlt2
          obtain ⟨g, o, rfl, hg, hr⟩ := HAF.out (by omega)
          obtain ⟨⟨m, x⟩, hx⟩ : ∃ x, f[q]? = some x := ⟨_, List.getElem?_eq_getElem ha⟩
          obtain ⟨dm, hm, c0, c1, c2, c3, c4, c5, ⟨d0, d1, d2, d3, d4, d5⟩, hrx⟩ := repF_at f o (repF_stays (T.out.below.mono HH.out) (Nat.le_refl _) hg f o hr) q m x hx
          rw [show o + q * 7 + 1 + 1 = o + q * 7 + 2 by omega] at d1
          rw [show o + q * 7 + 1 + 2 = o + q * 7 + 3 by omega] at d2
          rw [show o + q * 7 + 1 + 3 = o + q * 7 + 4 by omega] at d3
          rw [show o + q * 7 + 1 + 4 = o + q * 7 + 5 by omega] at d4
          rw [show o + q * 7 + 1 + 5 = o + q * 7 + 6 by omega] at d5
          obtain ⟨xk, xb, xn, xs, xa, xl, xc, ya, yl, yc, rfl, rfl, rfl, rfl, rfl, rfl⟩ := rep_form hrx
          have HX : Hid (f[q]? = some (m, x)) := hx
          have HMS : Hid (m.size ≤ maxLen) := hm
          have HRX : Hid (Rep wr H x (.agg #[.int .u8 (xk : Int), .bool xb, .int .i64 xn, .string xs, .slice xa xl xc, .slice ya yl yc])) := hrx
          clear hr hx hrx ha hm
          go_upto_region 11 with fail
          obtain ⟨w2, hw2⟩ : ∃ w2, w2 = wr.alloc (.cells #[.string m, .int .u8 (xk : Int), .bool xb, .int .i64 xn, .string xs, .slice xa xl xc, .slice ya yl yc] 62) := ⟨_, rfl⟩
          obtain ⟨B, hB⟩ : ∃ B, B = wr.heap.size := ⟨_, rfl⟩
          have hb2 : Below wr.heap.size wr w2 := by rw [hw2]; exact below_new _ _
          have T2 : Hid (CT w w2 M l f q (.int .u8 (k : Int)) (.bool b) (.int .i64 n) (.string s) (.slice ao j lc) (.slice (some ⟨g, o, none⟩) nf fc) lv fv) := T.out.call hb2
          have HBX : Hid (Row7 w2 B (.string m) (.int .u8 (xk : Int)) (.bool xb) (.int .i64 xn) (.string xs) (.slice xa xl xc) (.slice ya yl yc)) := by
            show Row7 _ _ _ _ _ _ _ _ _
            rw [hw2, hB]; exact ⟨by simp, heap_alloc_new wr _⟩
          have C9 : Hid (∀ W, Below w2.heap.size w2 W → Calls Tryz.prog 26 #[.agg #[.int .u8 (xk : Int), .bool xb, .int .i64 xn, .string xs, .slice xa xl xc, .slice ya yl yc]] W fun e w' => ∃ (zk : Nat) (zb : Bool) (zn : Int) (zs : ByteArray) (za : Option Addr) (zl zc : Nat) (ta : Option Addr) (tl tc : Nat), e = .returned (.agg #[.int .u8 (zk : Int), .bool zb, .int .i64 zn, .string zs, .slice za zl zc, .slice ta tl tc]) ∧ Below W.heap.size W w' ∧ RepA w' (fun g => W.heap.size ≤ g ∧ g < w'.heap.size) x (.agg #[.int .u8 (zk : Int), .bool zb, .int .i64 zn, .string zs, .slice za zl zc, .slice ta tl tc])) := fun W hW => by
            have h1 := T.out.below.size
            have h2 := hb2.size
            have h3 := hW.size
            have h4 := HH.out
            refine (HEF.out (m, x) (List.mem_of_getElem? HX.out) W _ (by omega) (rep_stays ((hb2.trans (hW.mono h2)).mono (by omega)) (Nat.le_refl _) x _ HRX.out)).mono ?_
            rintro e w' ⟨v', rfl, hb, hr⟩
            obtain ⟨zk, zb, zn, zs, za, zl, zc, ta, tl, tc, rfl⟩ := repA_form hr
            exact ⟨zk, zb, zn, zs, za, zl, zc, ta, tl, tc, rfl, hb, hr⟩
          rw [← hw2, ← hB]
          clear hw2 hB hb2 dm d0 d1 d2 d3 d4 d5 T HRX
          obtain ⟨cs, hown, hel⟩ := T2.out.parts
          have HOWN : Hid (w2.ownsRow M 62 7 fv q cs) := hown
          have HEL : Hid (EF w2 (fun g => M ≤ g ∧ some g ≠ fv.ownBlock ∧ g < w2.heap.size) (f.take q) cs) := hel
          clear hown hel
          obtain ⟨p0, p1, p2, p3, p4, p5⟩ := T2.out.out.cells
          obtain ⟨q0, q1, q2, q3, q4, q5, q6⟩ := HBX.out.cells
          have ltB := HBX.out.1
          have ltO := T2.out.out.1
          have HML : Hid (M ≤ w2.heap.size) := T2.out.le
          have fit63 : Hid (q + 1 ≤ maxLen) := by show _ ≤ _; unfold maxLen; omega
          have fit47 : Hid ((q + 1) * 96 ≤ 140737488355328) := by show _ ≤ _; omega
          go_region_law (first
            | (refine step_append_lies _ (by rfl) _ _ _ (by rfl) M 62 j0 _ 7 96 Tryz.underlying25 hi' hz0' hz1' hz2' rfl (by omega) fv q cs (by rfl) ((own_call HOWN.out HB3.out).alloc _) ⟨w3.heap.size, 0, none⟩ 1 1 [.string m, .int .u8 (zk : Int), .bool zb, .int .i64 zn, .string zs, .slice za zl zc, .slice ta tl tc] (by rfl) (by rfl) (World.news_of_block (heap_alloc_new w3 _)) (by simp [Value.oneCell']) (by omega) fit63.out fit47.out (by have := HML.out; have := HB3.out.size; simp; omega) (w3.heap.size + 1) (by simp) ?_; intro gg cap w5 hown5 hgrow hat hglt
               have N := CT.next T2.out HX.out HMS.out HOWN.out HEL.out HB3.out HR3.out (by first | exact below_new _ _ | exact (below_new _ _).drew) hgrow hown5 (by simpa using hat)
               have T5 : Hid (CT w (w5.setCell ⟨w.heap.size + 1 + 1, 5, none⟩ (.slice (some ⟨gg, 0, none⟩) (q + 1) cap)) M l f (q + 1) (.int .u8 (k : Int)) (.bool b) (.int .i64 n) (.string s) (.slice ao j lc) (.slice (some ⟨g, o, none⟩) nf fc) lv (.slice (some ⟨gg, 0, none⟩) (q + 1) cap)) := N.2
               obtain ⟨t0, t1, t2, t3, t4, t5⟩ := N.1.cells
               have fz5 := N.1.free
               have lt5 := N.1.1
               clear N hown5 hgrow hat hglt)
            | (go_simp; go_at_call 26; refine (C9.out _ ?_).mono ?_; (first | exact Below.refl _ _ | exact (Below.refl _ _).drew); rintro e w3 ⟨zk, zb, zn, zs, za, zl, zc, ta, tl, tc, rfl, hb3, hr3⟩
               have HB3 : Hid (Below w2.heap.size w2 w3) := (by first | exact (Below.refl _ _).drew.trans hb3 | exact hb3)
               have HR3 : Hid (RepA w3 (fun g => w2.heap.size ≤ g ∧ g < w3.heap.size) x (.agg #[.int .u8 (zk : Int), .bool zb, .int .i64 zn, .string zs, .slice za zl zc, .slice ta tl tc])) := (by exact hr3)
               obtain ⟨r0, r1, r2, r3, r4, r5⟩ := (T2.out.call HB3.out).out.cells
               obtain ⟨y0, y1, y2, y3, y4, y5, y6⟩ := (HBX.out.call HB3.out).cells
               have lt3 := (T2.out.call HB3.out).out.1
               clear hb3 hr3))
          all_goals
            go_wp2
            go_roundw
            case rel => first | exact ⟨q + 1, _, by omega, by go_num, T5.out⟩ | ((repeat apply Exists.intro); exact ⟨⟨q + 1, _, by omega, by go_num, T5.out⟩, rfl⟩)
            case measure => simp [intOf]; omega
        · have hqn : q = nf := by omega
          subst hqn
          have HREP : Hid (RepA wr (fun g => w.heap.size + 1 < g ∧ g < wr.heap.size) ⟨k, b, n, s, l, f⟩ (.agg #[.int .u8 (k : Int), .bool b, .int .i64 n, .string s, lv, fv])) := by
            have h1 := T.out
            refine CT.rep (M := M) (v4 := .slice ao j lc) (v5 := .slice fo q fc) ?_ HKK.out
            rw [← HNF.out]; exact h1
          have hfr : CX wr (w.heap.size + 3) wr.heap.size ⟨k, b, n, s, l, f⟩ (.agg #[.int .u8 (k : Int), .bool b, .int .i64 n, .string s, lv, fv]) := by
            have h1 := T.out
            refine CT.cx (M := M) (v4 := .slice ao j lc) (v5 := .slice fo q fc) ?_
            rw [← HNF.out]; exact h1
          obtain ⟨uk, ub, un, us, ua, ul, uc', va, vl, vc', hu⟩ := repA_form HREP.out
          simp only [Value.agg.injEq, Array.mk.injEq, List.cons.injEq, and_true] at hu
          obtain ⟨_, _, _, _, rfl, rfl⟩ := hu
          obtain ⟨p0, p1, p2, p3, p4, p5⟩ := T.out.out.cells
          obtain ⟨q0, q1, q2, q3, q4, q5⟩ := Row6.cells T.out.res
          have fz := Row6.free T.out.res
          have hl1 := T.out.out.1
          have hl2 := T.out.res.1
          obtain ⟨z1, z2, z3⟩ := answer_own T.out.res T.out.below HREP.out
          obtain ⟨w8, hw8⟩ : ∃ w8, w8 = wr.setCells (w.heap.size + 1) 0 [.int .u8 (k : Int), .bool b, .int .i64 n, .string s, .slice ua ul uc', .slice va vl vc'] := ⟨_, rfl⟩
          rw [← hw8] at z1 z2 z3
          have HW8 : Hid (w8 = wr.setCells (w.heap.size + 1) 0 [.int .u8 (k : Int), .bool b, .int .i64 n, .string s, .slice ua ul uc', .slice va vl vc']) := hw8
          have HA1 : Hid (w8.heap[w.heap.size + 1]? = some (.cells #[.int .u8 (k : Int), .bool b, .int .i64 n, .string s, .slice ua ul uc', .slice va vl vc'] 27 (0, 0))) := z1
          have HA2 : Hid (Below w.heap.size w w8) := z2
          have HA3 : Hid (RepA w8 (fun g => w.heap.size ≤ g ∧ g < w8.heap.size) ⟨k, b, n, s, l, f⟩ (.agg #[.int .u8 (k : Int), .bool b, .int .i64 n, .string s, .slice ua ul uc', .slice va vl vc'])) := z3
          have HFR : Hid (CX w8 w.heap.size w8.heap.size ⟨k, b, n, s, l, f⟩ (.agg #[.int .u8 (k : Int), .bool b, .int .i64 n, .string s, .slice ua ul uc', .slice va vl vc'])) := by
            show CX _ _ _ _ _
            rw [hw8, size_setCellsV']
            exact CX.stays (by omega) hfr (fun g hg _ => heap_setCells_neV _ g (by omega) _ _ _)
          clear hw8 z1 z2 z3 T HREP hfr
          go_wp2
          rw [sets6, ← HW8.out]
          exact bodyPost_ret (v := .agg #[.int .u8 (k : Int), .bool b, .int .i64 n, .string s, .slice ua ul uc', .slice va vl vc']) (results_cell_row rfl _ _ (w.heap.size + 1) 27 #[.int .u8 (k : Int), .bool b, .int .i64 n, .string s, .slice ua ul uc', .slice va vl vc'] (0, 0) _ rfl HA1.out Tryz.underlying27 rfl infoVal) rfl ⟨_, rfl, HA2.out, HA3.out, HFR.out⟩
end Go.Proofs.YtkigenldiinioaaGreatDoor
namespace Go.Proofs.YtkigenldiinioaaGreatDoor
open Go.RowKit
open Vl (V)
/-- Copy, whatever the value -/
theorem copy9 : ∀ (N : Nat) (t : V), Vl.count t ≤ N → Vl.small t → ∀ (w : World) (H : Nat) (v : Value), H ≤ w.heap.size → Rep w H t v → Calls Tryz.prog 26 #[v] w fun e w' => ∃ v', e = .returned v' ∧ Below w.heap.size w w' ∧ RepA w' (fun g => w.heap.size ≤ g ∧ g < w'.heap.size) t v' := by
  intro N
  induction N with
  | zero => intro t ht; obtain ⟨k, b, n, s, l, f⟩ := t; rw [Vl.count] at ht; omega
  | succ N ih =>
    rintro ⟨k, b, n, s, l, f⟩ ht hs w H v hH hr
    rw [Rep] at hr
    obtain ⟨ao, lc, fo, fc, rfl, h2, h3, h4, h5, h6, h7, h8⟩ := hr
    rw [Vl.small] at hs
    refine (copy9_one k b n s l f hs.2.1 hs.2.2.1 ⟨h2, h3, h4, h5, h6⟩ w H hH ao lc fo fc h7 h8 (fun x hx W va hW hr => ?_) (fun x hx W va hW hr => ?_)).mono (fun e w' ⟨v', h1, h2, h3, _⟩ => ⟨v', h1, h2, h3⟩)
    · obtain ⟨q, hq⟩ := List.getElem?_of_mem hx
      exact ih x (by have := Vl.count_partL (k := k) (b := b) (n := n) (s := s) (f := f) hq; omega) (Vl.smallL_mem l x hs.2.2.2.1 hx) W H va hW hr
    · obtain ⟨q, hq⟩ := List.getElem?_of_mem hx
      exact ih x.2 (by have := Vl.count_partF (k := k) (b := b) (n := n) (s := s) (l := l) (m := x.1) (x := x.2) hq; omega) (Vl.smallF_mem f x hs.2.2.2.2 hx).2 W H va hW hr
/-- .. and its fields' row may be written -/
theorem copy9F (t : V) (hs : Vl.small t) (w : World) (H : Nat) (v : Value) (hH : H ≤ w.heap.size) (hr : Rep w H t v) : Calls Tryz.prog 26 #[v] w fun e w' => ∃ v', e = .returned v' ∧ Below w.heap.size w w' ∧ RepA w' (fun g => w.heap.size ≤ g ∧ g < w'.heap.size) t v' ∧ CX w' w.heap.size w'.heap.size t v' := by
  obtain ⟨k, b, n, s, l, f⟩ := t
  rw [Rep] at hr
  obtain ⟨ao, lc, fo, fc, rfl, h2, h3, h4, h5, h6, h7, h8⟩ := hr
  rw [Vl.small] at hs
  exact copy9_one k b n s l f hs.2.1 hs.2.2.1 ⟨h2, h3, h4, h5, h6⟩ w H hH ao lc fo fc h7 h8 (fun x hx W va hW hr => copy9 _ x (Nat.le_refl _) (Vl.smallL_mem l x hs.2.2.2.1 hx) W H va hW hr) (fun x hx W va hW hr => copy9 _ x.2 (Nat.le_refl _) (Vl.smallF_mem f x hs.2.2.2.2 hx).2 W H va hW hr)
end Go.Proofs.YtkigenldiinioaaGreatDoor
/- Entries in a row, in blocks of a kind; a row of entries that grows. -/
namespace Go.Proofs.YtkigenldiinioaaGreatDoor
open Go.RowKit
open Vl (V)
theorem cell_keep {W W' : World} {g o : Nat} (h : W'.heap[g]? = W.heap[g]?) : W'.cell? ⟨g, o, none⟩ = W.cell? ⟨g, o, none⟩ := by
  unfold World.cell?
  simp [h]
/-- numbers in a row of a kind -/
def NumsA (w : World) (A : Nat → Prop) (pi : Option Addr) (l : List Nat) : Prop := ∀ (m x : Nat), l[m]? = some x → ∃ g, pi = some ⟨g, 0, none⟩ ∧ A g ∧ w.cell? ⟨g, m, none⟩ = some (.int .u64 (x : Int))
/-- an entry's seven cells -/
def EntV (w : World) (A : Nat → Prop) (p : V × List Nat) (c : List Value) : Prop := ∃ k0 k1 k2 k3 k4 k5 pi cap, c = [k0, k1, k2, k3, k4, k5, .slice pi p.2.length cap] ∧ RepA w A p.1 (.agg #[k0, k1, k2, k3, k4, k5]) ∧ NumsA w A pi p.2
/-- entries in a row of a kind -/
def EntsA (w : World) (A : Nat → Prop) (a : Option Addr) (L : Bt.KL) : Prop := ∀ (j : Nat) (p : V × List Nat), L[j]? = some p → ∃ g c, a = some ⟨g, 0, none⟩ ∧ A g ∧ EntV w A p c ∧ ∀ r u, c[r]? = some u → w.cell? ⟨g, j * 7 + r, none⟩ = some u
theorem NumsA.stays {w w' : World} {A A' : Nat → Prop} {pi : Option Addr} {l : List Nat} (h : NumsA w A pi l) (hb : ∀ g, A g → w'.heap[g]? = w.heap[g]?) (hA : ∀ g, A g → A' g) : NumsA w' A' pi l := fun m x hx => by
  obtain ⟨g, h1, h2, h3⟩ := h m x hx
  exact ⟨g, h1, hA g h2, (cell_keep (hb g h2)).trans h3⟩
theorem EntV.stays {w w' : World} {A A' : Nat → Prop} {p : V × List Nat} {c : List Value} (h : EntV w A p c) (hb : ∀ g, A g → w'.heap[g]? = w.heap[g]?) (hA : ∀ g, A g → A' g) : EntV w' A' p c := by
  obtain ⟨k0, k1, k2, k3, k4, k5, pi, cap, h1, h2, h3⟩ := h
  exact ⟨k0, k1, k2, k3, k4, k5, pi, cap, h1, repA_stays hb hA _ _ h2, h3.stays hb hA⟩
theorem EntV.len {w : World} {A : Nat → Prop} {p : V × List Nat} {c : List Value} (h : EntV w A p c) : c.length = 7 := by
  obtain ⟨k0, k1, k2, k3, k4, k5, pi, cap, rfl, _⟩ := h
  rfl
theorem EntsA.stays {w w' : World} {A A' : Nat → Prop} {a : Option Addr} {L : Bt.KL} (h : EntsA w A a L) (hb : ∀ g, A g → w'.heap[g]? = w.heap[g]?) (hA : ∀ g, A g → A' g) : EntsA w' A' a L := fun j p hp => by
  obtain ⟨g, c, h1, h2, h3, h4⟩ := h j p hp
  exact ⟨g, c, h1, hA g h2, h3.stays hb hA, fun r u hr => (cell_keep (hb g h2)).trans (h4 r u hr)⟩
theorem EntsA.call {w w' : World} {A : Nat → Prop} {a : Option Addr} {L : Bt.KL} (h : EntsA w A a L) (hA : ∀ g, A g → g < w.heap.size) (hb : Below w.heap.size w w') : EntsA w' A a L := h.stays (fun g hg => hb.block g (hA g hg)) fun _ hg => hg
theorem EntsA.nil (w : World) (A : Nat → Prop) (a : Option Addr) : EntsA w A a [] := fun j p h => by simp at h
theorem NumsA.at {w : World} {A : Nat → Prop} {pi : Option Addr} {l : List Nat} (h : NumsA w A pi l) (hA : ∀ g, A g → g < w.heap.size) : NumsAt w pi l := fun m x hx => by
  obtain ⟨g, h1, h2, h3⟩ := h m x hx
  exact ⟨g, h1, hA g h2, h3⟩
theorem EntsA.at {w : World} {A : Nat → Prop} {a : Option Addr} {L : Bt.KL} (h : EntsA w A a L) (hA : ∀ g, A g → g < w.heap.size) (hl : ∀ p ∈ L, p.2.length ≤ 1000000) : EntsAt w a L := fun j p hp => by
  obtain ⟨g, c, h1, h2, ⟨k0, k1, k2, k3, k4, k5, pi, cap, rfl, h5, h6⟩, h4⟩ := h j p hp
  exact ⟨g, k0, k1, k2, k3, k4, k5, pi, cap, h1, hA g h2, ⟨h4 0 _ rfl, h4 1 _ rfl, h4 2 _ rfl, h4 3 _ rfl, h4 4 _ rfl, h4 5 _ rfl, h4 6 _ rfl⟩, repA_rep hA _ _ h5, h6.at hA, hl p (List.mem_of_getElem? hp)⟩
/-- blocks that a growing row's entries may lie in -/
def OA (A : Nat → Prop) (base : Nat) (lv : Value) (W : World) (g : Nat) : Prop := A g ∨ (base ≤ g ∧ g < W.heap.size ∧ lv.ownBlock ≠ some g)
/-- a row of entries that grows -/
structure EO (w : World) (A : Nat → Prop) (L : Bt.KL) (lv : Value) (W : World) : Prop where
  below : Below w.heap.size w W
  lt : ∀ g, A g → g < w.heap.size
  row : ∃ cs : List (List Value), cs.length = L.length ∧ W.ownsRow w.heap.size 49 7 lv L.length cs.flatten ∧ ∀ (j : Nat) (p : V × List Nat) (c : List Value), L[j]? = some p → cs[j]? = some c → EntV W (OA A w.heap.size lv W) p c
section
variable {w W W' : World} {A : Nat → Prop} {L : Bt.KL} {lv : Value}
theorem EO.start (w : World) {A : Nat → Prop} (hA : ∀ g, A g → g < w.heap.size) : EO w A [] (.slice none 0 0) w := ⟨Below.refl _ _, hA, [], rfl, ⟨rfl, .inl ⟨rfl, rfl⟩⟩, fun j p c h => by simp at h⟩
theorem EO.own_lt {cs : List Value} {n : Nat} (h2 : W.ownsRow w.heap.size 49 7 lv n cs) : ∀ k, lv.ownBlock = some k → w.heap.size ≤ k ∧ k < W.heap.size := fun k hk => by
  rcases h2.2 with ⟨rfl, _⟩ | ⟨g, cap, cur, rfl, q2, q3, _⟩
  · cases hk
  · cases hk; exact ⟨q2, lt_of_row q3⟩
theorem EO.call (h : EO w A L lv W) (hb : Below W.heap.size W W') : EO w A L lv W' := by
  obtain ⟨cs, h1, h2, h3⟩ := h.row
  have s := h.below.size
  have s2 := hb.size
  refine ⟨h.below.trans (hb.mono s), h.lt, cs, h1, owns_stays h2 fun g hg => hb.block g (EO.own_lt h2 g hg).2, fun j p c hp hc => (h3 j p c hp hc).stays (fun g hg => hb.block g ?_) fun g hg => ?_⟩
  · rcases hg with q | q
    · have := h.lt g q; omega
    · exact q.2.1
  · rcases hg with q | q
    · exact .inl q
    · exact .inr ⟨q.1, by omega, q.2.2⟩
/-- one more entry -/
theorem EO.next {cs : List (List Value)} {p : V × List Nat} {c : List Value} {W4 W5 : World} {v' : Value} (h : EO w A L lv W) (h1 : cs.length = L.length) (h2 : W.ownsRow w.heap.size 49 7 lv L.length cs.flatten) (h3 : ∀ (j : Nat) (p : V × List Nat) (c : List Value), L[j]? = some p → cs[j]? = some c → EntV W (OA A w.heap.size lv W) p c)
    (hE : EntV W4 (OA A w.heap.size lv W4) p c) (h4 : Below W.heap.size W W4) (hg : W4.grownBy W5 lv.ownBlock) (hv : v'.ownBlock = lv.ownBlock ∨ v'.ownBlock = some W4.heap.size) (ho : W5.ownsRow w.heap.size 49 7 v' (L.length + 1) (cs.flatten ++ c)) : EO w A (L ++ [p]) v' W5 := by
  have s := h.below.size
  have s4 := h4.size
  have s5 := hg.size
  have hown := EO.own_lt h2
  have mv : ∀ g, OA A w.heap.size lv W4 g → W5.heap[g]? = W4.heap[g]? ∧ OA A w.heap.size v' W5 g := fun g hg' => by
    have hne : lv.ownBlock ≠ some g := by
      rcases hg' with q | q
      · intro e; have := h.lt g q; have := (hown g e).1; omega
      · exact q.2.2
    have hlt : g < W4.heap.size := by
      rcases hg' with q | q
      · have := h.lt g q; omega
      · exact q.2.1
    refine ⟨hg.block g hlt fun e => hne e.symm, ?_⟩
    rcases hg' with q | q
    · exact .inl q
    · refine .inr ⟨q.1, by omega, ?_⟩
      rcases hv with q2 | q2
      · rw [q2]; exact q.2.2
      · rw [q2]; intro q3; injection q3 with q3; omega
  have old : ∀ g, OA A w.heap.size lv W g → W4.heap[g]? = W.heap[g]? ∧ OA A w.heap.size lv W4 g := fun g hg' => by
    rcases hg' with q | q
    · exact ⟨h4.block g (by have := h.lt g q; omega), .inl q⟩
    · exact ⟨h4.block g q.2.1, .inr ⟨q.1, by omega, q.2.2⟩⟩
  refine ⟨(h.below.trans (h4.mono s)).grown hg (by omega) (fun k e => (hown k e).1), h.lt, cs ++ [c], by simp [h1], ?_, fun j f d hf hd => ?_⟩
  · rw [List.flatten_append, List.flatten_singleton, List.length_append, List.length_singleton]
    exact ho
  · rcases Nat.lt_or_ge j L.length with q | q
    · rw [List.getElem?_append_left q] at hf
      rw [List.getElem?_append_left (by omega)] at hd
      exact (h3 j f d hf hd).stays (fun g p => ((mv g (old g p).2).1).trans (old g p).1) fun g p => (mv g (old g p).2).2
    · have hj : j = L.length := by
        have := (List.getElem?_eq_some_iff.1 hf).1
        simp at this
        omega
      subst hj
      rw [List.getElem?_append_right (Nat.le_refl _), Nat.sub_self] at hf
      rw [List.getElem?_append_right (by omega), h1, Nat.sub_self] at hd
      simp at hf hd
      subst hf hd
      exact hE.stays (fun g p => (mv g p).1) fun g p => (mv g p).2
theorem EO.form (h : EO w A L lv W) : ∃ a c, lv = .slice a L.length c := by
  obtain ⟨cs, _, h2, _⟩ := h.row
  rcases h2.2 with ⟨rfl, h0⟩ | ⟨g, cap, cur, rfl, _⟩
  · rw [h0]; exact ⟨_, _, rfl⟩
  · exact ⟨_, _, rfl⟩
theorem EO.done {a : Option Addr} {n c : Nat} (h : EO w A L (.slice a n c) W) : n = L.length ∧ EntsA W (fun g => A g ∨ (w.heap.size ≤ g ∧ g < W.heap.size)) a L := by
  obtain ⟨cs, h1, h2, h3⟩ := h.row
  rcases h2.2 with ⟨e, h0⟩ | ⟨g, cap, cur, e, hg, hcr, _, _, _, htk⟩
  · cases e
    refine ⟨h0.symm, ?_⟩
    rw [List.eq_nil_of_length_eq_zero h0]
    exact EntsA.nil _ _ _
  · cases e
    refine ⟨rfl, fun j p hp => ?_⟩
    have hjl := (List.getElem?_eq_some_iff.1 hp).1
    obtain ⟨d, hd⟩ : ∃ d, cs[j]? = some d := ⟨_, List.getElem?_eq_getElem (by omega)⟩
    have hE := h3 j p d hp hd
    have h7 : ∀ c ∈ cs, c.length = 7 := fun c hc => by
      obtain ⟨m, hm⟩ := List.getElem?_of_mem hc
      have hml := (List.getElem?_eq_some_iff.1 hm).1
      exact (h3 m _ c (List.getElem?_eq_getElem (by omega)) hm).len
    refine ⟨g, d, rfl, .inr ⟨hg, lt_of_row hcr⟩, hE.stays (fun _ _ => rfl) fun k hk => ?_, fun r u hu => ?_⟩
    · rcases hk with q | q
      · exact .inl q
      · exact .inr ⟨q.1, q.2.1⟩
    · have hr : r < 7 := by rw [← hE.len]; exact (List.getElem?_eq_some_iff.1 hu).1
      refine cells_at hcr _ _ ?_
      have h8 := flat7 h7 hd hr
      rw [hu, ← htk, List.getElem?_take_of_lt (by omega), Array.getElem?_toList] at h8
      exact h8
end
/-- numbers in a row that grows -/
structure NO (w : World) (l : List Nat) (lv : Value) (W : World) : Prop where
  below : Below w.heap.size w W
  row : W.ownsRow w.heap.size 51 1 lv l.length (Bt.nums l)
section
variable {w W W' : World} {l : List Nat} {lv : Value}
theorem NO.start (w : World) : NO w [] (.slice none 0 0) w := ⟨Below.refl _ _, rfl, .inl ⟨rfl, rfl⟩⟩
theorem NO.call (h : NO w l lv W) (hb : Below W.heap.size W W') : NO w l lv W' :=
  ⟨h.below.trans (hb.mono h.below.size), own_call h.row hb⟩
theorem NO.next {id : Nat} {W5 : World} {v' : Value} (h : NO w l lv W) (hg : W.grownBy W5 lv.ownBlock) (ho : W5.ownsRow w.heap.size 51 1 v' (l.length + 1) (Bt.nums l ++ [.int .u64 (id : Int)])) : NO w (l ++ [id]) v' W5 := by
  refine ⟨h.below.grown hg h.below.size fun k hk => ?_, ?_⟩
  · rcases h.row.2 with ⟨rfl, _⟩ | ⟨g, cap, cur, rfl, q2, q3, _⟩
    · cases hk
    · cases hk; exact q2
  · rw [List.length_append, List.length_singleton]
    have e : Bt.nums (l ++ [id]) = Bt.nums l ++ [.int .u64 (id : Int)] := by simp [Bt.nums]
    rw [e]
    exact ho
theorem NO.done (h : NO w l lv W) : ∃ a c, lv = .slice a l.length c ∧ NumsA W (fun g => w.heap.size ≤ g ∧ g < W.heap.size) a l := by
  rcases h.row.2 with ⟨rfl, h0⟩ | ⟨g, cap, cur, rfl, hg, hcr, _, _, _, htk⟩
  · refine ⟨none, 0, by rw [h0], ?_⟩
    rw [List.eq_nil_of_length_eq_zero h0]
    intro m x hx
    simp at hx
  · refine ⟨_, cap, rfl, fun m x hx => ⟨g, rfl, ⟨hg, lt_of_row hcr⟩, ?_⟩⟩
    have hml := (List.getElem?_eq_some_iff.1 hx).1
    refine cells_at hcr _ _ ?_
    have : (Bt.nums l)[m]? = some (.int .u64 (x : Int)) := by rw [Bt.nums, List.getElem?_map, hx]; rfl
    rw [← htk, List.getElem?_take_of_lt (by omega), Array.getElem?_toList] at this
    exact this
end
end Go.Proofs.YtkigenldiinioaaGreatDoor
