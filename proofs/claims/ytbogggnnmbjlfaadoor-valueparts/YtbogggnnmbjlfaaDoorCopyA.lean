/- The document's Copy, whatever the value. -/
import Derived.Test.YtbogggnnmbjlfaaDoorCopyL
namespace Go.Proofs.YtbogggnnmbjlfaaDoor
open Go.RowKit
open Vl (V)
set_option maxHeartbeats 8000000 in
set_option maxRecDepth 100000 in
theorem copy9_one (k : Nat) (b : Bool) (n : Int) (s : ByteArray) (l : List V) (f : List (ByteArray × V)) (hl : l.length ≤ 1759218604390) (hf : f.length ≤ 1466015503668) (hk : k < 256 ∧ (-9223372036854775808 ≤ n ∧ n < 9223372036854775808) ∧ s.size ≤ maxLen ∧ l.length ≤ maxLen ∧ f.length ≤ maxLen) (w : World) (H : Nat) (hH : H ≤ w.heap.size) (ao : Option Addr) (lc : Nat) (fo : Option Addr) (fc : Nat) (hA : 0 < l.length → ∃ g o, ao = some ⟨g, o, none⟩ ∧ g < H ∧ RepL w H g o l) (hAF : 0 < f.length → ∃ g o, fo = some ⟨g, o, none⟩ ∧ g < H ∧ RepF w H g o f)
    (E : ∀ x ∈ l, ∀ (W : World) (va : Value), H ≤ W.heap.size → Rep W H x va → Calls Tryd.prog 9 #[va] W fun e w' => ∃ v', e = .returned v' ∧ Below W.heap.size W w' ∧ RepA w' (fun g => W.heap.size ≤ g ∧ g < w'.heap.size) x v')
    (EFF : ∀ x ∈ f, ∀ (W : World) (va : Value), H ≤ W.heap.size → Rep W H x.2 va → Calls Tryd.prog 9 #[va] W fun e w' => ∃ v', e = .returned v' ∧ Below W.heap.size W w' ∧ RepA w' (fun g => W.heap.size ≤ g ∧ g < w'.heap.size) x.2 v') :
    Calls Tryd.prog 9 #[.agg #[.int .u8 (k : Int), .bool b, .int .i64 n, .string s, .slice ao l.length lc, .slice fo f.length fc]] w fun e w' => ∃ v', e = .returned v' ∧ Below w.heap.size w w' ∧ RepA w' (fun g => w.heap.size ≤ g ∧ g < w'.heap.size) ⟨k, b, n, s, l, f⟩ v' ∧ CX w' w.heap.size w'.heap.size ⟨k, b, n, s, l, f⟩ v' := by
  obtain ⟨na, hna⟩ : ∃ n, n = l.length := ⟨_, rfl⟩
  obtain ⟨nf, hnf⟩ : ∃ n, n = f.length := ⟨_, rfl⟩
  have HNA : Hid (na = l.length) := hna
  have HA : Hid (0 < l.length → ∃ g o, ao = some ⟨g, o, none⟩ ∧ g < H ∧ RepL w H g o l) := hA
  have HE : Hid (∀ x ∈ l, ∀ (W : World) (va : Value), H ≤ W.heap.size → Rep W H x va → Calls Tryd.prog 9 #[va] W fun e w' => ∃ v', e = .returned v' ∧ Below W.heap.size W w' ∧ RepA w' (fun g => W.heap.size ≤ g ∧ g < w'.heap.size) x v') := E
  have HEF : Hid (∀ x ∈ f, ∀ (W : World) (va : Value), H ≤ W.heap.size → Rep W H x.2 va → Calls Tryd.prog 9 #[va] W fun e w' => ∃ v', e = .returned v' ∧ Below W.heap.size W w' ∧ RepA w' (fun g => W.heap.size ≤ g ∧ g < w'.heap.size) x.2 v') := EFF
  have HAF : Hid (0 < f.length → ∃ g o, fo = some ⟨g, o, none⟩ ∧ g < H ∧ RepF w H g o f) := hAF
  have HNF : Hid (nf = f.length) := hnf
  have HKK : Hid (k < 256 ∧ (-9223372036854775808 ≤ n ∧ n < 9223372036854775808) ∧ s.size ≤ maxLen ∧ l.length ≤ maxLen ∧ f.length ≤ maxLen) := hk
  have HH : Hid (H ≤ w.heap.size) := hH
  rw [← hna] at hl
  rw [← hnf] at hf
  rw [← hna, ← hnf]
  obtain ⟨i0, hi, hz0, hz1, hz2⟩ := info_parts info26'
  obtain ⟨j0, hi', hz0', hz1', hz2'⟩ := info_parts info44'
  clear hA hAF E EFF hna hnf hH hk
  go_enter Tryd.func9, Tryd.ntmps9
  go_wp2
  go_loopw [14] (fun i wr => ∃ (j : Nat) (lv : Value), j ≤ na ∧ i = .int .i64 j ∧ CS w wr l j (.int .u8 (k : Int)) (.bool b) (.int .i64 n) (.string s) (.slice ao na lc) (.slice fo nf fc) lv) (fun i _ => na - (intOf i).toNat)
  case atStart => exact ⟨0, _, Nat.zero_le _, rfl, CS.start w l _ _ _ _ _ _⟩
  case round =>
    obtain ⟨j, lv, hj, rfl, hS⟩ := hrel
    have S : Hid (CS w wr l j (.int .u8 (k : Int)) (.bool b) (.int .i64 n) (.string s) (.slice ao na lc) (.slice fo nf fc) lv) := hS
    clear hS
    by_cases hlt : j < na
    · have ha : j < l.length := by rw [← HNA.out]; exact hlt
      obtain ⟨g, o, rfl, hg, hr⟩ := HA.out (by omega)
      obtain ⟨x, hx⟩ : ∃ x, l[j]? = some x := ⟨_, List.getElem?_eq_getElem ha⟩
      obtain ⟨c0, c1, c2, c3, c4, c5, ⟨d0, d1, d2, d3, d4, d5⟩, hrx⟩ := repL_at l o (repL_stays (S.out.below.mono HH.out) (Nat.le_refl _) hg l o hr) j x hx
      obtain ⟨xk, xb, xn, xs, xa, xl, xc, ya, yl, yc, rfl, rfl, rfl, rfl, rfl, rfl⟩ := rep_form hrx
      have HX : Hid (l[j]? = some x) := hx
      have HRX : Hid (Rep wr H x (.agg #[.int .u8 (xk : Int), .bool xb, .int .i64 xn, .string xs, .slice xa xl xc, .slice ya yl yc])) := hrx
      clear hr hx hrx ha HA
      go_upto_region 6 with fail
      obtain ⟨w2, hw2⟩ : ∃ w2, w2 = wr.alloc (.cells #[.int .u8 (xk : Int), .bool xb, .int .i64 xn, .string xs, .slice xa xl xc, .slice ya yl yc] 26) := ⟨_, rfl⟩
      obtain ⟨B, hB⟩ : ∃ B, B = wr.heap.size := ⟨_, rfl⟩
      have hb2 : Below wr.heap.size wr w2 := by rw [hw2]; exact below_new _ _
      have S2 : Hid (CS w w2 l j (.int .u8 (k : Int)) (.bool b) (.int .i64 n) (.string s) (.slice (some ⟨g, o, none⟩) na lc) (.slice fo nf fc) lv) := S.out.call hb2
      have HBX : Hid (Row6 w2 B (.int .u8 (xk : Int)) (.bool xb) (.int .i64 xn) (.string xs) (.slice xa xl xc) (.slice ya yl yc)) := by
        show Row6 _ _ _ _ _ _ _ _
        rw [hw2, hB]; exact ⟨by simp, heap_alloc_new wr _⟩
      have C9 : Hid (∀ W, Below w2.heap.size w2 W → Calls Tryd.prog 9 #[.agg #[.int .u8 (xk : Int), .bool xb, .int .i64 xn, .string xs, .slice xa xl xc, .slice ya yl yc]] W fun e w' => ∃ (zk : Nat) (zb : Bool) (zn : Int) (zs : ByteArray) (za : Option Addr) (zl zc : Nat) (ta : Option Addr) (tl tc : Nat), e = .returned (.agg #[.int .u8 (zk : Int), .bool zb, .int .i64 zn, .string zs, .slice za zl zc, .slice ta tl tc]) ∧ Below W.heap.size W w' ∧ RepA w' (fun g => W.heap.size ≤ g ∧ g < w'.heap.size) x (.agg #[.int .u8 (zk : Int), .bool zb, .int .i64 zn, .string zs, .slice za zl zc, .slice ta tl tc])) := fun W hW => by
        have h1 := S.out.below.size
        have h2 := hb2.size
        have h3 := hW.size
        have h4 := HH.out
        refine (HE.out x (List.mem_of_getElem? HX.out) W _ (by omega) (rep_stays ((hb2.trans (hW.mono h2)).mono (by omega)) (Nat.le_refl _) x _ HRX.out)).mono ?_
        rintro e w' ⟨v', rfl, hb, hr⟩
        obtain ⟨zk, zb, zn, zs, za, zl, zc, ta, tl, tc, rfl⟩ := repA_form hr
        exact ⟨zk, zb, zn, zs, za, zl, zc, ta, tl, tc, rfl, hb, hr⟩
      rw [← hw2, ← hB]
      clear hw2 hB hb2 d0 d1 d2 d3 d4 d5 S HRX
      obtain ⟨cs, hown, hel⟩ := S2.out.parts
      have HOWN : Hid (w2.ownsRow (w.heap.size + 3) 26 6 lv j cs) := hown
      have HEL : Hid (EL w2 (fun g => w.heap.size + 3 ≤ g ∧ some g ≠ lv.ownBlock ∧ g < w2.heap.size) (l.take j) cs) := hel
      clear hown hel
      obtain ⟨p0, p1, p2, p3, p4, p5⟩ := S2.out.out.cells
      obtain ⟨q0, q1, q2, q3, q4, q5⟩ := HBX.out.cells
      have ltB := HBX.out.1
      have ltO := S2.out.out.1
      have fit63 : Hid (j + 1 ≤ maxLen) := by show _ ≤ _; unfold maxLen; omega
      have fit47 : Hid ((j + 1) * 80 ≤ 140737488355328) := by show _ ≤ _; omega
      go_region_law (first
        | (refine step_append_lies _ (by rfl) _ _ _ (by rfl) (w.heap.size + 3) 26 i0 _ 6 80 Tryd.underlying23 hi hz0 hz1 hz2 rfl (by omega) lv j cs (by rfl) ((own_call HOWN.out HB3.out).alloc _) ⟨w3.heap.size, 0, none⟩ 1 1 [.int .u8 (zk : Int), .bool zb, .int .i64 zn, .string zs, .slice za zl zc, .slice ta tl tc] (by rfl) (by rfl) (World.news_of_block (heap_alloc_new w3 _)) (by simp [Value.oneCell']) (by omega) fit63.out fit47.out (by simp; omega) (w3.heap.size + 1) (by simp) ?_; intro gg cap w5 hown5 hgrow hat hglt
           have N := CS.next S2.out HX.out HOWN.out HEL.out HB3.out HR3.out (by first | exact below_new _ _ | exact (below_new _ _).drew) hgrow hown5 (by simpa using hat)
           have S5 : Hid (CS w (w5.setCell ⟨w.heap.size + 1 + 1, 4, none⟩ (.slice (some ⟨gg, 0, none⟩) (j + 1) cap)) l (j + 1) (.int .u8 (k : Int)) (.bool b) (.int .i64 n) (.string s) (.slice (some ⟨g, o, none⟩) na lc) (.slice fo nf fc) (.slice (some ⟨gg, 0, none⟩) (j + 1) cap)) := N.2
           obtain ⟨t0, t1, t2, t3, t4, t5⟩ := N.1.cells
           have fz5 := N.1.free
           have lt5 := N.1.1
           clear N hown5 hgrow hat hglt)
        | (go_simp; go_at_call 9; refine (C9.out _ ?_).mono ?_; (first | exact Below.refl _ _ | exact (Below.refl _ _).drew); rintro e w3 ⟨zk, zb, zn, zs, za, zl, zc, ta, tl, tc, rfl, hb3, hr3⟩
           have HB3 : Hid (Below w2.heap.size w2 w3) := (by first | exact (Below.refl _ _).drew.trans hb3 | exact hb3)
           have HR3 : Hid (RepA w3 (fun g => w2.heap.size ≤ g ∧ g < w3.heap.size) x (.agg #[.int .u8 (zk : Int), .bool zb, .int .i64 zn, .string zs, .slice za zl zc, .slice ta tl tc])) := (by exact hr3)
           obtain ⟨r0, r1, r2, r3, r4, r5⟩ := (S2.out.call HB3.out).out.cells
           have lt3 := (S2.out.call HB3.out).out.1
           clear hb3 hr3))
      all_goals
        go_wp2
        go_roundw
        case rel => first | exact ⟨j + 1, _, by omega, by go_num, S5.out⟩ | ((repeat apply Exists.intro); exact ⟨⟨j + 1, _, by omega, by go_num, S5.out⟩, rfl⟩)
        case measure => simp [intOf]; omega
    · have hjn : j = na := by omega
      subst hjn
      have T0 : Hid (CT w wr wr.heap.size l f 0 (.int .u8 (k : Int)) (.bool b) (.int .i64 n) (.string s) (.slice ao j lc) (.slice fo nf fc) lv (.slice none 0 0)) := by
        have h1 := S.out
        refine CT.start ?_
        rw [← HNA.out]; exact h1
      obtain ⟨M, hM⟩ : ∃ M, M = wr.heap.size := ⟨_, rfl⟩
      rw [← hM] at T0
      clear hM
      obtain ⟨w0, rfl⟩ : ∃ w0, w0 = wr := ⟨_, rfl⟩
      obtain ⟨a0, a1, a2, a3, a4, a5⟩ := T0.out.arg.cells
      clear S HA HE
      go_wp2
      go_loopw [29] (fun i wr => ∃ (j2 : Nat) (fv : Value), j2 ≤ nf ∧ i = .int .i64 j2 ∧ CT w wr M l f j2 (.int .u8 (k : Int)) (.bool b) (.int .i64 n) (.string s) (.slice ao j lc) (.slice fo nf fc) lv fv) (fun i _ => nf - (intOf i).toNat)
      case atStart => exact ⟨0, _, Nat.zero_le _, rfl, T0.out⟩
      case round =>
        obtain ⟨q, fv, hq, rfl, hT⟩ := hrel
        have T : Hid (CT w wr M l f q (.int .u8 (k : Int)) (.bool b) (.int .i64 n) (.string s) (.slice ao j lc) (.slice fo nf fc) lv fv) := hT
        clear hT T0 a0 a1 a2 a3 a4 a5
        by_cases hlt2 : q < nf
        · have ha : q < f.length := by rw [← HNF.out]; exact hlt2
          obtain ⟨g, o, rfl, hg, hr⟩ := HAF.out (by omega)
          obtain ⟨⟨m, x⟩, hx⟩ : ∃ x, f[q]? = some x := ⟨_, List.getElem?_eq_getElem ha⟩
          obtain ⟨dm, hm, c0, c1, c2, c3, c4, c5, ⟨d0, d1, d2, d3, d4, d5⟩, hrx⟩ := repF_at f o (repF_stays (T.out.below.mono HH.out) (Nat.le_refl _) hg f o hr) q m x hx
          rw [show o + q * 7 + 1 + 1 = o + q * 7 + 2 by omega] at d1
          rw [show o + q * 7 + 1 + 2 = o + q * 7 + 3 by omega] at d2
          rw [show o + q * 7 + 1 + 3 = o + q * 7 + 4 by omega] at d3
          rw [show o + q * 7 + 1 + 4 = o + q * 7 + 5 by omega] at d4
          rw [show o + q * 7 + 1 + 5 = o + q * 7 + 6 by omega] at d5
          obtain ⟨xk, xb, xn, xs, xa, xl, xc, ya, yl, yc, rfl, rfl, rfl, rfl, rfl, rfl⟩ := rep_form hrx
          have HX : Hid (f[q]? = some (m, x)) := hx
          have HMS : Hid (m.size ≤ maxLen) := hm
          have HRX : Hid (Rep wr H x (.agg #[.int .u8 (xk : Int), .bool xb, .int .i64 xn, .string xs, .slice xa xl xc, .slice ya yl yc])) := hrx
          clear hr hx hrx ha hm
          go_upto_region 11 with fail
          obtain ⟨w2, hw2⟩ : ∃ w2, w2 = wr.alloc (.cells #[.string m, .int .u8 (xk : Int), .bool xb, .int .i64 xn, .string xs, .slice xa xl xc, .slice ya yl yc] 39) := ⟨_, rfl⟩
          obtain ⟨B, hB⟩ : ∃ B, B = wr.heap.size := ⟨_, rfl⟩
          have hb2 : Below wr.heap.size wr w2 := by rw [hw2]; exact below_new _ _
          have T2 : Hid (CT w w2 M l f q (.int .u8 (k : Int)) (.bool b) (.int .i64 n) (.string s) (.slice ao j lc) (.slice (some ⟨g, o, none⟩) nf fc) lv fv) := T.out.call hb2
          have HBX : Hid (Row7 w2 B (.string m) (.int .u8 (xk : Int)) (.bool xb) (.int .i64 xn) (.string xs) (.slice xa xl xc) (.slice ya yl yc)) := by
            show Row7 _ _ _ _ _ _ _ _ _
            rw [hw2, hB]; exact ⟨by simp, heap_alloc_new wr _⟩
          have C9 : Hid (∀ W, Below w2.heap.size w2 W → Calls Tryd.prog 9 #[.agg #[.int .u8 (xk : Int), .bool xb, .int .i64 xn, .string xs, .slice xa xl xc, .slice ya yl yc]] W fun e w' => ∃ (zk : Nat) (zb : Bool) (zn : Int) (zs : ByteArray) (za : Option Addr) (zl zc : Nat) (ta : Option Addr) (tl tc : Nat), e = .returned (.agg #[.int .u8 (zk : Int), .bool zb, .int .i64 zn, .string zs, .slice za zl zc, .slice ta tl tc]) ∧ Below W.heap.size W w' ∧ RepA w' (fun g => W.heap.size ≤ g ∧ g < w'.heap.size) x (.agg #[.int .u8 (zk : Int), .bool zb, .int .i64 zn, .string zs, .slice za zl zc, .slice ta tl tc])) := fun W hW => by
            have h1 := T.out.below.size
            have h2 := hb2.size
            have h3 := hW.size
            have h4 := HH.out
            refine (HEF.out (m, x) (List.mem_of_getElem? HX.out) W _ (by omega) (rep_stays ((hb2.trans (hW.mono h2)).mono (by omega)) (Nat.le_refl _) x _ HRX.out)).mono ?_
            rintro e w' ⟨v', rfl, hb, hr⟩
            obtain ⟨zk, zb, zn, zs, za, zl, zc, ta, tl, tc, rfl⟩ := repA_form hr
            exact ⟨zk, zb, zn, zs, za, zl, zc, ta, tl, tc, rfl, hb, hr⟩
          rw [← hw2, ← hB]
          clear hw2 hB hb2 dm d0 d1 d2 d3 d4 d5 T HRX
          obtain ⟨cs, hown, hel⟩ := T2.out.parts
          have HOWN : Hid (w2.ownsRow M 39 7 fv q cs) := hown
          have HEL : Hid (EF w2 (fun g => M ≤ g ∧ some g ≠ fv.ownBlock ∧ g < w2.heap.size) (f.take q) cs) := hel
          clear hown hel
          obtain ⟨p0, p1, p2, p3, p4, p5⟩ := T2.out.out.cells
          obtain ⟨q0, q1, q2, q3, q4, q5, q6⟩ := HBX.out.cells
          have ltB := HBX.out.1
          have ltO := T2.out.out.1
          have HML : Hid (M ≤ w2.heap.size) := T2.out.le
          have fit63 : Hid (q + 1 ≤ maxLen) := by show _ ≤ _; unfold maxLen; omega
          have fit47 : Hid ((q + 1) * 96 ≤ 140737488355328) := by show _ ≤ _; omega
          go_region_law (first
            | (refine step_append_lies _ (by rfl) _ _ _ (by rfl) M 39 j0 _ 7 96 Tryd.underlying24 hi' hz0' hz1' hz2' rfl (by omega) fv q cs (by rfl) ((own_call HOWN.out HB3.out).alloc _) ⟨w3.heap.size, 0, none⟩ 1 1 [.string m, .int .u8 (zk : Int), .bool zb, .int .i64 zn, .string zs, .slice za zl zc, .slice ta tl tc] (by rfl) (by rfl) (World.news_of_block (heap_alloc_new w3 _)) (by simp [Value.oneCell']) (by omega) fit63.out fit47.out (by have := HML.out; have := HB3.out.size; simp; omega) (w3.heap.size + 1) (by simp) ?_; intro gg cap w5 hown5 hgrow hat hglt
               have N := CT.next T2.out HX.out HMS.out HOWN.out HEL.out HB3.out HR3.out (by first | exact below_new _ _ | exact (below_new _ _).drew) hgrow hown5 (by simpa using hat)
               have T5 : Hid (CT w (w5.setCell ⟨w.heap.size + 1 + 1, 5, none⟩ (.slice (some ⟨gg, 0, none⟩) (q + 1) cap)) M l f (q + 1) (.int .u8 (k : Int)) (.bool b) (.int .i64 n) (.string s) (.slice ao j lc) (.slice (some ⟨g, o, none⟩) nf fc) lv (.slice (some ⟨gg, 0, none⟩) (q + 1) cap)) := N.2
               obtain ⟨t0, t1, t2, t3, t4, t5⟩ := N.1.cells
               have fz5 := N.1.free
               have lt5 := N.1.1
               clear N hown5 hgrow hat hglt)
            | (go_simp; go_at_call 9; refine (C9.out _ ?_).mono ?_; (first | exact Below.refl _ _ | exact (Below.refl _ _).drew); rintro e w3 ⟨zk, zb, zn, zs, za, zl, zc, ta, tl, tc, rfl, hb3, hr3⟩
               have HB3 : Hid (Below w2.heap.size w2 w3) := (by first | exact (Below.refl _ _).drew.trans hb3 | exact hb3)
               have HR3 : Hid (RepA w3 (fun g => w2.heap.size ≤ g ∧ g < w3.heap.size) x (.agg #[.int .u8 (zk : Int), .bool zb, .int .i64 zn, .string zs, .slice za zl zc, .slice ta tl tc])) := (by exact hr3)
               obtain ⟨r0, r1, r2, r3, r4, r5⟩ := (T2.out.call HB3.out).out.cells
               obtain ⟨y0, y1, y2, y3, y4, y5, y6⟩ := (HBX.out.call HB3.out).cells
               have lt3 := (T2.out.call HB3.out).out.1
               clear hb3 hr3))
          all_goals
            go_wp2
            go_roundw
            case rel => first | exact ⟨q + 1, _, by omega, by go_num, T5.out⟩ | ((repeat apply Exists.intro); exact ⟨⟨q + 1, _, by omega, by go_num, T5.out⟩, rfl⟩)
            case measure => simp [intOf]; omega
        · have hqn : q = nf := by omega
          subst hqn
          have HREP : Hid (RepA wr (fun g => w.heap.size + 1 < g ∧ g < wr.heap.size) ⟨k, b, n, s, l, f⟩ (.agg #[.int .u8 (k : Int), .bool b, .int .i64 n, .string s, lv, fv])) := by
            have h1 := T.out
            refine CT.rep (M := M) (v4 := .slice ao j lc) (v5 := .slice fo q fc) ?_ HKK.out
            rw [← HNF.out]; exact h1
          have hfr : CX wr (w.heap.size + 3) wr.heap.size ⟨k, b, n, s, l, f⟩ (.agg #[.int .u8 (k : Int), .bool b, .int .i64 n, .string s, lv, fv]) := by
            have h1 := T.out
            refine CT.cx (M := M) (v4 := .slice ao j lc) (v5 := .slice fo q fc) ?_
            rw [← HNF.out]; exact h1
          obtain ⟨uk, ub, un, us, ua, ul, uc', va, vl, vc', hu⟩ := repA_form HREP.out
          simp only [Value.agg.injEq, Array.mk.injEq, List.cons.injEq, and_true] at hu
          obtain ⟨_, _, _, _, rfl, rfl⟩ := hu
          obtain ⟨p0, p1, p2, p3, p4, p5⟩ := T.out.out.cells
          obtain ⟨q0, q1, q2, q3, q4, q5⟩ := Row6.cells T.out.res
          have fz := Row6.free T.out.res
          have hl1 := T.out.out.1
          have hl2 := T.out.res.1
          obtain ⟨z1, z2, z3⟩ := answer_own T.out.res T.out.below HREP.out
          obtain ⟨w8, hw8⟩ : ∃ w8, w8 = wr.setCells (w.heap.size + 1) 0 [.int .u8 (k : Int), .bool b, .int .i64 n, .string s, .slice ua ul uc', .slice va vl vc'] := ⟨_, rfl⟩
          rw [← hw8] at z1 z2 z3
          have HW8 : Hid (w8 = wr.setCells (w.heap.size + 1) 0 [.int .u8 (k : Int), .bool b, .int .i64 n, .string s, .slice ua ul uc', .slice va vl vc']) := hw8
          have HA1 : Hid (w8.heap[w.heap.size + 1]? = some (.cells #[.int .u8 (k : Int), .bool b, .int .i64 n, .string s, .slice ua ul uc', .slice va vl vc'] 26 (0, 0))) := z1
          have HA2 : Hid (Below w.heap.size w w8) := z2
          have HA3 : Hid (RepA w8 (fun g => w.heap.size ≤ g ∧ g < w8.heap.size) ⟨k, b, n, s, l, f⟩ (.agg #[.int .u8 (k : Int), .bool b, .int .i64 n, .string s, .slice ua ul uc', .slice va vl vc'])) := z3
          have HFR : Hid (CX w8 w.heap.size w8.heap.size ⟨k, b, n, s, l, f⟩ (.agg #[.int .u8 (k : Int), .bool b, .int .i64 n, .string s, .slice ua ul uc', .slice va vl vc'])) := by
            show CX _ _ _ _ _
            rw [hw8, size_setCells']
            exact CX.stays (by omega) hfr (fun g hg _ => heap_setCells_ne _ g (by omega) _ _ _)
          clear hw8 z1 z2 z3 T HREP hfr
          go_wp2
          rw [sets6, ← HW8.out]
          exact bodyPost_ret (v := .agg #[.int .u8 (k : Int), .bool b, .int .i64 n, .string s, .slice ua ul uc', .slice va vl vc']) (results_cell_row rfl _ _ (w.heap.size + 1) 26 #[.int .u8 (k : Int), .bool b, .int .i64 n, .string s, .slice ua ul uc', .slice va vl vc'] (0, 0) _ rfl HA1.out Tryd.underlying26 rfl info26) rfl ⟨_, rfl, HA2.out, HA3.out, HFR.out⟩
end Go.Proofs.YtbogggnnmbjlfaaDoor
namespace Go.Proofs.YtbogggnnmbjlfaaDoor
open Go.RowKit
open Vl (V)
/-- Copy, whatever the value -/
theorem copy9 : ∀ (N : Nat) (t : V), Vl.count t ≤ N → Vl.small t → ∀ (w : World) (H : Nat) (v : Value), H ≤ w.heap.size → Rep w H t v → Calls Tryd.prog 9 #[v] w fun e w' => ∃ v', e = .returned v' ∧ Below w.heap.size w w' ∧ RepA w' (fun g => w.heap.size ≤ g ∧ g < w'.heap.size) t v' := by
  intro N
  induction N with
  | zero => intro t ht; obtain ⟨k, b, n, s, l, f⟩ := t; rw [Vl.count] at ht; omega
  | succ N ih =>
    rintro ⟨k, b, n, s, l, f⟩ ht hs w H v hH hr
    rw [Rep] at hr
    obtain ⟨ao, lc, fo, fc, rfl, h2, h3, h4, h5, h6, h7, h8⟩ := hr
    rw [Vl.small] at hs
    refine (copy9_one k b n s l f hs.2.1 hs.2.2.1 ⟨h2, h3, h4, h5, h6⟩ w H hH ao lc fo fc h7 h8 (fun x hx W va hW hr => ?_) (fun x hx W va hW hr => ?_)).mono (fun e w' ⟨v', h1, h2, h3, _⟩ => ⟨v', h1, h2, h3⟩)
    · obtain ⟨q, hq⟩ := List.getElem?_of_mem hx
      exact ih x (by have := Vl.count_partL (k := k) (b := b) (n := n) (s := s) (f := f) hq; omega) (Vl.smallL_mem l x hs.2.2.2.1 hx) W H va hW hr
    · obtain ⟨q, hq⟩ := List.getElem?_of_mem hx
      exact ih x.2 (by have := Vl.count_partF (k := k) (b := b) (n := n) (s := s) (l := l) (m := x.1) (x := x.2) hq; omega) (Vl.smallF_mem f x hs.2.2.2.2 hx).2 W H va hW hr
/-- .. and its fields' row may be written -/
theorem copy9F (t : V) (hs : Vl.small t) (w : World) (H : Nat) (v : Value) (hH : H ≤ w.heap.size) (hr : Rep w H t v) : Calls Tryd.prog 9 #[v] w fun e w' => ∃ v', e = .returned v' ∧ Below w.heap.size w w' ∧ RepA w' (fun g => w.heap.size ≤ g ∧ g < w'.heap.size) t v' ∧ CX w' w.heap.size w'.heap.size t v' := by
  obtain ⟨k, b, n, s, l, f⟩ := t
  rw [Rep] at hr
  obtain ⟨ao, lc, fo, fc, rfl, h2, h3, h4, h5, h6, h7, h8⟩ := hr
  rw [Vl.small] at hs
  exact copy9_one k b n s l f hs.2.1 hs.2.2.1 ⟨h2, h3, h4, h5, h6⟩ w H hH ao lc fo fc h7 h8 (fun x hx W va hW hr => copy9 _ x (Nat.le_refl _) (Vl.smallL_mem l x hs.2.2.2.1 hx) W H va hW hr) (fun x hx W va hW hr => copy9 _ x.2 (Nat.le_refl _) (Vl.smallF_mem f x hs.2.2.2.2 hx).2 W H va hW hr)
end Go.Proofs.YtbogggnnmbjlfaaDoor
