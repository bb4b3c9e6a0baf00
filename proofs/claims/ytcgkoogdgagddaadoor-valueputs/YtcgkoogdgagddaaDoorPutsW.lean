/- The law ValuePuts, walked: it answers true whatever the values and names. -/
import Derived.Test.YtcgkoogdgagddaaDoorPutsF
import Derived.Test.YtcgkoogdgagddaaDoorDropW
import Derived.Test.YtcgkoogdgagddaaDoorPutW
import Derived.Test.YtcgkoogdgagddaaDoorSortsW
namespace Go.Proofs.YtcgkoogdgagddaaDoor
open Go.RowKit
open Vl (V)
set_option maxHeartbeats 16000000 in
set_option maxRecDepth 100000 in
theorem puts7_other (k : Nat) (hk : k ≠ 6) (b : Bool) (n : Int) (s : ByteArray) (l : List V) (f : List (ByteArray × V)) (x : V) (na nb : ByteArray) (w : World) (hT : HasT w) (H : Nat) (va vx : Value) (hH : H ≤ w.heap.size) (ha : Rep w H ⟨k, b, n, s, l, f⟩ va) (hx : Rep w H x vx) :
    Calls Tryd.prog 7 #[va, .string na, .string nb, vx] w fun e w' => e = .returned (.bool true) ∧ Below w.heap.size w w' := by
  have hk6 : ¬ ((k : Int) = 6) := by omega
  have ha' := ha
  rw [Rep] at ha'
  obtain ⟨xa, xc, xf, xq, rfl, _⟩ := ha'
  obtain ⟨yk, yb, yn, ys, ya, yl, yc, yf, ym, yq, yv⟩ := repA_form (rep_repA x vx hx)
  subst yv
  obtain ⟨xl, hxl⟩ : ∃ n, n = l.length := ⟨_, rfl⟩
  obtain ⟨xm, hxm⟩ : ∃ n, n = f.length := ⟨_, rfl⟩
  rw [← hxl, ← hxm] at ha ⊢
  have S0 := (Fs.two hT hH ha hx).hid
  clear hT ha hx hxl hxm hH
  go_enter Tryd.func7, Tryd.ntmps7
  go_wp2_with fail
  refine (lives9 _ S0.out.t).mono ?_
  rintro e w1 ⟨rfl, hb1⟩
  have S1 := (S0.out.call hb1).hid
  clear hb1 S0
  obtain ⟨i0, i1, i2, i3, i4, i5⟩ := (S1.out.row 0 rfl).cells
  obtain ⟨j0, j1, j2, j3, j4, j5⟩ := (S1.out.row 1 rfl).cells
  go_wp2_with fail
  refine (put15_none na k hk b n s xa xl xc xf xm xq yk yb yn ys ya yl yc yf ym yq _).mono ?_
  rintro e w2 ⟨rfl, hb2⟩
  have S2 := ((S1.out.call hb2).box (rep_zV _ _)).hid
  clear hb2 S1 i0 i1 i2 i3 i4 i5 j0 j1 j2 j3 j4 j5
  go_upto_region 5 with fail
  obtain ⟨w3, hw3⟩ : ∃ w3, w3 = w2.alloc (.cells #[.int .u8 0, .bool false, .int .i64 0, .string ⟨#[]⟩, .slice none 0 0, .slice none 0 0] 26) := ⟨_, rfl⟩
  obtain ⟨B, hB⟩ : ∃ B, B = w2.heap.size := ⟨_, rfl⟩
  rw [← hw3, ← hB] at S2 ⊢
  clear hw3 hB
  obtain ⟨i0, i1, i2, i3, i4, i5⟩ := (S2.out.row 2 rfl).cells
  obtain ⟨j0, j1, j2, j3, j4, j5⟩ := (S2.out.row 0 rfl).cells
  have hk7 : ((k : Int) != 6) = true := by simp; omega
  go_wp2_with fail
  refine (rsame17 _ zV (Nat.le_refl _) zV _ _ _ _ (Nat.le_refl _) (rep_zV _ _) (rep_zV _ _)).mono ?_
  rintro e w4 ⟨rfl, hb4⟩
  have HB : Hid (Below w.heap.size w w4) := (S2.out.call hb4).below
  clear hb4
  rw [Vl.same_refl]
  go_wp2
  exact ⟨rfl, _, results_tmp (by rfl) _ _ _, rfl, HB.out⟩
theorem Fs.less {w W : World} {φ : Fc} {L : List Fc} (h : Fs w W (φ :: L)) : Fs w W L := ⟨h.below, h.t, fun ψ hψ => h.facts ψ (List.mem_cons_of_mem _ hψ)⟩
theorem rep_one {W : World} {m : ByteArray} (hm : m.size ≤ maxLen) {x : V} {c0 c1 c2 c3 c4 c5 : Value} (hx : Rep W W.heap.size x (.agg #[c0, c1, c2, c3, c4, c5])) :
    Rep (W.alloc (.cells #[.string m, c0, c1, c2, c3, c4, c5] 44)) (W.heap.size + 1) ⟨6, false, 0, ⟨#[]⟩, [], [(m, x)]⟩ (.agg #[.int .u8 6, .bool false, .int .i64 0, .string ⟨#[]⟩, .slice none 0 0, .slice (some ⟨W.heap.size, 0, none⟩) 1 1]) := by
  rw [Rep]
  refine ⟨none, 0, some ⟨W.heap.size, 0, none⟩, 1, rfl, by omega, by omega, by decide, by decide, by simp [maxLen], fun h => by simp at h, fun _ => ⟨W.heap.size, 0, rfl, by omega, ?_⟩⟩
  have hc : ∀ (r : Nat) (v : Value), #[.string m, c0, c1, c2, c3, c4, c5][r]? = some v → (W.alloc (.cells #[.string m, c0, c1, c2, c3, c4, c5] 44)).cell? ⟨W.heap.size, r, none⟩ = some v := fun r v hv => by
    rw [cell_of_row _ _ _ _ _ _ (heap_alloc_new W _)]; exact hv
  rw [RepF, RepF]
  exact ⟨⟨hc 0 _ rfl, hm, c0, c1, c2, c3, c4, c5, ⟨hc 1 _ rfl, hc 2 _ rfl, hc 3 _ rfl, hc 4 _ rfl, hc 5 _ rfl, hc 6 _ rfl⟩, rep_stays (below_new _ _) (Nat.le_succ _) x _ hx⟩, trivial⟩
set_option maxHeartbeats 16000000 in
set_option maxRecDepth 100000 in
theorem puts7_struct (b : Bool) (n : Int) (s : ByteArray) (l : List V) (f : List (ByteArray × V)) (hts : Vl.small ⟨6, b, n, s, l, f⟩) (hfl : f.length ≤ 1466015503658) (x : V) (hxs : Vl.small x) (na nb : ByteArray) (hna : na.size ≤ 140737488351232) (hnb : nb.size ≤ 140737488351232) (w : World) (hT : HasT w) (H : Nat) (va vx : Value) (hH : H ≤ w.heap.size) (ha : Rep w H ⟨6, b, n, s, l, f⟩ va) (hx : Rep w H x vx) :
    Calls Tryd.prog 7 #[va, .string na, .string nb, vx] w fun e w' => e = .returned (.bool true) ∧ Below w.heap.size w w' := by
  have ha' := ha
  rw [Rep] at ha'
  obtain ⟨xa, xc, xf, xq, rfl, _⟩ := ha'
  obtain ⟨yk, yb, yn, ys, ya, yl, yc, yf, ym, yq, yv⟩ := repA_form (rep_repA x vx hx)
  subst yv
  obtain ⟨xl, hxl⟩ : ∃ n, n = l.length := ⟨_, rfl⟩
  obtain ⟨xm, hxm⟩ : ∃ n, n = f.length := ⟨_, rfl⟩
  have S0 := (Fs.two hT hH ha hx).hid
  rw [← hxl, ← hxm] at S0 ⊢
  -- what is put, what is dropped
  obtain ⟨tv, htv⟩ : ∃ t : V, t = ⟨6, b, n, s, l, f⟩ := ⟨_, rfl⟩
  obtain ⟨ta, hta⟩ : ∃ t : V, t = ⟨6, b, n, s, l, Vl.putF f na x⟩ := ⟨_, rfl⟩
  obtain ⟨td, htd⟩ : ∃ t : V, t = ⟨6, b, n, s, l, Vl.dropF (Vl.putF f na x) na⟩ := ⟨_, rfl⟩
  have sa := Vl.put_small hts (by omega) hna hxs
  have SV : Hid (Vl.small tv) := by show Vl.small _; rw [htv]; exact hts
  have SA : Hid (Vl.small ta) := by show Vl.small _; rw [hta]; exact sa
  have SD : Hid (Vl.small td) := by show Vl.small _; rw [htd]; exact Vl.drop_small sa na
  have PUT : Hid (∀ W v, H ≤ W.heap.size → Rep W H tv v → Rep W H x (.agg #[.int .u8 (yk : Int), .bool yb, .int .i64 yn, .string ys, .slice ya yl yc, .slice yf ym yq]) → Calls Tryd.prog 15 #[v, .string na, .agg #[.int .u8 (yk : Int), .bool yb, .int .i64 yn, .string ys, .slice ya yl yc, .slice yf ym yq]] W fun e w' => ∃ (ok : Nat) (ob : Bool) (on : Int) (os : ByteArray) (oa : Option Addr) (ol oc : Nat) (of : Option Addr) (om oq : Nat), e = .returned (.tuple #[.agg #[.int .u8 (ok : Int), .bool ob, .int .i64 on, .string os, .slice oa ol oc, .slice of om oq], .int .i64 0]) ∧ Below W.heap.size W w' ∧ Rep w' w'.heap.size ta (.agg #[.int .u8 (ok : Int), .bool ob, .int .i64 on, .string os, .slice oa ol oc, .slice of om oq])) := fun W v h1 h2 h3 => by
    rw [htv] at h2
    refine (put15 na hna x hxs b n s l f hts (by omega) W H v _ h1 h2 h3).mono ?_
    rintro e w' ⟨v', rfl, hb, hr⟩
    obtain ⟨ok, ob, on, os, oa, ol, oc, of, om, oq, rfl⟩ := repA_form hr
    exact ⟨ok, ob, on, os, oa, ol, oc, of, om, oq, rfl, hb, by rw [hta]; exact repA_rep (fun g hg => hg.2) _ _ hr⟩
  have DROP : Hid (∀ W v, Rep W W.heap.size ta v → Calls Tryd.prog 18 #[v, .string na] W fun e w' => ∃ (ok : Nat) (ob : Bool) (on : Int) (os : ByteArray) (oa : Option Addr) (ol oc : Nat) (of : Option Addr) (om oq : Nat), e = .returned (.tuple #[.agg #[.int .u8 (ok : Int), .bool ob, .int .i64 on, .string os, .slice oa ol oc, .slice of om oq], .int .i64 0]) ∧ Below W.heap.size W w' ∧ Rep w' w'.heap.size td (.agg #[.int .u8 (ok : Int), .bool ob, .int .i64 on, .string os, .slice oa ol oc, .slice of om oq])) := fun W v h2 => by
    rw [hta] at h2
    refine (drop18 na b n s l _ sa W _ v (Nat.le_refl _) h2).mono ?_
    rintro e w' ⟨v', rfl, hb, hr⟩
    obtain ⟨ok, ob, on, os, oa, ol, oc, of, om, oq, rfl⟩ := repA_form hr
    exact ⟨ok, ob, on, os, oa, ol, oc, of, om, oq, rfl, hb, by rw [htd]; exact repA_rep (fun g hg => hg.2) _ _ hr⟩
  have GA : Hid ((getV ta [na]).isSome = true ∧ (getV ta [na]).getD zV = x) := by
    show _ ∧ _
    rw [hta, get_put]; exact ⟨rfl, rfl⟩
  have GD : Hid ((getV td [na]).isSome = false ∧ (getV td [na]).getD zV = zV) := by
    show _ ∧ _
    rw [htd, get_struct, Vl.look_drop, if_pos rfl]; exact ⟨rfl, rfl⟩
  obtain ⟨c, hc⟩ : ∃ c, c = (getV tv [nb]).isSome := ⟨_, rfl⟩
  obtain ⟨y, hy⟩ : ∃ y, y = (getV tv [nb]).getD zV := ⟨_, rfl⟩
  have OV : Hid ((getV tv [nb]).isSome = c ∧ (getV tv [nb]).getD zV = y) := ⟨hc.symm, hy.symm⟩
  have OA : Hid (¬ nb = na → (getV ta [nb]).isSome = c ∧ (getV ta [nb]).getD zV = y) := fun h => by
    have e : getV ta [nb] = getV tv [nb] := by rw [hta, htv, get_struct, get_struct, Vl.look_put f na x nb (fun e => h e.symm)]
    rw [e]; exact OV.out
  have OD : Hid (¬ nb = na → (getV td [nb]).isSome = c ∧ (getV td [nb]).getD zV = y) := fun h => by
    have e : getV td [nb] = getV tv [nb] := by rw [htd, htv, get_struct, get_struct, Vl.look_drop, if_neg (fun e => h e.symm), Vl.look_put f na x nb (fun e => h e.symm)]
    rw [e]; exact OV.out
  obtain ⟨ck, hck⟩ : ∃ k, k = Vl.check utf 0 tv := ⟨_, rfl⟩
  obtain ⟨ca, hca⟩ : ∃ k, k = Vl.check utf 0 ta := ⟨_, rfl⟩
  obtain ⟨cd, hcd⟩ : ∃ k, k = Vl.check utf 0 td := ⟨_, rfl⟩
  obtain ⟨t1, ht1⟩ : ∃ t : V, t = ⟨6, false, 0, ⟨#[]⟩, [], [(na, x)]⟩ := ⟨_, rfl⟩
  obtain ⟨co, hco⟩ : ∃ k, k = Vl.check utf 0 t1 := ⟨_, rfl⟩
  obtain ⟨pl, hpl⟩ : ∃ k, k = (Vl.putF f na x).length := ⟨_, rfl⟩
  have HCD : Hid (ck = 0 → cd = 0) := fun h => by
    rw [hcd, htd]; exact Vl.puts_dropped utf (by rw [← htv, ← hck]; exact h) na x
  have HCA : Hid (ck = 0 → co = 0 → pl ≤ 64 → ca = 0) := fun h h1 h2 => by
    rw [hca, hta]; exact Vl.puts_put utf (by rw [← htv, ← hck]; exact h) na x (by rw [← ht1, ← hco]; exact h1) (by rw [← hpl]; exact h2)
  have HNA : Hid (na.size ≤ 140737488351232) := hna
  have HNB : Hid (nb.size ≤ 140737488351232) := hnb
  have HPL : Hid (∀ W K v, Rep W K ta v → ∃ c0 c1 c2 c3 c4 fo fc, v = .agg #[c0, c1, c2, c3, c4, .slice fo pl fc]) := fun W K v h => by
    rw [hta, Rep] at h
    obtain ⟨ao, lc, fo, fc, rfl, _⟩ := h
    rw [hpl]
    exact ⟨_, _, _, _, _, _, _, rfl⟩
  have CKV : Hid (ck = Vl.check utf 0 tv) := hck
  have CKA : Hid (ca = Vl.check utf 0 ta) := hca
  have CKD : Hid (cd = Vl.check utf 0 td) := hcd
  have CKO : Hid (co = Vl.check utf 0 t1) := hco
  have HT1 : Hid (t1 = ⟨6, false, 0, ⟨#[]⟩, [], [(na, x)]⟩) := ht1
  rw [← htv] at S0
  clear hT ha hx hxl hxm hts hfl hxs hna hnb htv hta htd sa hc hy hck hca hcd hco hpl ht1
  go_enter Tryd.func7, Tryd.ntmps7
  go_wp2_with fail
  refine (lives9 _ S0.out.t).mono ?_
  rintro e w1 ⟨rfl, hb1⟩
  have S1 := (S0.out.call hb1).hid
  clear hb1 S0
  obtain ⟨i0, i1, i2, i3, i4, i5⟩ := (S1.out.row 0 rfl).cells
  obtain ⟨j0, j1, j2, j3, j4, j5⟩ := (S1.out.row 1 rfl).cells
  go_wp2_with fail
  refine (PUT.out _ _ (S1.out.rep 2 rfl).1 (S1.out.rep 2 rfl).2 (S1.out.rep 3 rfl).2).mono ?_
  rintro e w2 ⟨ok, ob, on, os, oa, ol, oc, of, om, oq, rfl, hb2, hr2⟩
  have S2 := ((S1.out.call hb2).box hr2).hid
  obtain ⟨_, _, _, _, _, _, _, hom⟩ := HPL.out _ _ _ hr2
  simp only [Value.agg.injEq, Array.mk.injEq, List.cons.injEq, Value.slice.injEq, and_true] at hom
  obtain rfl : pl = om := hom.2.2.2.2.2.2.1.symm
  clear hom HPL
  clear hb2 hr2 S1 i0 i1 i2 i3 i4 i5 j0 j1 j2 j3 j4 j5 PUT
  go_upto_region 6 with fail
  obtain ⟨w3, hw3⟩ : ∃ w3, w3 = w2.alloc (.cells #[.int .u8 (ok : Int), .bool ob, .int .i64 on, .string os, .slice oa ol oc, .slice of pl oq] 26) := ⟨_, rfl⟩
  obtain ⟨B1, hB1⟩ : ∃ B, B = w2.heap.size := ⟨_, rfl⟩
  rw [← hw3, ← hB1] at S2 ⊢
  clear hw3 hB1
  obtain ⟨i0, i1, i2, i3, i4, i5⟩ := (S2.out.row 0 rfl).cells
  go_wp2_with fail
  refine (get1 ta SA.out na HNA.out true x GA.out w3 S2.out.t _ (S2.out.up 1 rfl)).mono ?_
  rintro e w4 ⟨pk, pb, pn, ps, pa, pl', pc, pf, pm, pq, rfl, hb4, hr4⟩
  have S4 := ((S2.out.call hb4).box hr4).hid
  clear hb4 hr4 S2 i0 i1 i2 i3 i4 i5
  go_upto_region 7 with fail
  obtain ⟨w5, hw5⟩ : ∃ w5, w5 = w4.alloc (.cells #[.int .u8 (pk : Int), .bool pb, .int .i64 pn, .string ps, .slice pa pl' pc, .slice pf pm pq] 26) := ⟨_, rfl⟩
  obtain ⟨B2, hB2⟩ : ∃ B, B = w4.heap.size := ⟨_, rfl⟩
  rw [← hw5, ← hB2] at S4 ⊢
  clear hw5 hB2
  obtain ⟨i0, i1, i2, i3, i4, i5⟩ := (S4.out.row 2 rfl).cells
  go_wp2_with fail
  refine (DROP.out _ _ (S4.out.up 3 rfl)).mono ?_
  rintro e w6 ⟨uk, ub, un, us, ua, ul, uc, uf, um, uq, rfl, hb6, hr6⟩
  have S6 := ((S4.out.call hb6).box hr6).hid
  clear hb6 hr6 S4 i0 i1 i2 i3 i4 i5 DROP
  go_upto_region 8 with fail
  obtain ⟨w7, hw7⟩ : ∃ w7, w7 = w6.alloc (.cells #[.int .u8 (uk : Int), .bool ub, .int .i64 un, .string us, .slice ua ul uc, .slice uf um uq] 26) := ⟨_, rfl⟩
  obtain ⟨B3, hB3⟩ : ∃ B, B = w6.heap.size := ⟨_, rfl⟩
  rw [← hw7, ← hB3] at S6 ⊢
  clear hw7 hB3
  obtain ⟨i0, i1, i2, i3, i4, i5⟩ := (S6.out.row 0 rfl).cells
  go_wp2_with fail
  refine (get1 td SD.out na HNA.out false zV GD.out w7 S6.out.t _ (S6.out.up 1 rfl)).mono ?_
  rintro e w8 ⟨qk, qb, qn, qs, qa, ql, qc, qf, qm, qq, rfl, hb8, hr8⟩
  have S8 := ((S6.out.call hb8).call (below_new w8 (.cells #[.int .u8 (qk : Int), .bool qb, .int .i64 qn, .string qs, .slice qa ql qc, .slice qf qm qq] 26))).hid
  clear hb8 hr8 S6 i0 i1 i2 i3 i4 i5
  go_upto_region 9 with fail
  obtain ⟨w9, hw9⟩ : ∃ w9, w9 = w8.alloc (.cells #[.int .u8 (qk : Int), .bool qb, .int .i64 qn, .string qs, .slice qa ql qc, .slice qf qm qq] 26) := ⟨_, rfl⟩
  rw [← hw9] at S8 ⊢
  obtain ⟨B4, hB4⟩ : ∃ B, B = w8.heap.size := ⟨_, rfl⟩
  rw [← hB4]
  clear hw9 hB4
  obtain ⟨i0, i1, i2, i3, i4, i5⟩ := (S8.out.row 2 rfl).cells
  obtain ⟨j0, j1, j2, j3, j4, j5⟩ := (S8.out.row 7 rfl).cells
  go_wp2_with fail
  refine (same12 _ x (Nat.le_refl _) x _ _ _ _ (Nat.le_refl _) (S8.out.up 3 rfl) (S8.out.up 9 rfl)).mono ?_
  rintro e w10 ⟨rfl, hb10⟩
  have S10 := (S8.out.call hb10).hid
  clear hb10 S8 i0 i1 i2 i3 i4 i5 j0 j1 j2 j3 j4 j5
  rw [Vl.same_refl]
  go_upto_region 11 with fail
  by_cases hab : nb = na
  · subst hab
    go_upto_region 17 with fail
    have S := S10.out.hid
    clear S10
    obtain ⟨i0, i1, i2, i3, i4, i5⟩ := (S.out.row 6 rfl).cells
    go_wp2_with fail
    refine (check11 tv _ S.out.t _ _ (Nat.le_refl _) (S.out.up 8 rfl)).mono ?_
    rintro e w20 ⟨rfl, hb20⟩
    have T := (S.out.call hb20).hid
    rw [← CKV.out]
    clear hb20 S i0 i1 i2 i3 i4 i5
    by_cases hck : ck = 0
    · have HCK : Hid (ck = 0) := hck
      have hcd := HCD.out hck
      have CKD' : Hid (0 = Vl.check utf 0 td) := hcd ▸ CKD.out
      subst hck
      clear hcd
      go_upto_region 19 with fail
      obtain ⟨j0, j1, j2, j3, j4, j5⟩ := (T.out.row 7 rfl).cells
      go_wp2_with fail
      refine (check11 t1 _ (T.out.t.stays (below_new _ _)) (w20.heap.size + 1) _ (by simp) (by rw [HT1.out]; exact rep_one (by have := HNA.out; unfold maxLen; omega) (T.out.up 9 rfl))).mono ?_
      rintro e w21 ⟨rfl, hb21⟩
      have U := ((T.out.call (below_new _ _)).call hb21).hid
      rw [← CKO.out]
      clear hb21 T j0 j1 j2 j3 j4 j5
      go_upto_region 20 with fail
      obtain ⟨i0, i1, i2, i3, i4, i5⟩ := (U.out.row 0 rfl).cells
      go_wp2_with fail
      refine (check11 td _ U.out.t _ _ (Nat.le_refl _) (U.out.up 1 rfl)).mono ?_
      rintro e w22 ⟨rfl, hb22⟩
      have X := (U.out.call hb22).hid
      rw [← CKD'.out]
      clear hb22 U i0 i1 i2 i3 i4 i5
      obtain ⟨i0, i1, i2, i3, i4, i5⟩ := (X.out.row 4 rfl).cells
      by_cases hco : co = 0
      · by_cases hpl : pl ≤ 64
        · have hca := HCA.out HCK.out hco hpl
          have CKA' : Hid (0 = Vl.check utf 0 ta) := hca ▸ CKA.out
          subst hco
          clear hca
          have hpl2 : ¬ ((64 : Int) < (pl : Int)) := by omega
          go_wp2_with fail
          refine (check11 ta _ X.out.t _ _ (Nat.le_refl _) (X.out.up 5 rfl)).mono ?_
          rintro e w23 ⟨rfl, hb23⟩
          have HB : Hid (Below w.heap.size w w23) := (X.out.call hb23).below
          rw [← CKA'.out]
          clear hb23 X i0 i1 i2 i3 i4 i5
          go_wp2
          exact ⟨rfl, _, results_tmp (by rfl) _ _ _, rfl, HB.out⟩
        · have HB : Hid (Below w.heap.size w w22) := X.out.below
          have hpl2 : (64 : Int) < (pl : Int) := by omega
          subst hco
          clear X
          go_wp2
          exact ⟨rfl, _, results_tmp (by rfl) _ _ _, rfl, HB.out⟩
      · have HB : Hid (Below w.heap.size w w22) := X.out.below
        have hco2 : ((co : Int) == 0) = false := by simp; omega
        clear X
        go_wp2
        exact ⟨rfl, _, results_tmp (by rfl) _ _ _, rfl, HB.out⟩
    · have HB : Hid (Below w.heap.size w w20) := T.out.below
      have hck2 : ((ck : Int) == 0) = false := by simp; omega
      clear T
      go_wp2
      exact ⟨rfl, _, results_tmp (by rfl) _ _ _, rfl, HB.out⟩
  · have hl : (nb.toList == na.toList) = false := by
      rw [Go.ByteArray.toList_eq, Go.ByteArray.toList_eq]
      simp only [beq_eq_false_iff_ne, ne_eq]
      intro e
      apply hab
      cases na; cases nb
      simp only [ByteArray.mk.injEq]
      exact Array.toList_inj.1 e
    have HAB : Hid (¬ nb = na) := hab
    clear hab
    go_upto_region 12 with fail
    obtain ⟨i0, i1, i2, i3, i4, i5⟩ := (S10.out.row 6 rfl).cells
    go_wp2_with fail
    refine (get1 tv SV.out nb HNB.out c y OV.out w10 S10.out.t _ (S10.out.up 8 rfl)).mono ?_
    rintro e w11 ⟨ek, eb, en, es, ea, el, ec, ef, em, eq, rfl, hb11, hr11⟩
    have S11 := ((S10.out.call hb11).box hr11).hid
    clear hb11 hr11 S10 i0 i1 i2 i3 i4 i5
    go_upto_region 13 with fail
    obtain ⟨w12, hw12⟩ : ∃ w12, w12 = w11.alloc (.cells #[.int .u8 (ek : Int), .bool eb, .int .i64 en, .string es, .slice ea el ec, .slice ef em eq] 26) := ⟨_, rfl⟩
    obtain ⟨B5, hB5⟩ : ∃ B, B = w11.heap.size := ⟨_, rfl⟩
    rw [← hw12, ← hB5] at S11 ⊢
    clear hw12 hB5
    obtain ⟨i0, i1, i2, i3, i4, i5⟩ := (S11.out.row 6 rfl).cells
    go_wp2_with fail
    refine (get1 ta SA.out nb HNB.out c y (OA.out HAB.out) w12 S11.out.t _ (S11.out.up 7 rfl)).mono ?_
    rintro e w13 ⟨fk, fb, fn, fs, fa, fl, fc, ff, fm, fq, rfl, hb13, hr13⟩
    have S13 := ((S11.out.call hb13).box hr13).hid
    clear hb13 hr13 S11 i0 i1 i2 i3 i4 i5
    go_upto_region 14 with fail
    obtain ⟨w14, hw14⟩ : ∃ w14, w14 = w13.alloc (.cells #[.int .u8 (fk : Int), .bool fb, .int .i64 fn, .string fs, .slice fa fl fc, .slice ff fm fq] 26) := ⟨_, rfl⟩
    obtain ⟨B6, hB6⟩ : ∃ B, B = w13.heap.size := ⟨_, rfl⟩
    rw [← hw14, ← hB6] at S13 ⊢
    clear hw14 hB6
    obtain ⟨i0, i1, i2, i3, i4, i5⟩ := (S13.out.row 4 rfl).cells
    go_wp2_with fail
    refine (get1 td SD.out nb HNB.out c y (OD.out HAB.out) w14 S13.out.t _ (S13.out.up 5 rfl)).mono ?_
    rintro e w15 ⟨gk, gb, gn, gs, ga, gl, gc, gf, gm, gq, rfl, hb15, hr15⟩
    have S15 := ((S13.out.call hb15).box hr15).hid
    clear hb15 hr15 S13 i0 i1 i2 i3 i4 i5
    go_upto_region 15 with fail
    obtain ⟨w16, hw16⟩ : ∃ w16, w16 = w15.alloc (.cells #[.int .u8 (gk : Int), .bool gb, .int .i64 gn, .string gs, .slice ga gl gc, .slice gf gm gq] 26) := ⟨_, rfl⟩
    obtain ⟨B7, hB7⟩ : ∃ B, B = w15.heap.size := ⟨_, rfl⟩
    rw [← hw16, ← hB7] at S15 ⊢
    clear hw16 hB7
    obtain ⟨i0, i1, i2, i3, i4, i5⟩ := (S15.out.row 4 rfl).cells
    obtain ⟨j0, j1, j2, j3, j4, j5⟩ := (S15.out.row 2 rfl).cells
    have hcc : (c == c) = true := by simp
    go_wp2_with fail
    refine (same12 _ y (Nat.le_refl _) y _ _ _ _ (Nat.le_refl _) (S15.out.up 5 rfl) (S15.out.up 3 rfl)).mono ?_
    rintro e w17 ⟨rfl, hb17⟩
    have S17 := (S15.out.call hb17).hid
    rw [Vl.same_refl]
    clear hb17 S15 i0 i1 i2 i3 i4 i5 j0 j1 j2 j3 j4 j5
    obtain ⟨i0, i1, i2, i3, i4, i5⟩ := (S17.out.row 4 rfl).cells
    obtain ⟨j0, j1, j2, j3, j4, j5⟩ := (S17.out.row 0 rfl).cells
    go_wp2_with fail
    refine (same12 _ y (Nat.le_refl _) y _ _ _ _ (Nat.le_refl _) (S17.out.up 5 rfl) (S17.out.up 1 rfl)).mono ?_
    rintro e w18 ⟨rfl, hb18⟩
    have S := (S17.out.call hb18).less.less.less.less.less.less.hid
    rw [Vl.same_refl]
    clear hb18 S17 i0 i1 i2 i3 i4 i5 j0 j1 j2 j3 j4 j5
    go_upto_region 17 with fail
    obtain ⟨i0, i1, i2, i3, i4, i5⟩ := (S.out.row 6 rfl).cells
    go_wp2_with fail
    refine (check11 tv _ S.out.t _ _ (Nat.le_refl _) (S.out.up 8 rfl)).mono ?_
    rintro e w20 ⟨rfl, hb20⟩
    have T := (S.out.call hb20).hid
    rw [← CKV.out]
    clear hb20 S i0 i1 i2 i3 i4 i5
    by_cases hck : ck = 0
    · have HCK : Hid (ck = 0) := hck
      have hcd := HCD.out hck
      have CKD' : Hid (0 = Vl.check utf 0 td) := hcd ▸ CKD.out
      subst hck
      clear hcd
      go_upto_region 19 with fail
      obtain ⟨j0, j1, j2, j3, j4, j5⟩ := (T.out.row 7 rfl).cells
      go_wp2_with fail
      refine (check11 t1 _ (T.out.t.stays (below_new _ _)) (w20.heap.size + 1) _ (by simp) (by rw [HT1.out]; exact rep_one (by have := HNA.out; unfold maxLen; omega) (T.out.up 9 rfl))).mono ?_
      rintro e w21 ⟨rfl, hb21⟩
      have U := ((T.out.call (below_new _ _)).call hb21).hid
      rw [← CKO.out]
      clear hb21 T j0 j1 j2 j3 j4 j5
      go_upto_region 20 with fail
      obtain ⟨i0, i1, i2, i3, i4, i5⟩ := (U.out.row 0 rfl).cells
      go_wp2_with fail
      refine (check11 td _ U.out.t _ _ (Nat.le_refl _) (U.out.up 1 rfl)).mono ?_
      rintro e w22 ⟨rfl, hb22⟩
      have X := (U.out.call hb22).hid
      rw [← CKD'.out]
      clear hb22 U i0 i1 i2 i3 i4 i5
      obtain ⟨i0, i1, i2, i3, i4, i5⟩ := (X.out.row 4 rfl).cells
      by_cases hco : co = 0
      · by_cases hpl : pl ≤ 64
        · have hca := HCA.out HCK.out hco hpl
          have CKA' : Hid (0 = Vl.check utf 0 ta) := hca ▸ CKA.out
          subst hco
          clear hca
          have hpl2 : ¬ ((64 : Int) < (pl : Int)) := by omega
          go_wp2_with fail
          refine (check11 ta _ X.out.t _ _ (Nat.le_refl _) (X.out.up 5 rfl)).mono ?_
          rintro e w23 ⟨rfl, hb23⟩
          have HB : Hid (Below w.heap.size w w23) := (X.out.call hb23).below
          rw [← CKA'.out]
          clear hb23 X i0 i1 i2 i3 i4 i5
          go_wp2
          exact ⟨rfl, _, results_tmp (by rfl) _ _ _, rfl, HB.out⟩
        · have HB : Hid (Below w.heap.size w w22) := X.out.below
          have hpl2 : (64 : Int) < (pl : Int) := by omega
          subst hco
          clear X
          go_wp2
          exact ⟨rfl, _, results_tmp (by rfl) _ _ _, rfl, HB.out⟩
      · have HB : Hid (Below w.heap.size w w22) := X.out.below
        have hco2 : ((co : Int) == 0) = false := by simp; omega
        clear X
        go_wp2
        exact ⟨rfl, _, results_tmp (by rfl) _ _ _, rfl, HB.out⟩
    · have HB : Hid (Below w.heap.size w w20) := T.out.below
      have hck2 : ((ck : Int) == 0) = false := by simp; omega
      clear T
      go_wp2
      exact ⟨rfl, _, results_tmp (by rfl) _ _ _, rfl, HB.out⟩
end Go.Proofs.YtcgkoogdgagddaaDoor
