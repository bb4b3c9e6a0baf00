/- For every two values, a path and a name the law ValueParts answers true: what Get, Put and Drop answer is what the document reads off; the library's tables and errors starting as the program's text lays them. -/
import Derived.Test.YtbogggnnmbjlfaaDoorRGet
import Derived.Test.YtbogggnnmbjlfaaDoorRPut
import Derived.Test.YtbogggnnmbjlfaaDoorOwnW
import Derived.Test.YtbogggnnmbjlfaaDoorDropW
import Derived.Test.YtbogggnnmbjlfaaDoorOpenZ
namespace Go.Proofs.YtbogggnnmbjlfaaDoor
open Go.RowKit
open Vl (V)
theorem LiesP.call {W W' : World} {ao : Option Addr} {ss : List ByteArray} (h : LiesP W ao ss) (hb : Below W.heap.size W W') : LiesP W' ao ss := by
  refine ⟨h.1, h.2.1, fun hp => ?_⟩
  obtain ⟨g, o, e, h1, h2⟩ := h.2.2 hp
  exact ⟨g, o, e, Nat.lt_of_lt_of_le h1 hb.size, fun j s hj => (hb.cell (p := ⟨g, o + j, none⟩) h1).trans (h2 j s hj)⟩
/-- a value and another answer -/
def Two (r : Value) (y : V) (W : World) (e : Ending) (w' : World) : Prop := ∃ (yk : Nat) (yb : Bool) (yn : Int) (ys : ByteArray) (ya : Option Addr) (yl yc : Nat) (yf : Option Addr) (ym yq : Nat), e = .returned (.tuple #[.agg #[.int .u8 (yk : Int), .bool yb, .int .i64 yn, .string ys, .slice ya yl yc, .slice yf ym yq], r]) ∧ Below W.heap.size W w' ∧ Rep w' w'.heap.size y (.agg #[.int .u8 (yk : Int), .bool yb, .int .i64 yn, .string ys, .slice ya yl yc, .slice yf ym yq])
theorem Two.zero {r : Value} {W w' : World} (hb : Below W.heap.size W w') : Two r zV W (.returned (.tuple #[.agg #[.int .u8 0, .bool false, .int .i64 0, .string ⟨#[]⟩, .slice none 0 0, .slice none 0 0], r])) w' :=
  ⟨0, false, 0, ⟨#[]⟩, none, 0, 0, none, 0, 0, rfl, hb, rep_zV _ _⟩
theorem Two.of {r v : Value} {y : V} {W w' : World} (hb : Below W.heap.size W w') (hr : Rep w' w'.heap.size y v) : Two r y W (.returned (.tuple #[v, r])) w' := by
  obtain ⟨yk, yb, yn, ys, ya, yl, yc, yf, ym, yq, rfl⟩ := repA_form (rep_repA y _ hr)
  exact ⟨yk, yb, yn, ys, ya, yl, yc, yf, ym, yq, rfl, hb, hr⟩
theorem got_two {o : Option V} {W w' : World} {e : Ending} (h : Got o e w') (hb : Below W.heap.size W w') : Two (.bool o.isSome) (o.getD zV) W e w' := by
  cases o with
  | none =>
    have h' : e = .returned (.tuple #[.agg #[.int .u8 0, .bool false, .int .i64 0, .string ⟨#[]⟩, .slice none 0 0, .slice none 0 0], .bool false]) := h
    rw [h']; exact Two.zero hb
  | some y =>
    obtain ⟨v', rfl, hr⟩ := h
    exact Two.of hb hr
/-- what Put and Drop answer: the error, the value -/
def putV (t : V) (m : ByteArray) (x : V) : Int × V := match t with | ⟨k, b, n, s, l, f⟩ => if k = 6 then (0, ⟨6, b, n, s, l, Vl.putF f m x⟩) else (5, zV)
def dropV (t : V) (m : ByteArray) : Int × V := match t with | ⟨k, b, n, s, l, f⟩ => if k = 6 then (0, ⟨6, b, n, s, l, Vl.dropF f m⟩) else (5, zV)
section
variable (name : ByteArray) (t x : V) (W : World) (vt vx : Value)
theorem put_two (hn : name.size ≤ 140737488351232) (ht : Vl.small t) (hx : Vl.small x) (hfl : ∀ b n s l f, t = ⟨6, b, n, s, l, f⟩ → f.length ≤ 1466015503667) (hr : Rep W W.heap.size t vt) (hrx : Rep W W.heap.size x vx) :
    Calls Tryd.prog 12 #[vt, .string name, vx] W fun e w' => Two (.int .i64 (putV t name x).1) (putV t name x).2 W e w' := by
  obtain ⟨k, b, n, s, l, f⟩ := t
  by_cases hk : k = 6
  · subst hk
    refine (put15 name hn x hx b n s l f ht (hfl b n s l f rfl) W _ vt vx (Nat.le_refl _) hr hrx).mono ?_
    rintro e w' ⟨v', rfl, hb, hra, _⟩
    exact Two.of hb (repA_rep (fun g hg => hg.2) _ _ hra)
  · obtain ⟨xk, xb, xn, xs, xa, xl, xc, xf, xm, xq, rfl⟩ := repA_form (rep_repA x vx hrx)
    rw [Rep] at hr
    obtain ⟨ao, lc, fo, fc, rfl, _⟩ := hr
    refine (put15_none name k hk b n s ao l.length lc fo f.length fc xk xb xn xs xa xl xc xf xm xq W).mono ?_
    rintro e w' ⟨rfl, hb⟩
    rw [putV, if_neg hk]
    exact Two.zero hb
theorem rput_two (hn : name.size ≤ 140737488351232) (ht : Vl.small t) (hx : Vl.small x) (hfl : ∀ b n s l f, t = ⟨6, b, n, s, l, f⟩ → f.length ≤ 1466015503667) (hr : Rep W W.heap.size t vt) (hrx : Rep W W.heap.size x vx) :
    Calls Tryd.prog 13 #[vt, .string name, vx] W fun e w' => Two (.int .i64 (putV t name x).1) (putV t name x).2 W e w' := by
  obtain ⟨k, b, n, s, l, f⟩ := t
  by_cases hk : k = 6
  · subst hk
    refine (rput13 name hn x hx b n s l f ht (hfl b n s l f rfl) W _ vt vx (Nat.le_refl _) hr hrx).mono ?_
    rintro e w' ⟨v', rfl, hb, hra⟩
    exact Two.of hb hra
  · obtain ⟨xk, xb, xn, xs, xa, xl, xc, xf, xm, xq, rfl⟩ := repA_form (rep_repA x vx hrx)
    rw [Rep] at hr
    obtain ⟨ao, lc, fo, fc, rfl, _⟩ := hr
    refine (rput13_none name k hk b n s ao l.length lc fo f.length fc xk xb xn xs xa xl xc xf xm xq W).mono ?_
    rintro e w' ⟨rfl, hb⟩
    rw [putV, if_neg hk]
    exact Two.zero hb
theorem drop_two (ht : Vl.small t) (hr : Rep W W.heap.size t vt) : Calls Tryd.prog 14 #[vt, .string name] W fun e w' => Two (.int .i64 (dropV t name).1) (dropV t name).2 W e w' := by
  obtain ⟨k, b, n, s, l, f⟩ := t
  by_cases hk : k = 6
  · subst hk
    refine (drop18 name b n s l f ht W _ vt (Nat.le_refl _) hr).mono ?_
    rintro e w' ⟨v', rfl, hb, hra⟩
    exact Two.of hb (repA_rep (fun g hg => hg.2) _ _ hra)
  · rw [Rep] at hr
    obtain ⟨ao, lc, fo, fc, rfl, _⟩ := hr
    refine (drop14_none name k hk b n s ao l.length lc fo f.length fc W).mono ?_
    rintro e w' ⟨rfl, hb⟩
    rw [dropV, if_neg hk]
    exact Two.zero hb
theorem rdrop_two (ht : Vl.small t) (hr : Rep W W.heap.size t vt) : Calls Tryd.prog 15 #[vt, .string name] W fun e w' => Two (.int .i64 (dropV t name).1) (dropV t name).2 W e w' := by
  obtain ⟨k, b, n, s, l, f⟩ := t
  by_cases hk : k = 6
  · subst hk
    refine (rdrop15 name b n s l f ht W _ vt (Nat.le_refl _) hr).mono ?_
    rintro e w' ⟨v', rfl, hb, hra⟩
    exact Two.of hb hra
  · rw [Rep] at hr
    obtain ⟨ao, lc, fo, fc, rfl, _⟩ := hr
    refine (rdrop15_none name k hk b n s ao l.length lc fo f.length fc W).mono ?_
    rintro e w' ⟨rfl, hb⟩
    rw [dropV, if_neg hk]
    exact Two.zero hb
end
set_option maxHeartbeats 16000000 in
set_option maxRecDepth 100000 in
theorem parts3 (t x : V) (ht : Vl.small t) (hxs : Vl.small x) (hfl : ∀ b n s l f, t = ⟨6, b, n, s, l, f⟩ → f.length ≤ 1466015503667) (na : ByteArray) (hna : na.size ≤ 140737488351232) (ss : List ByteArray) (po : Option Addr) (pc : Nat) (w : World) (hT : HasT w) (H : Nat) (va vx : Value) (hH : H ≤ w.heap.size) (ha : Rep w H t va) (hx : Rep w H x vx) (hP : LiesP w po ss) :
    Calls Tryd.prog 3 #[va, .slice po ss.length pc, .string na, vx] w fun e w' => e = .returned (.bool true) ∧ Below w.heap.size w w' := by
  obtain ⟨xk, xb, xn, xs, xa, xl, xc, xf, xm, xq, xv⟩ := repA_form (rep_repA t va ha)
  obtain ⟨yk, yb, yn, ys, ya, yl, yc, yf, ym, yq, yv⟩ := repA_form (rep_repA x vx hx)
  subst xv yv
  have S0 := (Fs.two hT hH ha hx).hid
  have HST : Hid (Vl.small t) := ht
  have HSX : Hid (Vl.small x) := hxs
  have HFL : Hid (∀ b n s l f, t = ⟨6, b, n, s, l, f⟩ → f.length ≤ 1466015503667) := hfl
  have HNA : Hid (na.size ≤ 140737488351232) := hna
  have HP : Hid (LiesP w po ss) := hP
  obtain ⟨np, hnp⟩ : ∃ n, n = ss.length := ⟨_, rfl⟩
  have HNP : Hid (np = ss.length) := hnp
  obtain ⟨is, his⟩ : ∃ b, b = (getV t ss).isSome := ⟨_, rfl⟩
  obtain ⟨gv, hgv⟩ : ∃ v, v = (getV t ss).getD zV := ⟨_, rfl⟩
  obtain ⟨pe, hpe⟩ : ∃ v, v = (putV t na x).1 := ⟨_, rfl⟩
  obtain ⟨pv, hpv⟩ : ∃ v, v = (putV t na x).2 := ⟨_, rfl⟩
  obtain ⟨de, hde⟩ : ∃ v, v = (dropV t na).1 := ⟨_, rfl⟩
  obtain ⟨dv, hdv⟩ : ∃ v, v = (dropV t na).2 := ⟨_, rfl⟩
  have G10 : Hid (∀ W v, HasT W → LiesP W po ss → Rep W W.heap.size t v → Calls Tryd.prog 10 #[v, .slice po np pc] W fun e w' => Two (.bool is) gv W e w') := fun W v h1 h2 h3 => by
    rw [his, hgv, hnp]
    refine (get16 t ht ss po pc W h1 _ v (Nat.le_refl _) h3 h2).mono ?_
    rintro e w' ⟨h4, h5⟩
    exact got_two h4 h5
  have G11 : Hid (∀ W v, LiesP W po ss → Rep W W.heap.size t v → Calls Tryd.prog 11 #[v, .slice po np pc] W fun e w' => Two (.bool is) gv W e w') := fun W v h2 h3 => by
    rw [his, hgv, hnp]
    refine (rget11 t ht ss po pc W _ v (Nat.le_refl _) h3 h2).mono ?_
    rintro e w' ⟨h4, h5⟩
    exact got_two h4 h5
  have P12 : Hid (∀ W v v2, Rep W W.heap.size t v → Rep W W.heap.size x v2 → Calls Tryd.prog 12 #[v, .string na, v2] W fun e w' => Two (.int .i64 pe) pv W e w') := fun W v v2 h1 h2 => by
    rw [hpe, hpv]; exact put_two na t x W v v2 hna ht hxs hfl h1 h2
  have P13 : Hid (∀ W v v2, Rep W W.heap.size t v → Rep W W.heap.size x v2 → Calls Tryd.prog 13 #[v, .string na, v2] W fun e w' => Two (.int .i64 pe) pv W e w') := fun W v v2 h1 h2 => by
    rw [hpe, hpv]; exact rput_two na t x W v v2 hna ht hxs hfl h1 h2
  have D14 : Hid (∀ W v, Rep W W.heap.size t v → Calls Tryd.prog 14 #[v, .string na] W fun e w' => Two (.int .i64 de) dv W e w') := fun W v h1 => by
    rw [hde, hdv]; exact drop_two na t W v ht h1
  have D15 : Hid (∀ W v, Rep W W.heap.size t v → Calls Tryd.prog 15 #[v, .string na] W fun e w' => Two (.int .i64 de) dv W e w') := fun W v h1 => by
    rw [hde, hdv]; exact rdrop_two na t W v ht h1
  rw [← hnp]
  clear hT ha hx hH ht hxs hfl hna hP hnp his hgv hpe hpv hde hdv
  go_enter Tryd.func3, Tryd.ntmps3
  go_upto_region 1 with fail
  obtain ⟨i0, i1, i2, i3, i4, i5⟩ := (S0.out.row 0 rfl).cells
  go_wp2_with fail
  refine (copy9 _ t (Nat.le_refl _) HST.out _ _ _ (S0.out.rep 2 rfl).1 (S0.out.rep 2 rfl).2).mono ?_
  rintro e w2 ⟨v', rfl, hb2, hr2⟩
  obtain ⟨gk, gb, gn, gs, ga, gl, gc, gf, gm, gq, rfl⟩ := repA_form hr2
  have S2 := ((S0.out.call hb2).box (repA_rep (fun g hg => hg.2) _ _ hr2)).hid
  clear hb2 hr2 S0 i0 i1 i2 i3 i4 i5
  go_upto_region 2 with fail
  obtain ⟨w3, hw3⟩ : ∃ w3, w3 = w2.alloc (.cells #[.int .u8 (gk : Int), .bool gb, .int .i64 gn, .string gs, .slice ga gl gc, .slice gf gm gq] 26) := ⟨_, rfl⟩
  obtain ⟨B0, hB0⟩ : ∃ B, B = w2.heap.size := ⟨_, rfl⟩
  rw [← hw3, ← hB0] at S2 ⊢
  clear hw3 hB0
  obtain ⟨gi0, gi1, gi2, gi3, gi4, gi5⟩ := (S2.out.row 0 rfl).cells
  go_wp2_with fail
  refine (G10.out _ _ S2.out.t (HP.out.call S2.out.below) (S2.out.up 1 rfl)).mono ?_
  rintro e v0 ⟨zak, zab, zan, zas, zaa, zal, zac, zaf, zam, zaq, rfl, hb, hr⟩
  have T0 := ((S2.out.call hb).box hr).hid
  clear hb hr S2 gi0 gi1 gi2 gi3 gi4 gi5
  go_upto_region 3 with fail
  obtain ⟨u0, hw⟩ : ∃ w3, w3 = v0.alloc (.cells #[.int .u8 (zak : Int), .bool zab, .int .i64 zan, .string zas, .slice zaa zal zac, .slice zaf zam zaq] 26) := ⟨_, rfl⟩
  obtain ⟨B1, hB⟩ : ∃ B, B = v0.heap.size := ⟨_, rfl⟩
  rw [← hw, ← hB] at T0 ⊢
  clear hw hB
  obtain ⟨vi0, vi1, vi2, vi3, vi4, vi5⟩ := (T0.out.row 4 rfl).cells
  go_wp2_with fail
  refine (G11.out _ _ (HP.out.call T0.out.below) (T0.out.up 6 rfl)).mono ?_
  rintro e v1 ⟨zbk, zbb, zbn, zbs, zba, zbl, zbc, zbf, zbm, zbq, rfl, hb, hr⟩
  have T1 := ((T0.out.call hb).box hr).hid
  clear hb hr T0 vi0 vi1 vi2 vi3 vi4 vi5
  go_upto_region 4 with fail
  obtain ⟨u1, hw⟩ : ∃ w3, w3 = v1.alloc (.cells #[.int .u8 (zbk : Int), .bool zbb, .int .i64 zbn, .string zbs, .slice zba zbl zbc, .slice zbf zbm zbq] 26) := ⟨_, rfl⟩
  obtain ⟨B2, hB⟩ : ∃ B, B = v1.heap.size := ⟨_, rfl⟩
  rw [← hw, ← hB] at T1 ⊢
  clear hw hB
  obtain ⟨gi0, gi1, gi2, gi3, gi4, gi5⟩ := (T1.out.row 4 rfl).cells
  obtain ⟨xi0, xi1, xi2, xi3, xi4, xi5⟩ := (T1.out.row 7 rfl).cells
  go_wp2_with fail
  refine (P12.out _ _ _ (T1.out.up 5 rfl) (T1.out.up 9 rfl)).mono ?_
  rintro e v2 ⟨zck, zcb, zcn, zcs, zca, zcl, zcc, zcf, zcm, zcq, rfl, hb, hr⟩
  have T2 := ((T1.out.call hb).box hr).hid
  clear hb hr T1 gi0 gi1 gi2 gi3 gi4 gi5 xi0 xi1 xi2 xi3 xi4 xi5
  go_upto_region 5 with fail
  obtain ⟨u2, hw⟩ : ∃ w3, w3 = v2.alloc (.cells #[.int .u8 (zck : Int), .bool zcb, .int .i64 zcn, .string zcs, .slice zca zcl zcc, .slice zcf zcm zcq] 26) := ⟨_, rfl⟩
  obtain ⟨B3, hB⟩ : ∃ B, B = v2.heap.size := ⟨_, rfl⟩
  rw [← hw, ← hB] at T2 ⊢
  clear hw hB
  obtain ⟨vi0, vi1, vi2, vi3, vi4, vi5⟩ := (T2.out.row 8 rfl).cells
  obtain ⟨xi0, xi1, xi2, xi3, xi4, xi5⟩ := (T2.out.row 9 rfl).cells
  go_wp2_with fail
  refine (P13.out _ _ _ (T2.out.up 10 rfl) (T2.out.up 11 rfl)).mono ?_
  rintro e v3 ⟨zdk, zdb, zdn, zds, zda, zdl, zdc, zdf, zdm, zdq, rfl, hb, hr⟩
  have T3 := ((T2.out.call hb).box hr).hid
  clear hb hr T2 vi0 vi1 vi2 vi3 vi4 vi5 xi0 xi1 xi2 xi3 xi4 xi5
  go_upto_region 6 with fail
  obtain ⟨u3, hw⟩ : ∃ w3, w3 = v3.alloc (.cells #[.int .u8 (zdk : Int), .bool zdb, .int .i64 zdn, .string zds, .slice zda zdl zdc, .slice zdf zdm zdq] 26) := ⟨_, rfl⟩
  obtain ⟨B4, hB⟩ : ∃ B, B = v3.heap.size := ⟨_, rfl⟩
  rw [← hw, ← hB] at T3 ⊢
  clear hw hB
  obtain ⟨gi0, gi1, gi2, gi3, gi4, gi5⟩ := (T3.out.row 8 rfl).cells
  go_wp2_with fail
  refine (D14.out _ _ (T3.out.up 9 rfl)).mono ?_
  rintro e v4 ⟨zek, zeb, zen, zes, zea, zel, zec, zef, zem, zeq, rfl, hb, hr⟩
  have T4 := ((T3.out.call hb).box hr).hid
  clear hb hr T3 gi0 gi1 gi2 gi3 gi4 gi5
  go_upto_region 7 with fail
  obtain ⟨u4, hw⟩ : ∃ w3, w3 = v4.alloc (.cells #[.int .u8 (zek : Int), .bool zeb, .int .i64 zen, .string zes, .slice zea zel zec, .slice zef zem zeq] 26) := ⟨_, rfl⟩
  obtain ⟨B5, hB⟩ : ∃ B, B = v4.heap.size := ⟨_, rfl⟩
  rw [← hw, ← hB] at T4 ⊢
  clear hw hB
  obtain ⟨vi0, vi1, vi2, vi3, vi4, vi5⟩ := (T4.out.row 12 rfl).cells
  go_wp2_with fail
  refine (D15.out _ _ (T4.out.up 14 rfl)).mono ?_
  rintro e v5 ⟨zfk, zfb, zfn, zfs, zfa, zfl, zfc, zff, zfm, zfq, rfl, hb, hr⟩
  have T5 := ((T4.out.call hb).box hr).hid
  clear hb hr T4 vi0 vi1 vi2 vi3 vi4 vi5
  go_upto_region 8 with fail
  obtain ⟨u5, hw⟩ : ∃ w3, w3 = v5.alloc (.cells #[.int .u8 (zfk : Int), .bool zfb, .int .i64 zfn, .string zfs, .slice zfa zfl zfc, .slice zff zfm zfq] 26) := ⟨_, rfl⟩
  obtain ⟨B6, hB⟩ : ∃ B, B = v5.heap.size := ⟨_, rfl⟩
  rw [← hw, ← hB] at T5 ⊢
  clear hw hB
  go_wp2_with fail
  refine (lives9 _ T5.out.t).mono ?_
  rintro e y1 ⟨rfl, hb⟩
  have U1 := (T5.out.call hb).hid
  clear hb T5
  obtain ⟨i0, i1, i2, i3, i4, i5⟩ := (U1.out.row 10 rfl).cells
  obtain ⟨j0, j1, j2, j3, j4, j5⟩ := (U1.out.row 8 rfl).cells
  go_wp2_with fail
  refine (rsame17 _ gv (Nat.le_refl _) gv _ _ _ _ (Nat.le_refl _) (U1.out.up 11 rfl) (U1.out.up 9 rfl)).mono ?_
  rintro e y2 ⟨rfl, hb⟩
  have U2 := (U1.out.call hb).hid
  rw [Vl.same_refl]
  clear hb U1 i0 i1 i2 i3 i4 i5 j0 j1 j2 j3 j4 j5
  obtain ⟨i0, i1, i2, i3, i4, i5⟩ := (U2.out.row 6 rfl).cells
  obtain ⟨j0, j1, j2, j3, j4, j5⟩ := (U2.out.row 4 rfl).cells
  have hii : (is == is) = true := by simp
  go_wp2_with fail
  refine (rsame17 _ pv (Nat.le_refl _) pv _ _ _ _ (Nat.le_refl _) (U2.out.up 7 rfl) (U2.out.up 5 rfl)).mono ?_
  rintro e y3 ⟨rfl, hb⟩
  have U3 := (U2.out.call hb).hid
  rw [Vl.same_refl]
  clear hb U2 i0 i1 i2 i3 i4 i5 j0 j1 j2 j3 j4 j5
  obtain ⟨i0, i1, i2, i3, i4, i5⟩ := (U3.out.row 2 rfl).cells
  obtain ⟨j0, j1, j2, j3, j4, j5⟩ := (U3.out.row 0 rfl).cells
  go_wp2_with fail
  refine (rsame17 _ dv (Nat.le_refl _) dv _ _ _ _ (Nat.le_refl _) (U3.out.up 3 rfl) (U3.out.up 1 rfl)).mono ?_
  rintro e y4 ⟨rfl, hb⟩
  have U4 := (U3.out.call hb).hid
  rw [Vl.same_refl]
  clear hb U3 i0 i1 i2 i3 i4 i5 j0 j1 j2 j3 j4 j5
  obtain ⟨i0, i1, i2, i3, i4, i5⟩ := (U4.out.row 12 rfl).cells
  obtain ⟨j0, j1, j2, j3, j4, j5⟩ := (U4.out.row 14 rfl).cells
  go_wp2_with fail
  refine (rsame17 _ t (Nat.le_refl _) t _ _ _ _ (Nat.le_refl _) (U4.out.up 13 rfl) (U4.out.up 16 rfl)).mono ?_
  rintro e y5 ⟨rfl, hb⟩
  have HB : Hid (Below w.heap.size w y5) := (U4.out.call hb).below
  rw [Vl.same_refl]
  clear hb U4 i0 i1 i2 i3 i4 i5 j0 j1 j2 j3 j4 j5
  go_wp2
  exact ⟨rfl, _, results_tmp (by rfl) _ _ _, rfl, HB.out⟩
end Go.Proofs.YtbogggnnmbjlfaaDoor
namespace Go.Proofs.YtbogggnnmbjlfaaDoor
open Go.ChangeShapes Go.WideShapes Go.ChangeAt Go.RowKit
open Go.ChangeMaps (open_string shut_string)
open Vl (V)
theorem sized_fields2 {H : Type} {enc : TypeId × Value → H} {W : World} {base : Nat} {sp : Nat → Bool} {held : Bool} {v : Value} {d : DataW H} {p : List MemPlace} {c0 c1 c2 c3 c4 : Value} {fo : Option Addr} {fl fc : Nat}
    (e : v = .agg #[c0, c1, c2, c3, c4, .slice fo fl fc]) (h : DataW.Trod enc Tryd.prog W base sp held 26 v d p) (hz : Z 26 d) : fl ≤ 1466015503658 := by
  subst e
  obtain ⟨fuel, hf0⟩ := h
  have h : DataW.trod enc Tryd.prog W base sp held fuel 26 [c0, c1, c2, c3, c4, .slice fo fl fc] = some (d, p) := hf0
  obtain ⟨xs, n, hn, hx1, hl, hxl, hf⟩ := DataW.trod_struct Tryd.underlying26 h
  have f5 : DataW.trod enc Tryd.prog W base sp held n 24 (([c0, c1, c2, c3, c4, .slice fo fl fc].drop 5).take (Tryd.prog.cellsOf 24)) = xs[5]? := hf 5 _ rfl
  obtain ⟨y5, e5⟩ : ∃ y, xs[5]? = some y := ⟨_, List.getElem?_eq_getElem (by rw [hxl]; decide)⟩
  rw [e5, cells24] at f5
  simp only [List.drop_succ_cons, List.drop_zero, List.take_succ_cons, List.take_zero] at f5
  have hz5 : Z 24 y5.1 := z_part Tryd.underlying26 rfl hx1 e5 hz
  rcases DataW.trod_slice Tryd.underlying24 f5 with ⟨hc, _⟩ | ⟨a, len, cap, elems, rest, q, hq, hc, hy, _, hlc, hcm, hel, he, _, _⟩
  · simp only [List.cons.injEq, and_true, Value.slice.injEq] at hc
    omega
  · simp only [List.cons.injEq, and_true, Value.slice.injEq] at hc
    have := z_len Tryd.underlying24 bytes44 hy hz5
    omega
namespace partsx
theorem lies_none (W : World) (ao : Option Addr) : LiesP W ao [] := by
  unfold LiesP
  refine ⟨by simp, fun s hs => ?_, fun h => ?_⟩
  · simp at hs
  · simp at h
theorem open_path {H : Type} {enc : TypeId × Value → H} {W : World} {base : Nat} {sp : Nat → Bool} {held : Bool} {a0 : Option Addr} {len cap : Nat} {d : DataW H} {p : List MemPlace} (h : DataW.Trod enc Tryd.prog W base sp held 27 (.slice a0 len cap) d p) (hb : Z 27 d) :
    ∃ ss : List ByteArray, len = ss.length ∧ LiesP W a0 ss ∧ ss.length ≤ 8796093021952 ∧ ss.length ≤ cap := by
  obtain ⟨F, hf⟩ := h
  have hc1 : (Value.slice a0 len cap).cells.toList = [.slice a0 len cap] := rfl
  rw [hc1] at hf
  rcases DataW.trod_slice Tryd.underlying27 hf with ⟨hc, _⟩ | ⟨a, len', cap', elems, rest, q, hq, hc, hx, _, hlc, hcm, hel, he, _, _⟩
  · simp only [List.cons.injEq, and_true, Value.slice.injEq] at hc
    obtain ⟨rfl, rfl, rfl⟩ := hc
    exact ⟨[], rfl, lies_none _ _, by simp, by simp⟩
  · simp only [List.cons.injEq, and_true, Value.slice.injEq] at hc
    obtain ⟨rfl, rfl, rfl⟩ := hc
    have hb1 : Z 27 ((d, p) : DataW H × List MemPlace).1 := hb
    have hlen : len ≤ 8796093021952 := by
      have := z_len Tryd.underlying27 bytes9 hx hb1
      rw [hel] at this
      omega
    rw [cells9] at he
    have key : ∀ i, i < len → ∃ s : ByteArray, s.size ≤ 140737488351232 ∧ W.cells? base (a.add (i * 1)) 1 = some [.string s] := fun i hi => by
      have h1 := he i hi
      have h4 : elems[i]? = some elems[i] := List.getElem?_eq_getElem (by omega)
      rw [h4] at h1
      obtain ⟨cs', h2, h3⟩ := Option.bind_eq_some_iff.1 h1
      obtain ⟨s, hs, hy, _⟩ := DataW.trod_string Tryd.underlying9 h3
      refine ⟨s, ?_, by rw [h2, hs]⟩
      have hz := z_elem Tryd.underlying27 hx h4 hb1
      rw [hy] at hz
      exact z_text s hz
    by_cases hpos : 0 < len
    · obtain ⟨s0, _, hc0⟩ := key 0 hpos
      rw [Nat.zero_mul] at hc0
      obtain ⟨g, o, rfl, hg⟩ := spot_none hc0 (by omega)
      obtain ⟨ss, hss, hp⟩ := gather len key
      subst hss
      refine ⟨ss, rfl, ⟨by unfold maxLen; omega, fun s hs => ?_, fun _ => ⟨g, o, rfl, hg, fun j s hj => ?_⟩⟩, hlen, hlc⟩
      · obtain ⟨j, hj⟩ := List.getElem?_of_mem hs
        exact (hp j s hj).1
      · obtain ⟨_, _, hcell⟩ := World.cells?_some (hp j s hj).2
        have := hcell 0 (by omega)
        rw [Addr.add_mid, Addr.add_mid] at this
        simpa using this
    · have h0 : len = 0 := by omega
      subst h0
      exact ⟨[], rfl, lies_none _ _, by simp, by simp⟩
theorem sameLaid : Rows.valuePartsRow.laid = Rows.valueOwnRow.laid := by kernel_rfl
set_option maxRecDepth 100000 in
theorem contract (H : Type) (enc : TypeId × Value → H) (W : World) (base : Nat) (args : Array Value) (ds gs : List (DataW H)) (before : List MemPlace)
    (hval : ∀ (j : Nat) t v, Tryd.f3.params[j]? = some t → args[j]? = some v → Value.okWide Tryd.prog W .any base t v)
    (hW : DataW.Whole enc Tryd.prog Tryd.f3.params.toList Rows.valuePartsSpec.vars false W args.toList ds gs before) (hsz0 : (DataW.weightsEach Tryd.prog (Tryd.f3.params.toList ++ (OpenSpec.ofChange Rows.valuePartsSpec).bare.plain.varTypes Tryd.prog) (ds ++ gs)).all (· ≤ reachBytes) = true) (hL : laidMetH Tryd.prog Rows.valuePartsRow.laid W) :
    Calls Tryd.prog 3 args W fun e W' => ∃ v, e = .returned v ∧ Rows.valuePartsSpec.post enc Tryd.prog Tryd.f3 false true false false W args v W' := by
  rw [sameLaid] at hL
  have hW' := hW
  obtain ⟨p, q, hA0, hV, rfl, hfz, hnd⟩ := hW
  have hA : DataW.TrodAll enc Tryd.prog W 0 (fun _ => true) true Tryd.f3.params.toList args.toList ds p := hA0
  have hsz : (DataW.weightsEach Tryd.prog (Tryd.f3.params.toList ++ []) (ds ++ gs)).all (· ≤ reachBytes) = true := hsz0
  rw [Tryd.params3] at hA hval hsz
  obtain ⟨v0, vs0, d0, ds0, p0, q0, hargs, rfl, rfl, h0, r0⟩ := trodAll_cons hA
  obtain ⟨v3, vs3, d3, ds3, p3, q3, rfl, rfl, rfl, h3, r3⟩ := trodAll_cons r0
  obtain ⟨v1, vs1, d1, ds1, p1, q1, rfl, rfl, rfl, h1, r1⟩ := trodAll_cons r3
  obtain ⟨v2, vs2, d2, ds2, p2, q2, rfl, rfl, rfl, h2, r2⟩ := trodAll_cons r1
  obtain ⟨rfl, rfl, rfl⟩ := trodAll_nil r2
  obtain rfl : args = #[v0, v3, v1, v2] := by cases args; simp_all
  obtain ⟨rfl, rfl⟩ := trodVars_none hV
  have k1 := h1
  obtain ⟨na, rfl, rfl, rfl, _⟩ := open_string Tryd.underlying9 (hval 2 9 v1 rfl rfl) h1
  obtain ⟨a0, len, cap, rfl⟩ := okWide_slice Tryd.underlying27 (hval 1 27 v3 rfl rfl)
  have hna : na.size ≤ 140737488351232 := by
    have := sized_string hsz (j := 2) (t := 9) rfl rfl
    rw [Lib.size_eq]; exact this
  have hz0 : Z 26 d0 := sized_at hsz (j := 0) rfl rfl
  have hz3 : Z 27 d3 := sized_at hsz (j := 1) rfl rfl
  have hz2 : Z 26 d2 := sized_at hsz (j := 3) rfl rfl
  obtain ⟨t, ht, hst⟩ := open_sized (hval 0 26 v0 rfl rfl) h0
  obtain ⟨x, hx, hsx⟩ := open_sized (hval 3 26 v2 rfl rfl) h2
  obtain ⟨ss, hss, hlp, hln, hlc⟩ := open_path h3 hz3
  subst hss
  have hlt0 : ∀ x ∈ p0, x.block < W.heap.size := fun x hx => by
    have := hW'.lt x (by simp [hx])
    simpa using this
  have hlt1 : ∀ x ∈ ([] : List MemPlace), x.block < W.heap.size := fun x hx => by cases hx
  have hlt2 : ∀ x ∈ p2, x.block < W.heap.size := fun x hx => by
    have := hW'.lt x (by simp [hx])
    simpa using this
  have hlt3 : ∀ x ∈ p3, x.block < W.heap.size := fun x hx => by
    have := hW'.lt x (by simp [hx])
    simpa using this
  have main : Calls Tryd.prog 3 #[v0, .slice a0 ss.length cap, .string na, v2] W fun e w' => e = .returned (.bool true) ∧ Below W.heap.size W w' := by
    refine parts3 t x (hst hz0) (hsx hz2) (fun b n s l f e => ?_) na hna ss a0 cap W (hasT_of (met_of hL)) W.heap.size v0 v2 (Nat.le_refl _) ht hx hlp
    rw [e, Rep] at ht
    obtain ⟨ao, lc, fo, fc, e2, _⟩ := ht
    have := sized_fields2 e2 h0 hz0
    omega
  refine main.mono fun e W' ⟨he, hg⟩ => ?_
  subst he
  exact ⟨_, rfl, law_post hW' hg rfl rfl rfl rfl rfl
    (trodAll_cons_mk (Below.trod laidOut (by kernel_rfl) (of_decide_eq_true (by kernel_rfl)) h0 hg hlt0)
      (trodAll_cons_mk (Below.trod laidOut (by kernel_rfl) (of_decide_eq_true (by kernel_rfl)) h3 hg hlt3)
        (trodAll_cons_mk (Below.trod laidOut (by kernel_rfl) (of_decide_eq_true (by kernel_rfl)) k1 hg hlt1)
          (trodAll_cons_mk (Below.trod laidOut (by kernel_rfl) (of_decide_eq_true (by kernel_rfl)) h2 hg hlt2) trodAll_mk0))))⟩
theorem laid_met (os : Os) : laidMet Tryd.prog Rows.valuePartsRow.laid ((World.laidAll Tryd.prog os Rows.valuePartsRow.laid).forCall (fun _ _ => 0) ⟨#[], #[.agg #[.int .u8 0, .bool false, .int .i64 0, .string .empty, .slice none 0 0, .slice none 0 0], .slice none 0 0, .string .empty, .agg #[.int .u8 0, .bool false, .int .i64 0, .string .empty, .slice none 0 0, .slice none 0 0]], []⟩).memory :=
  laidMet_laidAll _ (by kernel_rfl) (by kernel_rfl)
theorem reads (os : Os) {H : Type} (enc : TypeId × Value → H) : ∃ places, DataW.whole enc Tryd.prog ((World.laidAll Tryd.prog os Rows.valuePartsRow.laid).forCall (fun _ _ => 0) ⟨#[], #[.agg #[.int .u8 0, .bool false, .int .i64 0, .string .empty, .slice none 0 0, .slice none 0 0], .slice none 0 0, .string .empty, .agg #[.int .u8 0, .bool false, .int .i64 0, .string .empty, .slice none 0 0, .slice none 0 0]], []⟩).memory Tryd.f3.params.toList Rows.valuePartsSpec.vars false (#[.agg #[.int .u8 0, .bool false, .int .i64 0, .string .empty, .slice none 0 0, .slice none 0 0], .slice none 0 0, .string .empty, .agg #[.int .u8 0, .bool false, .int .i64 0, .string .empty, .slice none 0 0, .slice none 0 0]] : Array Value).toList 8 = some ([.agg [.lit (.int .u8 0), .lit (.bool false), .lit (.int .i64 0), .lit (.string []), .nil, .nil], .nil, .lit (.string []), .agg [.lit (.int .u8 0), .lit (.bool false), .lit (.int .i64 0), .lit (.string []), .nil, .nil]], [], places) :=
  ⟨[], by kernel_rfl⟩
set_option maxRecDepth 100000 in
theorem lifted (os : Os) (started : os.Started) (H : Type) (enc : TypeId × Value → H) (F : Stop.Interp) :
    ReturnsInHanded {} Tryd.checked os 3 .any ((OpenSpec.ofChange Rows.valuePartsSpec).preRow enc Tryd.prog Tryd.f3 Rows.valuePartsRow.domain false Rows.valuePartsRow.laid) (((OpenSpec.ofChange Rows.valuePartsSpec).at F).post enc Tryd.prog Tryd.f3 false true false false) := by
  obtain ⟨places, hx⟩ := reads os enc
  refine returnsInHanded_of_row (C := Tryd.checked) (s := OpenSpec.ofChange Rows.valuePartsSpec) own started (by kernel_rfl) Tryd.func3
    (witness_row_atRef (enc := enc) (C := Tryd.checked) false (World.laidAll Tryd.prog os Rows.valuePartsRow.laid) #[.agg #[.int .u8 0, .bool false, .int .i64 0, .string .empty, .slice none 0 0, .slice none 0 0], .slice none 0 0, .string .empty, .agg #[.int .u8 0, .bool false, .int .i64 0, .string .empty, .slice none 0 0, .slice none 0 0]] (World.laidAll_os _ _ _) (by kernel_rfl) (by kernel_rfl) (by kernel_rfl)
      (OpenSpec.preRow_of_cond 8 hx (by kernel_rfl) (fun k hk => by cases hk) (by kernel_rfl) (laid_met os))) ?_
  intro W base args ds gs before hval hW _ _ hsz hL _ _
  exact contract H enc W base args ds gs before hval hW hsz hL
theorem said : Rows.ValuePartsSaid :=
  OpenClaim.holds_of_cond 3 Tryd.f3 rfl rfl rfl rfl rfl rfl rfl ⟨rfl, rfl, rfl, rfl, rfl⟩ rfl rfl rfl rfl rfl (by kernel_rfl) Tryd.func3 (by kernel_rfl)
    (of_decide_eq_true (by kernel_rfl)) (by unfold Func.isWrapper; first | (rw [if_pos (by decide +kernel)]; kernel_rfl) | (rw [if_neg (by decide +kernel)]; exact ⟨rfl, rfl⟩))
    (fun os started H enc _ F => by rw [OpenClaim.pre_eq_preRow]; exact lifted os started H enc F)
theorem plain (f : FuncId) (fn : Func) (hf : Tryd.pinned.checked.prog.funcNamed "codicil/codicillaw02.ValueParts" = some f) (hfn : Tryd.pinned.checked.prog.funcs[f]? = some fn) :
    true = Tryd.pinned.checked.prog.looks [] ∧ ∀ (j : Nat) t, fn.params[j]? = some t → Tryd.pinned.checked.prog.wantsStandIn t = false := by
  obtain rfl : f = 3 := Option.some.inj ((show Tryd.prog.funcNamed "codicil/codicillaw02.ValueParts" = some 3 by kernel_rfl).symm.trans hf) |>.symm
  obtain rfl : fn = Tryd.f3 := (Option.some.inj (Tryd.func3.symm.trans hfn)).symm
  refine ⟨by kernel_rfl, fun j t ht => ?_⟩
  rw [Tryd.params3] at ht
  have hm : t = 26 ∨ t = 27 ∨ t = 9 ∨ t = 26 := by simpa using Array.mem_of_getElem? ht
  rcases hm with rfl | rfl | rfl | rfl
  · exact (show Tryd.prog.wantsStandIn 26 = false by kernel_rfl)
  · exact (show Tryd.prog.wantsStandIn 27 = false by kernel_rfl)
  · exact (show Tryd.prog.wantsStandIn 9 = false by kernel_rfl)
  · exact (show Tryd.prog.wantsStandIn 26 = false by kernel_rfl)
/-- the card -/
theorem card : Rows.ValuePartsCardSaid :=
  Claim7.holds_tied_plain_at .later [] _ _ _ _ said (fun _ h => by cases h) (by kernel_rfl) (fun _ h => by cases h) valueParts_row_tie rfl ⟨rfl, rfl⟩ (by kernel_rfl) rfl plain (by kernel_rfl)
end partsx
theorem valueParts_card : Rows.ValuePartsCardSaid := partsx.card
end Go.Proofs.YtbogggnnmbjlfaaDoor
