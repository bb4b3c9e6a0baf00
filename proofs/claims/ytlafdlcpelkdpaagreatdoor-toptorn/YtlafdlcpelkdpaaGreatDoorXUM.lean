/- Several texts, joined: TpS, TpT, TpO -/
import Derived.Test.YtlafdlcpelkdpaaGreatDoorXTM
import Derived.Test.YtlafdlcpelkdpaaGreatDoorXDM
import Derived.Test.YtlafdlcpelkdpaaGreatDoorXSM
import Derived.Test.YtlafdlcpelkdpaaGreatDoorXCM
import Derived.Test.YtlafdlcpelkdpaaGreatDoorJIM
import Derived.Test.YtlafdlcpelkdpaaGreatDoorJnOpenM
/- Two blocks that are one have one head: sameHead, walked. -/
namespace Go.Proofs.YtlafdlcpelkdpaaGreatDoor
open Go.RowKit
open Vl (V)
attribute [local go_sem ↓] Go.wp_at_zero Go.wp_at_succ
set_option maxHeartbeats 16000000 in
set_option maxRecDepth 100000 in
theorem sameHead_c (b : Jn.B) (hb : Jn.berr b = 0) (sa : Option Addr) (sn sc : Nat) (ra : Option Addr) (rn rc : Nat) (ta : Option Addr) (tn tc : Nat) (ua : Option Addr) (un uc : Nat) (w : World) (hU : Bn.HasU w) (hK : HasK w) (h1 : Bk w w.heap.size b sa sn sc ra rn rc) (h2 : Bk w w.heap.size b ta tn tc ua un uc) :
    Calls Tryz.prog 11 #[.agg #[.int .u64 (b.seq : Int), .string b.prev, .string b.root, .slice sa sn sc, .slice ra rn rc], .agg #[.int .u64 (b.seq : Int), .string b.prev, .string b.root, .slice ta tn tc, .slice ua un uc]] w fun e w' => e = .returned (.bool true) ∧ Below w.heap.size w w' := by
  obtain ⟨cq, hcq⟩ : ∃ cq : Int, cq = (b.seq : Int) := ⟨_, rfl⟩
  obtain ⟨cp, hcp⟩ : ∃ cp, cp = b.prev := ⟨_, rfl⟩
  obtain ⟨cr, hcr⟩ : ∃ cr, cr = b.root := ⟨_, rfl⟩
  obtain ⟨rl, hrl⟩ : ∃ rl, rl = b.revs.length := ⟨_, rfl⟩
  obtain ⟨st, hst⟩ : ∃ st, st = (Jn.headOf b).sts := ⟨_, rfl⟩
  have C1 : Hid (∀ W, Below w.heap.size w W → Calls Tryz.prog 17 #[.agg #[.int .u64 cq, .string cp, .string cr, .slice sa sn sc, .slice ra rn rc]] W fun e w' => e = .returned (.tuple #[.agg #[.int .u64 cq, .string cp, .string cr, .int .u64 (rl : Int), .string st], .int .i64 0]) ∧ Below W.heap.size W w') := fun W hW => by
    have h := shortB_c b sa sn sc ra rn rc W (hU.stays hW) (hK.below hK.1 hW) (h1.stays hW hW.size)
    rw [hd_of hb, hb, ← hcq, ← hcp, ← hcr, ← hrl, ← hst] at h
    exact h
  have C2 : Hid (∀ W, Below w.heap.size w W → Calls Tryz.prog 17 #[.agg #[.int .u64 cq, .string cp, .string cr, .slice ta tn tc, .slice ua un uc]] W fun e w' => e = .returned (.tuple #[.agg #[.int .u64 cq, .string cp, .string cr, .int .u64 (rl : Int), .string st], .int .i64 0]) ∧ Below W.heap.size W w') := fun W hW => by
    have h := shortB_c b ta tn tc ua un uc W (hU.stays hW) (hK.below hK.1 hW) (h2.stays hW hW.size)
    rw [hd_of hb, hb, ← hcq, ← hcp, ← hcr, ← hrl, ← hst] at h
    exact h
  rw [← hcq, ← hcp, ← hcr]
  clear hcq hcp hcr hrl hst h1 h2 hU hK hb
  have B0 : Hid (Below w.heap.size w ((w.alloc (.cells #[.int .u64 cq, .string cp, .string cr, .slice sa sn sc, .slice ra rn rc] 32)).alloc (.cells #[.int .u64 cq, .string cp, .string cr, .slice ta tn tc, .slice ua un uc] 32)) ∧ Ds.Box ((w.alloc (.cells #[.int .u64 cq, .string cp, .string cr, .slice sa sn sc, .slice ra rn rc] 32)).alloc (.cells #[.int .u64 cq, .string cp, .string cr, .slice ta tn tc, .slice ua un uc] 32)) (w.heap.size + 1) #[.int .u64 cq, .string cp, .string cr, .slice ta tn tc, .slice ua un uc] 32) := ⟨Ds.below2 w _ _, (Ds.box2 w _ _ _ _).2⟩
  go_enter Tryz.func11, Tryz.ntmps11
  go_wp2_with fail
  refine Calls.mono (C1.out _ B0.out.1) ?_
  rintro e w3 ⟨rfl, hb3⟩
  have V3 : Hid (Below w.heap.size w w3 ∧ Ds.Box w3 (w.heap.size + 1) #[.int .u64 cq, .string cp, .string cr, .slice ta tn tc, .slice ua un uc] 32) := ⟨B0.out.1.trans (hb3.mono B0.out.1.size), B0.out.2.call hb3⟩
  clear hb3 B0 C1
  go_upto_region 2 with fail
  obtain ⟨w4, hw4⟩ : ∃ w4, w4 = w3.alloc (.cells #[.int .u64 cq, .string cp, .string cr, .int .u64 (rl : Int), .string st] 58) := ⟨_, rfl⟩
  obtain ⟨P, hP⟩ : ∃ P, P = w3.heap.size := ⟨_, rfl⟩
  have V4 : Hid (Below w.heap.size w w4 ∧ Ds.Box w4 (w.heap.size + 1) #[.int .u64 cq, .string cp, .string cr, .slice ta tn tc, .slice ua un uc] 32 ∧ Ds.Box w4 P #[.int .u64 cq, .string cp, .string cr, .int .u64 (rl : Int), .string st] 58) := by
    rw [hw4, hP]
    exact ⟨V3.out.1.alloc V3.out.1.size _, V3.out.2.past _, Ds.Box.new _ _ _⟩
  rw [← hw4, ← hP]
  clear hw4 hP V3
  obtain ⟨x0, x1, x2, x3, x4⟩ := V4.out.2.1.five
  go_wp2_with fail
  refine Calls.mono (C2.out _ V4.out.1) ?_
  rintro e w5 ⟨rfl, hb5⟩
  have V5 : Hid (Below w.heap.size w w5 ∧ Ds.Box w5 P #[.int .u64 cq, .string cp, .string cr, .int .u64 (rl : Int), .string st] 58) := ⟨V4.out.1.trans (hb5.mono V4.out.1.size), V4.out.2.2.call hb5⟩
  clear hb5 V4 C2 x0 x1 x2 x3 x4
  go_upto_region 3 with fail
  obtain ⟨w6, hw6⟩ : ∃ w6, w6 = w5.alloc (.cells #[.int .u64 cq, .string cp, .string cr, .int .u64 (rl : Int), .string st] 58) := ⟨_, rfl⟩
  obtain ⟨Q, hQ⟩ : ∃ Q, Q = w5.heap.size := ⟨_, rfl⟩
  have V6 : Hid (Below w.heap.size w w6 ∧ Ds.Box w6 P #[.int .u64 cq, .string cp, .string cr, .int .u64 (rl : Int), .string st] 58 ∧ Ds.Box w6 Q #[.int .u64 cq, .string cp, .string cr, .int .u64 (rl : Int), .string st] 58) := by
    rw [hw6, hQ]
    exact ⟨V5.out.1.alloc V5.out.1.size _, V5.out.2.past _, Ds.Box.new _ _ _⟩
  rw [← hw6, ← hQ]
  clear hw6 hQ V5
  obtain ⟨x0, x1, x2, x3, x4⟩ := V6.out.2.1.five
  obtain ⟨y0, y1, y2, y3, y4⟩ := V6.out.2.2.five
  go_wp2
  go_ret
  exact ⟨rfl, V6.out.1⟩
end Go.Proofs.YtlafdlcpelkdpaaGreatDoor
/- TopTorn, walked: blocks that are written to a disk, and synced, are read behind any crash; of what was not synced the first ones that are whole. -/
namespace Go.Proofs.YtlafdlcpelkdpaaGreatDoor
open Go.RowKit
open Vl (V)
attribute [local go_sem ↓] Go.wp_at_zero Go.wp_at_succ
namespace Jn
theorem whole_at : ∀ (l : List (List UInt8)) (cut : Nat), ∃ q, q ≤ l.length ∧ (l.take q).flatten.length ≤ cut ∧ ∀ f, l[q]? = some f → cut < (l.take q).flatten.length + f.length
  | [], cut => ⟨0, Nat.le_refl _, by simp, fun f hf => by simp at hf⟩
  | x :: l, cut => by
    by_cases h : cut < x.length
    · refine ⟨0, Nat.zero_le _, by simp, fun f hf => ?_⟩
      simp at hf
      subst hf
      simpa using h
    · obtain ⟨q, h1, h2, h3⟩ := whole_at l (cut - x.length)
      refine ⟨q + 1, by simp; exact h1, ?_, fun f hf => ?_⟩
      · rw [List.take_succ_cons, List.flatten_cons, List.length_append]
        omega
      · rw [List.getElem?_cons_succ] at hf
        have := h3 f hf
        rw [List.take_succ_cons, List.flatten_cons, List.length_append]
        omega
theorem fl_take {l : List (List UInt8)} {k : Nat} {f : List UInt8} (h : l[k]? = some f) : (l.take (k + 1)).flatten = (l.take k).flatten ++ f := by
  rw [List.take_add_one, h]
  simp
theorem fl_mono (l : List (List UInt8)) {i k : Nat} (h : i ≤ k) : (l.take i).flatten.length ≤ (l.take k).flatten.length := by
  obtain ⟨d, rfl⟩ : ∃ d, k = i + d := ⟨k - i, by omega⟩
  rw [List.take_add, List.flatten_append, List.length_append]
  omega
theorem whole_ge {l : List (List UInt8)} {cut q k : Nat} (hk : k ≤ l.length) (h : ∀ f, l[q]? = some f → cut < (l.take q).flatten.length + f.length) (hc : (l.take k).flatten.length ≤ cut) : k ≤ q := by
  rcases Nat.lt_or_ge q k with hlt | hge
  · obtain ⟨f, hf⟩ : ∃ f, l[q]? = some f := ⟨_, List.getElem?_eq_getElem (by omega)⟩
    have h1 := h f hf
    have h2 := fl_mono l (i := q + 1) (k := k) (by omega)
    rw [fl_take hf, List.length_append] at h2
    omega
  · exact hge
end Jn
/-- the disk's variable, and nothing turned below it -/
structure TS (w W : World) (D : Nat) (s : ByteArray) (y : Nat) : Prop where
  below : Below w.heap.size w W
  box : Ds.Box W D #[.string s, .int .i64 (y : Int), .int .i64 262144, .bool false, .int .i64 (-1)] 27
  ge : w.heap.size ≤ D
  fits : s.size ≤ 262144
  sync : y ≤ s.size
theorem TS.call {w W W' : World} {D : Nat} {s : ByteArray} {y : Nat} (h : TS w W D s y) (hb : Below W.heap.size W W') : TS w W' D s y :=
  ⟨h.below.trans (hb.mono h.below.size), h.box.call hb, h.ge, h.fits, h.sync⟩
theorem TS.ok {w W : World} {D : Nat} {s : ByteArray} {y : Nat} (h : TS w W D s y) : Ds.okB s (y : Int) 262144 = true := by
  have h1 := h.fits
  have h2 := h.sync
  exact Ds.ok_of ⟨by omega, by omega, by omega, by omega, by omega⟩
theorem TS.put {w W : World} {D : Nat} {s s' : ByteArray} {y y' : Nat} (h : TS w W D s y) (hf : s'.size ≤ 262144) (hy : y' ≤ s'.size) :
    TS w (((((W.setCell ⟨D, 0, none⟩ (.string s')).setCell ⟨D, 1, none⟩ (.int .i64 (y' : Int))).setCell ⟨D, 2, none⟩ (.int .i64 262144)).setCell ⟨D, 3, none⟩ (.bool false)).setCell ⟨D, 4, none⟩ (.int .i64 (-1))) D s' y' :=
  have F := Ds.fin5 h.box h.below h.ge (.string s') (.int .i64 (y' : Int)) (.int .i64 262144) (.bool false) (.int .i64 (-1))
  ⟨F.2, F.1, h.ge, hf, hy⟩
theorem runM_write (s t : ByteArray) (y : Int) (h : ¬ (262144 : Int) - s.size < t.size) : Ds.runM ⟨s, y, 262144, false, -1⟩ 1 t 0 = (⟨s ++ t, y, 262144, false, -1⟩, 0) := by
  simp [Ds.runM, h, Ds.fuse]
theorem runM_full (s t : ByteArray) (y : Int) (h : (262144 : Int) - s.size < t.size) : Ds.runM ⟨s, y, 262144, false, -1⟩ 1 t 0 = (⟨s, y, 262144, false, -1⟩, 8) := by
  simp [Ds.runM, h]
theorem runM_sync (s : ByteArray) (y : Int) : Ds.runM ⟨s, y, 262144, false, -1⟩ 2 ⟨#[]⟩ 0 = (⟨s, s.size, 262144, false, -1⟩, 0) := by
  simp [Ds.runM, Ds.fuse]
set_option maxHeartbeats 16000000 in
set_option maxRecDepth 100000 in
theorem toptorn_c (ll : List (List Jn.R)) (hn : ll.length ≤ 9223372036854775807) (v : Value) (sy kp : Int) (w : World) (hU : Bn.HasU w) (hK : HasK w) (hL : LL w v ll) : Calls Tryz.prog 3 #[v, .int .i64 sy, .int .i64 kp] w fun e w' => e = .returned (.bool true) ∧ Below w.heap.size w w' := by
  have HU : Hid (∀ W, Below w.heap.size w W → Bn.HasU W) := fun W hW => hU.stays hW
  have HK : Hid (∀ W, Below w.heap.size w W → HasK W) := fun W hW => hK.below hK.1 hW
  have HL : Hid (∀ W, Below w.heap.size w W → LL W v ll) := fun W hW => hL.call hW
  have HN0 : Hid (ll.length ≤ 9223372036854775807) := hn
  clear hU hK hL hn
  go_enter Tryz.func3, Tryz.ntmps3
  go_wp2_with fail
  refine Calls.mono (begins_c _ (HK.out _ (Below.refl _ _))) ?_
  rintro e w1 ⟨rfl, hb1⟩
  have HB1 : Hid (Below w.heap.size w w1) := hb1
  clear hb1
  go_wp2_with fail
  refine Calls.mono (row_c ll HN0.out v _ (HU.out _ HB1.out) (HK.out _ HB1.out) (HL.out _ HB1.out)) ?_
  rintro e w2 ⟨bs, ov, rfl, hS, hbl⟩
  have HB2 : Hid (Below w.heap.size w w2) := HB1.out.trans (hS.below.mono HB1.out.size)
  have HTK : Hid (Jn.Took (bs.map Jn.btext) bs) := hS.took
  have HBV : Hid (∀ W, Below w2.heap.size w2 W → BV W ov bs) := fun W hW => (BV.of hS.row.row).call hW
  have HWW : Hid (∀ W, Below w2.heap.size w2 W → Below w.heap.size w W) := fun W hW => HB2.out.trans (hW.mono HB2.out.size)
  obtain ⟨oa, oc, rfl⟩ : ∃ a c, ov = .slice a bs.length c := by obtain ⟨a, c, e, _⟩ := HBV.out _ (Below.refl _ _); exact ⟨a, c, e⟩
  obtain ⟨n, hnn⟩ : ∃ n, n = bs.length := ⟨_, rfl⟩
  obtain ⟨fl, hfl⟩ : ∃ fl, fl = Jn.fms bs := ⟨_, rfl⟩
  obtain ⟨k, hk⟩ : ∃ k, k = sy.toNat := ⟨_, rfl⟩
  have HN : Hid (n = bs.length ∧ fl = Jn.fms bs ∧ n = fl.length ∧ k = sy.toNat) := ⟨hnn, hfl, by rw [hfl, Jn.fms_len, hnn], hk⟩
  rw [← hnn] at HBV hbl
  rw [← hnn]
  clear hS HB1 HL hfl hnn hk
  go_upto_region 5 with fail
  obtain ⟨w3, hw3⟩ : ∃ w3, w3 = w2.alloc (.cells #[.string ⟨#[]⟩, .int .i64 0, .int .i64 262144, .bool false, .int .i64 (-1)] 27) := ⟨_, rfl⟩
  obtain ⟨D, hD⟩ : ∃ D, D = w2.heap.size := ⟨_, rfl⟩
  have T3 : Hid (TS w2 w3 D ⟨#[]⟩ 0) := by
    rw [hw3, hD]
    exact ⟨below_new _ _, Ds.Box.new _ _ _, Nat.le_refl _, by decide, by decide⟩
  rw [← hw3, ← hD]
  clear hw3 hD
  go_wp2
  go_loopw [9, 29] (fun z i wr => ∃ (j y : Nat) (s : ByteArray), j ≤ n ∧ i = .int .i64 (j : Int) ∧ z = .int .i64 (y : Int) ∧ s = Go.Proofs.YtlafdlcpelkdpaaGreatDoor.bs (fl.take j).flatten ∧ y = (fl.take (min j k)).flatten.length ∧ TS w2 wr D s y) (fun _ i _ => n - (intOf i).toNat)
  case atStart => exact ⟨0, 0, _, Nat.zero_le _, rfl, rfl, rfl, by simp, T3.out⟩
  case round =>
    obtain ⟨wa, rfl⟩ : ∃ wa, wa = wr := ⟨_, rfl⟩
    obtain ⟨j, y, s, hj, rfl, rfl, hs, hy, hT⟩ := hrel
    have T : Hid (TS w2 wa D s y) := hT
    have HS : Hid (s = Go.Proofs.YtlafdlcpelkdpaaGreatDoor.bs (fl.take j).flatten ∧ y = (fl.take (min j k)).flatten.length) := ⟨hs, hy⟩
    clear hT hs hy T3
    by_cases hlt : j < n
    · have q1 : (j : Int) < (n : Int) := by omega
      obtain ⟨a1', c1', e1, k1⟩ := HBV.out wa T.out.below
      rw [← HN.out.1] at e1 k1
      injection e1 with e1 _ e3
      subst e1 e3
      obtain ⟨g1, rfl, hg1, hc1⟩ := k1 (by omega)
      obtain ⟨b, hb⟩ : ∃ b, bs[j]? = some b := ⟨_, List.getElem?_eq_getElem (by rw [← HN.out.1]; exact hlt)⟩
      obtain ⟨sa, sn, sc, ra, rn, rc, B1⟩ := hc1 j b hb
      obtain ⟨hbe, _, _, _⟩ := HTK.out.at j b hb
      have HBB : Hid (∀ W, Below wa.heap.size wa W → Bk W W.heap.size b sa sn sc ra rn rc) := fun W hW => (B1.call hg1 hW).bk
      have d0 := B1.c0
      have d1 := B1.c1
      have d2 := B1.c2
      have d3 := B1.c3
      have d4 := B1.c4
      obtain ⟨bq, hbq⟩ : ∃ bq : Int, bq = (b.seq : Int) := ⟨_, rfl⟩
      obtain ⟨bp, hbp⟩ : ∃ bp, bp = b.prev := ⟨_, rfl⟩
      obtain ⟨br, hbr⟩ : ∃ br, br = b.root := ⟨_, rfl⟩
      obtain ⟨fx, hfx⟩ : ∃ fx, fx = Jn.frameOf (Jn.btext b) := ⟨_, rfl⟩
      have CFR : Hid (∀ W, Below wa.heap.size wa W → Calls Tryz.prog 6 #[.agg #[.int .u64 bq, .string bp, .string br, .slice sa sn sc, .slice ra rn rc]] W fun e w' => e = .returned (.tuple #[.string fx, .int .i64 0]) ∧ Below W.heap.size W w') := fun W hW => by
        have hw : Below w2.heap.size w2 W := T.out.below.trans (hW.mono T.out.below.size)
        have h := frame_c b sa sn sc ra rn rc W (HU.out W (HWW.out W hw)) (HK.out W (HWW.out W hw)) (HBB.out W hW)
        rw [if_pos hbe, hbe, ← hbq, ← hbp, ← hbr, ← hfx] at h
        exact h
      have HF : Hid (fl[j]? = some fx.data.toList) := by show _ = _; rw [HN.out.2.1, Jn.fms, List.getElem?_map, hb, hfx]; rfl
      rw [← hbq] at d0
      rw [← hbp] at d1
      rw [← hbr] at d2
      clear hbq hbp hbr hfx hc1 hb B1 hg1 k1 hbe
      go_upto_region 9 with fail
      obtain ⟨w4, hw4⟩ : ∃ w4, w4 = wa.alloc (.cells #[.int .u64 bq, .string bp, .string br, .slice sa sn sc, .slice ra rn rc] 32) := ⟨_, rfl⟩
      obtain ⟨Q, hQ⟩ : ∃ Q, Q = wa.heap.size := ⟨_, rfl⟩
      have V4 : Hid (Ds.Box w4 Q #[.int .u64 bq, .string bp, .string br, .slice sa sn sc, .slice ra rn rc] 32 ∧ Below wa.heap.size wa w4) := by rw [hw4, hQ]; exact ⟨Ds.Box.new _ _ _, below_new _ _⟩
      rw [← hw4, ← hQ]
      clear hw4 hQ d0 d1 d2 d3 d4
      obtain ⟨x0, x1, x2, x3, x4⟩ := V4.out.1.five
      go_wp2_with fail
      refine Calls.mono (CFR.out _ V4.out.2) ?_
      rintro e w5 ⟨rfl, hb5⟩
      have T5 : Hid (TS w2 w5 D s y) := (T.out.call V4.out.2).call hb5
      clear hb5 V4 x0 x1 x2 x3 x4 CFR T
      obtain ⟨y0, y1, y2, y3, y4⟩ := T5.out.box.five
      go_wp2_with fail
      refine Calls.mono (Ds.do9_yes s fx (y : Int) 262144 (-1) 0 1 false _ T5.out.ok (by omega) (by omega) (.inl rfl)) ?_
      rintro e w6 ⟨⟨s', y', c', dn', f'⟩, er, rfl, hM, hb6⟩
      have T6 : Hid (TS w2 w6 D s y) := T5.out.call hb6
      clear hb6 T5 y0 y1 y2 y3 y4
      by_cases hfull : (262144 : Int) - s.size < fx.size
      · rw [runM_full s fx _ hfull] at hM
        injection hM with hM1 hM2
        injection hM1 with m1 m2 m3 m4 m5
        subst m1 m2 m3 m4 m5 hM2
        clear hfull
        obtain ⟨y0, y1, y2, y3, y4⟩ := T6.out.box.five
        have fz := T6.out.box.free
        have ltD := T6.out.box.1
        go_upto_region 13 with fail
        have T7 := T6.out.put T6.out.fits T6.out.sync
        obtain ⟨w7, hw7⟩ : ∃ w7, w7 = (((((w6.setCell ⟨D, 0, none⟩ (.string s)).setCell ⟨D, 1, none⟩ (.int .i64 (y : Int))).setCell ⟨D, 2, none⟩ (.int .i64 262144)).setCell ⟨D, 3, none⟩ (.bool false)).setCell ⟨D, 4, none⟩ (.int .i64 (-1))) := ⟨_, rfl⟩
        rw [← hw7] at T7 ⊢
        have HF7 := HWW.out w7 T7.below
        clear hw7 T7
        go_wp2
        go_ret
        exact ⟨rfl, HF7⟩
      rw [runM_write s fx _ hfull] at hM
      injection hM with hM1 hM2
      injection hM1 with m1 m2 m3 m4 m5
      subst m1 m2 m3 m4 m5 hM2
      obtain ⟨s2, hs2⟩ : ∃ s2, s2 = s ++ fx := ⟨_, rfl⟩
      have HS2 : Hid (s2 = Go.Proofs.YtlafdlcpelkdpaaGreatDoor.bs (fl.take (j + 1)).flatten ∧ s2.size ≤ 262144 ∧ s2.size = s.size + fx.size) := by
        have hz : (s ++ fx).size = s.size + fx.size := ByteArray.size_append
        refine ⟨?_, ?_, by rw [hs2]; exact hz⟩
        · rw [hs2, Jn.fl_take HF.out, Jn.bs_app, ← HS.out.1, bs_data]
        · rw [hs2, hz]; omega
      rw [← hs2]
      clear hs2 hfull
      obtain ⟨y0, y1, y2, y3, y4⟩ := T6.out.box.five
      have fz := T6.out.box.free
      have ltD := T6.out.box.1
      go_upto_region 13 with fail
      have T7 : Hid (TS w2 (((((w6.setCell ⟨D, 0, none⟩ (.string s2)).setCell ⟨D, 1, none⟩ (.int .i64 (y : Int))).setCell ⟨D, 2, none⟩ (.int .i64 262144)).setCell ⟨D, 3, none⟩ (.bool false)).setCell ⟨D, 4, none⟩ (.int .i64 (-1))) D s2 y) := T6.out.put HS2.out.2.1 (by have := T6.out.sync; have := HS2.out.2.2; omega)
      obtain ⟨w7, hw7⟩ : ∃ w7, w7 = (((((w6.setCell ⟨D, 0, none⟩ (.string s2)).setCell ⟨D, 1, none⟩ (.int .i64 (y : Int))).setCell ⟨D, 2, none⟩ (.int .i64 262144)).setCell ⟨D, 3, none⟩ (.bool false)).setCell ⟨D, 4, none⟩ (.int .i64 (-1))) := ⟨_, rfl⟩
      rw [← hw7] at T7 ⊢
      clear hw7 y0 y1 y2 y3 y4 fz ltD T6
      by_cases hsy : (j : Int) < sy
      · obtain ⟨y0, y1, y2, y3, y4⟩ := T7.out.box.five
        have HY : Hid (s2.size = (fl.take (min (j + 1) k)).flatten.length) := by
          have h1 := HN.out.2.2.2
          show _ = _
          rw [show min (j + 1) k = j + 1 by omega, HS2.out.1, bs_size]
        go_wp2_with fail
        refine Calls.mono (Ds.do9_yes s2 ⟨#[]⟩ (y : Int) 262144 (-1) 0 2 false _ T7.out.ok (by omega) (by omega) (.inr rfl)) ?_
        rintro e w8 ⟨⟨s', y', c', dn', f'⟩, er, rfl, hM, hb8⟩
        have T8 : Hid (TS w2 w8 D s2 y) := T7.out.call hb8
        clear hb8 T7 y0 y1 y2 y3 y4
        rw [runM_sync s2 _] at hM
        injection hM with hM1 hM2
        injection hM1 with m1 m2 m3 m4 m5
        subst m1 m2 m3 m4 m5 hM2
        obtain ⟨z, hz⟩ : ∃ z : Nat, z = s2.size := ⟨_, rfl⟩
        have hzz : (s2.size : Int) = (z : Int) := by rw [hz]
        have HZ : Hid (z = (fl.take (min (j + 1) k)).flatten.length ∧ z = s2.size) := ⟨by rw [hz]; exact HY.out, hz⟩
        dsimp only
        rw [hzz]
        clear hz
        obtain ⟨y0, y1, y2, y3, y4⟩ := T8.out.box.five
        have fz := T8.out.box.free
        have ltD := T8.out.box.1
        go_upto_region 17 with fail
        have T9 : Hid (TS w2 (((((w8.setCell ⟨D, 0, none⟩ (.string s2)).setCell ⟨D, 1, none⟩ (.int .i64 (z : Int))).setCell ⟨D, 2, none⟩ (.int .i64 262144)).setCell ⟨D, 3, none⟩ (.bool false)).setCell ⟨D, 4, none⟩ (.int .i64 (-1))) D s2 z) := T8.out.put HS2.out.2.1 (by have := HZ.out.2; omega)
        obtain ⟨w9, hw9⟩ : ∃ w9, w9 = (((((w8.setCell ⟨D, 0, none⟩ (.string s2)).setCell ⟨D, 1, none⟩ (.int .i64 (z : Int))).setCell ⟨D, 2, none⟩ (.int .i64 262144)).setCell ⟨D, 3, none⟩ (.bool false)).setCell ⟨D, 4, none⟩ (.int .i64 (-1))) := ⟨_, rfl⟩
        rw [← hw9] at T9 ⊢
        clear hw9 y0 y1 y2 y3 y4 fz ltD T8
        obtain ⟨y0, y1, y2, y3, y4⟩ := T9.out.box.five
        go_wp2
        go_roundw
        case rel => exact ⟨j + 1, z, s2, hlt, by go_num, by first | rfl | rw [hzz], HS2.out.1, HZ.out.1, T9.out⟩
        case measure =>
          simp only [intOf]
          exact arJ2 hlt
      · have HY : Hid (y = (fl.take (min (j + 1) k)).flatten.length) := by
          have h1 := HN.out.2.2.2
          show _ = _
          rw [show min (j + 1) k = min j k by omega]
          exact HS.out.2
        go_wp2
        go_roundw
        case rel => exact ⟨j + 1, y, s2, hlt, by go_num, rfl, HS2.out.1, HY.out, T7.out⟩
        case measure =>
          simp only [intOf]
          exact arJ2 hlt
    · have q1 : ¬ (j : Int) < (n : Int) := by omega
      have hjn : j = n := by omega
      subst hjn
      have HSF : Hid (s = Go.Proofs.YtlafdlcpelkdpaaGreatDoor.bs fl.flatten ∧ s.size = fl.flatten.length) := by
        have e : s = Go.Proofs.YtlafdlcpelkdpaaGreatDoor.bs fl.flatten := by rw [HS.out.1, List.take_of_length_le (by rw [← HN.out.2.2.1]; exact Nat.le_refl _)]
        exact ⟨e, by rw [e, bs_size]⟩
      obtain ⟨y0, y1, y2, y3, y4⟩ := T.out.box.five
      go_wp2_with fail
      refine Calls.mono (Ds.crash11_yes s (y : Int) 262144 (-1) kp false _ T.out.ok) ?_
      rintro e w4 ⟨s', cn, rfl, hs', hcn, hb4⟩
      obtain ⟨ct, hct⟩ : ∃ ct : Nat, (Ds.keptM s (y : Int) kp) = (ct : Int) := ⟨(Ds.keptM s (y : Int) kp).toNat, by have := T.out.sync; unfold Ds.keptM; omega⟩
      have HCT : Hid (y ≤ ct ∧ ct ≤ s.size ∧ (¬ kp < (s.size : Int) - (y : Int) → ct = s.size)) := by
        have h1 := T.out.sync
        unfold Ds.keptM at hct
        exact ⟨by omega, by omega, by omega⟩
      rw [hct] at hs' hcn
      rw [Int.toNat_natCast] at hs'
      subst hcn
      have T4 : Hid (TS w2 w4 D s y) := T.out.call hb4
      have HSS : Hid (s' = Go.Proofs.YtlafdlcpelkdpaaGreatDoor.bs (fl.flatten.take ct) ∧ s'.size = ct) := by
        have e : s' = Go.Proofs.YtlafdlcpelkdpaaGreatDoor.bs (fl.flatten.take ct) := by
          rw [hs', HSF.out.1]
          refine Jn.ba_ext ?_
          rw [Jn.ext_list]
          rfl
        refine ⟨e, ?_⟩
        rw [e, bs_size, List.length_take]
        have := HCT.out.2.1
        have := HSF.out.2
        omega
      clear hb4 hs' hct y0 y1 y2 y3 y4 T
      go_upto_region 20 with fail
      obtain ⟨w5, hw5⟩ : ∃ w5, w5 = w4.alloc (.cells #[.string s', .int .i64 (ct : Int), .int .i64 262144, .bool false, .int .i64 (-1)] 27) := ⟨_, rfl⟩
      obtain ⟨E, hE⟩ : ∃ E, E = w4.heap.size := ⟨_, rfl⟩
      have T5 : Hid (TS w2 w5 D s y ∧ Ds.Box w5 E #[.string s', .int .i64 (ct : Int), .int .i64 262144, .bool false, .int .i64 (-1)] 27) := by
        rw [hw5, hE]
        exact ⟨T4.out.call (below_new _ _), Ds.Box.new _ _ _⟩
      rw [← hw5, ← hE]
      clear hw5 hE T4
      obtain ⟨y0, y1, y2, y3, y4⟩ := T5.out.2.five
      have HOK : Hid (Ds.okB s' (ct : Int) 262144 = true) := by
        have h1 := T5.out.1.fits
        have h2 := HCT.out.2.1
        have h3 := HSS.out.2
        exact Ds.ok_of ⟨by omega, by omega, by omega, by omega, by omega⟩
      go_wp2_with fail
      refine Calls.mono (Ds.read14_yes s' (ct : Int) 262144 (-1) _ HOK.out) ?_
      rintro e w6 ⟨rfl, hb6⟩
      have T6 : Hid (TS w2 w6 D s y) := T5.out.1.call hb6
      clear hb6 T5 y0 y1 y2 y3 y4
      obtain ⟨q, hq1, hq2, hq3⟩ := Jn.whole_at fl ct
      have HKQ : Hid (min j k ≤ q) := Jn.whole_ge (by have := HN.out.2.2.1; omega) hq3 (by rw [← HS.out.2]; exact HCT.out.1)
      have HFRS : Hid (Jn.frs s' = (bs.take q).map Jn.btext ∧ s'.size ≤ 140737488351232) := by
        refine ⟨?_, by have := T6.out.fits; have := HCT.out.2.1; have := HSS.out.2; omega⟩
        rw [HSS.out.1, HN.out.2.1]
        refine Jn.torn bs ct q (by have := HN.out.2.2.1; have := HN.out.1; omega) (by rw [← HN.out.2.1]; exact hq2) (fun _ f hf => ?_)
        rw [← HN.out.2.1] at hf ⊢
        exact hq3 f hf
      have HTP : Hid (Jn.Took ((bs.take q).map Jn.btext) (bs.take q)) := by have h := HTK.out.pre q; rw [← List.map_take] at h; exact h
      obtain ⟨tt, htt⟩ : ∃ tt, tt = (fl.take q).flatten.length := ⟨_, rfl⟩
      have HTOT : Hid (Jn.total ((bs.take q).map Jn.btext) = tt) := by show _ = _; rw [Jn.total_fms, Jn.fms_take, ← HN.out.2.1, htt]
      have HTY : Hid (y ≤ tt) := by
        have h := Jn.fl_mono fl HKQ.out
        rw [← HS.out.2, ← htt] at h
        exact h
      have HQN : Hid (q ≤ j ∧ (ct = s.size → q = j)) := by
        have h1 := HN.out.2.2.1
        refine ⟨by omega, fun e => ?_⟩
        have h2 : j ≤ q := by
          refine Jn.whole_ge (by omega) hq3 ?_
          rw [List.take_of_length_le (by omega), ← HSF.out.2, e]
          exact Nat.le_refl _
        omega
      clear hq1 hq2 hq3 htt
      go_wp2_with fail
      have HW6 := HWW.out w6 T6.out.below
      refine Calls.mono (scan_c s' HFRS.out.2 _ (HU.out _ HW6) (HK.out _ HW6)) ?_
      rintro e w7 ⟨hb7, ts2, bs2, lv2, hT2, hp2, he2, rfl, hrow2⟩
      rw [HFRS.out.1] at hp2 he2
      obtain ⟨e1, e3⟩ := Jn.again HTP.out hT2 hp2 he2
      subst e1 e3
      have T7 : Hid (TS w2 w7 D s y) := T6.out.call hb7
      have HV7 : Hid (∀ W, Below w7.heap.size w7 W → BV W lv2 (bs.take q)) := fun W hW => (BV.of hrow2).call hW
      rw [HTOT.out]
      clear hb7 hT2 hp2 he2 hrow2 HW6 T6
      obtain ⟨la, lc, rfl⟩ : ∃ a c, lv2 = .slice a q c := by
        obtain ⟨a, c, e, _⟩ := HV7.out w7 (Below.refl _ _)
        rw [List.length_take, Nat.min_eq_left (by have := HQN.out.1; have := HN.out.1; omega)] at e
        exact ⟨a, c, e⟩
      have c1 : ¬ (tt : Int) < (y : Int) := by have := HTY.out; omega
      have c2 : ¬ (j : Int) < (q : Int) := by have := HQN.out.1; omega
      have c3 : ¬ (q : Int) < min (max sy 0) (j : Int) := by have := HKQ.out; have := HN.out.2.2.2; omega
      have c4 : ¬ (q : Int) > (j : Int) := c2
      have hq20 : q ≤ 20 := by have := HQN.out.1; omega
      have HST : Hid (y ≤ s.size ∧ s.size ≤ 262144) := ⟨T7.out.sync, T7.out.fits⟩
      go_wp2
      go_loopw [111] (fun i wr => ∃ p : Nat, p ≤ q ∧ i = .int .i64 (p : Int) ∧ Below w7.heap.size w7 wr) (fun i _ => q - (intOf i).toNat)
      case atStart => exact ⟨0, Nat.zero_le _, rfl, Below.refl _ _⟩
      case round =>
        obtain ⟨wb, rfl⟩ : ∃ wb, wb = wr := ⟨_, rfl⟩
        obtain ⟨p, hp, rfl, hbp⟩ := hrel
        have HB8 : Hid (Below w7.heap.size w7 wb) := hbp
        have T8 : Hid (TS w2 wb D s y) := T7.out.call HB8.out
        clear hbp
        by_cases hpq : p < q
        · have q2 : (p : Int) < (q : Int) := by omega
          have q3 : (p : Int) < (j : Int) := by have := HQN.out.1; omega
          obtain ⟨b, hb⟩ : ∃ b, bs[p]? = some b := ⟨_, List.getElem?_eq_getElem (by have := HN.out.1; omega)⟩
          obtain ⟨hbe, _, _, _⟩ := HTK.out.at p b hb
          obtain ⟨a1', c1', e1, k1⟩ := HBV.out wb T8.out.below
          rw [← HN.out.1] at e1 k1
          injection e1 with e1 _ e3
          subst e1 e3
          obtain ⟨g1, rfl, hg1, hc1⟩ := k1 (by omega)
          obtain ⟨sa, sn, sc, ra, rn, rc, B1⟩ := hc1 p b hb
          obtain ⟨a2', c2', e2, k2⟩ := HV7.out wb HB8.out
          have hlq : (bs.take q).length = q := by rw [List.length_take]; have := HQN.out.1; have := HN.out.1; omega
          rw [hlq] at e2 k2
          injection e2 with e2 _ e3
          subst e2 e3
          obtain ⟨g2, rfl, hg2, hc2⟩ := k2 (by omega)
          obtain ⟨ta, tn, tc, ua, un, uc, B2⟩ := hc2 p b (by rw [List.getElem?_take_of_lt hpq]; exact hb)
          obtain ⟨bq, hbq⟩ : ∃ bq : Int, bq = (b.seq : Int) := ⟨_, rfl⟩
          obtain ⟨bp, hbp⟩ : ∃ bp, bp = b.prev := ⟨_, rfl⟩
          obtain ⟨br, hbr⟩ : ∃ br, br = b.root := ⟨_, rfl⟩
          have HBA : Hid (∀ W, Below wb.heap.size wb W → BAt W g1 p b sa sn sc ra rn rc ∧ BAt W g2 p b ta tn tc ua un uc) := fun W hW => ⟨B1.call hg1 hW, B2.call hg2 hW⟩
          have HBQ : Hid (bq = (b.seq : Int) ∧ bp = b.prev ∧ br = b.root ∧ Jn.berr b = 0) := ⟨hbq, hbp, hbr, hbe⟩
          have d0 := B2.c0
          have d1 := B2.c1
          have d2 := B2.c2
          have d3 := B2.c3
          have d4 := B2.c4
          rw [← hbq] at d0
          rw [← hbp] at d1
          rw [← hbr] at d2
          clear hc1 hc2 hb B1 B2 k1 k2 hbe hbq hbp hbr hlq
          go_upto_region 27 with fail
          obtain ⟨w8, hw8⟩ : ∃ w8, w8 = wb.alloc (.cells #[.int .u64 bq, .string bp, .string br, .slice ta tn tc, .slice ua un uc] 32) := ⟨_, rfl⟩
          obtain ⟨Q, hQ⟩ : ∃ Q, Q = wb.heap.size := ⟨_, rfl⟩
          have V8 : Hid (Ds.Box w8 Q #[.int .u64 bq, .string bp, .string br, .slice ta tn tc, .slice ua un uc] 32 ∧ Below wb.heap.size wb w8) := by rw [hw8, hQ]; exact ⟨Ds.Box.new _ _ _, below_new _ _⟩
          rw [← hw8, ← hQ]
          clear hw8 hQ d0 d1 d2 d3 d4 hg1 hg2
          have HPB : Hid (∀ pp : BelowOf w8.heap.size w8, Below wb.heap.size wb pp.W) := fun pp => V8.out.2.trans (pp.h.mono V8.out.2.size)
          have HC1 : Hid (∀ pp : BelowOf w8.heap.size w8, Ds.Box pp.W Q #[.int .u64 bq, .string bp, .string br, .slice ta tn tc, .slice ua un uc] 32) := fun pp => V8.out.1.call pp.h
          have HC2 : Hid (∀ pp : BelowOf w8.heap.size w8, BAt pp.W g1 p b sa sn sc ra rn rc) := fun pp => (HBA.out _ (HPB.out pp)).1
          have CSH : Hid (∀ pp : BelowOf w8.heap.size w8, Calls Tryz.prog 11 #[.agg #[.int .u64 bq, .string bp, .string br, .slice ta tn tc, .slice ua un uc], .agg #[.int .u64 bq, .string bp, .string br, .slice sa sn sc, .slice ra rn rc]] pp.W fun e w'' => e = .returned (.bool true) ∧ ∃ q : BelowOf w8.heap.size w8, w'' = q.W) := fun pp => by
            have hw : Below w.heap.size w pp.W := HWW.out _ (T8.out.below.trans ((HPB.out pp).mono T8.out.below.size))
            have h := sameHead_c b HBQ.out.2.2.2 ta tn tc ua un uc sa sn sc ra rn rc pp.W (HU.out _ hw) (HK.out _ hw) (HBA.out _ (HPB.out pp)).2.bk (HBA.out _ (HPB.out pp)).1.bk
            rw [← HBQ.out.1, ← HBQ.out.2.1, ← HBQ.out.2.2.1] at h
            exact below_call pp (Nat.le_refl _) h
          have d0 := fun pp => (HC1.out pp).five.1
          have d1 := fun pp => (HC1.out pp).five.2.1
          have d2 := fun pp => (HC1.out pp).five.2.2.1
          have d3 := fun pp => (HC1.out pp).five.2.2.2.1
          have d4 := fun pp => (HC1.out pp).five.2.2.2.2
          have f0 := fun pp => (HC2.out pp).c0
          have f1 := fun pp => (HC2.out pp).c1
          have f2 := fun pp => (HC2.out pp).c2
          have f3 := fun pp => (HC2.out pp).c3
          have f4 := fun pp => (HC2.out pp).c4
          rw [← HBQ.out.1] at f0
          rw [← HBQ.out.2.1] at f1
          rw [← HBQ.out.2.2.1] at f2
          refine wp_region_below w8.heap.size w8 (Below.refl _ _) (by kernel_rfl) (by kernel_rfl) ?_
          repeat (go_big_quiet_step ((go_at_call 11; exact CSH.out _)))
          refine wpQuiet_nil ?_
          intro _ hw'
          obtain ⟨pq, hw''⟩ := hw'
          subst hw''
          have HB9 : Hid (Below w7.heap.size w7 pq.W) := HB8.out.trans ((HPB.out pq).mono HB8.out.size)
          clear d0 d1 d2 d3 d4 f0 f1 f2 f3 f4 HC1 HC2 CSH
          go_wp2
          go_roundw
          case rel => first | exact ⟨p + 1, hpq, by go_num, HB9.out⟩ | ((repeat apply Exists.intro); exact ⟨⟨p + 1, hpq, by go_num, HB9.out⟩, rfl⟩)
          case measure =>
            simp only [intOf]
            exact arJ2 hpq
        · have q2 : ¬ (p : Int) < (q : Int) := by omega
          obtain ⟨y0, y1, y2, y3, y4⟩ := T8.out.box.five
          have HF8 := HWW.out wb T8.out.below
          obtain ⟨z, hz⟩ : ∃ z : Nat, z = s.size := ⟨_, rfl⟩
          have hzs : (s.size : Int) = (z : Int) := by rw [hz]
          have hzb : z ≤ 262144 := by rw [hz]; exact HST.out.2
          have hyz : y ≤ z := by rw [hz]; exact HST.out.1
          have HCZ : Hid (¬ kp < (z : Int) - (y : Int) → q = j) := fun h => HQN.out.2 (HCT.out.2.2 (by omega))
          clear hz
          by_cases hkp : kp < (z : Int) - (y : Int)
          · go_wp2
            go_ret
            exact ⟨rfl, HF8⟩
          · have e9 := HCZ.out hkp
            subst e9
            go_wp2
            go_ret
            exact ⟨rfl, HF8⟩
end Go.Proofs.YtlafdlcpelkdpaaGreatDoor
/- Lists of revisions handed in, opened; as many as there may be. -/
namespace Go.Proofs.YtlafdlcpelkdpaaGreatDoor
open Go.ChangeShapes Go.WideShapes Go.ChangeAt Go.RowKit
open Vl (V)
theorem cellsRevs : Tryz.prog.cellsOf 30 = 1 := by kernel_rfl
set_option maxRecDepth 100000 in
theorem open_revsl {H : Type} {enc : TypeId × Value → H} {W : World} {r : Reach} {b0 base : Nat} {sp : Nat → Bool} {held : Bool} {v : Value} {d : DataW H} {p : List MemPlace}
    (hv : Value.okWide Tryz.prog W r b0 22 v) (h : DataW.Trod enc Tryz.prog W base sp held 22 v d p) : ∃ ll : List (List Jn.R), LL W v ll ∧ ll.length ≤ 9223372036854775807 := by
  obtain ⟨a0, len0, cap0, rfl⟩ := okWide_slice Tryz.underlying22 hv
  obtain ⟨fuel, hf⟩ := h
  rcases DataW.trod_slice Tryz.underlying22 hf with ⟨hc, _⟩ | ⟨a, len, cap, elems, rest, q, hq, hc, hx, _, hlc, hcm, hel, he, _, _⟩
  · simp [Value.cells] at hc
    obtain ⟨rfl, rfl, rfl⟩ := hc
    exact ⟨[], ⟨none, 0, rfl, fun h => by simp at h⟩, Nat.zero_le _⟩
  · simp [Value.cells] at hc
    obtain ⟨rfl, rfl, rfl⟩ := hc
    rw [cellsRevs] at he
    have hbk : len0 ≤ 9223372036854775807 := by have h9 : len0 ≤ maxLen := by omega
                                                unfold maxLen at h9; omega
    have key : ∀ i, i < len0 → ∃ cs', W.cells? base (a.add (i * 1)) 1 = some cs' ∧ ∃ y, DataW.trod enc Tryz.prog W base sp held q 30 cs' = some y := fun i hi => by
      have h1 := he i hi
      rw [List.getElem?_eq_getElem (by omega)] at h1
      obtain ⟨cs', h2, h3⟩ := Option.bind_eq_some_iff.1 h1
      exact ⟨cs', h2, _, h3⟩
    by_cases hlen : 0 < len0
    · obtain ⟨cs0, hc0, _⟩ := key 0 hlen
      rw [Nat.zero_mul] at hc0
      obtain ⟨g, o, rfl, hg⟩ := spot_none hc0 (by omega)
      have part : ∀ i, i < len0 → ∃ revs : List Jn.R, ∃ ra rn rc, W.cell? ⟨g, o + i, none⟩ = some (.slice ra rn rc) ∧ RV1 W W.heap.size ra rn revs := fun i hi => by
        obtain ⟨cs', h2, y, h3⟩ := key i hi
        obtain ⟨_, hl1, hcell⟩ := World.cells?_some h2
        rw [Addr.add_mid] at hcell
        obtain ⟨x, rfl⟩ : ∃ x, cs' = [x] := by
          match cs', hl1 with
          | [x], _ => exact ⟨x, rfl⟩
        obtain ⟨l, ao, lc, rfl, k1, k2⟩ := open_revs h3
        have h4 := hcell 0 (by omega)
        rw [Addr.add_mid, Nat.mul_one, Nat.add_zero] at h4
        exact ⟨l, ao, l.length, lc, h4, rfl, k1, k2⟩
      obtain ⟨l, hll, hp⟩ := gather len0 part
      subst hll
      exact ⟨l, ⟨_, _, rfl, fun _ => ⟨g, o, rfl, hg, hp⟩⟩, hbk⟩
    · have h0 : len0 = 0 := by omega
      subst h0
      exact ⟨[], ⟨_, _, rfl, fun h => by simp at h⟩, Nat.zero_le _⟩
end Go.Proofs.YtlafdlcpelkdpaaGreatDoor
