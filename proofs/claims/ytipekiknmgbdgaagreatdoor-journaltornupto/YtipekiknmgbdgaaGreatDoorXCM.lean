/- Several texts, joined: JnCm, JnCa, MkAs, JnCh -/
import Derived.Test.YtipekiknmgbdgaaGreatDoorQKM
import Derived.Test.YtipekiknmgbdgaaGreatDoorXEM
import Derived.Test.YtipekiknmgbdgaaGreatDoorJIM
import Derived.Test.YtipekiknmgbdgaaGreatDoorJMM
import Derived.Deep.Upon
/- Blocks that are read out of bytes, once and again: plain mathematics. -/
namespace Go.Proofs.YtipekiknmgbdgaaGreatDoor
open Go.RowKit
open Vl (V)
namespace Jn
theorem cnt_unc (l : List UInt8) (h : l.length = 4) : cnt (unc l) = l := by
  match l, h with
  | [a, b, c, d], _ =>
    have ha := UInt8.toNat_lt a
    have hb := UInt8.toNat_lt b
    have hc := UInt8.toNat_lt c
    have hd := UInt8.toNat_lt d
    have e : ∀ (k : Nat) (x : UInt8), low (unc [a, b, c, d]) k = x.toNat → UInt8.ofNat (low (unc [a, b, c, d]) k) = x := fun k x hx => by rw [hx]; simp
    have u : unc [a, b, c, d] = a.toNat + 256 * (b.toNat + 256 * (c.toNat + 256 * (d.toNat + 256 * 0))) := rfl
    rw [cnt, e 0 a (by rw [u, low]; omega), e 1 b (by rw [u, low]; omega), e 2 c (by rw [u, low]; omega), e 3 d (by rw [u, low]; omega)]
theorem ff_aux (S : ByteArray → ByteArray → ByteArray) {s t : ByteArray} (hsz : 12 + t.size ≤ s.size) (h : (if s.size < 12 then none
  else if (min (s.size - 12) 16384) < unc (s.extract 0 4).data.toList then none
  else if S (s.extract 0 4) ((s.extract 12 s.size).extract 0 (unc (s.extract 0 4).data.toList)) = s.extract 4 12 then some ((s.extract 12 s.size).extract 0 (unc (s.extract 0 4).data.toList))
  else none) = some t) : s = ((bs (cnt t.size) ++ S (bs (cnt t.size)) t) ++ t) ++ s.extract (12 + t.size) s.size := by
  by_cases h12 : s.size < 12
  · rw [if_pos h12] at h; cases h
  rw [if_neg h12] at h
  by_cases hmin : (min (s.size - 12) 16384) < unc (s.extract 0 4).data.toList
  · rw [if_pos hmin] at h; cases h
  rw [if_neg hmin] at h
  by_cases hseal : S (s.extract 0 4) ((s.extract 12 s.size).extract 0 (unc (s.extract 0 4).data.toList)) = s.extract 4 12
  · rw [if_pos hseal] at h
    replace h := Option.some.inj h
    obtain ⟨c, hc⟩ : ∃ c, c = s.extract 0 4 := ⟨_, rfl⟩
    rw [← hc] at h hseal hmin
    rw [h] at hseal
    have hcs : c.size = 4 := by rw [hc, ByteArray.size_extract]; omega
    have hcl : c.data.toList.length = 4 := by rw [← Lib.size_eq]; exact hcs
    have hts : t.size = unc c.data.toList := by rw [← h, ByteArray.size_extract, ByteArray.size_extract]; omega
    have hcc : bs (cnt t.size) = c := ba_ext (by rw [hts, cnt_unc _ hcl])
    rw [hcc, hseal]
    refine ba_ext ?_
    have htl : t.data.toList = ((s.data.toList.drop 12).take (s.size - 12)).take (t.size - 0) := by
      have h3 := congrArg (fun x : ByteArray => x.data.toList) h
      simp only [ext_list] at h3
      rw [← h3, ← hts, List.drop_zero]
    rw [app_list, app_list, app_list, hc, htl]
    simp only [ext_list]
    have hl : s.data.toList.length = s.size := by rw [← Lib.size_eq]
    obtain ⟨l, hle⟩ : ∃ l, l = s.data.toList := ⟨_, rfl⟩
    rw [← hle] at hl ⊢
    rw [List.drop_zero, List.take_take]
    have e1 : l.drop (12 + t.size) = (l.drop 12).drop t.size := by rw [List.drop_drop]
    rw [e1, List.take_of_length_le (l := (l.drop 12).drop t.size) (by rw [List.length_drop, List.length_drop]; omega)]
    rw [show min (t.size - 0) (s.size - 12) = t.size by omega, List.append_assoc, List.append_assoc, List.take_append_drop]
    have e2 : l.drop 4 = (l.drop 4).take 8 ++ (l.drop 4).drop 8 := (List.take_append_drop _ _).symm
    rw [List.drop_drop] at e2
    have e3 : l = l.take 4 ++ l.drop 4 := (List.take_append_drop _ _).symm
    rw [e2] at e3
    exact e3
  · rw [if_neg hseal] at h; cases h
/-- bytes that begin with a frame are its bytes and the rest -/
theorem ff_back {s t : ByteArray} (h : ff s = some t) : s = frameOf t ++ s.extract (12 + t.size) s.size := by
  have hsz := ff_size h
  rw [ff] at h
  rw [frameOf]
  exact ff_aux sealOf hsz h
/-- of the bytes of the first frames alone these are read -/
theorem frs_prefix : ∀ (ts : List ByteArray) (s : ByteArray), ts <+: frs s → frs (s.extract 0 (total ts)) = ts
  | [], s, _ => by
    refine frs_short _ ?_
    rw [ByteArray.size_extract]
    show min (0 : Nat) s.size - 0 < 12
    omega
  | t :: ts, s, h => by
    cases hf : ff s with
    | none =>
      rw [frs_none hf] at h
      have := h.length_le
      simp at this
    | some t' =>
      rw [frs_some hf] at h
      obtain ⟨rfl, h2⟩ := List.cons_prefix_cons.1 h
      have ih := frs_prefix ts _ h2
      have hs := ff_back hf
      have htot := total_prefix h2
      obtain ⟨r, hr⟩ : ∃ r, r = s.extract (12 + t.size) s.size := ⟨_, rfl⟩
      rw [← hr] at ih hs htot
      have e : s.extract 0 (total (t :: ts)) = frameOf t ++ r.extract 0 (total ts) := by
        refine ba_ext ?_
        rw [app_list, ext_list, ext_list, hs, app_list]
        have hfl : (frameOf t).data.toList.length = 12 + t.size := by rw [← Lib.size_eq]; exact frameOf_size t
        rw [List.drop_zero, List.drop_zero, List.take_append, hfl]
        have ht : total (t :: ts) = 12 + t.size + total ts := by simp [total]
        rw [ht, List.take_of_length_le (by rw [hfl]; omega)]
        congr 2
        omega
      rw [e, frs_frame t _ (ff_small hf), ih]
theorem snoc_inj {α : Type} {a b : List α} {x y : α} (h : a ++ [x] = b ++ [y]) : a = b ∧ x = y := by
  have := List.append_inj' h rfl
  exact ⟨this.1, by simpa using this.2⟩
/-- the same texts are the same blocks -/
theorem Took.same {ts : List ByteArray} {bs : List B} (h : Took ts bs) : ∀ {bs' : List B}, Took ts bs' → bs = bs' := by
  induction h with
  | none =>
    intro bs' h'
    have := h'.len
    simp at this
    exact (List.eq_nil_of_length_eq_zero this.symm).symm
  | more h1 h2 h3 h4 h5 ih =>
    intro bs' h'
    generalize he : (_ ++ [_] : List ByteArray) = l at h'
    cases h' with
    | none => simp at he
    | more k1 k2 k3 k4 k5 =>
      obtain ⟨e1, e2⟩ := snoc_inj he
      subst e1
      rw [ih k1, btext_inj h2 k2 h3 k3 e2]
/-- the first of them -/
theorem Took.cut {ts : List ByteArray} {bs : List B} (h : Took ts bs) : ∀ {pre : List ByteArray} {x : ByteArray}, pre ++ [x] <+: ts → ∃ bs' b, Took pre bs' ∧ berr b = 0 ∧ rngB b ∧ btext b = x ∧ b.seq = bs'.length + 1 ∧ b.prev = prevOf bs' := by
  induction h with
  | none =>
    intro pre x hp
    have := hp.length_le
    simp at this
  | more h1 h2 h3 h4 h5 ih =>
    intro pre x hp
    rcases List.prefix_concat_iff.1 hp with h | h
    · obtain ⟨e1, e2⟩ := snoc_inj h
      subst e1
      exact ⟨_, _, h1, h2, h3, e2.symm, h4, h5⟩
    · exact ih h
/-- what is read of the bytes of frames that were read -/
theorem again {ts ts2 : List ByteArray} {bs bs2 : List B} (h : Took ts bs) (h2 : Took ts2 bs2) (hp : ts2 <+: ts) (he : ts2 = ts ∨ ∃ x, ts2 ++ [x] <+: ts ∧ Ends bs2 x) : ts2 = ts ∧ bs2 = bs := by
  rcases he with rfl | ⟨x, hx, hE⟩
  · exact ⟨rfl, h2.same h⟩
  · exfalso
    obtain ⟨bs', b, k1, k2, k3, k4, k5, k6⟩ := h.cut hx
    have e := k1.same h2
    subst e
    exact hE b k2 k3 k4 k5 k6
theorem Took.at {ts : List ByteArray} {bs : List B} (h : Took ts bs) : ∀ (i : Nat) (b : B), bs[i]? = some b → berr b = 0 ∧ rngB b ∧ b.seq = i + 1 ∧ b.prev = prevOf (bs.take i) := by
  induction h with
  | none => intro i b hb; simp at hb
  | @more ts bs b0 h1 h2 h3 h4 h5 ih =>
    intro i b hb
    by_cases hi : i < bs.length
    · rw [List.getElem?_append_left hi] at hb
      obtain ⟨k1, k2, k3, k4⟩ := ih i b hb
      exact ⟨k1, k2, k3, by rw [k4, List.take_append_of_le_length (by omega)]⟩
    · rw [List.getElem?_append_right (by omega)] at hb
      have h0 : i - bs.length = 0 := by
        have := (List.getElem?_eq_some_iff.1 hb).1
        simpa using this
      rw [h0] at hb
      simp only [List.getElem?_cons_zero, Option.some.injEq] at hb
      subst hb
      have hie : i = bs.length := by omega
      subst hie
      exact ⟨h2, h3, h4, by rw [h5, List.take_left]⟩
theorem prevOf_take {bs : List B} {i : Nat} {b : B} (h : bs[i]? = some b) : prevOf (bs.take (i + 1)) = digest (headOf b) := by
  rw [List.take_add_one, h]
  exact prevOf_snoc _ _
end Jn
end Go.Proofs.YtipekiknmgbdgaaGreatDoor
/- Blocks in a row, as they are looked at; the document's SameAll of blocks that are the same. -/
namespace Go.Proofs.YtipekiknmgbdgaaGreatDoor
open Go.RowKit
open Vl (V)
attribute [local go_sem ↓] Go.wp_at_zero Go.wp_at_succ
/-- a block in a row -/
structure BAt (W : World) (g j : Nat) (b : Jn.B) (sa : Option Addr) (sn sc : Nat) (ra : Option Addr) (rn rc : Nat) : Prop where
  c0 : W.cell? ⟨g, j * 5, none⟩ = some (.int .u64 (b.seq : Int))
  c1 : W.cell? ⟨g, j * 5 + 1, none⟩ = some (.string b.prev)
  c2 : W.cell? ⟨g, j * 5 + 2, none⟩ = some (.string b.root)
  c3 : W.cell? ⟨g, j * 5 + 3, none⟩ = some (.slice sa sn sc)
  c4 : W.cell? ⟨g, j * 5 + 4, none⟩ = some (.slice ra rn rc)
  bk : Bk W W.heap.size b sa sn sc ra rn rc
theorem BAt.call {W W' : World} {g j : Nat} {b : Jn.B} {sa : Option Addr} {sn sc : Nat} {ra : Option Addr} {rn rc : Nat} (h : BAt W g j b sa sn sc ra rn rc) (hg : g < W.heap.size) (hb : Below W.heap.size W W') : BAt W' g j b sa sn sc ra rn rc :=
  ⟨(hb.cell (p := ⟨g, _, none⟩) hg).trans h.c0, (hb.cell (p := ⟨g, _, none⟩) hg).trans h.c1, (hb.cell (p := ⟨g, _, none⟩) hg).trans h.c2, (hb.cell (p := ⟨g, _, none⟩) hg).trans h.c3, (hb.cell (p := ⟨g, _, none⟩) hg).trans h.c4, h.bk.stays hb hb.size⟩
/-- blocks in a row -/
def BV (W : World) (v : Value) (bs : List Jn.B) : Prop := ∃ a c, v = .slice a bs.length c ∧ (0 < bs.length → ∃ g, a = some ⟨g, 0, none⟩ ∧ g < W.heap.size ∧ ∀ j b, bs[j]? = some b → ∃ sa sn sc ra rn rc, BAt W g j b sa sn sc ra rn rc)
theorem BV.call {W W' : World} {v : Value} {bs : List Jn.B} (h : BV W v bs) (hb : Below W.heap.size W W') : BV W' v bs := by
  obtain ⟨a, c, e, h1⟩ := h
  refine ⟨a, c, e, fun hp => ?_⟩
  obtain ⟨g, e2, hg, hc⟩ := h1 hp
  refine ⟨g, e2, Nat.lt_of_lt_of_le hg hb.size, fun j b hj => ?_⟩
  obtain ⟨sa, sn, sc, ra, rn, rc, h2⟩ := hc j b hj
  exact ⟨sa, sn, sc, ra, rn, rc, h2.call hg hb⟩
theorem own_cellsJ {W : World} {B n size : Nat} {t : TypeId} {v : Value} {L : List Value} (hn : 0 < n) (h : W.ownsRow B t size v n L) : ∃ g cap, v = .slice (some ⟨g, 0, none⟩) n cap ∧ g < W.heap.size ∧ ∀ (j : Nat) (u : Value), L[j]? = some u → W.cell? ⟨g, j, none⟩ = some u := by
  have hL := h.1
  rcases h.2 with ⟨_, h1⟩ | ⟨g, cap, cur, rfl, hb, hrow, _, _, _, htk⟩
  · omega
  · refine ⟨g, cap, rfl, (Array.getElem?_eq_some_iff.1 hrow).1, fun j u hu => ?_⟩
    rw [cell_of_row _ _ _ _ _ _ hrow]
    have hj : j < n * size := by have := (List.getElem?_eq_some_iff.1 hu).1; omega
    rw [← htk, List.getElem?_take_of_lt (by omega), Array.getElem?_toList] at hu
    exact hu
theorem BV.of {W : World} {n₀ : Nat} {lv : Value} {bs : List Jn.B} (h : BlkRow W n₀ lv bs) : BV W lv bs := by
  obtain ⟨cs, ho, hl, hc⟩ := h
  obtain ⟨a, c, e⟩ := own_slc ho
  refine ⟨a, c, e, fun hp => ?_⟩
  obtain ⟨g, cap, e2, hg, hcell⟩ := own_cellsJ hp ho
  rw [e] at e2
  injection e2 with e2 _ _
  refine ⟨g, e2, hg, fun j b hj => ?_⟩
  obtain ⟨sv, rv, A, k1, k2, _⟩ := hc j b hj
  obtain ⟨sa, sc, es⟩ := own_slc k2.row3
  obtain ⟨cs4, k4, _⟩ := k2.row4
  obtain ⟨ra, rc, er⟩ := own_slc k4
  subst es er
  refine ⟨sa, _, sc, ra, _, rc, hcell _ _ (k1 0 _ rfl), hcell _ _ (k1 1 _ rfl), hcell _ _ (k1 2 _ rfl), hcell _ _ (k1 3 _ rfl), hcell _ _ (k1 4 _ rfl), k2.bkn.bk⟩
theorem arJ {j m : Nat} (h : j < m) : m - (((j : Int) + 1)).toNat < m - ((j : Int)).toNat := by omega
set_option maxHeartbeats 8000000 in
set_option maxRecDepth 100000 in
theorem sameAll_c (bs : List Jn.B) (hn : bs.length ≤ 140737488355328) (hst : ∀ b ∈ bs, b.sts.length ≤ 1048576) (v1 v2 : Value) (w : World) (h1 : BV w v1 bs) (h2 : BV w v2 bs) : Calls Tryz.prog 15 #[v1, v2] w fun e w' => e = .returned (.bool true) ∧ Below w.heap.size w w' := by
  have H1 : Hid (∀ W, Below w.heap.size w W → BV W v1 bs) := fun W hW => h1.call hW
  have H2 : Hid (∀ W, Below w.heap.size w W → BV W v2 bs) := fun W hW => h2.call hW
  obtain ⟨a1, c1, rfl, _⟩ := h1
  obtain ⟨a2, c2, rfl, _⟩ := h2
  obtain ⟨m, hm⟩ : ∃ m, m = bs.length := ⟨_, rfl⟩
  have HM : Hid (m = bs.length) := hm
  have HST : Hid (∀ b ∈ bs, b.sts.length ≤ 1048576) := hst
  rw [← hm] at H1 H2 hn
  rw [← hm]
  clear hm hst
  have q0 : ((m : Int) == (m : Int)) = true := beq_self_eq_true _
  have q0b : ((m : Int) != (m : Int)) = false := by rw [bne, q0]; rfl
  go_enter Tryz.func15, Tryz.ntmps15
  go_wp2
  go_loopw [13] (fun i wr => ∃ j : Nat, j ≤ m ∧ i = .int .i64 (j : Int) ∧ Below w.heap.size w wr) (fun i _ => m - (intOf i).toNat)
  case atStart => exact ⟨0, Nat.zero_le _, rfl, Below.refl _ _⟩
  case round =>
    obtain ⟨j, hj, rfl, hbr⟩ := hrel
    have HB : Hid (Below w.heap.size w wr) := hbr
    clear hbr
    by_cases hlt : j < m
    · have q1 : (j : Int) < (m : Int) := by omega
      obtain ⟨a1', c1', e1, k1⟩ := H1.out wr HB.out
      obtain ⟨a2', c2', e2, k2⟩ := H2.out wr HB.out
      rw [HM.out] at e1 e2
      injection e1 with e1 _ _
      injection e2 with e2 _ _
      subst e1 e2
      obtain ⟨g1, rfl, hg1, hc1⟩ := k1 (by rw [← HM.out]; omega)
      obtain ⟨g2, rfl, hg2, hc2⟩ := k2 (by rw [← HM.out]; omega)
      obtain ⟨b, hb⟩ : ∃ b, bs[j]? = some b := ⟨_, List.getElem?_eq_getElem (by rw [← HM.out]; exact hlt)⟩
      obtain ⟨sa, sn, sc, ra, rn, rc, B1⟩ := hc1 j b hb
      obtain ⟨sa', sn', sc', ra', rn', rc', B2⟩ := hc2 j b hb
      have hstb := HST.out b (List.mem_of_getElem? hb)
      have HC1 : Hid (∀ p : BelowOf wr.heap.size wr, BAt p.W g1 j b sa sn sc ra rn rc) := fun p => B1.call hg1 p.h
      have HC2 : Hid (∀ p : BelowOf wr.heap.size wr, BAt p.W g2 j b sa' sn' sc' ra' rn' rc') := fun p => B2.call hg2 p.h
      have CS : Hid (∀ p : BelowOf wr.heap.size wr, Calls Tryz.prog 11 #[.agg #[.int .u64 (b.seq : Int), .string b.prev, .string b.root, .slice sa sn sc, .slice ra rn rc], .agg #[.int .u64 (b.seq : Int), .string b.prev, .string b.root, .slice sa' sn' sc', .slice ra' rn' rc']] p.W fun e w'' => e = .returned (.bool true) ∧ ∃ q : BelowOf wr.heap.size wr, w'' = q.W) := fun p => below_call p (Nat.le_refl _) (sameB_c b sa sn sc ra rn rc sa' sn' sc' ra' rn' rc' p.W hstb (HC1.out p).bk (HC2.out p).bk)
      have d0 := fun p => (HC1.out p).c0
      have d1 := fun p => (HC1.out p).c1
      have d2 := fun p => (HC1.out p).c2
      have d3 := fun p => (HC1.out p).c3
      have d4 := fun p => (HC1.out p).c4
      have f0 := fun p => (HC2.out p).c0
      have f1 := fun p => (HC2.out p).c1
      have f2 := fun p => (HC2.out p).c2
      have f3 := fun p => (HC2.out p).c3
      have f4 := fun p => (HC2.out p).c4
      clear hc1 hc2 hb B1 B2 hg1 hg2 hstb k1 k2
      go_upto_region 6 with fail
      refine wp_region_below wr.heap.size wr (Below.refl _ _) (by kernel_rfl) (by kernel_rfl) ?_
      repeat (go_big_quiet_step ((go_at_call 11; exact CS.out _)))
      refine wpQuiet_nil ?_
      intro _ hw'
      obtain ⟨pq, hw''⟩ := hw'
      subst hw''
      have HB2 : Hid (Below w.heap.size w pq.W) := HB.out.trans (pq.h.mono HB.out.size)
      clear d0 d1 d2 d3 d4 f0 f1 f2 f3 f4 HC1 HC2 CS
      go_wp2
      go_roundw
      case rel => first | exact ⟨j + 1, Nat.succ_le_of_lt hlt, by go_num, HB2.out⟩ | ((repeat apply Exists.intro); exact ⟨⟨j + 1, Nat.succ_le_of_lt hlt, by go_num, HB2.out⟩, rfl⟩)
      case measure =>
        simp only [intOf]
        exact arJ hlt
    · have q1 : ¬ (j : Int) < (m : Int) := by omega
      have HF := HB.out
      go_wp2
      go_ret
      exact ⟨rfl, HF⟩
end Go.Proofs.YtipekiknmgbdgaaGreatDoor
/- Texts that lie anywhere, appended to a row of the call's own. -/
namespace Go.Proofs.YtipekiknmgbdgaaGreatDoor
open Go.RowKit
theorem info9s : (Tryz.prog.info? 9).map (fun i => (i.zero, i.size, i.bytes)) = some (some (.string ⟨#[]⟩), 1, 16) := by kernel_rfl
theorem append_nothing (ao : Option Addr) (cap : Nat) (W : World) (b : Option Addr) (n c : Nat) (hnc : n ≤ c) (ty : TypeId) : (Builtin.append_ #[23, 23] ty #[.slice b n c, .slice ao 0 cap]).run Tryz.prog W = .ok (.slice b n c) W := by
  obtain ⟨i0, hi, hz0, hz1, hz2⟩ := info_parts info9s
  refine run_append_nothing W 23 23 ty 9 i0 Tryz.underlying23 hi _ n c hnc _ ⟨Or.inl ⟨9, Tryz.underlying23⟩, fun w' => ?_, ?_, ?_, by simp, fun u hu => by cases hu⟩
  · simp [Builtin.lenOf]
  · cases ao <;> simp [Builtin.firstCells, loadCells, loadCellsFrom]
  · cases ao <;> simp [Builtin.firstCells, loadCells, loadCellsFrom]
/-- texts that lie anywhere, appended to a row of the call's own -/
theorem wp_append_sl {o : Oper} {a : Act} {w : World} {K : Act → World → Prop} {Q : Exit → Act → World → Prop} (s x : Operand)
    (ho : o.op = .call { callee := .builtin .append, args := #[s, x], argTypes := #[23, 23] }) (base : Nat) (v : Value) (n : Nat) (don : List (List UInt8)) (hs : a.eval s = v) (hown : w.ownsRow base 9 1 v n (scs don))
    (xa : Option Addr) (m c : Nat) (H : Nat) (l : List (List UInt8)) (hx : a.eval x = .slice xa m c) (hS : Sl w H (.slice xa m c) l) (h63 : n + m ≤ 1048576) (hbase : base ≤ w.heap.size)
    (h : ∀ v' w', w'.ownsRow base 9 1 v' (n + m) (scs (don ++ l)) → Below base w w' → K (a.put o.dst v') w') : o.wp Tryz.prog a w K Q := by
  obtain ⟨i0, hi, hz0, hz1, hz2⟩ := info_parts info9s
  rcases Nat.eq_zero_or_pos l.length with h0 | h0
  · have hl : l = [] := List.eq_nil_of_length_eq_zero h0
    subst hl
    have hm : m = 0 := hS.len
    subst hm
    obtain ⟨b, k, hv, hbk⟩ : ∃ b k, v = .slice b n k ∧ n ≤ k := by
      rcases hown.2 with ⟨e, e0⟩ | ⟨g, cap, cur, e, _, _, e4, _⟩
      · subst e0; exact ⟨_, _, e, Nat.le_refl _⟩
      · exact ⟨_, _, e, e4⟩
    have hrun := append_nothing xa c w b n k hbk o.type
    have hk := h v w (by simpa using hown) (Below.refl _ _)
    subst hv
    unfold Oper.wp execOp
    simp only [ho, resolve, invoke, builtin, Sem.run_bind, Sem.run_pure, Result.andThen_ok, List.map_toArray, List.map_cons, List.map_nil, hs, hx, hrun]
    exact hk
  · obtain ⟨b, off, rfl, hm, hb, hc⟩ := hS.at h0
    subst hm
    refine wp_append_own (P := Tryz.prog) w s x 23 ho base 9 i0 (.string ⟨#[]⟩) 1 16 Tryz.underlying23 hi hz0 hz1 hz2 rfl (by decide) v n (scs don) hs hown ⟨b, off, none⟩ l.length c (scs l) hx (by rw [scs_length]; omega) ?_ ?_ (by unfold maxLen; omega) (by omega) hbase ?_
    · intro j u hj
      simp only [scs, List.getElem?_map, Option.map_eq_some_iff] at hj
      obtain ⟨y, hy, rfl⟩ := hj
      have := hc j y hy
      rw [Go.WideShapes.add_plain]; exact this
    · intro u hu
      obtain ⟨y, _, rfl⟩ := List.mem_map.1 hu
      rfl
    · intro v' w' h1 h2 _
      exact h v' w' (by have e : scs (don ++ l) = scs don ++ scs l := by simp [scs]
                        rw [e]; exact h1) ((Below.refl base w).grown h2 hbase (own_le hown))
theorem wpList_append_sl {ops : Array Oper} {rest : List Oper} {o : Oper} {a : Act} {w : World} {Q : Exit → Act → World → Prop} (hgd : o.guard = none) (s x : Operand)
    (ho : o.op = .call { callee := .builtin .append, args := #[s, x], argTypes := #[23, 23] }) (base : Nat) (v : Value) (n : Nat) (don : List (List UInt8)) (hs : a.eval s = v) (hown : w.ownsRow base 9 1 v n (scs don))
    (xa : Option Addr) (m c : Nat) (H : Nat) (l : List (List UInt8)) (hx : a.eval x = .slice xa m c) (hS : Sl w H (.slice xa m c) l) (h63 : n + m ≤ 1048576) (hbase : base ≤ w.heap.size)
    (h : ∀ v' w', w'.ownsRow base 9 1 v' (n + m) (scs (don ++ l)) → Below base w w' → wpList Tryz.prog ops Q rest (a.put o.dst v') w') : wpList Tryz.prog ops Q (o :: rest) a w :=
  wpList_plain hgd fun _ hK => wp_append_sl s x ho base v n don hs hown xa m c H l hx hS h63 hbase fun v' w' h1 h2 => hK _ _ (h v' w' h1 h2)
theorem step_append_sl {ops : Array Oper} {E : Prop} {o : Oper} {a : Act} {w : World} {K : Act → World → Prop} {Q : Exit → Act → World → Prop} (hgd : o.guard = none) (s x : Operand)
    (ho : o.op = .call { callee := .builtin .append, args := #[s, x], argTypes := #[23, 23] }) (base : Nat) (v : Value) (n : Nat) (don : List (List UInt8)) (hs : a.eval s = v) (hown : w.ownsRow base 9 1 v n (scs don))
    (xa : Option Addr) (m c : Nat) (H : Nat) (l : List (List UInt8)) (hx : a.eval x = .slice xa m c) (hS : Sl w H (.slice xa m c) l) (h63 : n + m ≤ 1048576) (hbase : base ≤ w.heap.size)
    (h : ∀ v' w', w'.ownsRow base 9 1 v' (n + m) (scs (don ++ l)) → Below base w w' → K (a.put o.dst v') w') : if Region.wanted o (yielded ops a.tmps) = true then Oper.wp Tryz.prog o a w K Q else E := by
  have hw : Region.wanted o (yielded ops a.tmps) = true := by simp [Region.wanted, hgd]
  rw [if_pos hw]
  exact wp_append_sl s x ho base v n don hs hown xa m c H l hx hS h63 hbase h
theorem own_empty (w : World) : (w.alloc (.cells #[] 9)).ownsRow w.heap.size 9 1 (.slice (some ⟨w.heap.size, 0, none⟩) 0 0) 0 (scs []) :=
  ⟨rfl, .inr ⟨w.heap.size, 0, #[], rfl, Nat.le_refl _, heap_alloc_new w _, Nat.le_refl _, by decide, rfl, rfl⟩⟩
end Go.Proofs.YtipekiknmgbdgaaGreatDoor
/- JournalChained, walked: what is read of any bytes is in a row. -/
namespace Go.Proofs.YtipekiknmgbdgaaGreatDoor
open Go.RowKit
open Vl (V)
attribute [local go_sem ↓] Go.wp_at_zero Go.wp_at_succ
/-- texts so far, in a row of new memory -/
structure TX (w0 W : World) (l : List (List UInt8)) (v : Value) : Prop where
  below : Below w0.heap.size w0 W
  row : W.ownsRow w0.heap.size 9 1 v l.length (scs l)
theorem TX.call {w0 W W' : World} {l : List (List UInt8)} {v : Value} (h : TX w0 W l v) (hb : Below W.heap.size W W') : TX w0 W' l v :=
  ⟨h.below.trans (hb.mono h.below.size), own_call h.row hb⟩
theorem TX.next {w0 W W1 : World} {o : Obj} {l : List (List UInt8)} {v v' : Value} {x : List UInt8} (h : TX w0 W l v) (hg : (W.alloc o).grownBy W1 v.ownBlock) (hn : W1.ownsRow w0.heap.size 9 1 v' (l.length + 1) (scs l ++ [.string (bs x)])) : TX w0 W1 (l ++ [x]) v' := by
  have hs := h.below.size
  refine ⟨?_, ?_⟩
  · exact (h.below.alloc (by omega) o).grown hg (by simp; omega) (fun k hk => (own_in h.row k hk).1)
  · rw [List.length_append]
    have e : scs (l ++ [x]) = scs l ++ [.string (bs x)] := by simp [scs, encS]
    rw [e]
    exact hn
theorem Jn.texts_len (b : Jn.B) : (Jn.texts b).length = b.revs.length := by simp [Jn.texts]
theorem Jn.texts_take {b : Jn.B} {k : Nat} {r : Jn.R} (h : b.revs[k]? = some r) : (Jn.texts b).take (k + 1) = (Jn.texts b).take k ++ [(Jn.rtext r).data.toList] := by
  rw [List.take_add_one]
  simp [Jn.texts, h]
theorem Jn.rtext_size (r : Jn.R) : (Jn.rtext r).size ≤ 16384 := by
  rw [Jn.rtext]
  split
  · exact Jn.wtext_size _
  · exact Nat.zero_le _
theorem arW {k : Nat} (h : (k : Int) + 1 ≤ 9223372036854775807) : wrap64 ((k : Int) + 1) = (k : Int) + 1 := by unfold wrap64; omega
/-- a head's five cells as they are answered -/
theorem hd_of {b : Jn.B} (h : Jn.berr b = 0) : hcells (if Jn.berr b = 0 then Jn.headOf b else ⟨0, ⟨#[]⟩, ⟨#[]⟩, 0, ⟨#[]⟩⟩) = .agg #[.int .u64 (b.seq : Int), .string b.prev, .string b.root, .int .u64 (b.revs.length : Int), .string (Jn.headOf b).sts] := by
  rw [if_pos h]
  rfl
set_option maxHeartbeats 16000000 in
set_option maxRecDepth 100000 in
theorem chained_c (s : ByteArray) (hs : s.size ≤ 140737488351232) (w : World) (hU : Bn.HasU w) (hK : HasK w) : Calls Tryz.prog 5 #[.string s] w fun e w' => e = .returned (.bool true) ∧ Below w.heap.size w w' := by
  have HU : Hid (∀ W, Below w.heap.size w W → Bn.HasU W) := fun W hW => hU.stays hW
  have HK : Hid (∀ W, Below w.heap.size w W → HasK W) := fun W hW => hK.below hK.1 hW
  have HS : Hid (s.size ≤ 140737488351232) := hs
  clear hU hK hs
  go_enter Tryz.func5, Tryz.ntmps5
  go_wp2_with fail
  refine Calls.mono (livesJ_c _ (HU.out _ (Below.refl _ _)) (HK.out _ (Below.refl _ _))) ?_
  rintro e w1 ⟨rfl, hb1⟩
  have HB1 : Hid (Below w.heap.size w w1) := hb1
  clear hb1
  go_wp2_with fail
  refine Calls.mono (scan_c s HS.out _ (HU.out _ HB1.out) (HK.out _ HB1.out)) ?_
  rintro e w2 ⟨hb2, ts, bs, lv, hT, hpre, hend, rfl, hrow⟩
  have HB2 : Hid (Below w.heap.size w w2) := HB1.out.trans (hb2.mono HB1.out.size)
  have HT : Hid (Jn.Took ts bs ∧ ts <+: Jn.frs s) := ⟨hT, hpre⟩
  have HV : Hid (BV w2 lv bs) := BV.of hrow
  have hfew := hT.few (s := s) (fun t ht => hpre.subset ht)
  have HFEW : Hid (bs.length * 88 ≤ s.size ∧ Jn.total ts ≤ s.size) := ⟨hfew, Jn.total_prefix hpre⟩
  clear hb2 hT hpre hend hrow hfew HB1
  go_wp2_with fail
  refine Calls.mono (firstL_c _) ?_
  rintro e w3 ⟨rfl, hb3⟩
  have HB3 : Hid (Below w.heap.size w w3) := HB2.out.trans (hb3.mono HB2.out.size)
  have HV3 : Hid (∀ W, Below w3.heap.size w3 W → BV W lv bs) := fun W hW => (HV.out.call hb3).call hW
  clear hb3 HV HB2
  obtain ⟨la, lc, rfl⟩ : ∃ a c, lv = .slice a bs.length c := by obtain ⟨a, c, e, _⟩ := HV3.out w3 (Below.refl _ _); exact ⟨a, c, e⟩
  obtain ⟨m, hm⟩ : ∃ m, m = bs.length := ⟨_, rfl⟩
  obtain ⟨tn, htn⟩ : ∃ tn, tn = Jn.total ts := ⟨_, rfl⟩
  have HM : Hid (m = bs.length ∧ tn = Jn.total ts) := ⟨hm, htn⟩
  have HMB : Hid (m * 88 ≤ s.size ∧ tn ≤ s.size) := by rw [hm, htn]; exact HFEW.out
  rw [← hm] at HV3
  rw [← hm, ← htn]
  clear hm htn
  have hm47 : m ≤ 140737488351232 := by have := HMB.out; have := HS.out; omega
  go_wp2
  obtain ⟨z0, hz0⟩ : ∃ z0, z0 = Jn.ahead := ⟨_, rfl⟩
  go_loopw [5, 29] (fun p i wr => ∃ (j : Nat) (pv : ByteArray), j ≤ m ∧ i = .int .i64 (j : Int) ∧ p = .string pv ∧ pv = Jn.prevOf (bs.take j) ∧ Below w3.heap.size w3 wr) (fun _ i _ => m - (intOf i).toNat)
  case atStart => exact ⟨0, _, Nat.zero_le _, rfl, rfl, rfl, Below.refl _ _⟩
  case round =>
    obtain ⟨wa, rfl⟩ : ∃ wa, wa = wr := ⟨_, rfl⟩
    obtain ⟨j, pv, hj, rfl, rfl, hpv, hbr⟩ := hrel
    have HB : Hid (Below w3.heap.size w3 wa) := hbr
    have HPV : Hid (pv = Jn.prevOf (bs.take j)) := hpv
    clear hbr hpv hz0
    by_cases hlt : j < m
    · have q1 : (j : Int) < (m : Int) := by omega
      obtain ⟨a1', c1', e1, k1⟩ := HV3.out wa HB.out
      rw [← HM.out.1] at e1 k1
      injection e1 with e1 _ e3
      subst e1 e3
      obtain ⟨g1, rfl, hg1, hc1⟩ := k1 (by omega)
      obtain ⟨b, hb⟩ : ∃ b, bs[j]? = some b := ⟨_, List.getElem?_eq_getElem (by rw [← HM.out.1]; exact hlt)⟩
      obtain ⟨sa, sn, sc, ra, rn, rc, B1⟩ := hc1 j b hb
      obtain ⟨hbe, hbr, hbs, hbp⟩ := HT.out.1.at j b hb
      have HBE : Hid (Jn.berr b = 0 ∧ b.seq = j + 1 ∧ b.prev = pv ∧ bs[j]? = some b) := ⟨hbe, hbs, by rw [HPV.out]; exact hbp, hb⟩
      have HBB : Hid (∀ W, Below wa.heap.size wa W → BAt W g1 j b sa sn sc ra rn rc) := fun W hW => B1.call hg1 hW
      have d0 := B1.c0
      have d1 := B1.c1
      have d2 := B1.c2
      have d3 := B1.c3
      have d4 := B1.c4
      clear hc1 hb B1 hg1 k1 hbe hbr hbs hbp
      obtain ⟨bq, hbq⟩ : ∃ bq : Int, bq = (b.seq : Int) := ⟨_, rfl⟩
      obtain ⟨bp, hbp⟩ : ∃ bp, bp = b.prev := ⟨_, rfl⟩
      obtain ⟨br, hbr⟩ : ∃ br, br = b.root := ⟨_, rfl⟩
      rw [← hbq] at d0
      rw [← hbp] at d1
      rw [← hbr] at d2
      have HBQ : Hid (bq = (b.seq : Int) ∧ bp = b.prev ∧ br = b.root) := ⟨hbq, hbp, hbr⟩
      clear hbq hbp hbr
      go_upto_region 8 with fail
      obtain ⟨w4, hw4⟩ : ∃ w4, w4 = wa.alloc (.cells #[.int .u64 bq, .string bp, .string br, .slice sa sn sc, .slice ra rn rc] 26) := ⟨_, rfl⟩
      obtain ⟨Q, hQ⟩ : ∃ Q, Q = wa.heap.size := ⟨_, rfl⟩
      have V4 : Hid (w4.heap[Q]? = some (.cells #[.int .u64 bq, .string bp, .string br, .slice sa sn sc, .slice ra rn rc] 26 (0, 0)) ∧ Below wa.heap.size wa w4) := by rw [hw4, hQ]; exact ⟨heap_alloc_new wa _, (Below.refl _ _).alloc (Nat.le_refl _) _⟩
      rw [← hw4, ← hQ]
      obtain ⟨hbq, hbp, hbr⟩ := HBQ.out
      obtain ⟨rl, hrl⟩ : ∃ rl, rl = b.revs.length := ⟨_, rfl⟩
      obtain ⟨st, hst⟩ : ∃ st, st = (Jn.headOf b).sts := ⟨_, rfl⟩
      obtain ⟨dg, hdg⟩ : ∃ dg, dg = Jn.digest (Jn.headOf b) := ⟨_, rfl⟩
      have hok := Jn.berr_seq HBE.out.1
      have hW3 : ∀ W, Below wa.heap.size wa W → Below w.heap.size w W := fun W hW => (HB3.out.trans (HB.out.mono HB3.out.size)).trans (hW.mono (HB3.out.trans (HB.out.mono HB3.out.size)).size)
      have HW3 : Hid (∀ W, Below wa.heap.size wa W → Below w.heap.size w W) := hW3
      have CSH : Hid (∀ W, Below wa.heap.size wa W → Calls Tryz.prog 17 #[.agg #[.int .u64 bq, .string bp, .string br, .slice sa sn sc, .slice ra rn rc]] W fun e w' => e = .returned (.tuple #[.agg #[.int .u64 bq, .string bp, .string br, .int .u64 (rl : Int), .string st], .int .i64 0]) ∧ Below W.heap.size W w') := fun W hW => by
        have h := shortB_c b sa sn sc ra rn rc W (HU.out W (HW3.out W hW)) (HK.out W (HW3.out W hW)) (HBB.out W hW).bk
        rw [hd_of HBE.out.1, HBE.out.1, ← hbq, ← hbp, ← hbr, ← hrl, ← hst] at h
        exact h
      have CDG : Hid (∀ W, Below wa.heap.size wa W → Calls Tryz.prog 18 #[.agg #[.int .u64 bq, .string bp, .string br, .int .u64 (rl : Int), .string st]] W fun e w' => e = .returned (.string dg) ∧ Below W.heap.size W w') := fun W hW => by
        have hsz : st.size ≤ maxLen := by rw [hst, Jn.headOf]; show (Jn.stsDigest _).size ≤ _; rw [Jn.stsDigest, bs_size, Mk.sum_length]; decide
        have h := digest_c b.seq b.prev b.root b.revs.length st (by omega) (by unfold maxLen; omega) (by unfold maxLen; omega) (by omega) hsz W (HU.out W (HW3.out W hW)) (HK.out W (HW3.out W hW))
        rw [← hbq, ← hbp, ← hbr] at h
        rw [hrl, hdg]
        have e : Jn.headOf b = ⟨b.seq, b.prev, b.root, b.revs.length, st⟩ := by rw [hst]; rfl
        rw [e, ← hbp, ← hbr]
        exact h
      have HNX : Hid (dg = Jn.prevOf (bs.take (j + 1))) := by show _ = _; rw [hdg, Jn.prevOf_take HBE.out.2.2.2]
      have HRT : Hid (br = Go.Proofs.YtipekiknmgbdgaaGreatDoor.bs (Mk.root (Jn.texts b)) ∧ (∀ r ∈ b.revs, Jn.rerr r = 0) ∧ rn = b.revs.length ∧ 1 ≤ rn ∧ rn ≤ 64) := by
        obtain ⟨_, _, k3, k4, _⟩ := Jn.berr_ok HBE.out.1
        have k5 := (HBB.out wa (Below.refl _ _)).bk.many
        exact ⟨by rw [hbr, k4]; rfl, k3, k5, by omega, by omega⟩
      obtain ⟨g2, o2, hra, hrv⟩ : ∃ g2 o2, ra = some ⟨g2, o2, none⟩ ∧ ∀ W, Below wa.heap.size wa W → ∀ k r, b.revs[k]? = some r → RevAt W W.heap.size g2 (o2 + k * 10) r := by
        obtain ⟨g, o, e, _⟩ := (HBB.out wa (Below.refl _ _)).bk.revs (by have := HRT.out; omega)
        refine ⟨g, o, e, fun W hW k r hk => ?_⟩
        obtain ⟨g', o', e', _, h⟩ := (HBB.out W hW).bk.revs (by have := HRT.out; omega)
        rw [e] at e'
        cases e'
        exact h k r hk
      have HRV : Hid (∀ W, Below wa.heap.size wa W → ∀ k r, b.revs[k]? = some r → RevAt W W.heap.size g2 (o2 + k * 10) r) := hrv
      have qa : (bq != (j : Int) + 1) = false := by rw [hbq, HBE.out.2.1]; simp
      have v1 : IntKind.u64.wrap (j : Int) = (j : Int) := by rw [IntKind.wrap_u64]; omega
      have v2 : IntKind.u64.wrap ((j : Int) + 1) = (j : Int) + 1 := by rw [IntKind.wrap_u64]; omega
      have qb : (bp.toList == pv.toList) = true := by rw [hbp, HBE.out.2.2.1]; exact beq_self_eq_true _
      have qc : (bp.toList != pv.toList) = false := by rw [bne, qb]; rfl
      have a1 : (j : Int) + 1 ≤ 9223372036854775807 := by omega
      subst hra
      clear hw4 hQ hrl hst hdg hbq hbp hbr hok hW3 hrv d0 d1 d2 d3 d4
      obtain ⟨x0, x1, x2, x3, x4⟩ : w4.cell? ⟨Q, 0, none⟩ = some (.int .u64 bq) ∧ w4.cell? ⟨Q, 1, none⟩ = some (.string bp) ∧ w4.cell? ⟨Q, 2, none⟩ = some (.string br) ∧ w4.cell? ⟨Q, 3, none⟩ = some (.slice sa sn sc) ∧ w4.cell? ⟨Q, 4, none⟩ = some (.slice (some ⟨g2, o2, none⟩) rn rc) := ⟨block_cells V4.out.1 0 _ rfl, block_cells V4.out.1 1 _ rfl, block_cells V4.out.1 2 _ rfl, block_cells V4.out.1 3 _ rfl, block_cells V4.out.1 4 _ rfl⟩
      go_wp2_with fail
      refine Calls.mono (CSH.out _ V4.out.2) ?_
      rintro e w5 ⟨rfl, hb5⟩
      have V5 : Hid (w5.heap[Q]? = some (.cells #[.int .u64 bq, .string bp, .string br, .slice sa sn sc, .slice (some ⟨g2, o2, none⟩) rn rc] 26 (0, 0)) ∧ Below wa.heap.size wa w5) := ⟨blk_call V4.out.1 hb5, V4.out.2.trans (hb5.mono V4.out.2.size)⟩
      clear hb5 V4 CSH x0 x1 x2 x3 x4
      go_upto_region 9 with fail
      obtain ⟨w6, hw6⟩ : ∃ w6, w6 = w5.alloc (.cells #[.int .u64 bq, .string bp, .string br, .int .u64 (rl : Int), .string st] 46) := ⟨_, rfl⟩
      obtain ⟨P, hP⟩ : ∃ P, P = w5.heap.size := ⟨_, rfl⟩
      have V6 : Hid (w6.heap[Q]? = some (.cells #[.int .u64 bq, .string bp, .string br, .slice sa sn sc, .slice (some ⟨g2, o2, none⟩) rn rc] 26 (0, 0)) ∧ Below wa.heap.size wa w6 ∧ w6.heap[P]? = some (.cells #[.int .u64 bq, .string bp, .string br, .int .u64 (rl : Int), .string st] 46 (0, 0))) := by
        have hn := below_new w5 (.cells #[.int .u64 bq, .string bp, .string br, .int .u64 (rl : Int), .string st] 46)
        rw [hw6, hP]
        exact ⟨blk_call V5.out.1 hn, V5.out.2.trans (hn.mono V5.out.2.size), heap_alloc_new w5 _⟩
      rw [← hw6, ← hP]
      clear hw6 hP V5
      have x0 := block_cells V6.out.1 0 _ rfl
      have x1 := block_cells V6.out.1 1 _ rfl
      have x4 := block_cells V6.out.1 4 _ rfl
      have y0 := block_cells V6.out.2.2 0 _ rfl
      have y1 := block_cells V6.out.2.2 1 _ rfl
      have y2 := block_cells V6.out.2.2 2 _ rfl
      have y3 := block_cells V6.out.2.2 3 _ rfl
      have y4 := block_cells V6.out.2.2 4 _ rfl
      go_wp2_with fail
      refine Calls.mono (CDG.out _ V6.out.2.1) ?_
      rintro e w7 ⟨rfl, hb7⟩
      have V7 : Hid (w7.heap[Q]? = some (.cells #[.int .u64 bq, .string bp, .string br, .slice sa sn sc, .slice (some ⟨g2, o2, none⟩) rn rc] 26 (0, 0)) ∧ Below wa.heap.size wa w7) := ⟨blk_call V6.out.1 hb7, V6.out.2.1.trans (hb7.mono V6.out.2.1.size)⟩
      clear hb7 V6 CDG x0 x1 x4 y0 y1 y2 y3 y4 qa qb qc v1 v2
      have x4 := block_cells V7.out.1 4 _ rfl
      obtain ⟨i9, hi9, hr0, hr1, hr2⟩ := info_parts info9s
      go_wp2
      go_loopw [10, 60] (fun o i W => ∃ (k : Nat) (tv : Value), tv = o ∧ i = .int .i64 (k : Int) ∧ k ≤ rn ∧ TX w7 W ((Jn.texts b).take k) tv) (fun _ i _ => rn - (intOf i).toNat)
      case atStart => exact ⟨0, _, rfl, rfl, Nat.zero_le _, Below.refl _ _, World.ownsRow_nil _ _ _ _⟩
      case round =>
        obtain ⟨k, tv, htv, rfl, hk, hX⟩ := hrel
        subst htv
        have X : Hid (TX w7 wr ((Jn.texts b).take k) tv) := hX
        have HWR : Hid (Below wa.heap.size wa wr) := V7.out.2.trans (hX.below.mono V7.out.2.size)
        clear hX x4
        by_cases hlk : k < rn
        · have q2 : (k : Int) < (rn : Int) := by omega
          obtain ⟨r, hr⟩ : ∃ r, b.revs[k]? = some r := ⟨_, List.getElem?_eq_getElem (by have := HRT.out.2.2.1; omega)⟩
          obtain ⟨xk, xb, xn, xs, xa, xl, xc, ya, yl, yc, u0, u1, u2, u3, u4, u5, u6, u7, u8, u9, hrep, hxk, hkd, htb, hdc, hvr⟩ := HRV.out wr HWR.out k r hr
          have HR0 : Hid (Jn.rerr r = 0 ∧ b.revs[k]? = some r) := ⟨HRT.out.2.1 r (List.mem_of_getElem? hr), hr⟩
          obtain ⟨rk, rtb, rd, rvv, rval⟩ := r
          obtain ⟨tx, htx⟩ : ∃ tx, tx = Jn.rtext ⟨rk, rtb, rd, rvv, rval⟩ := ⟨_, rfl⟩
          have CRT : Hid (∀ W, Below wr.heap.size wr W → Calls Tryz.prog 19 #[.agg #[.int .u8 (rk : Int), .string rtb, .int .u64 (rd : Int), .int .u64 (rvv : Int), .int .u8 (xk : Int), .bool xb, .int .i64 xn, .string xs, .slice xa xl xc, .slice ya yl yc]] W fun e w' => e = .returned (.tuple #[.string tx, .int .i64 0]) ∧ Below W.heap.size W w') := fun W hW => by
            have h := revText_c rk rtb rd rvv rval hkd htb hdc hvr xk xb xn xs xa xl xc ya yl yc hxk W (HU.out W (HW3.out W (HWR.out.trans (hW.mono HWR.out.size)))) W.heap.size (Nat.le_refl _) (rep_stays hW hW.size _ _ hrep)
            rw [HR0.out.1, ← htx] at h
            exact h
          have HTX : Hid (tx = Jn.rtext ⟨rk, rtb, rd, rvv, rval⟩) := htx
          have a2 : (k : Int) + 1 ≤ 9223372036854775807 := by have := HRT.out.2.2.2.2; omega
          clear hr htx hrep hxk hkd htb hdc hvr
          go_upto_region 16 with fail
          obtain ⟨w8, hw8⟩ : ∃ w8, w8 = wr.alloc (.cells #[.int .u8 (rk : Int), .string rtb, .int .u64 (rd : Int), .int .u64 (rvv : Int), .int .u8 (xk : Int), .bool xb, .int .i64 xn, .string xs, .slice xa xl xc, .slice ya yl yc] 57) := ⟨_, rfl⟩
          obtain ⟨R, hR⟩ : ∃ R, R = wr.heap.size := ⟨_, rfl⟩
          have V8 : Hid (w8.heap[R]? = some (.cells #[.int .u8 (rk : Int), .string rtb, .int .u64 (rd : Int), .int .u64 (rvv : Int), .int .u8 (xk : Int), .bool xb, .int .i64 xn, .string xs, .slice xa xl xc, .slice ya yl yc] 57 (0, 0)) ∧ Below wr.heap.size wr w8) := by rw [hw8, hR]; exact ⟨heap_alloc_new wr _, below_new _ _⟩
          rw [← hw8, ← hR]
          clear hw8 hR u0 u1 u2 u3 u4 u5 u6 u7 u8 u9
          have u0 := block_cells V8.out.1 0 _ rfl
          have u1 := block_cells V8.out.1 1 _ rfl
          have u2 := block_cells V8.out.1 2 _ rfl
          have u3 := block_cells V8.out.1 3 _ rfl
          have u4 := block_cells V8.out.1 4 _ rfl
          have u5 := block_cells V8.out.1 5 _ rfl
          have u6 := block_cells V8.out.1 6 _ rfl
          have u7 := block_cells V8.out.1 7 _ rfl
          have u8 := block_cells V8.out.1 8 _ rfl
          have u9 := block_cells V8.out.1 9 _ rfl
          go_wp2_with fail
          refine Calls.mono (CRT.out _ V8.out.2) ?_
          rintro e w9 ⟨rfl, hb9⟩
          have X9 : Hid (TX w7 w9 ((Jn.texts b).take k) tv) := X.out.call (V8.out.2.trans (hb9.mono V8.out.2.size))
          clear hb9 V8 CRT u0 u1 u2 u3 u4 u5 u6 u7 u8 u9 X
          have HKL : Hid (((Jn.texts b).take k).length = k ∧ (Jn.texts b).take (k + 1) = (Jn.texts b).take k ++ [tx.data.toList]) := by
            have h1 := HRT.out.2.2.1
            refine ⟨by rw [List.length_take, Jn.texts_len]; omega, by rw [Jn.texts_take HR0.out.2, HTX.out]⟩
          have HOWN : Hid (w9.ownsRow w7.heap.size 9 1 tv k (scs ((Jn.texts b).take k))) := by have h := X9.out.row; rw [HKL.out.1] at h; exact h
          have fit63 : Hid (k + 1 ≤ maxLen) := by have := HRT.out; show _ ≤ _; unfold maxLen; omega
          have fit47 : Hid ((k + 1) * 16 ≤ 140737488355328) := by have := HRT.out; show _ ≤ _; omega
          have HSZ2 : Hid (∀ o, w7.heap.size ≤ (w9.alloc o).heap.size) := fun o => by have := X9.out.below.size; simp; omega
          have HNX2 : Hid (∀ gg cap w5 o, (w9.alloc o).grownBy w5 tv.ownBlock → w5.ownsRow w7.heap.size 9 1 (.slice (some ⟨gg, 0, none⟩) (k + 1) cap) (k + 1) (scs ((Jn.texts b).take k) ++ [.string tx]) → TX w7 w5 ((Jn.texts b).take (k + 1)) (.slice (some ⟨gg, 0, none⟩) (k + 1) cap)) := by
            intro gg cap w5 o hgr hno
            rw [HKL.out.2]
            have hx := X9.out
            refine TX.next (x := tx.data.toList) hx hgr ?_
            rw [HKL.out.1, bs_data]
            exact hno
          go_upto_region 20 with (first | (at_builtin; refine wpList_append_lies _ rfl _ _ 23 rfl w7.heap.size 9 i9 _ 1 16 Tryz.underlying23 hi9 hr0 hr1 hr2 rfl (by decide) _ _ _ rfl (HOWN.out.alloc _) ⟨w9.heap.size, 0, none⟩ 1 1 [.string tx] rfl rfl (World.news_of_block (heap_alloc_new w9 _)) (by intro u hu; simp at hu; subst hu; rfl) (by decide) fit63.out fit47.out (HSZ2.out _) _ rfl ?_; intro gg cap w10 hown5 hgrow hat hglt; have S5 : Hid (TX w7 w10 ((Jn.texts b).take (k + 1)) (.slice (some ⟨gg, 0, none⟩) (k + 1) cap)) := HNX2.out gg cap w10 _ hgrow hown5; clear hown5 hgrow hat hglt))
          go_wp2
          go_roundw
          case rel => exact ⟨k + 1, _, rfl, by first | go_num | (rw [arW a2]; go_num), hlk, S5.out⟩
          case measure =>
            simp only [intOf]
            first | exact arJ hlk | (rw [arW a2]; exact arJ hlk)
        · have q2 : ¬ (k : Int) < (rn : Int) := by omega
          obtain ⟨l, hl⟩ : ∃ l, l = Jn.texts b := ⟨_, rfl⟩
          have HXL : Hid (TX w7 wr l tv ∧ l.length = rn ∧ rn ≤ 64 ∧ ∀ x ∈ l, x.length ≤ 140737488355328) := by
            have h1 := HRT.out
            have h := X.out
            rw [List.take_of_length_le (by rw [Jn.texts_len]; omega), ← hl] at h
            refine ⟨h, by rw [hl, Jn.texts_len]; exact h1.2.2.1.symm, h1.2.2.2.2, fun x hx => ?_⟩
            rw [hl, Jn.texts] at hx
            obtain ⟨r, _, rfl⟩ := List.mem_map.1 hx
            have := Jn.rtext_size r
            rw [← Lib.size_eq]; omega
          obtain ⟨ta, tc, rfl⟩ : ∃ a c, tv = .slice a rn c := by
            obtain ⟨a, c, e⟩ := own_slc HXL.out.1.row
            exact ⟨a, c, by rw [e, HXL.out.2.1]⟩
          have h0w : 0 < wr.heap.size := Nat.lt_of_le_of_lt (Nat.zero_le _) (HK.out wr (HW3.out wr HWR.out)).1
          have CN : Hid (Calls Tryz.prog 20 #[.slice ta rn tc] wr fun e w' => ∃ tb : Nat, e = .returned (.tuple #[.pointer (some ⟨tb, 0, none⟩), .int .i64 0]) ∧ wr.heap.size ≤ tb ∧ Tr w' tb l ∧ Below wr.heap.size wr w') := by
            have hsl : Sl wr wr.heap.size (.slice ta rn tc) l := own_sl HXL.out.1.row
            refine (new_yes ta tc rn (by have := HXL.out.2.2.1; omega) wr.heap.size l HXL.out.2.2.2 wr (Nat.le_refl _) hsl).mono ?_
            rintro e w' ⟨tb, rfl, hb, hT, hB⟩
            exact ⟨tb, rfl, hb, hT.tr (by omega), hB⟩
          have HBR : Hid (br = Go.Proofs.YtipekiknmgbdgaaGreatDoor.bs (Mk.root l)) := by rw [hl]; exact HRT.out.1
          clear X hl h0w
          go_wp2_with fail
          refine Calls.mono CN.out ?_
          rintro e wb ⟨tb, rfl, htb, hTr, hbb⟩
          have HTB : Hid (Tr wb tb l ∧ wr.heap.size ≤ tb ∧ Below wr.heap.size wr wb) := ⟨hTr, htb, hbb⟩
          clear hTr htb hbb CN
          obtain ⟨C, hC⟩ : ∃ C : World → Prop, C = fun W => Tr W tb l ∧ Below wr.heap.size wr W := ⟨_, rfl⟩
          have HC : Hid (∀ W, C W ↔ (Tr W tb l ∧ Below wr.heap.size wr W)) := fun W => by rw [hC]
          clear hC
          have inh : Inhabited (WOf C) := ⟨⟨wb, (HC.out wb).2 ⟨HTB.out.1, HTB.out.2.2⟩⟩⟩
          have HQ : Hid (∀ W, Below wr.heap.size wr W → W.heap[Q]? = some (.cells #[.int .u64 bq, .string bp, .string br, .slice sa sn sc, .slice (some ⟨g2, o2, none⟩) rn rc] 26 (0, 0))) := fun W hW => by
            have h1 : Below w7.heap.size w7 W := HXL.out.1.below.trans (hW.mono HXL.out.1.below.size)
            exact blk_call V7.out.1 h1
          have dq : ∀ p : WOf C, p.W.cell? ⟨Q, 2, none⟩ = some (.string br) := fun p => block_cells (HQ.out p.W ((HC.out _).1 p.h).2) 2 _ rfl
          have CRO : Hid (∀ p : WOf C, Calls Tryz.prog 21 #[.pointer (some ⟨tb, 0, none⟩)] p.W fun e w'' => e = .returned (.string br) ∧ ∃ q : WOf C, w'' = q.W) := fun p => by
            obtain ⟨h1, h2⟩ := (HC.out _).1 p.h
            rw [HBR.out]
            refine (root_c tb l (by have := HXL.out; omega) HXL.out.2.2.2 p.W (HK.out _ (HW3.out _ (HWR.out.trans (h2.mono HWR.out.size)))) h1).mono ?_
            rintro e w'' ⟨rfl, h3, h4⟩
            exact ⟨rfl, ⟨w'', (HC.out _).2 ⟨h3, h2.trans (h4.below HTB.out.2.1 h2.size)⟩⟩, rfl⟩
          have qr : (br.toList == br.toList) = true := beq_self_eq_true _
          have qr2 : (br.toList != br.toList) = false := by rw [bne, qr]; rfl
          go_upto_region 22 with fail
          refine wp_region_class C ((HC.out _).2 ⟨HTB.out.1.call (Below.refl _ _).drew, HTB.out.2.2.drew⟩) (by kernel_rfl) (by kernel_rfl) ?_
          repeat (go_big_quiet_step ((go_at_call 21; exact CRO.out _)))
          refine wpQuiet_nil ?_
          intro _ hw'
          obtain ⟨pq, hw''⟩ := hw'
          subst hw''
          have HPQ : Hid (Below w3.heap.size w3 pq.W) := by
            have h := ((HC.out _).1 pq.h).2
            have h2 := HWR.out.trans (h.mono HWR.out.size)
            exact HB.out.trans (h2.mono HB.out.size)
          clear dq CRO
          go_wp2
          go_roundw
          case rel => first | exact ⟨j + 1, dg, hlt, by go_num, rfl, HNX.out, HPQ.out⟩ | ((repeat apply Exists.intro); exact ⟨⟨j + 1, dg, hlt, by go_num, rfl, HNX.out, HPQ.out⟩, rfl⟩)
          case measure =>
            simp only [intOf]
            first | exact arJ hlt | (rw [arW a1]; exact arJ hlt)
    · have q1 : ¬ (j : Int) < (m : Int) := by omega
      have hsl : ∀ wx, (Instr.slice 9 (.string s) none (some (.int .i64 (tn : Int))) none).run Tryz.prog wx = .ok (.string (s.extract 0 tn)) wx := fun wx => by
        rw [run_slice_string_to_if (P := Tryz.prog) wx 9 s .i64 (tn : Int) Tryz.underlying9, if_pos ⟨by omega, by have := HMB.out; omega⟩, Int.toNat_natCast]
      obtain ⟨s2, hs2⟩ : ∃ s2, s2 = s.extract 0 tn := ⟨_, rfl⟩
      rw [← hs2] at hsl
      have hW : Below w.heap.size w wa := HB3.out.trans (HB.out.mono HB3.out.size)
      have HWA : Hid (Below w.heap.size w wa) := hW
      have HF2 : Hid (Jn.frs s2 = ts ∧ s2.size ≤ 140737488351232) := by
        refine ⟨by rw [hs2, HM.out.2]; exact Jn.frs_prefix ts s HT.out.2, ?_⟩
        have := HS.out
        rw [hs2, ByteArray.size_extract]; omega
      have HVA : Hid (BV wa (.slice la m lc) bs) := HV3.out wa HB.out
      clear hs2 hW
      go_wp2_with fail
      refine Calls.mono (scan_c s2 HF2.out.2 _ (HU.out _ HWA.out) (HK.out _ HWA.out)) ?_
      rintro e wz ⟨hbz, ts2, bs2, lv2, hT2, hp2, he2, rfl, hrow2⟩
      rw [HF2.out.1] at hp2 he2
      obtain ⟨e1, e2⟩ := Jn.again HT.out.1 hT2 hp2 he2
      subst e1 e2
      have HVZ : Hid (BV wz (.slice la m lc) bs2 ∧ BV wz lv2 bs2 ∧ Below w.heap.size w wz) := ⟨HVA.out.call hbz, BV.of hrow2, HWA.out.trans (hbz.mono HWA.out.size)⟩
      have htn : (Jn.total ts2 : Int) = (tn : Int) := by rw [HM.out.2]
      rw [htn]
      have HSTS : Hid (∀ b ∈ bs2, b.sts.length ≤ 1048576) := fun b hb => by
        obtain ⟨i, hi⟩ := List.mem_iff_getElem?.1 hb
        have h1 := (HT.out.1.at i b hi).1
        have h2 := Jn.berr_seq h1
        omega
      clear hbz hT2 hp2 he2 hrow2 htn hsl
      go_wp2_with fail
      refine Calls.mono (sameAll_c bs2 (by have h1 := HMB.out; have h2 := HS.out; have h3 := HM.out.1; omega) HSTS.out _ lv2 _ HVZ.out.1 HVZ.out.2.1) ?_
      rintro e wy ⟨rfl, hby⟩
      have HF := HVZ.out.2.2.trans (hby.mono HVZ.out.2.2.size)
      clear hby
      go_wp2
      go_ret
      exact ⟨rfl, HF⟩
end Go.Proofs.YtipekiknmgbdgaaGreatDoor
