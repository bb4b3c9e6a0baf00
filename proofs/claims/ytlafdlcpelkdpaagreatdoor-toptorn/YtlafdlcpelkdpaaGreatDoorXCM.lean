/- Several texts, joined: JnCm, JnCa, MkAs, JnCh -/
import Derived.Test.YtlafdlcpelkdpaaGreatDoorQKM
import Derived.Test.YtlafdlcpelkdpaaGreatDoorXEM
import Derived.Test.YtlafdlcpelkdpaaGreatDoorJIM
import Derived.Test.YtlafdlcpelkdpaaGreatDoorJMM
import Derived.Deep.Upon
/- Blocks that are read out of bytes, once and again: plain mathematics. -/
namespace Go.Proofs.YtlafdlcpelkdpaaGreatDoor
open Go.RowKit
open Vl (V)
namespace Jn
theorem cnt_unc (l : List UInt8) (h : l.length = 4) : cnt (unc l) = l := by
  match l, h with
  | [a, b, c, d], _ =>
    have ha := UInt8.toNat_lt a
    have hb := UInt8.toNat_lt b
    have hc := UInt8.toNat_lt c
    have hd := UInt8.toNat_lt d
    have e : ∀ (k : Nat) (x : UInt8), low (unc [a, b, c, d]) k = x.toNat → UInt8.ofNat (low (unc [a, b, c, d]) k) = x := fun k x hx => by rw [hx]; simp
    have u : unc [a, b, c, d] = a.toNat + 256 * (b.toNat + 256 * (c.toNat + 256 * (d.toNat + 256 * 0))) := rfl
    rw [cnt, e 0 a (by rw [u, low]; omega), e 1 b (by rw [u, low]; omega), e 2 c (by rw [u, low]; omega), e 3 d (by rw [u, low]; omega)]
theorem ff_aux (S : ByteArray → ByteArray → ByteArray) {s t : ByteArray} (hsz : 12 + t.size ≤ s.size) (h : (if s.size < 12 then none
  else if (min (s.size - 12) 16384) < unc (s.extract 0 4).data.toList then none
  else if S (s.extract 0 4) ((s.extract 12 s.size).extract 0 (unc (s.extract 0 4).data.toList)) = s.extract 4 12 then some ((s.extract 12 s.size).extract 0 (unc (s.extract 0 4).data.toList))
  else none) = some t) : s = ((bs (cnt t.size) ++ S (bs (cnt t.size)) t) ++ t) ++ s.extract (12 + t.size) s.size := by
  by_cases h12 : s.size < 12
  · rw [if_pos h12] at h; cases h
  rw [if_neg h12] at h
  by_cases hmin : (min (s.size - 12) 16384) < unc (s.extract 0 4).data.toList
  · rw [if_pos hmin] at h; cases h
  rw [if_neg hmin] at h
  by_cases hseal : S (s.extract 0 4) ((s.extract 12 s.size).extract 0 (unc (s.extract 0 4).data.toList)) = s.extract 4 12
  · rw [if_pos hseal] at h
    replace h := Option.some.inj h
    obtain ⟨c, hc⟩ : ∃ c, c = s.extract 0 4 := ⟨_, rfl⟩
    rw [← hc] at h hseal hmin
    rw [h] at hseal
    have hcs : c.size = 4 := by rw [hc, ByteArray.size_extract]; omega
    have hcl : c.data.toList.length = 4 := by rw [← Lib.size_eq]; exact hcs
    have hts : t.size = unc c.data.toList := by rw [← h, ByteArray.size_extract, ByteArray.size_extract]; omega
    have hcc : bs (cnt t.size) = c := ba_ext (by rw [hts, cnt_unc _ hcl])
    rw [hcc, hseal]
    refine ba_ext ?_
    have htl : t.data.toList = ((s.data.toList.drop 12).take (s.size - 12)).take (t.size - 0) := by
      have h3 := congrArg (fun x : ByteArray => x.data.toList) h
      simp only [ext_list] at h3
      rw [← h3, ← hts, List.drop_zero]
    rw [app_list, app_list, app_list, hc, htl]
    simp only [ext_list]
    have hl : s.data.toList.length = s.size := by rw [← Lib.size_eq]
    obtain ⟨l, hle⟩ : ∃ l, l = s.data.toList := ⟨_, rfl⟩
    rw [← hle] at hl ⊢
    rw [List.drop_zero, List.take_take]
    have e1 : l.drop (12 + t.size) = (l.drop 12).drop t.size := by rw [List.drop_drop]
    rw [e1, List.take_of_length_le (l := (l.drop 12).drop t.size) (by rw [List.length_drop, List.length_drop]; omega)]
    rw [show min (t.size - 0) (s.size - 12) = t.size by omega, List.append_assoc, List.append_assoc, List.take_append_drop]
    have e2 : l.drop 4 = (l.drop 4).take 8 ++ (l.drop 4).drop 8 := (List.take_append_drop _ _).symm
    rw [List.drop_drop] at e2
    have e3 : l = l.take 4 ++ l.drop 4 := (List.take_append_drop _ _).symm
    rw [e2] at e3
    exact e3
  · rw [if_neg hseal] at h; cases h
/-- bytes that begin with a frame are its bytes and the rest -/
theorem ff_back {s t : ByteArray} (h : ff s = some t) : s = frameOf t ++ s.extract (12 + t.size) s.size := by
  have hsz := ff_size h
  rw [ff] at h
  rw [frameOf]
  exact ff_aux sealOf hsz h
/-- of the bytes of the first frames alone these are read -/
theorem frs_prefix : ∀ (ts : List ByteArray) (s : ByteArray), ts <+: frs s → frs (s.extract 0 (total ts)) = ts
  | [], s, _ => by
    refine frs_short _ ?_
    rw [ByteArray.size_extract]
    show min (0 : Nat) s.size - 0 < 12
    omega
  | t :: ts, s, h => by
    cases hf : ff s with
    | none =>
      rw [frs_none hf] at h
      have := h.length_le
      simp at this
    | some t' =>
      rw [frs_some hf] at h
      obtain ⟨rfl, h2⟩ := List.cons_prefix_cons.1 h
      have ih := frs_prefix ts _ h2
      have hs := ff_back hf
      have htot := total_prefix h2
      obtain ⟨r, hr⟩ : ∃ r, r = s.extract (12 + t.size) s.size := ⟨_, rfl⟩
      rw [← hr] at ih hs htot
      have e : s.extract 0 (total (t :: ts)) = frameOf t ++ r.extract 0 (total ts) := by
        refine ba_ext ?_
        rw [app_list, ext_list, ext_list, hs, app_list]
        have hfl : (frameOf t).data.toList.length = 12 + t.size := by rw [← Lib.size_eq]; exact frameOf_size t
        rw [List.drop_zero, List.drop_zero, List.take_append, hfl]
        have ht : total (t :: ts) = 12 + t.size + total ts := by simp [total]
        rw [ht, List.take_of_length_le (by rw [hfl]; omega)]
        congr 2
        omega
      rw [e, frs_frame t _ (ff_small hf), ih]
theorem snoc_inj {α : Type} {a b : List α} {x y : α} (h : a ++ [x] = b ++ [y]) : a = b ∧ x = y := by
  have := List.append_inj' h rfl
  exact ⟨this.1, by simpa using this.2⟩
/-- the same texts are the same blocks -/
theorem Took.same {ts : List ByteArray} {bs : List B} (h : Took ts bs) : ∀ {bs' : List B}, Took ts bs' → bs = bs' := by
  induction h with
  | none =>
    intro bs' h'
    have := h'.len
    simp at this
    exact (List.eq_nil_of_length_eq_zero this.symm).symm
  | more h1 h2 h3 h4 h5 ih =>
    intro bs' h'
    generalize he : (_ ++ [_] : List ByteArray) = l at h'
    cases h' with
    | none => simp at he
    | more k1 k2 k3 k4 k5 =>
      obtain ⟨e1, e2⟩ := snoc_inj he
      subst e1
      rw [ih k1, btext_inj h2 k2 h3 k3 e2]
/-- the first of them -/
theorem Took.cut {ts : List ByteArray} {bs : List B} (h : Took ts bs) : ∀ {pre : List ByteArray} {x : ByteArray}, pre ++ [x] <+: ts → ∃ bs' b, Took pre bs' ∧ berr b = 0 ∧ rngB b ∧ btext b = x ∧ b.seq = bs'.length + 1 ∧ b.prev = prevOf bs' := by
  induction h with
  | none =>
    intro pre x hp
    have := hp.length_le
    simp at this
  | more h1 h2 h3 h4 h5 ih =>
    intro pre x hp
    rcases List.prefix_concat_iff.1 hp with h | h
    · obtain ⟨e1, e2⟩ := snoc_inj h
      subst e1
      exact ⟨_, _, h1, h2, h3, e2.symm, h4, h5⟩
    · exact ih h
/-- what is read of the bytes of frames that were read -/
theorem again {ts ts2 : List ByteArray} {bs bs2 : List B} (h : Took ts bs) (h2 : Took ts2 bs2) (hp : ts2 <+: ts) (he : ts2 = ts ∨ ∃ x, ts2 ++ [x] <+: ts ∧ Ends bs2 x) : ts2 = ts ∧ bs2 = bs := by
  rcases he with rfl | ⟨x, hx, hE⟩
  · exact ⟨rfl, h2.same h⟩
  · exfalso
    obtain ⟨bs', b, k1, k2, k3, k4, k5, k6⟩ := h.cut hx
    have e := k1.same h2
    subst e
    exact hE b k2 k3 k4 k5 k6
theorem Took.at {ts : List ByteArray} {bs : List B} (h : Took ts bs) : ∀ (i : Nat) (b : B), bs[i]? = some b → berr b = 0 ∧ rngB b ∧ b.seq = i + 1 ∧ b.prev = prevOf (bs.take i) := by
  induction h with
  | none => intro i b hb; simp at hb
  | @more ts bs b0 h1 h2 h3 h4 h5 ih =>
    intro i b hb
    by_cases hi : i < bs.length
    · rw [List.getElem?_append_left hi] at hb
      obtain ⟨k1, k2, k3, k4⟩ := ih i b hb
      exact ⟨k1, k2, k3, by rw [k4, List.take_append_of_le_length (by omega)]⟩
    · rw [List.getElem?_append_right (by omega)] at hb
      have h0 : i - bs.length = 0 := by
        have := (List.getElem?_eq_some_iff.1 hb).1
        simpa using this
      rw [h0] at hb
      simp only [List.getElem?_cons_zero, Option.some.injEq] at hb
      subst hb
      have hie : i = bs.length := by omega
      subst hie
      exact ⟨h2, h3, h4, by rw [h5, List.take_left]⟩
theorem prevOf_take {bs : List B} {i : Nat} {b : B} (h : bs[i]? = some b) : prevOf (bs.take (i + 1)) = digest (headOf b) := by
  rw [List.take_add_one, h]
  exact prevOf_snoc _ _
end Jn
end Go.Proofs.YtlafdlcpelkdpaaGreatDoor
/- Blocks in a row, as they are looked at; the document's SameAll of blocks that are the same. -/
namespace Go.Proofs.YtlafdlcpelkdpaaGreatDoor
open Go.RowKit
open Vl (V)
attribute [local go_sem ↓] Go.wp_at_zero Go.wp_at_succ
/-- a block in a row -/
structure BAt (W : World) (g j : Nat) (b : Jn.B) (sa : Option Addr) (sn sc : Nat) (ra : Option Addr) (rn rc : Nat) : Prop where
  c0 : W.cell? ⟨g, j * 5, none⟩ = some (.int .u64 (b.seq : Int))
  c1 : W.cell? ⟨g, j * 5 + 1, none⟩ = some (.string b.prev)
  c2 : W.cell? ⟨g, j * 5 + 2, none⟩ = some (.string b.root)
  c3 : W.cell? ⟨g, j * 5 + 3, none⟩ = some (.slice sa sn sc)
  c4 : W.cell? ⟨g, j * 5 + 4, none⟩ = some (.slice ra rn rc)
  bk : Bk W W.heap.size b sa sn sc ra rn rc
theorem BAt.call {W W' : World} {g j : Nat} {b : Jn.B} {sa : Option Addr} {sn sc : Nat} {ra : Option Addr} {rn rc : Nat} (h : BAt W g j b sa sn sc ra rn rc) (hg : g < W.heap.size) (hb : Below W.heap.size W W') : BAt W' g j b sa sn sc ra rn rc :=
  ⟨(hb.cell (p := ⟨g, _, none⟩) hg).trans h.c0, (hb.cell (p := ⟨g, _, none⟩) hg).trans h.c1, (hb.cell (p := ⟨g, _, none⟩) hg).trans h.c2, (hb.cell (p := ⟨g, _, none⟩) hg).trans h.c3, (hb.cell (p := ⟨g, _, none⟩) hg).trans h.c4, h.bk.stays hb hb.size⟩
/-- blocks in a row -/
def BV (W : World) (v : Value) (bs : List Jn.B) : Prop := ∃ a c, v = .slice a bs.length c ∧ (0 < bs.length → ∃ g, a = some ⟨g, 0, none⟩ ∧ g < W.heap.size ∧ ∀ j b, bs[j]? = some b → ∃ sa sn sc ra rn rc, BAt W g j b sa sn sc ra rn rc)
theorem BV.call {W W' : World} {v : Value} {bs : List Jn.B} (h : BV W v bs) (hb : Below W.heap.size W W') : BV W' v bs := by
  obtain ⟨a, c, e, h1⟩ := h
  refine ⟨a, c, e, fun hp => ?_⟩
  obtain ⟨g, e2, hg, hc⟩ := h1 hp
  refine ⟨g, e2, Nat.lt_of_lt_of_le hg hb.size, fun j b hj => ?_⟩
  obtain ⟨sa, sn, sc, ra, rn, rc, h2⟩ := hc j b hj
  exact ⟨sa, sn, sc, ra, rn, rc, h2.call hg hb⟩
theorem own_cellsJ {W : World} {B n size : Nat} {t : TypeId} {v : Value} {L : List Value} (hn : 0 < n) (h : W.ownsRow B t size v n L) : ∃ g cap, v = .slice (some ⟨g, 0, none⟩) n cap ∧ g < W.heap.size ∧ ∀ (j : Nat) (u : Value), L[j]? = some u → W.cell? ⟨g, j, none⟩ = some u := by
  have hL := h.1
  rcases h.2 with ⟨_, h1⟩ | ⟨g, cap, cur, rfl, hb, hrow, _, _, _, htk⟩
  · omega
  · refine ⟨g, cap, rfl, (Array.getElem?_eq_some_iff.1 hrow).1, fun j u hu => ?_⟩
    rw [cell_of_row _ _ _ _ _ _ hrow]
    have hj : j < n * size := by have := (List.getElem?_eq_some_iff.1 hu).1; omega
    rw [← htk, List.getElem?_take_of_lt (by omega), Array.getElem?_toList] at hu
    exact hu
theorem BV.of {W : World} {n₀ : Nat} {lv : Value} {bs : List Jn.B} (h : BlkRow W n₀ lv bs) : BV W lv bs := by
  obtain ⟨cs, ho, hl, hc⟩ := h
  obtain ⟨a, c, e⟩ := own_slc ho
  refine ⟨a, c, e, fun hp => ?_⟩
  obtain ⟨g, cap, e2, hg, hcell⟩ := own_cellsJ hp ho
  rw [e] at e2
  injection e2 with e2 _ _
  refine ⟨g, e2, hg, fun j b hj => ?_⟩
  obtain ⟨sv, rv, A, k1, k2, _⟩ := hc j b hj
  obtain ⟨sa, sc, es⟩ := own_slc k2.row3
  obtain ⟨cs4, k4, _⟩ := k2.row4
  obtain ⟨ra, rc, er⟩ := own_slc k4
  subst es er
  refine ⟨sa, _, sc, ra, _, rc, hcell _ _ (k1 0 _ rfl), hcell _ _ (k1 1 _ rfl), hcell _ _ (k1 2 _ rfl), hcell _ _ (k1 3 _ rfl), hcell _ _ (k1 4 _ rfl), k2.bkn.bk⟩
theorem arJ {j m : Nat} (h : j < m) : m - (((j : Int) + 1)).toNat < m - ((j : Int)).toNat := by omega
end Go.Proofs.YtlafdlcpelkdpaaGreatDoor
/- Texts that lie anywhere, appended to a row of the call's own. -/
namespace Go.Proofs.YtlafdlcpelkdpaaGreatDoor
open Go.RowKit
theorem info9s : (Tryz.prog.info? 9).map (fun i => (i.zero, i.size, i.bytes)) = some (some (.string ⟨#[]⟩), 1, 16) := by kernel_rfl
theorem append_nothing (ao : Option Addr) (cap : Nat) (W : World) (b : Option Addr) (n c : Nat) (hnc : n ≤ c) (ty : TypeId) : (Builtin.append_ #[29, 29] ty #[.slice b n c, .slice ao 0 cap]).run Tryz.prog W = .ok (.slice b n c) W := by
  obtain ⟨i0, hi, hz0, hz1, hz2⟩ := info_parts info9s
  refine run_append_nothing W 29 29 ty 9 i0 Tryz.underlying29 hi _ n c hnc _ ⟨Or.inl ⟨9, Tryz.underlying29⟩, fun w' => ?_, ?_, ?_, by simp, fun u hu => by cases hu⟩
  · simp [Builtin.lenOf]
  · cases ao <;> simp [Builtin.firstCells, loadCells, loadCellsFrom]
  · cases ao <;> simp [Builtin.firstCells, loadCells, loadCellsFrom]
/-- texts that lie anywhere, appended to a row of the call's own -/
theorem wp_append_sl {o : Oper} {a : Act} {w : World} {K : Act → World → Prop} {Q : Exit → Act → World → Prop} (s x : Operand)
    (ho : o.op = .call { callee := .builtin .append, args := #[s, x], argTypes := #[29, 29] }) (base : Nat) (v : Value) (n : Nat) (don : List (List UInt8)) (hs : a.eval s = v) (hown : w.ownsRow base 9 1 v n (scs don))
    (xa : Option Addr) (m c : Nat) (H : Nat) (l : List (List UInt8)) (hx : a.eval x = .slice xa m c) (hS : Sl w H (.slice xa m c) l) (h63 : n + m ≤ 1048576) (hbase : base ≤ w.heap.size)
    (h : ∀ v' w', w'.ownsRow base 9 1 v' (n + m) (scs (don ++ l)) → Below base w w' → K (a.put o.dst v') w') : o.wp Tryz.prog a w K Q := by
  obtain ⟨i0, hi, hz0, hz1, hz2⟩ := info_parts info9s
  rcases Nat.eq_zero_or_pos l.length with h0 | h0
  · have hl : l = [] := List.eq_nil_of_length_eq_zero h0
    subst hl
    have hm : m = 0 := hS.len
    subst hm
    obtain ⟨b, k, hv, hbk⟩ : ∃ b k, v = .slice b n k ∧ n ≤ k := by
      rcases hown.2 with ⟨e, e0⟩ | ⟨g, cap, cur, e, _, _, e4, _⟩
      · subst e0; exact ⟨_, _, e, Nat.le_refl _⟩
      · exact ⟨_, _, e, e4⟩
    have hrun := append_nothing xa c w b n k hbk o.type
    have hk := h v w (by simpa using hown) (Below.refl _ _)
    subst hv
    unfold Oper.wp execOp
    simp only [ho, resolve, invoke, builtin, Sem.run_bind, Sem.run_pure, Result.andThen_ok, List.map_toArray, List.map_cons, List.map_nil, hs, hx, hrun]
    exact hk
  · obtain ⟨b, off, rfl, hm, hb, hc⟩ := hS.at h0
    subst hm
    refine wp_append_own (P := Tryz.prog) w s x 29 ho base 9 i0 (.string ⟨#[]⟩) 1 16 Tryz.underlying29 hi hz0 hz1 hz2 rfl (by decide) v n (scs don) hs hown ⟨b, off, none⟩ l.length c (scs l) hx (by rw [scs_length]; omega) ?_ ?_ (by unfold maxLen; omega) (by omega) hbase ?_
    · intro j u hj
      simp only [scs, List.getElem?_map, Option.map_eq_some_iff] at hj
      obtain ⟨y, hy, rfl⟩ := hj
      have := hc j y hy
      rw [Go.WideShapes.add_plain]; exact this
    · intro u hu
      obtain ⟨y, _, rfl⟩ := List.mem_map.1 hu
      rfl
    · intro v' w' h1 h2 _
      exact h v' w' (by have e : scs (don ++ l) = scs don ++ scs l := by simp [scs]
                        rw [e]; exact h1) ((Below.refl base w).grown h2 hbase (own_le hown))
theorem wpList_append_sl {ops : Array Oper} {rest : List Oper} {o : Oper} {a : Act} {w : World} {Q : Exit → Act → World → Prop} (hgd : o.guard = none) (s x : Operand)
    (ho : o.op = .call { callee := .builtin .append, args := #[s, x], argTypes := #[29, 29] }) (base : Nat) (v : Value) (n : Nat) (don : List (List UInt8)) (hs : a.eval s = v) (hown : w.ownsRow base 9 1 v n (scs don))
    (xa : Option Addr) (m c : Nat) (H : Nat) (l : List (List UInt8)) (hx : a.eval x = .slice xa m c) (hS : Sl w H (.slice xa m c) l) (h63 : n + m ≤ 1048576) (hbase : base ≤ w.heap.size)
    (h : ∀ v' w', w'.ownsRow base 9 1 v' (n + m) (scs (don ++ l)) → Below base w w' → wpList Tryz.prog ops Q rest (a.put o.dst v') w') : wpList Tryz.prog ops Q (o :: rest) a w :=
  wpList_plain hgd fun _ hK => wp_append_sl s x ho base v n don hs hown xa m c H l hx hS h63 hbase fun v' w' h1 h2 => hK _ _ (h v' w' h1 h2)
theorem step_append_sl {ops : Array Oper} {E : Prop} {o : Oper} {a : Act} {w : World} {K : Act → World → Prop} {Q : Exit → Act → World → Prop} (hgd : o.guard = none) (s x : Operand)
    (ho : o.op = .call { callee := .builtin .append, args := #[s, x], argTypes := #[29, 29] }) (base : Nat) (v : Value) (n : Nat) (don : List (List UInt8)) (hs : a.eval s = v) (hown : w.ownsRow base 9 1 v n (scs don))
    (xa : Option Addr) (m c : Nat) (H : Nat) (l : List (List UInt8)) (hx : a.eval x = .slice xa m c) (hS : Sl w H (.slice xa m c) l) (h63 : n + m ≤ 1048576) (hbase : base ≤ w.heap.size)
    (h : ∀ v' w', w'.ownsRow base 9 1 v' (n + m) (scs (don ++ l)) → Below base w w' → K (a.put o.dst v') w') : if Region.wanted o (yielded ops a.tmps) = true then Oper.wp Tryz.prog o a w K Q else E := by
  have hw : Region.wanted o (yielded ops a.tmps) = true := by simp [Region.wanted, hgd]
  rw [if_pos hw]
  exact wp_append_sl s x ho base v n don hs hown xa m c H l hx hS h63 hbase h
theorem own_empty (w : World) : (w.alloc (.cells #[] 9)).ownsRow w.heap.size 9 1 (.slice (some ⟨w.heap.size, 0, none⟩) 0 0) 0 (scs []) :=
  ⟨rfl, .inr ⟨w.heap.size, 0, #[], rfl, Nat.le_refl _, heap_alloc_new w _, Nat.le_refl _, by decide, rfl, rfl⟩⟩
end Go.Proofs.YtlafdlcpelkdpaaGreatDoor
/- JournalChained, walked: what is read of any bytes is in a row. -/
namespace Go.Proofs.YtlafdlcpelkdpaaGreatDoor
open Go.RowKit
open Vl (V)
attribute [local go_sem ↓] Go.wp_at_zero Go.wp_at_succ
/-- texts so far, in a row of new memory -/
structure TX (w0 W : World) (l : List (List UInt8)) (v : Value) : Prop where
  below : Below w0.heap.size w0 W
  row : W.ownsRow w0.heap.size 9 1 v l.length (scs l)
theorem TX.call {w0 W W' : World} {l : List (List UInt8)} {v : Value} (h : TX w0 W l v) (hb : Below W.heap.size W W') : TX w0 W' l v :=
  ⟨h.below.trans (hb.mono h.below.size), own_call h.row hb⟩
theorem TX.next {w0 W W1 : World} {o : Obj} {l : List (List UInt8)} {v v' : Value} {x : List UInt8} (h : TX w0 W l v) (hg : (W.alloc o).grownBy W1 v.ownBlock) (hn : W1.ownsRow w0.heap.size 9 1 v' (l.length + 1) (scs l ++ [.string (bs x)])) : TX w0 W1 (l ++ [x]) v' := by
  have hs := h.below.size
  refine ⟨?_, ?_⟩
  · exact (h.below.alloc (by omega) o).grown hg (by simp; omega) (fun k hk => (own_in h.row k hk).1)
  · rw [List.length_append]
    have e : scs (l ++ [x]) = scs l ++ [.string (bs x)] := by simp [scs, encS]
    rw [e]
    exact hn
theorem Jn.texts_len (b : Jn.B) : (Jn.texts b).length = b.revs.length := by simp [Jn.texts]
theorem Jn.texts_take {b : Jn.B} {k : Nat} {r : Jn.R} (h : b.revs[k]? = some r) : (Jn.texts b).take (k + 1) = (Jn.texts b).take k ++ [(Jn.rtext r).data.toList] := by
  rw [List.take_add_one]
  simp [Jn.texts, h]
theorem Jn.rtext_size (r : Jn.R) : (Jn.rtext r).size ≤ 16384 := by
  rw [Jn.rtext]
  split
  · exact Jn.wtext_size _
  · exact Nat.zero_le _
theorem arW {k : Nat} (h : (k : Int) + 1 ≤ 9223372036854775807) : wrap64 ((k : Int) + 1) = (k : Int) + 1 := by unfold wrap64; omega
/-- a head's five cells as they are answered -/
theorem hd_of {b : Jn.B} (h : Jn.berr b = 0) : hcells (if Jn.berr b = 0 then Jn.headOf b else ⟨0, ⟨#[]⟩, ⟨#[]⟩, 0, ⟨#[]⟩⟩) = .agg #[.int .u64 (b.seq : Int), .string b.prev, .string b.root, .int .u64 (b.revs.length : Int), .string (Jn.headOf b).sts] := by
  rw [if_pos h]
  rfl
end Go.Proofs.YtlafdlcpelkdpaaGreatDoor
