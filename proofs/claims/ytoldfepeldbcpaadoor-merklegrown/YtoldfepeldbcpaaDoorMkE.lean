/- What a text and its path make, from the leaf up. -/
import Derived.Test.YtoldfepeldbcpaaDoorMkD
import Derived.Deep.AppendLies
import Derived.Deep.RegionLaw
import Derived.Deep.CutRange
namespace Go.Proofs.YtoldfepeldbcpaaDoor
open Go.RowKit
attribute [local go_sem ↓] Go.wp_at_zero Go.wp_at_succ
namespace Mk
/-- the last text of a chain -/
def lastT (t : Bs) : List Bool → List Bs → Bs
  | b :: bs, p :: ps => lastT (jt (Sh.sum t) p b) bs ps
  | _, _ => t
theorem climb_last (bs : List Bool) : ∀ (ps : List Bs) (t : Bs), climb (Sh.sum t) bs ps = Sh.sum (lastT t bs ps) := by
  induction bs with
  | nil => intro ps t; rfl
  | cons b bs ih => intro ps t; cases ps with
    | nil => rfl
    | cons p ps => exact ih ps _
theorem chainT_length (bs : List Bool) : ∀ (ps : List Bs) (t : Bs), bs.length = ps.length → (chainT t bs ps).length = bs.length + 1 := by
  induction bs with
  | nil => intro ps t _; rfl
  | cons b bs ih => intro ps t h; cases ps with
    | nil => simp at h
    | cons p ps => simp only [chainT, List.length_cons]; rw [ih ps _ (by simpa using h)]
theorem chainT_last (bs : List Bool) : ∀ (ps : List Bs) (t : Bs), bs.length = ps.length → (chainT t bs ps)[bs.length]? = some (lastT t bs ps) := by
  induction bs with
  | nil => intro ps t _; rfl
  | cons b bs ih => intro ps t h; cases ps with
    | nil => simp at h
    | cons p ps => simp only [chainT, List.length_cons, List.getElem?_cons_succ]; exact ih ps _ (by simpa using h)
theorem chainT_snoc (bs : List Bool) : ∀ (ps : List Bs) (t : Bs) (b : Bool) (p : Bs), bs.length = ps.length → chainT t (bs ++ [b]) (ps ++ [p]) = chainT t bs ps ++ [jt (Sh.sum (lastT t bs ps)) p b] := by
  induction bs with
  | nil => intro ps t b p h; cases ps with
    | nil => rfl
    | cons => simp at h
  | cons c bs ih => intro ps t b p h; cases ps with
    | nil => simp at h
    | cons q ps => simp only [List.cons_append, chainT, lastT]; rw [ih ps _ b p (by simpa using h)]
end Mk
/-- cells of texts and their digests -/
def mcs (l : List (List UInt8)) : List Value := l.flatMap fun t => [.string (bs t), .string (bs (Sh.sum t))]
theorem mcs_length (l : List (List UInt8)) : (mcs l).length = l.length * 2 := by
  induction l with
  | nil => rfl
  | cons x l ih => simp only [mcs, List.flatMap_cons, List.length_append, List.length_cons, List.length_nil] at *; omega
theorem mcs_app (a b : List (List UInt8)) : mcs (a ++ b) = mcs a ++ mcs b := by simp [mcs]
theorem mcs_at (l : List (List UInt8)) : ∀ (j : Nat) (t : List UInt8), l[j]? = some t → (mcs l)[j * 2]? = some (.string (bs t)) ∧ (mcs l)[j * 2 + 1]? = some (.string (bs (Sh.sum t))) := by
  induction l with
  | nil => intro j t h; simp at h
  | cons x l ih =>
    intro j t h
    cases j with
    | zero => simp at h; subst h; exact ⟨rfl, rfl⟩
    | succ j =>
      have := ih j t (by simpa using h)
      have e : mcs (x :: l) = .string (bs x) :: .string (bs (Sh.sum x)) :: mcs l := rfl
      rw [e, show (j + 1) * 2 = j * 2 + 1 + 1 by omega, show j * 2 + 1 + 1 + 1 = (j * 2 + 1) + 1 + 1 by omega]
      simpa only [List.getElem?_cons_succ] using this
theorem info_made' : (Tryd.prog.info? 78).map (fun i => (i.zero, i.size, i.bytes)) = some (some (.agg #[.string ⟨#[]⟩, .string ⟨#[]⟩]), 2, 32) := by kernel_rfl
/-- the first text and its digest in a block of their own -/
theorem own_first (w : World) (t d : Value) : (w.alloc (.cells #[t, d] 78)).ownsRow w.heap.size 78 2 (.slice (some ⟨w.heap.size, 0, none⟩) 1 1) 1 [t, d] :=
  ⟨rfl, .inr ⟨w.heap.size, 1, #[t, d], rfl, Nat.le_refl _, heap_alloc_new w _, Nat.le_refl _, by decide, rfl, rfl⟩⟩
theorem own_mono {w : World} {base base' t sz n : Nat} {v : Value} {xs : List Value} (h : w.ownsRow base t sz v n xs) (hb : base' ≤ base) : w.ownsRow base' t sz v n xs := by
  refine ⟨h.1, ?_⟩
  rcases h.2 with h2 | ⟨g, cap, cur, h1, hg, h3⟩
  · exact .inl h2
  · exact .inr ⟨g, cap, cur, h1, by omega, h3⟩
/-- a row that is not the one that grows stays as it is -/
theorem row_grown {W W' : World} {H b o c n : Nat} {l : List Bool} {row : Option Nat} (h : Bl W H (.slice (some ⟨b, o, none⟩) n c) l) (hH : H ≤ W.heap.size) (hg : W.grownBy W' row) (hne : some b ≠ row) : Bl W' W'.heap.size (.slice (some ⟨b, o, none⟩) n c) l := by
  refine ⟨?_, h.2⟩
  rcases h.1 with h | ⟨b', o', c', h1, h2, h3⟩
  · exact .inl h
  · injection h1 with e1 e2 e3
    injection e1 with e1
    injection e1 with e4 e5
    subst e4 e5 e2 e3
    exact .inr ⟨b, o, c, rfl, Nat.lt_of_lt_of_le (by omega) hg.size, fun k x hk => (World.cell?_of_block (a := ⟨b, o + k, none⟩) (hg.block b (by omega) hne)).trans (h3 k x hk)⟩
set_option maxHeartbeats 4000000 in
set_option maxRecDepth 10000 in
theorem chain_c (s : ByteArray) (hs : s.size ≤ 140737488355328) (way : List Bool) (path : List (List UInt8)) (hw : way.length ≤ 1024) (hwp : way.length = path.length) (h32 : ∀ x ∈ path, x.length = 32) (wv : Value) (pa : Option Addr) (pn pc : Nat) (H : Nat) (w : World) (hK : HasK w) (hH : H ≤ w.heap.size) (hB : Bl w H wv way) (hS : Sl w H (.slice pa pn pc) path) :
    Calls Tryd.prog 33 #[.string s, wv, .slice pa pn pc] w fun e w' => ∃ v', e = .returned v' ∧ w'.ownsRow w.heap.size 78 2 v' (way.length + 1) (mcs (Mk.chainT (Mk.leafT s.data.toList) way.reverse path)) ∧ Below w.heap.size w w' := by
  obtain ⟨i0, hi, hz0, hz1, hz2⟩ := info_parts info_made'
  obtain ⟨t, ht⟩ : ∃ t, t = Mk.leafT s.data.toList := ⟨_, rfl⟩
  obtain ⟨tb, htb⟩ : ∃ tb : ByteArray, tb = bs t := ⟨_, rfl⟩
  obtain ⟨db, hdb⟩ : ∃ db : ByteArray, db = bs (Sh.sum t) := ⟨_, rfl⟩
  have C1 : Hid (∀ W, Below w.heap.size w W → Calls Tryd.prog 31 #[.string s] W fun e w' => e = .returned (.agg #[.string tb, .string db]) ∧ Below W.heap.size W w') := fun W hW => by
    rw [htb, hdb, ht]; exact leaf_c s hs W (hK.below hK.1 hW)
  have C2 : Hid (∀ W, Below w.heap.size w W → Calls Tryd.prog 46 #[wv] W fun e w' => ∃ v', e = .returned v' ∧ w'.ownsRow W.heap.size 4 1 v' way.length (bcs way.reverse) ∧ Below W.heap.size W w') := fun W hW => fromBelow_c wv H way W hw (hB.stays hW hH)
  rw [← ht]
  have HT : Hid (tb = bs t ∧ db = bs (Sh.sum t)) := ⟨htb, hdb⟩
  have HK : Hid (HasK w) := hK
  have HS : Hid (Sl w H (.slice pa pn pc) path) := hS
  have H32 : Hid (∀ x ∈ path, x.length = 32) := h32
  have HWP : Hid (way.length = path.length) := hwp
  obtain ⟨m, hm⟩ : ∃ m, m = way.length := ⟨_, rfl⟩
  rw [← hm] at hw C2 HWP ⊢
  have HM : Hid (m = way.length) := hm
  clear ht htb hdb hK hB hS hs h32 hwp hm
  go_enter Tryd.func33, Tryd.ntmps33
  go_wp2_with fail
  refine (C1.out _ (Below.refl _ _)).mono ?_
  rintro e w1 ⟨rfl, hb1⟩
  have HB1 : Hid (Below w.heap.size w w1) := hb1
  clear hb1
  go_wp2_with fail
  refine (C2.out _ (HB1.out.alloc HB1.out.size _)).mono ?_
  rintro e w2 ⟨v1, rfl, ho2, hb2⟩
  have HL : Hid ((way.reverse).length = m) := by show _ = _; rw [List.length_reverse]; exact HM.out.symm
  have hbl : Bl w2 w2.heap.size v1 way.reverse := own_bl (base := w1.heap.size + 1) (by rw [List.length_reverse, ← HM.out]; simpa using ho2)
  have hup : w2.ownsRow w.heap.size 78 2 (.slice (some ⟨w1.heap.size, 0, none⟩) 1 1) 1 (mcs (Mk.chainT t [] [])) := by
    have := own_stays (own_mono (own_first w1 (.string tb) (.string db)) HB1.out.size) hb2
    rw [HT.out.1, HT.out.2] at this
    exact this
  have hne : v1.ownBlock ≠ some w1.heap.size := by
    intro h
    have := (ho2.lt _ h).1
    simp at this
    omega
  obtain ⟨a1, c1, hv1⟩ := hbl.form
  rw [HL.out] at hv1
  subst hv1
  have HBL : Hid (Bl w2 w2.heap.size (.slice a1 m c1) way.reverse) := hbl
  have HUP : Hid (w2.ownsRow w.heap.size 78 2 (.slice (some ⟨w1.heap.size, 0, none⟩) 1 1) 1 (mcs (Mk.chainT t [] []))) := hup
  have HNE : Hid ((Value.slice a1 m c1).ownBlock ≠ some w1.heap.size) := hne
  have HB2 : Hid (Below w.heap.size w w2) := (HB1.out.alloc HB1.out.size _).trans (hb2.mono (by have := HB1.out.size; simp; omega))
  have lt12 : w1.heap.size < w2.heap.size := by have := hb2.size; simp at this; omega
  clear ho2 hb2 hbl hup hne C1 C2
  go_wp2
  go_loopw [7, 16] (fun u i wr => ∃ (k g cap : Nat), k ≤ m ∧ i = .int .i64 (k : Int) ∧ u = .slice (some ⟨g, 0, none⟩) (k + 1) cap ∧ wr.ownsRow w.heap.size 78 2 (.slice (some ⟨g, 0, none⟩) (k + 1) cap) (k + 1) (mcs (Mk.chainT t (way.reverse.take k) (path.take k))) ∧ Bl wr wr.heap.size (.slice a1 m c1) way.reverse ∧ (Value.slice a1 m c1).ownBlock ≠ some g ∧ Below w.heap.size w wr) (fun _ i _ => m - (intOf i).toNat)
  case atStart => exact ⟨0, w1.heap.size, 1, Nat.zero_le _, rfl, rfl, HUP.out, HBL.out, HNE.out, HB2.out⟩
  case round =>
    obtain ⟨k, g, cap, hk, rfl, rfl, hown, hbl, hne, hnx⟩ := hrel
    clear HUP HBL HNE HB2 lt12
    by_cases hlt : k < m
    · obtain ⟨b1, o1, rfl, -, hb1, hbc⟩ := hbl.at (by rw [HL.out]; omega)
      obtain ⟨b, hb⟩ : ∃ b, way.reverse[k]? = some b := ⟨_, List.getElem?_eq_getElem (by rw [HL.out]; exact hlt)⟩
      obtain ⟨p, hp⟩ : ∃ p, path[k]? = some p := ⟨_, List.getElem?_eq_getElem (by rw [← HWP.out]; exact hlt)⟩
      obtain ⟨bp, op, rfl, hpn, hbp, hpc⟩ := HS.out.at (by rw [← HWP.out]; omega)
      have hpn' : pn = m := hpn.trans HWP.out.symm
      subst hpn'
      have hcb : wr.cell? ⟨b1, o1 + k, none⟩ = some (.bool b) := hbc k b hb
      obtain ⟨ps, hps⟩ : ∃ ps : ByteArray, ps = bs p := ⟨_, rfl⟩
      have hcp : wr.cell? ⟨bp, op + k, none⟩ = some (.string ps) := by rw [hps, hnx.cell (p := ⟨bp, op + k, none⟩) (by show bp < _; omega)]; exact hpc k p hp
      have hkr : (way.reverse.take k).length = k := by rw [List.length_take, HL.out]; omega
      have hkp : (path.take k).length = k := by rw [List.length_take, ← HWP.out]; omega
      obtain ⟨la, hla⟩ : ∃ la, la = Mk.lastT t (way.reverse.take k) (path.take k) := ⟨_, rfl⟩
      obtain ⟨ld, hld⟩ : ∃ ld : ByteArray, ld = bs (Sh.sum la) := ⟨_, rfl⟩
      have hat := Mk.chainT_last (way.reverse.take k) (path.take k) t (by omega)
      rw [hkr, ← hla] at hat
      have hcd : wr.cell? ⟨g, k * 2 + 1, none⟩ = some (.string ld) := by
        rw [hown.cellAt (k * 2 + 1) (by omega), (mcs_at _ k la hat).2, hld]
      obtain ⟨nt, hnt⟩ : ∃ nt, nt = Mk.jt (Sh.sum la) p b := ⟨_, rfl⟩
      obtain ⟨xb, hxb⟩ : ∃ xb : ByteArray, xb = bs nt := ⟨_, rfl⟩
      obtain ⟨yb, hyb⟩ : ∃ yb : ByteArray, yb = bs (Sh.sum nt) := ⟨_, rfl⟩
      have CJ : Hid (∀ W, Below w.heap.size w W → Calls Tryd.prog 47 #[.string ld, .string ps, .bool b] W fun e w' => e = .returned (.agg #[.string xb, .string yb]) ∧ Below W.heap.size W w') := fun W hW => by
        have := joined_c ld ps b (by rw [hld, bs_size, Mk.sum_length]; omega) (by rw [hps, bs_size, H32.out p (List.mem_of_getElem? hp)]; omega) W (HK.out.below HK.out.1 hW)
        rw [hld, hps] at this ⊢
        rw [hxb, hyb, hnt]
        exact this
      have HN : Hid (mcs (Mk.chainT t (way.reverse.take (k + 1)) (path.take (k + 1))) = mcs (Mk.chainT t (way.reverse.take k) (path.take k)) ++ [.string xb, .string yb]) := by
        show _ = _
        rw [List.take_add_one, hb, List.take_add_one, hp]
        show mcs (Mk.chainT t (way.reverse.take k ++ [b]) (path.take k ++ [p])) = _
        rw [Mk.chainT_snoc _ _ _ _ _ (by omega), mcs_app, ← hla, ← hnt, hxb, hyb]
        rfl
      have HOWN : Hid (wr.ownsRow w.heap.size 78 2 (.slice (some ⟨g, 0, none⟩) (k + 1) cap) (k + 1) (mcs (Mk.chainT t (way.reverse.take k) (path.take k)))) := hown
      have HBL : Hid (Bl wr wr.heap.size (.slice (some ⟨b1, o1, none⟩) pn c1) way.reverse) := hbl
      have HNX : Hid (Below w.heap.size w wr) := hnx
      have HNE : Hid (b1 ≠ g) := fun e => hne (by rw [e]; rfl)
      have HBS : Hid (∀ q, (Value.slice (some ⟨g, 0, none⟩) (k + 1) cap).ownBlock = some q → w.heap.size ≤ q) := own_le hown
      have LB1 : Hid (b1 < wr.heap.size) := hb1
      have k0 : (0 : Int) ≤ (k : Int) := by omega
      have k1 : (k : Int) < (pn : Int) := by omega
      have k2 : (k : Int) < (k : Int) + 1 := by omega
      clear hown hbl hnx hne hat hla hld hnt hxb hyb hkr hkp hb hp hps hbc hpc hpn hb1 hbp
      have fit63 : Hid (k + 1 + 1 ≤ maxLen) := by show _ ≤ _; unfold maxLen; omega
      have fit47 : Hid ((k + 1 + 1) * 32 ≤ 140737488355328) := by show _ ≤ _; omega
      go_upto_region 5 with fail
      go_region_law (first
        | (refine step_append_lies _ (by rfl) _ _ _ (by rfl) w.heap.size 78 i0 _ 2 32 Tryd.underlying81 hi hz0 hz1 hz2 rfl (by omega) _ _ _ (by rfl) ((own_stays HOWN.out HB3.out).alloc _) ⟨w3.heap.size, 0, none⟩ 1 1 [.string xb, .string yb] (by rfl) (by rfl) (World.news_of_block (heap_alloc_new w3 _)) (by simp [Value.oneCell']) (by omega) fit63.out fit47.out (by simp; omega) (w3.heap.size + 1) (by simp) ?_; intro gg cap2 w5 hown5 hgrow hat hglt
           have N5 : Hid (w5.ownsRow w.heap.size 78 2 (.slice (some ⟨gg, 0, none⟩) (k + 1 + 1) cap2) (k + 1 + 1) (mcs (Mk.chainT t (way.reverse.take (k + 1)) (path.take (k + 1))))) := (by show World.ownsRow _ _ _ _ _ _ _; rw [HN.out]; exact hown5)
           have N6 : Hid (Below w.heap.size w w5) := (by first | exact (AL.out _).grown hgrow (by simp; omega) HBS.out | exact (AL.out _).drew.grown hgrow (by simp; omega) HBS.out)
           have N7 : Hid (Bl w5 w5.heap.size (.slice (some ⟨b1, o1, none⟩) pn c1) way.reverse) := (by first | exact row_grown (BLL.out _) (Nat.le_refl _) hgrow (by simpa [Value.ownBlock] using HNE.out) | exact row_grown ((BLL.out _).drew) (Nat.le_refl _) hgrow (by simpa [Value.ownBlock] using HNE.out))
           have N8 : Hid (b1 ≠ gg) := (by show b1 ≠ gg; have h1 := LB3.out; have h2 := HNE.out; simp [Value.ownBlock] at hat; omega)
           clear hown5 hgrow hat hglt)
        | (go_simp; go_at_call 47; refine (CJ.out _ ?_).mono ?_; (first | exact HNX.out | exact HNX.out.drew); rintro e w3 ⟨rfl, hb3⟩
           have HB3 : Hid (Below wr.heap.size wr w3) := (by first | exact (Below.refl _ _).drew.trans hb3 | exact hb3)
           have AL : Hid (∀ o, Below w.heap.size w (w3.alloc o)) := fun o => (HNX.out.trans (HB3.out.mono HNX.out.size)).alloc (Nat.le_trans HNX.out.size HB3.out.size) o
           have BLL : Hid (∀ o, Bl (w3.alloc o) (w3.alloc o).heap.size (.slice (some ⟨b1, o1, none⟩) pn c1) way.reverse) := fun o => ((HBL.out.stays HB3.out (Nat.le_refl _)).mono HB3.out.size).stays (Below.alloc (Below.refl _ _) (Nat.le_refl _) o) (Nat.le_refl _) |>.mono (by simp)
           have LB3 : Hid (b1 < w3.heap.size) := Nat.lt_of_lt_of_le LB1.out HB3.out.size
           have hs3 : w.heap.size ≤ w3.heap.size := Nat.le_trans HNX.out.size HB3.out.size
           clear hb3))
      all_goals
        go_wp2
        go_roundw
        case rel => first | exact ⟨k + 1, gg, cap2, by omega, by go_num, rfl, N5.out, N7.out, fun e => N8.out (by injection e), N6.out⟩ | ((repeat apply Exists.intro); exact ⟨⟨k + 1, gg, cap2, by omega, by go_num, rfl, N5.out, N7.out, fun e => N8.out (by injection e), N6.out⟩, rfl⟩)
        case measure => simp [intOf]; omega
    · have hkm : k = m := by omega
      subst hkm
      go_wp2
      go_ret
      refine ⟨_, rfl, ?_, hnx⟩
      rw [List.take_of_length_le (by rw [HL.out]; exact Nat.le_refl _), List.take_of_length_le (by rw [← HWP.out]; exact Nat.le_refl _)] at hown
      exact hown
end Go.Proofs.YtoldfepeldbcpaaDoor
