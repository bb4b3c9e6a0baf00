/- Several texts, joined: JnOpen, JnOps, ZOpen, JnBo -/
import Derived.Test.YtggnfejjcgbebaaGreatDoorJKM
import Derived.Test.YtggnfejjcgbebaaGreatDoorQHM
import Derived.SliceStrings
import Derived.Test.YtggnfejjcgbebaaGreatDoorXAM
import Derived.SizedLaws
import Derived.Test.YtggnfejjcgbebaaGreatDoorQEM
/- A block that is handed in. -/
namespace Go.Proofs.YtggnfejjcgbebaaGreatDoor
open Go.ChangeShapes Go.WideShapes Go.ChangeAt Go.RowKit
open Go.ChangeMaps (open_string shut_string)
open Vl (V)
theorem cellsRev : Tryz.prog.cellsOf 34 = 10 := by kernel_rfl
theorem cellsBlk : Tryz.prog.cellsOf 26 = 5 := by kernel_rfl
theorem cellsRk : Tryz.prog.cellsOf 27 = 1 := by kernel_rfl
theorem cellsU : Tryz.prog.cellsOf 22 = 1 := by kernel_rfl
theorem cellsSts : Tryz.prog.cellsOf 23 = 1 := by kernel_rfl
theorem cellsRvs : Tryz.prog.cellsOf 24 = 1 := by kernel_rfl
theorem list10 {cs : List Value} (h : cs.length = 10) : ∃ c0 c1 c2 c3 c4 c5 c6 c7 c8 c9, cs = [c0, c1, c2, c3, c4, c5, c6, c7, c8, c9] := by
  match cs, h with
  | [c0, c1, c2, c3, c4, c5, c6, c7, c8, c9], _ => exact ⟨c0, c1, c2, c3, c4, c5, c6, c7, c8, c9, rfl⟩
theorem nat_u64 {z : Int} (h : (Lit.int .u64 z).wf = true) : ∃ n : Nat, z = (n : Int) ∧ n < 18446744073709551616 := by
  have h1 : 0 ≤ z ∧ z ≤ 18446744073709551615 := by
    simp only [Lit.wf, IntKind.min, IntKind.max, IntKind.signed, IntKind.bits, Bool.and_eq_true] at h
    simpa using h
  exact ⟨z.toNat, by omega, by omega⟩
theorem nat_u8 {z : Int} (h : (Lit.int .u8 z).wf = true) : ∃ n : Nat, z = (n : Int) ∧ n < 256 := by
  have h1 := bounds_u8 h
  exact ⟨z.toNat, by omega, by omega⟩
theorem open_rev {H : Type} {enc : TypeId × Value → H} {W : World} {base : Nat} {sp : Nat → Bool} {held : Bool} {F : Nat} {cs : List Value} {x : DataW H × List MemPlace} (h : DataW.trod enc Tryz.prog W base sp held F 34 cs = some x) :
    ∃ (r : Jn.R) (c4 c5 c6 c7 c8 c9 : Value), cs = RC r c4 c5 c6 c7 c8 c9 ∧ Rep W W.heap.size r.val (.agg #[c4, c5, c6, c7, c8, c9]) ∧ Jn.Fits r := by
  obtain ⟨xs, n, hn, _, hl, hxl, hf⟩ := DataW.trod_struct Tryz.underlying34 h
  rw [cellsRev] at hl
  obtain ⟨c0, c1, c2, c3, c4, c5, c6, c7, c8, c9, rfl⟩ := list10 hl
  have f0 : DataW.trod enc Tryz.prog W base sp held n 27 (([c0, c1, c2, c3, c4, c5, c6, c7, c8, c9].drop 0).take (Tryz.prog.cellsOf 27)) = xs[0]? := hf 0 _ rfl
  have f1 : DataW.trod enc Tryz.prog W base sp held n 9 (([c0, c1, c2, c3, c4, c5, c6, c7, c8, c9].drop 1).take (Tryz.prog.cellsOf 9)) = xs[1]? := hf 1 _ rfl
  have f2 : DataW.trod enc Tryz.prog W base sp held n 22 (([c0, c1, c2, c3, c4, c5, c6, c7, c8, c9].drop 2).take (Tryz.prog.cellsOf 22)) = xs[2]? := hf 2 _ rfl
  have f3 : DataW.trod enc Tryz.prog W base sp held n 22 (([c0, c1, c2, c3, c4, c5, c6, c7, c8, c9].drop 3).take (Tryz.prog.cellsOf 22)) = xs[3]? := hf 3 _ rfl
  have f4 : DataW.trod enc Tryz.prog W base sp held n 32 (([c0, c1, c2, c3, c4, c5, c6, c7, c8, c9].drop 4).take (Tryz.prog.cellsOf 32)) = xs[4]? := hf 4 _ rfl
  have get : ∀ i, i < 5 → ∃ y, xs[i]? = some y := fun i hi => ⟨_, List.getElem?_eq_getElem (by rw [hxl]; exact hi)⟩
  obtain ⟨y0, e0⟩ := get 0 (by omega)
  obtain ⟨y1, e1⟩ := get 1 (by omega)
  obtain ⟨y2, e2⟩ := get 2 (by omega)
  obtain ⟨y3, e3⟩ := get 3 (by omega)
  obtain ⟨y4, e4⟩ := get 4 (by omega)
  rw [e0, cellsRk] at f0
  rw [e1, cells9] at f1
  rw [e2, cellsU] at f2
  rw [e3, cellsU] at f3
  rw [e4, cells26] at f4
  simp only [List.drop_zero, List.drop_succ_cons, List.take_succ_cons, List.take_zero] at f0 f1 f2 f3 f4
  obtain ⟨k, hk, _, wk⟩ := DataW.trod_int Tryz.underlying27 f0
  obtain ⟨s, hs, _, ws⟩ := DataW.trod_string Tryz.underlying9 f1
  obtain ⟨d, hd, _, wd⟩ := DataW.trod_int Tryz.underlying22 f2
  obtain ⟨v, hv, _, wv⟩ := DataW.trod_int Tryz.underlying22 f3
  obtain ⟨t, a4, a5, a6, a7, a8, a9, ha, hr⟩ := open26 _ _ _ f4
  simp only [List.cons.injEq, and_true] at hk hs hd hv ha
  obtain ⟨rfl, rfl, rfl, rfl, rfl, rfl⟩ := ha
  obtain ⟨kn, rfl, hk2⟩ := nat_u8 wk
  obtain ⟨dn, rfl, hd2⟩ := nat_u64 wd
  obtain ⟨vn, rfl, hv2⟩ := nat_u64 wv
  subst hk hs hd hv
  exact ⟨⟨kn, s, dn, vn, t⟩, c4, c5, c6, c7, c8, c9, rfl, hr, hk2, ws, hd2, hv2⟩
theorem open_sts {H : Type} {enc : TypeId × Value → H} {W : World} {base fuel : Nat} {sp : Nat → Bool} {held : Bool} {v : Value} {x : DataW H × List MemPlace}
    (hf : DataW.trod enc Tryz.prog W base sp held fuel 23 [v] = some x) :
    ∃ a n c, ∃ l : List ByteArray, v = .slice a n c ∧ Sl W W.heap.size (.slice a n c) (l.map fun s => s.data.toList) ∧ ∀ s ∈ l, s.size ≤ maxLen := by
  rcases open_strings Tryz.underlying23 Tryz.underlying9 cells9 hf with ⟨hcs, hx⟩ | ⟨a, len, cap, ss, hcs, _, hl, hm, hz', hx, hcell, hsm⟩
  · simp at hcs
    subst hcs
    exact ⟨none, 0, 0, [], rfl, .inl ⟨rfl, none, 0, rfl⟩, fun x hx => by cases hx⟩
  · simp at hcs
    subst hcs
    have hss : len ≤ ss.length := by rw [hz']; split <;> omega
    have hlen : (ss.take len).length = len := by rw [List.length_take]; omega
    by_cases h0 : 0 < ss.length
    · obtain ⟨b, off, spot⟩ := a
      have hspot : spot = none := by simpa [Addr.add] using World.cell?_spot (hcell 0 h0)
      subst hspot
      have hc : ∀ j, j < ss.length → W.cell? ⟨b, off + j, none⟩ = some (.string (ss.getD j ByteArray.empty)) := fun j hj => by rw [← Go.WideShapes.add_plain]; exact hcell j hj
      have hb : b < W.heap.size := cell_lt (hc 0 h0)
      refine ⟨_, len, cap, ss.take len, rfl, .inr ⟨b, off, cap, by rw [List.length_map, hlen], hb, fun k x hk => ?_⟩, fun s hs => hsm s (List.mem_of_mem_take hs)⟩
      rw [List.getElem?_map, Option.map_eq_some_iff] at hk
      obtain ⟨s, hs, rfl⟩ := hk
      rw [List.getElem?_take] at hs
      split at hs
      · obtain ⟨hkl, e⟩ := List.getElem?_eq_some_iff.1 hs
        rw [hc k hkl, List.getD_eq_getElem?_getD, hs]
        simp [encS, bs_data]
      · cases hs
    · have e : ss = [] := List.eq_nil_of_length_eq_zero (by omega)
      have hl0 : len = 0 := by rw [e] at hss; simpa using hss
      subst hl0
      exact ⟨_, 0, cap, [], rfl, .inl ⟨rfl, _, _, rfl⟩, fun x hx => by cases hx⟩
theorem revAt_of {W : World} {H g p : Nat} {r : Jn.R} {c4 c5 c6 c7 c8 c9 : Value} (cell : ∀ k v, (RC r c4 c5 c6 c7 c8 c9)[k]? = some v → W.cell? ⟨g, p + k, none⟩ = some v) (hr : Rep W H r.val (.agg #[c4, c5, c6, c7, c8, c9])) (h3 : Jn.Fits r) : RevAt W H g p r := by
  obtain ⟨v0, hv⟩ : ∃ v0, r.val = v0 := ⟨_, rfl⟩
  obtain ⟨k0, b0, n0, s0, l0, f0⟩ := v0
  rw [hv] at hr
  have hr' := hr
  rw [Rep] at hr'
  obtain ⟨ao, lc, fo, fc, he, _⟩ := hr'
  simp only [Value.agg.injEq, Array.mk.injEq, List.cons.injEq, and_true] at he
  obtain ⟨rfl, rfl, rfl, rfl, rfl, rfl⟩ := he
  exact ⟨k0, b0, n0, s0, ao, l0.length, lc, fo, f0.length, fc, cell 0 _ rfl, cell 1 _ rfl, cell 2 _ rfl, cell 3 _ rfl, cell 4 _ rfl, cell 5 _ rfl, cell 6 _ rfl, cell 7 _ rfl, cell 8 _ rfl, cell 9 _ rfl, by rw [hv]; exact hr, by rw [hv], h3⟩
theorem open_revs {H : Type} {enc : TypeId × Value → H} {W : World} {base fuel : Nat} {sp : Nat → Bool} {held : Bool} {v : Value} {x : DataW H × List MemPlace}
    (hf : DataW.trod enc Tryz.prog W base sp held fuel 24 [v] = some x) : ∃ (l : List Jn.R) (ao : Option Addr) (lc : Nat), v = .slice ao l.length lc ∧ l.length ≤ maxLen ∧ (0 < l.length → ∃ g o, ao = some ⟨g, o, none⟩ ∧ g < W.heap.size ∧ ∀ i r, l[i]? = some r → RevAt W W.heap.size g (o + i * 10) r) := by
  rcases DataW.trod_slice Tryz.underlying24 hf with ⟨hc, _⟩ | ⟨a, len, cap, elems, rest, q, hq, hc, _, _, hlc, hcm, hel, he, _, _⟩
  · simp at hc
    subst hc
    exact ⟨[], none, 0, rfl, by decide, fun h => by simp at h⟩
  · simp at hc
    subst hc
    rw [cellsRev] at he
    have key : ∀ i, i < len → ∃ cs', W.cells? base (a.add (i * 10)) 10 = some cs' ∧ ∃ y, DataW.trod enc Tryz.prog W base sp held q 34 cs' = some y := fun i hi => by
      have h1 := he i hi
      rw [List.getElem?_eq_getElem (by omega)] at h1
      obtain ⟨cs', h2, h3⟩ := Option.bind_eq_some_iff.1 h1
      exact ⟨cs', h2, _, h3⟩
    by_cases hlen : 0 < len
    · obtain ⟨cs0, hc0, _⟩ := key 0 hlen
      rw [Nat.zero_mul] at hc0
      obtain ⟨g, o, rfl, hg⟩ := spot_none hc0 (by omega)
      have part : ∀ i, i < len → ∃ r : Jn.R, RevAt W W.heap.size g (o + i * 10) r := fun i hi => by
        obtain ⟨cs', h2, y, h3⟩ := key i hi
        obtain ⟨r, c4, c5, c6, c7, c8, c9, rfl, hr, hfit⟩ := open_rev h3
        obtain ⟨_, _, hcell⟩ := World.cells?_some h2
        rw [Addr.add_mid] at hcell
        refine ⟨r, revAt_of (fun k v hv => ?_) hr hfit⟩
        have hk : k < 10 := by have := (List.getElem?_eq_some_iff.1 hv).1; simpa [RC] using this
        have := hcell k hk
        rw [Addr.add_mid] at this
        rw [this]
        simpa using hv
      obtain ⟨l, hll, hp⟩ := gather len part
      subst hll
      exact ⟨l, some ⟨g, o, none⟩, cap, rfl, by omega, fun _ => ⟨g, o, rfl, hg, hp⟩⟩
    · have h0 : len = 0 := by omega
      subst h0
      exact ⟨[], some a, cap, rfl, by decide, fun h => by simp at h⟩
set_option maxRecDepth 100000 in
theorem open_block {H : Type} {enc : TypeId × Value → H} {W : World} {r : Reach} {b0 base : Nat} {sp : Nat → Bool} {held : Bool} {v : Value} {d : DataW H} {p : List MemPlace}
    (hv : Value.okWide Tryz.prog W r b0 26 v) (h : DataW.Trod enc Tryz.prog W base sp held 26 v d p) : ∃ (b : Jn.B) (sa : Option Addr) (sn sc : Nat) (ra : Option Addr) (rn rc : Nat), v = .agg #[.int .u64 (b.seq : Int), .string b.prev, .string b.root, .slice sa sn sc, .slice ra rn rc] ∧ Bk W W.heap.size b sa sn sc ra rn rc := by
  obtain ⟨cs, rfl, hsz⟩ := okWide_struct Tryz.underlying26 hv
  obtain ⟨fuel, hf⟩ := h
  obtain ⟨xs, n, hn, _, hl, hxl, hf⟩ := DataW.trod_struct Tryz.underlying26 hf
  have hcl : cs.toList.length = 5 := hsz.trans cellsBlk
  obtain ⟨c0, c1, c2, c3, c4, hcs⟩ := Jn.list5 hcl
  have e : cs = #[c0, c1, c2, c3, c4] := by rw [← Array.toArray_toList (xs := cs), hcs]
  subst e
  have f0 : DataW.trod enc Tryz.prog W base sp held n 22 (([c0, c1, c2, c3, c4].drop 0).take (Tryz.prog.cellsOf 22)) = xs[0]? := hf 0 _ rfl
  have f1 : DataW.trod enc Tryz.prog W base sp held n 9 (([c0, c1, c2, c3, c4].drop 1).take (Tryz.prog.cellsOf 9)) = xs[1]? := hf 1 _ rfl
  have f2 : DataW.trod enc Tryz.prog W base sp held n 9 (([c0, c1, c2, c3, c4].drop 2).take (Tryz.prog.cellsOf 9)) = xs[2]? := hf 2 _ rfl
  have f3 : DataW.trod enc Tryz.prog W base sp held n 23 (([c0, c1, c2, c3, c4].drop 3).take (Tryz.prog.cellsOf 23)) = xs[3]? := hf 3 _ rfl
  have f4 : DataW.trod enc Tryz.prog W base sp held n 24 (([c0, c1, c2, c3, c4].drop 4).take (Tryz.prog.cellsOf 24)) = xs[4]? := hf 4 _ rfl
  have get : ∀ i, i < 5 → ∃ y, xs[i]? = some y := fun i hi => ⟨_, List.getElem?_eq_getElem (by rw [hxl]; exact hi)⟩
  obtain ⟨y0, e0⟩ := get 0 (by omega)
  obtain ⟨y1, e1⟩ := get 1 (by omega)
  obtain ⟨y2, e2⟩ := get 2 (by omega)
  obtain ⟨y3, e3⟩ := get 3 (by omega)
  obtain ⟨y4, e4⟩ := get 4 (by omega)
  rw [e0, cellsU] at f0
  rw [e1, cells9] at f1
  rw [e2, cells9] at f2
  rw [e3, cellsSts] at f3
  rw [e4, cellsRvs] at f4
  simp only [List.drop_zero, List.drop_succ_cons, List.take_succ_cons, List.take_zero] at f0 f1 f2 f3 f4
  obtain ⟨q, hq, _, wq⟩ := DataW.trod_int Tryz.underlying22 f0
  obtain ⟨s1, hs1, _, ws1⟩ := DataW.trod_string Tryz.underlying9 f1
  obtain ⟨s2, hs2, _, ws2⟩ := DataW.trod_string Tryz.underlying9 f2
  obtain ⟨sa, sn, sc, ss, rfl, hS, hsm⟩ := open_sts f3
  obtain ⟨rs, ra, rc, rfl, hrl, hR⟩ := open_revs f4
  simp only [List.cons.injEq, and_true] at hq hs1 hs2
  obtain ⟨qn, rfl, hq2⟩ := nat_u64 wq
  subst hq hs1 hs2
  exact ⟨⟨qn, s1, s2, ss, rs⟩, sa, sn, sc, ra, rs.length, rc, rfl, hq2, ws1, ws2, hS, hsm, rfl, hrl, hR⟩
end Go.Proofs.YtggnfejjcgbebaaGreatDoor
/- A list of texts, a list of revisions, as arguments. -/
namespace Go.Proofs.YtggnfejjcgbebaaGreatDoor
open Go.ChangeShapes Go.WideShapes Go.ChangeAt Go.RowKit
open Vl (V)
set_option maxRecDepth 100000 in
theorem open_strs {H : Type} {enc : TypeId × Value → H} {W : World} {r : Reach} {b0 base : Nat} {sp : Nat → Bool} {held : Bool} {v : Value} {d : DataW H} {p : List MemPlace}
    (hv : Value.okWide Tryz.prog W r b0 23 v) (h : DataW.Trod enc Tryz.prog W base sp held 23 v d p) : ∃ a n c, ∃ l : List ByteArray, v = .slice a n c ∧ Sl W W.heap.size (.slice a n c) (l.map fun s => s.data.toList) ∧ ∀ s ∈ l, s.size ≤ maxLen := by
  obtain ⟨a0, len0, cap0, rfl⟩ := okWide_slice Tryz.underlying23 hv
  obtain ⟨fuel, hf⟩ := h
  exact open_sts (v := .slice a0 len0 cap0) hf
end Go.Proofs.YtggnfejjcgbebaaGreatDoor
/- No part of an argument is greater than the reach lets in: values, lists of revisions. -/
namespace Go.Proofs.YtggnfejjcgbebaaGreatDoor
open Go.ChangeShapes Go.WideShapes Go.ChangeAt Go.RowKit
open Vl (V)
/-- no part of a reading is greater than the reach -/
def Z {H : Type} (t : TypeId) (d : DataW H) : Prop := ∀ n ∈ d.weights Tryz.prog t, n ≤ 140737488351232
theorem z_part {H : Type} {T t : TypeId} {fs : Array Field} {x : DataW H × List MemPlace} {xs : List (DataW H × List MemPlace)} {ps : List MemPlace} {i : Nat} {y : DataW H × List MemPlace} (hu : Tryz.prog.underlying T = some (.struct fs)) (ht : (fs.toList.map (·.type))[i]? = some t) (h : x = (.agg (xs.map (·.1)), ps)) (hy : xs[i]? = some y) (hz : Z T x.1) : Z t y.1 := by
  intro n hn
  apply hz n
  rw [h]
  simp only [DataW.weights, hu]
  exact DataW.weights_mem_each ht (by rw [List.getElem?_map, hy]; rfl) n hn
theorem weights_mem_all {H : Type} {e : TypeId} : ∀ (l : List (DataW H)) (d : DataW H), d ∈ l → ∀ n ∈ d.weights Tryz.prog e, n ∈ DataW.weightsAll Tryz.prog e l
  | [], _, h => by cases h
  | x :: r, d, h => by
    intro n hn
    simp only [DataW.weightsAll, List.mem_append]
    cases List.mem_cons.1 h with
    | inl e => subst e; exact Or.inl hn
    | inr e => exact Or.inr (weights_mem_all r d e n hn)
theorem z_elem {H : Type} {T e : TypeId} {x : DataW H × List MemPlace} {es rs : List (DataW H × List MemPlace)} {ps : List MemPlace} {i : Nat} {y : DataW H × List MemPlace} (hu : Tryz.prog.underlying T = some (.slice e)) (h : x = (.slice (es.map (·.1)) (rs.map (·.1)), ps)) (hy : es[i]? = some y) (hz : Z T x.1) : Z e y.1 := by
  intro n hn
  apply hz n
  rw [h]
  simp only [DataW.weights, hu]
  refine List.mem_cons_of_mem _ (List.mem_append.2 (Or.inl ?_))
  exact weights_mem_all (es.map (·.1)) y.1 (List.mem_map_of_mem (List.mem_of_getElem? hy)) n hn
theorem z_len {H : Type} {T e : TypeId} {b : Nat} {x : DataW H × List MemPlace} {es rs : List (DataW H × List MemPlace)} {ps : List MemPlace} (hu : Tryz.prog.underlying T = some (.slice e)) (hb : Tryz.prog.bytesOf e = b) (h : x = (.slice (es.map (·.1)) (rs.map (·.1)), ps)) (hz : Z T x.1) : es.length * b ≤ 140737488351232 := by
  have h1 : (es.length + rs.length) * b ≤ 140737488351232 := by
    apply hz
    rw [h]
    simp only [DataW.weights, hu]
    rw [hb, List.length_map, List.length_map]
    exact List.mem_cons_self
  exact Nat.le_trans (Nat.mul_le_mul_right _ (Nat.le_add_right _ _)) h1
theorem z_text {H : Type} {t : TypeId} (s : ByteArray) (hz : Z t (DataW.lit (H := H) (.string s.data.toList))) : s.size ≤ 140737488351232 := by
  have := hz s.data.toList.length (by simp only [DataW.weights]; exact List.mem_cons_self)
  rw [Lib.size_eq]
  exact this
theorem bytes26 : Tryz.prog.bytesOf 32 = 80 := by kernel_rfl
theorem bytes44 : Tryz.prog.bytesOf 147 = 96 := by kernel_rfl
theorem smallL_mk : ∀ (l : List V), (∀ (i : Nat) (x : V), l[i]? = some x → Vl.small x) → Vl.smallL l
  | [], _ => by rw [Vl.smallL]; trivial
  | x :: r, h => by
    rw [Vl.smallL]
    exact ⟨h 0 x rfl, smallL_mk r fun i y hy => h (i + 1) y (by simpa using hy)⟩
theorem smallF_mk : ∀ (l : List (ByteArray × V)), (∀ (i : Nat) (x : ByteArray × V), l[i]? = some x → x.1.size ≤ 140737488351232 ∧ Vl.small x.2) → Vl.smallF l
  | [], _ => by rw [Vl.smallF]; trivial
  | (m, x) :: r, h => by
    rw [Vl.smallF]
    exact ⟨(h 0 (m, x) rfl).1, (h 0 (m, x) rfl).2, smallF_mk r fun i y hy => h (i + 1) y (by simpa using hy)⟩
theorem open26z {H : Type} {enc : TypeId × Value → H} {W : World} {base : Nat} {sp : Nat → Bool} {held : Bool} : ∀ (F : Nat) (cs : List Value) (x : DataW H × List MemPlace), DataW.trod enc Tryz.prog W base sp held F 32 cs = some x →
    ∃ (t : V) (c0 c1 c2 c3 c4 c5 : Value), cs = [c0, c1, c2, c3, c4, c5] ∧ Rep W W.heap.size t (.agg #[c0, c1, c2, c3, c4, c5]) ∧ (Z 32 x.1 → Vl.small t) := by
  intro F
  induction F using Nat.strongRecOn with
  | _ F ih =>
    intro cs x h
    obtain ⟨xs, n, hn, hx1, hl, hxl, hf⟩ := DataW.trod_struct Tryz.underlying32 h
    rw [cells26] at hl
    obtain ⟨c0, c1, c2, c3, c4, c5, rfl⟩ := list6 hl
    have f0 : DataW.trod enc Tryz.prog W base sp held n 28 (([c0, c1, c2, c3, c4, c5].drop 0).take (Tryz.prog.cellsOf 28)) = xs[0]? := hf 0 _ rfl
    have f1 : DataW.trod enc Tryz.prog W base sp held n 4 (([c0, c1, c2, c3, c4, c5].drop 1).take (Tryz.prog.cellsOf 4)) = xs[1]? := hf 1 _ rfl
    have f2 : DataW.trod enc Tryz.prog W base sp held n 2 (([c0, c1, c2, c3, c4, c5].drop 2).take (Tryz.prog.cellsOf 2)) = xs[2]? := hf 2 _ rfl
    have f3 : DataW.trod enc Tryz.prog W base sp held n 9 (([c0, c1, c2, c3, c4, c5].drop 3).take (Tryz.prog.cellsOf 9)) = xs[3]? := hf 3 _ rfl
    have f4 : DataW.trod enc Tryz.prog W base sp held n 29 (([c0, c1, c2, c3, c4, c5].drop 4).take (Tryz.prog.cellsOf 29)) = xs[4]? := hf 4 _ rfl
    have f5 : DataW.trod enc Tryz.prog W base sp held n 30 (([c0, c1, c2, c3, c4, c5].drop 5).take (Tryz.prog.cellsOf 30)) = xs[5]? := hf 5 _ rfl
    have get : ∀ i, i < 6 → ∃ y, xs[i]? = some y := fun i hi => ⟨_, List.getElem?_eq_getElem (by rw [hxl]; exact hi)⟩
    obtain ⟨y0, e0⟩ := get 0 (by omega)
    obtain ⟨y1, e1⟩ := get 1 (by omega)
    obtain ⟨y2, e2⟩ := get 2 (by omega)
    obtain ⟨y3, e3⟩ := get 3 (by omega)
    obtain ⟨y4, e4⟩ := get 4 (by omega)
    obtain ⟨y5, e5⟩ := get 5 (by omega)
    rw [e0, cells22] at f0
    rw [e1, cells4] at f1
    rw [e2, cells2] at f2
    rw [e3, cells9] at f3
    rw [e4, cells23] at f4
    rw [e5, cells24] at f5
    simp only [List.drop_zero, List.drop_succ_cons, List.take_succ_cons, List.take_zero] at f0 f1 f2 f3 f4 f5
    obtain ⟨k, hk, _, wk⟩ := DataW.trod_int under22 f0
    obtain ⟨b, hb, _⟩ := DataW.trod_bool Tryz.underlying4 f1
    obtain ⟨m, hm, _, wm⟩ := DataW.trod_int Tryz.underlying2 f2
    obtain ⟨s, hs, hy3, ws⟩ := DataW.trod_string Tryz.underlying9 f3
    simp only [List.cons.injEq, and_true] at hk hb hm hs
    have bk := bounds_u8 wk
    have bm := bounds_i64 wm
    have hL : ∃ (l : List V) (ao : Option Addr) (lc : Nat), c4 = .slice ao l.length lc ∧ l.length ≤ maxLen ∧ (0 < l.length → ∃ g o, ao = some ⟨g, o, none⟩ ∧ g < W.heap.size ∧ RepL W W.heap.size g o l) ∧ (Z 29 y4.1 → l.length ≤ 1759218604390 ∧ Vl.smallL l) := by
      rcases DataW.trod_slice Tryz.underlying29 f4 with ⟨hc, _⟩ | ⟨a, len, cap, elems, rest, q, hq, hc, hy, _, hlc, hcm, hel, he, _, _⟩
      · simp only [List.cons.injEq, and_true] at hc
        exact ⟨[], none, 0, hc, by decide, fun h => by simp at h, fun _ => ⟨by decide, by rw [Vl.smallL]; trivial⟩⟩
      · simp only [List.cons.injEq, and_true] at hc
        rw [cells26] at he
        have key : ∀ i, i < len → ∃ cs', W.cells? base (a.add (i * 6)) 6 = some cs' ∧ ∃ y, elems[i]? = some y ∧ DataW.trod enc Tryz.prog W base sp held q 32 cs' = some y := fun i hi => by
          have h1 := he i hi
          have h4 : elems[i]? = some elems[i] := List.getElem?_eq_getElem (by omega)
          rw [h4] at h1
          obtain ⟨cs', h2, h3⟩ := Option.bind_eq_some_iff.1 h1
          exact ⟨cs', h2, _, h4, h3⟩
        by_cases hlen : 0 < len
        · obtain ⟨cs0, hc0, _⟩ := key 0 hlen
          rw [Nat.zero_mul] at hc0
          obtain ⟨g, o, rfl, hg⟩ := spot_none hc0 (by omega)
          have part : ∀ i, i < len → ∃ t : V, (∃ d0 d1 d2 d3 d4 d5, Six W g (o + i * 6) d0 d1 d2 d3 d4 d5 ∧ Rep W W.heap.size t (.agg #[d0, d1, d2, d3, d4, d5])) ∧ (Z 29 y4.1 → Vl.small t) := fun i hi => by
            obtain ⟨cs', h2, y, hey, h3⟩ := key i hi
            obtain ⟨t, d0, d1, d2, d3, d4, d5, rfl, hr, hsm⟩ := ih q (by omega) cs' y h3
            obtain ⟨_, _, hcell⟩ := World.cells?_some h2
            rw [Addr.add_mid] at hcell
            have hc := fun j (hj : j < 6) => by
              have := hcell j hj
              rwa [Addr.add_mid] at this
            exact ⟨t, ⟨d0, d1, d2, d3, d4, d5, ⟨hc 0 (by omega), hc 1 (by omega), hc 2 (by omega), hc 3 (by omega), hc 4 (by omega), hc 5 (by omega)⟩, hr⟩, fun hbk => hsm (z_elem Tryz.underlying29 hy hey hbk)⟩
          obtain ⟨l, hll, hp⟩ := gather len part
          subst hll
          exact ⟨l, some ⟨g, o, none⟩, cap, hc, by omega, fun _ => ⟨g, o, rfl, hg, repL_mk l o fun j x hx => (hp j x hx).1⟩, fun hbk => ⟨by have := z_len Tryz.underlying29 bytes26 hy hbk; omega, smallL_mk l fun j x hx => (hp j x hx).2 hbk⟩⟩
        · have h0 : len = 0 := by omega
          subst h0
          exact ⟨[], some a, cap, hc, by decide, fun h => by simp at h, fun _ => ⟨by decide, by rw [Vl.smallL]; trivial⟩⟩
    have hF : ∃ (l : List (ByteArray × V)) (ao : Option Addr) (lc : Nat), c5 = .slice ao l.length lc ∧ l.length ≤ maxLen ∧ (0 < l.length → ∃ g o, ao = some ⟨g, o, none⟩ ∧ g < W.heap.size ∧ RepF W W.heap.size g o l) ∧ (Z 30 y5.1 → l.length ≤ 1466015503658 ∧ Vl.smallF l) := by
      rcases DataW.trod_slice Tryz.underlying30 f5 with ⟨hc, _⟩ | ⟨a, len, cap, elems, rest, q, hq, hc, hy, _, hlc, hcm, hel, he, _, _⟩
      · simp only [List.cons.injEq, and_true] at hc
        exact ⟨[], none, 0, hc, by decide, fun h => by simp at h, fun _ => ⟨by decide, by rw [Vl.smallF]; trivial⟩⟩
      · simp only [List.cons.injEq, and_true] at hc
        rw [cells44] at he
        have key : ∀ i, i < len → ∃ cs', W.cells? base (a.add (i * 7)) 7 = some cs' ∧ ∃ y, elems[i]? = some y ∧ DataW.trod enc Tryz.prog W base sp held q 147 cs' = some y := fun i hi => by
          have h1 := he i hi
          have h4 : elems[i]? = some elems[i] := List.getElem?_eq_getElem (by omega)
          rw [h4] at h1
          obtain ⟨cs', h2, h3⟩ := Option.bind_eq_some_iff.1 h1
          exact ⟨cs', h2, _, h4, h3⟩
        by_cases hlen : 0 < len
        · obtain ⟨cs0, hc0, _⟩ := key 0 hlen
          rw [Nat.zero_mul] at hc0
          obtain ⟨g, o, rfl, hg⟩ := spot_none hc0 (by omega)
          have part : ∀ i, i < len → ∃ p : ByteArray × V, (W.cell? ⟨g, o + i * 7, none⟩ = some (.string p.1) ∧ p.1.size ≤ maxLen ∧ ∃ d0 d1 d2 d3 d4 d5, Six W g (o + i * 7 + 1) d0 d1 d2 d3 d4 d5 ∧ Rep W W.heap.size p.2 (.agg #[d0, d1, d2, d3, d4, d5])) ∧ (Z 30 y5.1 → p.1.size ≤ 140737488351232 ∧ Vl.small p.2) := fun i hi => by
            obtain ⟨cs', h2, y, hey, h3⟩ := key i hi
            obtain ⟨zs, r, hr, hyz, hzl, hzz, hz⟩ := DataW.trod_struct Tryz.underlying147 h3
            rw [cells44] at hzl
            obtain ⟨d0, d1, d2, d3, d4, d5, d6, rfl⟩ := list7 hzl
            have g0 : DataW.trod enc Tryz.prog W base sp held r 9 (([d0, d1, d2, d3, d4, d5, d6].drop 0).take (Tryz.prog.cellsOf 9)) = zs[0]? := hz 0 _ rfl
            have g1 : DataW.trod enc Tryz.prog W base sp held r 32 (([d0, d1, d2, d3, d4, d5, d6].drop 1).take (Tryz.prog.cellsOf 32)) = zs[1]? := hz 1 _ rfl
            obtain ⟨u0, hu0⟩ : ∃ u0, zs[0]? = some u0 := ⟨_, List.getElem?_eq_getElem (by rw [hzz]; decide)⟩
            obtain ⟨u1, hu1⟩ : ∃ u1, zs[1]? = some u1 := ⟨_, List.getElem?_eq_getElem (by rw [hzz]; decide)⟩
            rw [hu0, cells9] at g0
            rw [hu1, cells26] at g1
            simp only [List.drop_zero, List.drop_succ_cons, List.take_succ_cons, List.take_zero] at g0 g1
            obtain ⟨nm, hnm, hun, wnm⟩ := DataW.trod_string Tryz.underlying9 g0
            simp only [List.cons.injEq, and_true] at hnm
            obtain ⟨t, a0, a1, a2, a3, a4, a5, hd, hrep, hsm⟩ := ih r (by omega) _ _ g1
            simp only [List.cons.injEq, and_true] at hd
            obtain ⟨rfl, rfl, rfl, rfl, rfl, rfl⟩ := hd
            subst hnm
            obtain ⟨_, _, hcell⟩ := World.cells?_some h2
            rw [Addr.add_mid] at hcell
            have hc := fun j (hj : j < 7) => by
              have := hcell j hj
              rwa [Addr.add_mid] at this
            exact ⟨(nm, t), ⟨hc 0 (by omega), wnm, d1, d2, d3, d4, d5, d6, ⟨hc 1 (by omega), hc 2 (by omega), hc 3 (by omega), hc 4 (by omega), hc 5 (by omega), hc 6 (by omega)⟩, hrep⟩, fun hbk => by
              have hb1 := z_elem Tryz.underlying30 hy hey hbk
              have hb2 := z_part Tryz.underlying147 rfl hyz hu0 hb1
              have hb3 := z_part Tryz.underlying147 rfl hyz hu1 hb1
              rw [hun] at hb2
              exact ⟨z_text nm hb2, hsm hb3⟩⟩
          obtain ⟨l, hll, hp⟩ := gather len part
          subst hll
          exact ⟨l, some ⟨g, o, none⟩, cap, hc, by omega, fun _ => ⟨g, o, rfl, hg, repF_mk l o fun j m x hx => (hp j (m, x) hx).1⟩, fun hbk => ⟨by have := z_len Tryz.underlying30 bytes44 hy hbk; omega, smallF_mk l fun j x hx => (hp j x hx).2 hbk⟩⟩
        · have h0 : len = 0 := by omega
          subst h0
          exact ⟨[], some a, cap, hc, by decide, fun h => by simp at h, fun _ => ⟨by decide, by rw [Vl.smallF]; trivial⟩⟩
    obtain ⟨l, ao, lc, hc4, hll, hl1, hls⟩ := hL
    obtain ⟨f, fo, fc, hc5, hfl, hf1, hfs⟩ := hF
    refine ⟨⟨k.toNat, b, m, s, l, f⟩, c0, c1, c2, c3, c4, c5, rfl, ?_, fun hbk => ?_⟩
    · rw [Rep]
      refine ⟨ao, lc, fo, fc, ?_, by omega, by omega, ws, hll, hfl, hl1, hf1⟩
      rw [hk, hb, hm, hs, hc4, hc5, show ((k.toNat : Nat) : Int) = k by omega]
    · have b3 := z_part Tryz.underlying32 rfl hx1 e3 hbk
      have b4 := z_part Tryz.underlying32 rfl hx1 e4 hbk
      have b5 := z_part Tryz.underlying32 rfl hx1 e5 hbk
      rw [hy3] at b3
      obtain ⟨q1, q2⟩ := hls b4
      obtain ⟨q3, q4⟩ := hfs b5
      rw [Vl.small]
      exact ⟨z_text s b3, q1, by omega, q2, q4⟩
theorem bytesRev : Tryz.prog.bytesOf 34 = 120 := by kernel_rfl
theorem open_rev_z {H : Type} {enc : TypeId × Value → H} {W : World} {base : Nat} {sp : Nat → Bool} {held : Bool} {F : Nat} {cs : List Value} {x : DataW H × List MemPlace} (h : DataW.trod enc Tryz.prog W base sp held F 34 cs = some x) :
    ∃ (r : Jn.R) (c4 c5 c6 c7 c8 c9 : Value), cs = RC r c4 c5 c6 c7 c8 c9 ∧ Rep W W.heap.size r.val (.agg #[c4, c5, c6, c7, c8, c9]) ∧ Jn.Fits r ∧ (Z 34 x.1 → Vl.small r.val) := by
  obtain ⟨xs, n, hn, hx1, hl, hxl, hf⟩ := DataW.trod_struct Tryz.underlying34 h
  rw [cellsRev] at hl
  obtain ⟨c0, c1, c2, c3, c4, c5, c6, c7, c8, c9, rfl⟩ := list10 hl
  have f0 : DataW.trod enc Tryz.prog W base sp held n 27 (([c0, c1, c2, c3, c4, c5, c6, c7, c8, c9].drop 0).take (Tryz.prog.cellsOf 27)) = xs[0]? := hf 0 _ rfl
  have f1 : DataW.trod enc Tryz.prog W base sp held n 9 (([c0, c1, c2, c3, c4, c5, c6, c7, c8, c9].drop 1).take (Tryz.prog.cellsOf 9)) = xs[1]? := hf 1 _ rfl
  have f2 : DataW.trod enc Tryz.prog W base sp held n 22 (([c0, c1, c2, c3, c4, c5, c6, c7, c8, c9].drop 2).take (Tryz.prog.cellsOf 22)) = xs[2]? := hf 2 _ rfl
  have f3 : DataW.trod enc Tryz.prog W base sp held n 22 (([c0, c1, c2, c3, c4, c5, c6, c7, c8, c9].drop 3).take (Tryz.prog.cellsOf 22)) = xs[3]? := hf 3 _ rfl
  have f4 : DataW.trod enc Tryz.prog W base sp held n 32 (([c0, c1, c2, c3, c4, c5, c6, c7, c8, c9].drop 4).take (Tryz.prog.cellsOf 32)) = xs[4]? := hf 4 _ rfl
  have get : ∀ i, i < 5 → ∃ y, xs[i]? = some y := fun i hi => ⟨_, List.getElem?_eq_getElem (by rw [hxl]; exact hi)⟩
  obtain ⟨y0, e0⟩ := get 0 (by omega)
  obtain ⟨y1, e1⟩ := get 1 (by omega)
  obtain ⟨y2, e2⟩ := get 2 (by omega)
  obtain ⟨y3, e3⟩ := get 3 (by omega)
  obtain ⟨y4, e4⟩ := get 4 (by omega)
  rw [e0, cellsRk] at f0
  rw [e1, cells9] at f1
  rw [e2, cellsU] at f2
  rw [e3, cellsU] at f3
  rw [e4, cells26] at f4
  simp only [List.drop_zero, List.drop_succ_cons, List.take_succ_cons, List.take_zero] at f0 f1 f2 f3 f4
  obtain ⟨k, hk, _, wk⟩ := DataW.trod_int Tryz.underlying27 f0
  obtain ⟨s, hs, _, ws⟩ := DataW.trod_string Tryz.underlying9 f1
  obtain ⟨d, hd, _, wd⟩ := DataW.trod_int Tryz.underlying22 f2
  obtain ⟨v, hv, _, wv⟩ := DataW.trod_int Tryz.underlying22 f3
  obtain ⟨t, a4, a5, a6, a7, a8, a9, ha, hr, hsm⟩ := open26z _ _ _ f4
  simp only [List.cons.injEq, and_true] at hk hs hd hv ha
  obtain ⟨rfl, rfl, rfl, rfl, rfl, rfl⟩ := ha
  obtain ⟨kn, rfl, hk2⟩ := nat_u8 wk
  obtain ⟨dn, rfl, hd2⟩ := nat_u64 wd
  obtain ⟨vn, rfl, hv2⟩ := nat_u64 wv
  subst hk hs hd hv
  exact ⟨⟨kn, s, dn, vn, t⟩, c4, c5, c6, c7, c8, c9, rfl, hr, ⟨hk2, ws, hd2, hv2⟩, fun hz => hsm (z_part Tryz.underlying34 rfl hx1 e4 hz)⟩
theorem open_revs_z {H : Type} {enc : TypeId × Value → H} {W : World} {base fuel : Nat} {sp : Nat → Bool} {held : Bool} {v : Value} {x : DataW H × List MemPlace}
    (hf : DataW.trod enc Tryz.prog W base sp held fuel 24 [v] = some x) : ∃ (l : List Jn.R) (ao : Option Addr) (lc : Nat), v = .slice ao l.length lc ∧ (Z 24 x.1 → l.length * 120 ≤ 140737488351232 ∧ ∀ r ∈ l, Vl.small r.val) ∧ (0 < l.length → ∃ g o, ao = some ⟨g, o, none⟩ ∧ g < W.heap.size ∧ ∀ i r, l[i]? = some r → RevAt W W.heap.size g (o + i * 10) r) := by
  rcases DataW.trod_slice Tryz.underlying24 hf with ⟨hc, _⟩ | ⟨a, len, cap, elems, rest, q, hq, hc, hy, _, hlc, hcm, hel, he, _, _⟩
  · simp at hc
    subst hc
    exact ⟨[], none, 0, rfl, fun _ => ⟨by decide, fun r hr => by cases hr⟩, fun h => by simp at h⟩
  · simp at hc
    subst hc
    rw [cellsRev] at he
    have key : ∀ i, i < len → ∃ cs', W.cells? base (a.add (i * 10)) 10 = some cs' ∧ ∃ y, elems[i]? = some y ∧ DataW.trod enc Tryz.prog W base sp held q 34 cs' = some y := fun i hi => by
      have h1 := he i hi
      have h4 : elems[i]? = some elems[i] := List.getElem?_eq_getElem (by omega)
      rw [h4] at h1
      obtain ⟨cs', h2, h3⟩ := Option.bind_eq_some_iff.1 h1
      exact ⟨cs', h2, _, h4, h3⟩
    by_cases hlen : 0 < len
    · obtain ⟨cs0, hc0, _⟩ := key 0 hlen
      rw [Nat.zero_mul] at hc0
      obtain ⟨g, o, rfl, hg⟩ := spot_none hc0 (by omega)
      have part : ∀ i, i < len → ∃ r : Jn.R, RevAt W W.heap.size g (o + i * 10) r ∧ (Z 24 x.1 → Vl.small r.val) := fun i hi => by
        obtain ⟨cs', h2, y, hey, h3⟩ := key i hi
        obtain ⟨r, c4, c5, c6, c7, c8, c9, rfl, hr, hfit, hsm⟩ := open_rev_z h3
        obtain ⟨_, _, hcell⟩ := World.cells?_some h2
        rw [Addr.add_mid] at hcell
        refine ⟨r, revAt_of (fun k v hv => ?_) hr hfit, fun hz => hsm (z_elem Tryz.underlying24 hy hey hz)⟩
        have hk : k < 10 := by have := (List.getElem?_eq_some_iff.1 hv).1; simpa [RC] using this
        have := hcell k hk
        rw [Addr.add_mid] at this
        rw [this]
        simpa using hv
      obtain ⟨l, hll, hp⟩ := gather len part
      subst hll
      exact ⟨l, some ⟨g, o, none⟩, cap, rfl, fun hz => ⟨by have := z_len Tryz.underlying24 bytesRev hy hz; rw [hel] at this; exact this, fun r hr => by
        obtain ⟨i, hi⟩ := List.getElem?_of_mem hr
        exact (hp i r hi).2 hz⟩, fun _ => ⟨g, o, rfl, hg, fun i r hi => (hp i r hi).1⟩⟩
    · have h0 : len = 0 := by omega
      subst h0
      exact ⟨[], some a, cap, rfl, fun _ => ⟨by decide, fun r hr => by cases hr⟩, fun h => by simp at h⟩
set_option maxRecDepth 100000 in
theorem open_revz {H : Type} {enc : TypeId × Value → H} {W : World} {r : Reach} {b0 base : Nat} {sp : Nat → Bool} {held : Bool} {v : Value} {d : DataW H} {p : List MemPlace}
    (hv : Value.okWide Tryz.prog W r b0 24 v) (h : DataW.Trod enc Tryz.prog W base sp held 24 v d p) (hz : ∀ n ∈ d.weights Tryz.prog 24, n ≤ 140737488351232) : ∃ (l : List Jn.R) (ao : Option Addr) (lc : Nat), v = .slice ao l.length lc ∧ l.length * 120 ≤ 140737488351232 ∧ (∀ r ∈ l, Vl.small r.val) ∧ (0 < l.length → ∃ g o, ao = some ⟨g, o, none⟩ ∧ g < W.heap.size ∧ ∀ i r, l[i]? = some r → RevAt W W.heap.size g (o + i * 10) r) := by
  obtain ⟨a0, len0, cap0, rfl⟩ := okWide_slice Tryz.underlying24 hv
  obtain ⟨fuel, hf⟩ := h
  obtain ⟨l, ao, lc, e, h1, h2⟩ := open_revs_z (v := .slice a0 len0 cap0) hf
  exact ⟨l, ao, lc, e, (h1 hz).1, (h1 hz).2, h2⟩
end Go.Proofs.YtggnfejjcgbebaaGreatDoor
/- A revision, a number and a head as arguments, opened. -/
namespace Go.Proofs.YtggnfejjcgbebaaGreatDoor
open Go.ChangeShapes Go.WideShapes Go.ChangeAt Go.RowKit
open Vl (V)
theorem rep_cellsE {W : World} {H : Nat} {t : V} {c4 c5 c6 c7 c8 c9 : Value} (hr : Rep W H t (.agg #[c4, c5, c6, c7, c8, c9])) : ∃ (xk : Nat) (xb : Bool) (xn : Int) (xs : ByteArray) (xa : Option Addr) (xl xc : Nat) (ya : Option Addr) (yl yc : Nat), c4 = .int .u8 (xk : Int) ∧ c5 = .bool xb ∧ c6 = .int .i64 xn ∧ c7 = .string xs ∧ c8 = .slice xa xl xc ∧ c9 = .slice ya yl yc ∧ xk = t.1 := by
  obtain ⟨k0, b0, n0, s0, l0, f0⟩ := t
  rw [Rep] at hr
  obtain ⟨ao, lc, fo, fc, he, _⟩ := hr
  simp at he
  obtain ⟨rfl, rfl, rfl, rfl, rfl, rfl⟩ := he
  exact ⟨k0, b0, n0, s0, ao, _, lc, fo, _, fc, rfl, rfl, rfl, rfl, rfl, rfl, rfl⟩
set_option maxRecDepth 100000 in
theorem open_reva {H : Type} {enc : TypeId × Value → H} {W : World} {r : Reach} {b0 base : Nat} {sp : Nat → Bool} {held : Bool} {v : Value} {d : DataW H} {p : List MemPlace}
    (hv : Value.okWide Tryz.prog W r b0 34 v) (h : DataW.Trod enc Tryz.prog W base sp held 34 v d p) : ∃ (r : Jn.R) (xk : Nat) (xb : Bool) (xn : Int) (xs : ByteArray) (xa : Option Addr) (xl xc : Nat) (ya : Option Addr) (yl yc : Nat), v = .agg #[.int .u8 (r.kind : Int), .string r.table, .int .u64 (r.doc : Int), .int .u64 (r.ver : Int), .int .u8 (xk : Int), .bool xb, .int .i64 xn, .string xs, .slice xa xl xc, .slice ya yl yc] ∧ Rep W W.heap.size r.val (.agg #[.int .u8 (xk : Int), .bool xb, .int .i64 xn, .string xs, .slice xa xl xc, .slice ya yl yc]) ∧ xk = r.val.1 ∧ Jn.Fits r := by
  obtain ⟨cs, rfl, hsz⟩ := okWide_struct Tryz.underlying34 hv
  obtain ⟨fuel, hf⟩ := h
  obtain ⟨r, c4, c5, c6, c7, c8, c9, e, hr, hfit⟩ := open_rev hf
  obtain ⟨xk, xb, xn, xs, xa, xl, xc, ya, yl, yc, rfl, rfl, rfl, rfl, rfl, rfl, hx⟩ := rep_cellsE hr
  have e2 : cs = (RC r (.int .u8 (xk : Int)) (.bool xb) (.int .i64 xn) (.string xs) (.slice xa xl xc) (.slice ya yl yc)).toArray := by rw [← e]; simp [Value.cells]
  subst e2
  exact ⟨r, xk, xb, xn, xs, xa, xl, xc, ya, yl, yc, rfl, hr, hx, hfit⟩
end Go.Proofs.YtggnfejjcgbebaaGreatDoor
