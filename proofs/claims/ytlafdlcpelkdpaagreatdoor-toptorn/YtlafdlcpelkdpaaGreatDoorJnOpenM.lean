/- A block that is handed in. -/
import Derived.Test.YtlafdlcpelkdpaaGreatDoorJKM
import Derived.Test.YtlafdlcpelkdpaaGreatDoorQHM
import Derived.SliceStrings
namespace Go.Proofs.YtlafdlcpelkdpaaGreatDoor
open Go.ChangeShapes Go.WideShapes Go.ChangeAt Go.RowKit
open Go.ChangeMaps (open_string shut_string)
open Vl (V)
theorem cellsRev : Tryz.prog.cellsOf 110 = 10 := by kernel_rfl
theorem cellsBlk : Tryz.prog.cellsOf 32 = 5 := by kernel_rfl
theorem cellsRk : Tryz.prog.cellsOf 108 = 1 := by kernel_rfl
theorem cellsU : Tryz.prog.cellsOf 28 = 1 := by kernel_rfl
theorem cellsSts : Tryz.prog.cellsOf 29 = 1 := by kernel_rfl
theorem cellsRvs : Tryz.prog.cellsOf 30 = 1 := by kernel_rfl
theorem list10 {cs : List Value} (h : cs.length = 10) : ∃ c0 c1 c2 c3 c4 c5 c6 c7 c8 c9, cs = [c0, c1, c2, c3, c4, c5, c6, c7, c8, c9] := by
  match cs, h with
  | [c0, c1, c2, c3, c4, c5, c6, c7, c8, c9], _ => exact ⟨c0, c1, c2, c3, c4, c5, c6, c7, c8, c9, rfl⟩
theorem nat_u64 {z : Int} (h : (Lit.int .u64 z).wf = true) : ∃ n : Nat, z = (n : Int) ∧ n < 18446744073709551616 := by
  have h1 : 0 ≤ z ∧ z ≤ 18446744073709551615 := by
    simp only [Lit.wf, IntKind.min, IntKind.max, IntKind.signed, IntKind.bits, Bool.and_eq_true] at h
    simpa using h
  exact ⟨z.toNat, by omega, by omega⟩
theorem nat_u8 {z : Int} (h : (Lit.int .u8 z).wf = true) : ∃ n : Nat, z = (n : Int) ∧ n < 256 := by
  have h1 := bounds_u8 h
  exact ⟨z.toNat, by omega, by omega⟩
theorem open_rev {H : Type} {enc : TypeId × Value → H} {W : World} {base : Nat} {sp : Nat → Bool} {held : Bool} {F : Nat} {cs : List Value} {x : DataW H × List MemPlace} (h : DataW.trod enc Tryz.prog W base sp held F 110 cs = some x) :
    ∃ (r : Jn.R) (c4 c5 c6 c7 c8 c9 : Value), cs = RC r c4 c5 c6 c7 c8 c9 ∧ Rep W W.heap.size r.val (.agg #[c4, c5, c6, c7, c8, c9]) ∧ Jn.Fits r := by
  obtain ⟨xs, n, hn, _, hl, hxl, hf⟩ := DataW.trod_struct Tryz.underlying110 h
  rw [cellsRev] at hl
  obtain ⟨c0, c1, c2, c3, c4, c5, c6, c7, c8, c9, rfl⟩ := list10 hl
  have f0 : DataW.trod enc Tryz.prog W base sp held n 108 (([c0, c1, c2, c3, c4, c5, c6, c7, c8, c9].drop 0).take (Tryz.prog.cellsOf 108)) = xs[0]? := hf 0 _ rfl
  have f1 : DataW.trod enc Tryz.prog W base sp held n 9 (([c0, c1, c2, c3, c4, c5, c6, c7, c8, c9].drop 1).take (Tryz.prog.cellsOf 9)) = xs[1]? := hf 1 _ rfl
  have f2 : DataW.trod enc Tryz.prog W base sp held n 28 (([c0, c1, c2, c3, c4, c5, c6, c7, c8, c9].drop 2).take (Tryz.prog.cellsOf 28)) = xs[2]? := hf 2 _ rfl
  have f3 : DataW.trod enc Tryz.prog W base sp held n 28 (([c0, c1, c2, c3, c4, c5, c6, c7, c8, c9].drop 3).take (Tryz.prog.cellsOf 28)) = xs[3]? := hf 3 _ rfl
  have f4 : DataW.trod enc Tryz.prog W base sp held n 53 (([c0, c1, c2, c3, c4, c5, c6, c7, c8, c9].drop 4).take (Tryz.prog.cellsOf 53)) = xs[4]? := hf 4 _ rfl
  have get : ∀ i, i < 5 → ∃ y, xs[i]? = some y := fun i hi => ⟨_, List.getElem?_eq_getElem (by rw [hxl]; exact hi)⟩
  obtain ⟨y0, e0⟩ := get 0 (by omega)
  obtain ⟨y1, e1⟩ := get 1 (by omega)
  obtain ⟨y2, e2⟩ := get 2 (by omega)
  obtain ⟨y3, e3⟩ := get 3 (by omega)
  obtain ⟨y4, e4⟩ := get 4 (by omega)
  rw [e0, cellsRk] at f0
  rw [e1, cells9] at f1
  rw [e2, cellsU] at f2
  rw [e3, cellsU] at f3
  rw [e4, cells26] at f4
  simp only [List.drop_zero, List.drop_succ_cons, List.take_succ_cons, List.take_zero] at f0 f1 f2 f3 f4
  obtain ⟨k, hk, _, wk⟩ := DataW.trod_int Tryz.underlying108 f0
  obtain ⟨s, hs, _, ws⟩ := DataW.trod_string Tryz.underlying9 f1
  obtain ⟨d, hd, _, wd⟩ := DataW.trod_int Tryz.underlying28 f2
  obtain ⟨v, hv, _, wv⟩ := DataW.trod_int Tryz.underlying28 f3
  obtain ⟨t, a4, a5, a6, a7, a8, a9, ha, hr⟩ := open26 _ _ _ f4
  simp only [List.cons.injEq, and_true] at hk hs hd hv ha
  obtain ⟨rfl, rfl, rfl, rfl, rfl, rfl⟩ := ha
  obtain ⟨kn, rfl, hk2⟩ := nat_u8 wk
  obtain ⟨dn, rfl, hd2⟩ := nat_u64 wd
  obtain ⟨vn, rfl, hv2⟩ := nat_u64 wv
  subst hk hs hd hv
  exact ⟨⟨kn, s, dn, vn, t⟩, c4, c5, c6, c7, c8, c9, rfl, hr, hk2, ws, hd2, hv2⟩
theorem open_sts {H : Type} {enc : TypeId × Value → H} {W : World} {base fuel : Nat} {sp : Nat → Bool} {held : Bool} {v : Value} {x : DataW H × List MemPlace}
    (hf : DataW.trod enc Tryz.prog W base sp held fuel 29 [v] = some x) :
    ∃ a n c, ∃ l : List ByteArray, v = .slice a n c ∧ Sl W W.heap.size (.slice a n c) (l.map fun s => s.data.toList) ∧ ∀ s ∈ l, s.size ≤ maxLen := by
  rcases open_strings Tryz.underlying29 Tryz.underlying9 cells9 hf with ⟨hcs, hx⟩ | ⟨a, len, cap, ss, hcs, _, hl, hm, hz', hx, hcell, hsm⟩
  · simp at hcs
    subst hcs
    exact ⟨none, 0, 0, [], rfl, .inl ⟨rfl, none, 0, rfl⟩, fun x hx => by cases hx⟩
  · simp at hcs
    subst hcs
    have hss : len ≤ ss.length := by rw [hz']; split <;> omega
    have hlen : (ss.take len).length = len := by rw [List.length_take]; omega
    by_cases h0 : 0 < ss.length
    · obtain ⟨b, off, spot⟩ := a
      have hspot : spot = none := by simpa [Addr.add] using World.cell?_spot (hcell 0 h0)
      subst hspot
      have hc : ∀ j, j < ss.length → W.cell? ⟨b, off + j, none⟩ = some (.string (ss.getD j ByteArray.empty)) := fun j hj => by rw [← Go.WideShapes.add_plain]; exact hcell j hj
      have hb : b < W.heap.size := cell_lt (hc 0 h0)
      refine ⟨_, len, cap, ss.take len, rfl, .inr ⟨b, off, cap, by rw [List.length_map, hlen], hb, fun k x hk => ?_⟩, fun s hs => hsm s (List.mem_of_mem_take hs)⟩
      rw [List.getElem?_map, Option.map_eq_some_iff] at hk
      obtain ⟨s, hs, rfl⟩ := hk
      rw [List.getElem?_take] at hs
      split at hs
      · obtain ⟨hkl, e⟩ := List.getElem?_eq_some_iff.1 hs
        rw [hc k hkl, List.getD_eq_getElem?_getD, hs]
        simp [encS, bs_data]
      · cases hs
    · have e : ss = [] := List.eq_nil_of_length_eq_zero (by omega)
      have hl0 : len = 0 := by rw [e] at hss; simpa using hss
      subst hl0
      exact ⟨_, 0, cap, [], rfl, .inl ⟨rfl, _, _, rfl⟩, fun x hx => by cases hx⟩
theorem revAt_of {W : World} {H g p : Nat} {r : Jn.R} {c4 c5 c6 c7 c8 c9 : Value} (cell : ∀ k v, (RC r c4 c5 c6 c7 c8 c9)[k]? = some v → W.cell? ⟨g, p + k, none⟩ = some v) (hr : Rep W H r.val (.agg #[c4, c5, c6, c7, c8, c9])) (h3 : Jn.Fits r) : RevAt W H g p r := by
  obtain ⟨v0, hv⟩ : ∃ v0, r.val = v0 := ⟨_, rfl⟩
  obtain ⟨k0, b0, n0, s0, l0, f0⟩ := v0
  rw [hv] at hr
  have hr' := hr
  rw [Rep] at hr'
  obtain ⟨ao, lc, fo, fc, he, _⟩ := hr'
  simp only [Value.agg.injEq, Array.mk.injEq, List.cons.injEq, and_true] at he
  obtain ⟨rfl, rfl, rfl, rfl, rfl, rfl⟩ := he
  exact ⟨k0, b0, n0, s0, ao, l0.length, lc, fo, f0.length, fc, cell 0 _ rfl, cell 1 _ rfl, cell 2 _ rfl, cell 3 _ rfl, cell 4 _ rfl, cell 5 _ rfl, cell 6 _ rfl, cell 7 _ rfl, cell 8 _ rfl, cell 9 _ rfl, by rw [hv]; exact hr, by rw [hv], h3⟩
theorem open_revs {H : Type} {enc : TypeId × Value → H} {W : World} {base fuel : Nat} {sp : Nat → Bool} {held : Bool} {v : Value} {x : DataW H × List MemPlace}
    (hf : DataW.trod enc Tryz.prog W base sp held fuel 30 [v] = some x) : ∃ (l : List Jn.R) (ao : Option Addr) (lc : Nat), v = .slice ao l.length lc ∧ l.length ≤ maxLen ∧ (0 < l.length → ∃ g o, ao = some ⟨g, o, none⟩ ∧ g < W.heap.size ∧ ∀ i r, l[i]? = some r → RevAt W W.heap.size g (o + i * 10) r) := by
  rcases DataW.trod_slice Tryz.underlying30 hf with ⟨hc, _⟩ | ⟨a, len, cap, elems, rest, q, hq, hc, _, _, hlc, hcm, hel, he, _, _⟩
  · simp at hc
    subst hc
    exact ⟨[], none, 0, rfl, by decide, fun h => by simp at h⟩
  · simp at hc
    subst hc
    rw [cellsRev] at he
    have key : ∀ i, i < len → ∃ cs', W.cells? base (a.add (i * 10)) 10 = some cs' ∧ ∃ y, DataW.trod enc Tryz.prog W base sp held q 110 cs' = some y := fun i hi => by
      have h1 := he i hi
      rw [List.getElem?_eq_getElem (by omega)] at h1
      obtain ⟨cs', h2, h3⟩ := Option.bind_eq_some_iff.1 h1
      exact ⟨cs', h2, _, h3⟩
    by_cases hlen : 0 < len
    · obtain ⟨cs0, hc0, _⟩ := key 0 hlen
      rw [Nat.zero_mul] at hc0
      obtain ⟨g, o, rfl, hg⟩ := spot_none hc0 (by omega)
      have part : ∀ i, i < len → ∃ r : Jn.R, RevAt W W.heap.size g (o + i * 10) r := fun i hi => by
        obtain ⟨cs', h2, y, h3⟩ := key i hi
        obtain ⟨r, c4, c5, c6, c7, c8, c9, rfl, hr, hfit⟩ := open_rev h3
        obtain ⟨_, _, hcell⟩ := World.cells?_some h2
        rw [Addr.add_mid] at hcell
        refine ⟨r, revAt_of (fun k v hv => ?_) hr hfit⟩
        have hk : k < 10 := by have := (List.getElem?_eq_some_iff.1 hv).1; simpa [RC] using this
        have := hcell k hk
        rw [Addr.add_mid] at this
        rw [this]
        simpa using hv
      obtain ⟨l, hll, hp⟩ := gather len part
      subst hll
      exact ⟨l, some ⟨g, o, none⟩, cap, rfl, by omega, fun _ => ⟨g, o, rfl, hg, hp⟩⟩
    · have h0 : len = 0 := by omega
      subst h0
      exact ⟨[], some a, cap, rfl, by decide, fun h => by simp at h⟩
set_option maxRecDepth 100000 in
theorem open_block {H : Type} {enc : TypeId × Value → H} {W : World} {r : Reach} {b0 base : Nat} {sp : Nat → Bool} {held : Bool} {v : Value} {d : DataW H} {p : List MemPlace}
    (hv : Value.okWide Tryz.prog W r b0 32 v) (h : DataW.Trod enc Tryz.prog W base sp held 32 v d p) : ∃ (b : Jn.B) (sa : Option Addr) (sn sc : Nat) (ra : Option Addr) (rn rc : Nat), v = .agg #[.int .u64 (b.seq : Int), .string b.prev, .string b.root, .slice sa sn sc, .slice ra rn rc] ∧ Bk W W.heap.size b sa sn sc ra rn rc := by
  obtain ⟨cs, rfl, hsz⟩ := okWide_struct Tryz.underlying32 hv
  obtain ⟨fuel, hf⟩ := h
  obtain ⟨xs, n, hn, _, hl, hxl, hf⟩ := DataW.trod_struct Tryz.underlying32 hf
  have hcl : cs.toList.length = 5 := hsz.trans cellsBlk
  obtain ⟨c0, c1, c2, c3, c4, hcs⟩ := Jn.list5 hcl
  have e : cs = #[c0, c1, c2, c3, c4] := by rw [← Array.toArray_toList (xs := cs), hcs]
  subst e
  have f0 : DataW.trod enc Tryz.prog W base sp held n 28 (([c0, c1, c2, c3, c4].drop 0).take (Tryz.prog.cellsOf 28)) = xs[0]? := hf 0 _ rfl
  have f1 : DataW.trod enc Tryz.prog W base sp held n 9 (([c0, c1, c2, c3, c4].drop 1).take (Tryz.prog.cellsOf 9)) = xs[1]? := hf 1 _ rfl
  have f2 : DataW.trod enc Tryz.prog W base sp held n 9 (([c0, c1, c2, c3, c4].drop 2).take (Tryz.prog.cellsOf 9)) = xs[2]? := hf 2 _ rfl
  have f3 : DataW.trod enc Tryz.prog W base sp held n 29 (([c0, c1, c2, c3, c4].drop 3).take (Tryz.prog.cellsOf 29)) = xs[3]? := hf 3 _ rfl
  have f4 : DataW.trod enc Tryz.prog W base sp held n 30 (([c0, c1, c2, c3, c4].drop 4).take (Tryz.prog.cellsOf 30)) = xs[4]? := hf 4 _ rfl
  have get : ∀ i, i < 5 → ∃ y, xs[i]? = some y := fun i hi => ⟨_, List.getElem?_eq_getElem (by rw [hxl]; exact hi)⟩
  obtain ⟨y0, e0⟩ := get 0 (by omega)
  obtain ⟨y1, e1⟩ := get 1 (by omega)
  obtain ⟨y2, e2⟩ := get 2 (by omega)
  obtain ⟨y3, e3⟩ := get 3 (by omega)
  obtain ⟨y4, e4⟩ := get 4 (by omega)
  rw [e0, cellsU] at f0
  rw [e1, cells9] at f1
  rw [e2, cells9] at f2
  rw [e3, cellsSts] at f3
  rw [e4, cellsRvs] at f4
  simp only [List.drop_zero, List.drop_succ_cons, List.take_succ_cons, List.take_zero] at f0 f1 f2 f3 f4
  obtain ⟨q, hq, _, wq⟩ := DataW.trod_int Tryz.underlying28 f0
  obtain ⟨s1, hs1, _, ws1⟩ := DataW.trod_string Tryz.underlying9 f1
  obtain ⟨s2, hs2, _, ws2⟩ := DataW.trod_string Tryz.underlying9 f2
  obtain ⟨sa, sn, sc, ss, rfl, hS, hsm⟩ := open_sts f3
  obtain ⟨rs, ra, rc, rfl, hrl, hR⟩ := open_revs f4
  simp only [List.cons.injEq, and_true] at hq hs1 hs2
  obtain ⟨qn, rfl, hq2⟩ := nat_u64 wq
  subst hq hs1 hs2
  exact ⟨⟨qn, s1, s2, ss, rs⟩, sa, sn, sc, ra, rs.length, rc, rfl, hq2, ws1, ws2, hS, hsm, rfl, hrl, hR⟩
end Go.Proofs.YtlafdlcpelkdpaaGreatDoor
