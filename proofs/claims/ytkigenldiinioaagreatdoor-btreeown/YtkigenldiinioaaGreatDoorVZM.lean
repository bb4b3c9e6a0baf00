/- No part of an argument is greater than the reach lets in: values. -/
import Derived.Test.YtkigenldiinioaaGreatDoorQ42M
import Derived.Test.YtkigenldiinioaaGreatDoorQ32M
import Derived.SizedLaws
namespace Go.Proofs.YtkigenldiinioaaGreatDoor
open Go.ChangeShapes Go.WideShapes Go.ChangeAt Go.RowKit
open Vl (V)
/-- no part of a reading is greater than the reach -/
def Z {H : Type} (t : TypeId) (d : DataW H) : Prop := ∀ n ∈ d.weights Tryz.prog t, n ≤ 140737488351232
theorem z_part {H : Type} {T t : TypeId} {fs : Array Field} {x : DataW H × List MemPlace} {xs : List (DataW H × List MemPlace)} {ps : List MemPlace} {i : Nat} {y : DataW H × List MemPlace} (hu : Tryz.prog.underlying T = some (.struct fs)) (ht : (fs.toList.map (·.type))[i]? = some t) (h : x = (.agg (xs.map (·.1)), ps)) (hy : xs[i]? = some y) (hz : Z T x.1) : Z t y.1 := by
  intro n hn
  apply hz n
  rw [h]
  simp only [DataW.weights, hu]
  exact DataW.weights_mem_each ht (by rw [List.getElem?_map, hy]; rfl) n hn
theorem weights_mem_all {H : Type} {e : TypeId} : ∀ (l : List (DataW H)) (d : DataW H), d ∈ l → ∀ n ∈ d.weights Tryz.prog e, n ∈ DataW.weightsAll Tryz.prog e l
  | [], _, h => by cases h
  | x :: r, d, h => by
    intro n hn
    simp only [DataW.weightsAll, List.mem_append]
    cases List.mem_cons.1 h with
    | inl e => subst e; exact Or.inl hn
    | inr e => exact Or.inr (weights_mem_all r d e n hn)
theorem z_elem {H : Type} {T e : TypeId} {x : DataW H × List MemPlace} {es rs : List (DataW H × List MemPlace)} {ps : List MemPlace} {i : Nat} {y : DataW H × List MemPlace} (hu : Tryz.prog.underlying T = some (.slice e)) (h : x = (.slice (es.map (·.1)) (rs.map (·.1)), ps)) (hy : es[i]? = some y) (hz : Z T x.1) : Z e y.1 := by
  intro n hn
  apply hz n
  rw [h]
  simp only [DataW.weights, hu]
  refine List.mem_cons_of_mem _ (List.mem_append.2 (Or.inl ?_))
  exact weights_mem_all (es.map (·.1)) y.1 (List.mem_map_of_mem (List.mem_of_getElem? hy)) n hn
theorem z_len {H : Type} {T e : TypeId} {b : Nat} {x : DataW H × List MemPlace} {es rs : List (DataW H × List MemPlace)} {ps : List MemPlace} (hu : Tryz.prog.underlying T = some (.slice e)) (hb : Tryz.prog.bytesOf e = b) (h : x = (.slice (es.map (·.1)) (rs.map (·.1)), ps)) (hz : Z T x.1) : es.length * b ≤ 140737488351232 := by
  have h1 : (es.length + rs.length) * b ≤ 140737488351232 := by
    apply hz
    rw [h]
    simp only [DataW.weights, hu]
    rw [hb, List.length_map, List.length_map]
    exact List.mem_cons_self
  exact Nat.le_trans (Nat.mul_le_mul_right _ (Nat.le_add_right _ _)) h1
theorem z_text {H : Type} {t : TypeId} (s : ByteArray) (hz : Z t (DataW.lit (H := H) (.string s.data.toList))) : s.size ≤ 140737488351232 := by
  have := hz s.data.toList.length (by simp only [DataW.weights]; exact List.mem_cons_self)
  rw [Lib.size_eq]
  exact this
theorem sized_at {H : Type} {ts : List TypeId} {ds : List (DataW H)} (h : (DataW.weightsEach Tryz.prog ts ds).all (· ≤ reachBytes) = true) {j : Nat} {t : TypeId} {d : DataW H} (ht : ts[j]? = some t) (hd : ds[j]? = some d) : Z t d := by
  intro n hn
  have := List.all_eq_true.1 h _ (DataW.weights_mem_each ht hd n hn)
  have h2 : n ≤ reachBytes := of_decide_eq_true this
  exact h2
theorem bytes26 : Tryz.prog.bytesOf 27 = 80 := by kernel_rfl
theorem bytes44 : Tryz.prog.bytesOf 62 = 96 := by kernel_rfl
theorem bytes9 : Tryz.prog.bytesOf 9 = 16 := by kernel_rfl
theorem smallL_mk : ∀ (l : List V), (∀ (i : Nat) (x : V), l[i]? = some x → Vl.small x) → Vl.smallL l
  | [], _ => by rw [Vl.smallL]; trivial
  | x :: r, h => by
    rw [Vl.smallL]
    exact ⟨h 0 x rfl, smallL_mk r fun i y hy => h (i + 1) y (by simpa using hy)⟩
theorem smallF_mk : ∀ (l : List (ByteArray × V)), (∀ (i : Nat) (x : ByteArray × V), l[i]? = some x → x.1.size ≤ 140737488351232 ∧ Vl.small x.2) → Vl.smallF l
  | [], _ => by rw [Vl.smallF]; trivial
  | (m, x) :: r, h => by
    rw [Vl.smallF]
    exact ⟨(h 0 (m, x) rfl).1, (h 0 (m, x) rfl).2, smallF_mk r fun i y hy => h (i + 1) y (by simpa using hy)⟩
theorem open26z {H : Type} {enc : TypeId × Value → H} {W : World} {base : Nat} {sp : Nat → Bool} {held : Bool} : ∀ (F : Nat) (cs : List Value) (x : DataW H × List MemPlace), DataW.trod enc Tryz.prog W base sp held F 27 cs = some x →
    ∃ (t : V) (c0 c1 c2 c3 c4 c5 : Value), cs = [c0, c1, c2, c3, c4, c5] ∧ Rep W W.heap.size t (.agg #[c0, c1, c2, c3, c4, c5]) ∧ (Z 27 x.1 → Vl.small t) := by
  intro F
  induction F using Nat.strongRecOn with
  | _ F ih =>
    intro cs x h
    obtain ⟨xs, n, hn, hx1, hl, hxl, hf⟩ := DataW.trod_struct Tryz.underlying27 h
    rw [cells26] at hl
    obtain ⟨c0, c1, c2, c3, c4, c5, rfl⟩ := list6 hl
    have f0 : DataW.trod enc Tryz.prog W base sp held n 23 (([c0, c1, c2, c3, c4, c5].drop 0).take (Tryz.prog.cellsOf 23)) = xs[0]? := hf 0 _ rfl
    have f1 : DataW.trod enc Tryz.prog W base sp held n 4 (([c0, c1, c2, c3, c4, c5].drop 1).take (Tryz.prog.cellsOf 4)) = xs[1]? := hf 1 _ rfl
    have f2 : DataW.trod enc Tryz.prog W base sp held n 2 (([c0, c1, c2, c3, c4, c5].drop 2).take (Tryz.prog.cellsOf 2)) = xs[2]? := hf 2 _ rfl
    have f3 : DataW.trod enc Tryz.prog W base sp held n 9 (([c0, c1, c2, c3, c4, c5].drop 3).take (Tryz.prog.cellsOf 9)) = xs[3]? := hf 3 _ rfl
    have f4 : DataW.trod enc Tryz.prog W base sp held n 24 (([c0, c1, c2, c3, c4, c5].drop 4).take (Tryz.prog.cellsOf 24)) = xs[4]? := hf 4 _ rfl
    have f5 : DataW.trod enc Tryz.prog W base sp held n 25 (([c0, c1, c2, c3, c4, c5].drop 5).take (Tryz.prog.cellsOf 25)) = xs[5]? := hf 5 _ rfl
    have get : ∀ i, i < 6 → ∃ y, xs[i]? = some y := fun i hi => ⟨_, List.getElem?_eq_getElem (by rw [hxl]; exact hi)⟩
    obtain ⟨y0, e0⟩ := get 0 (by omega)
    obtain ⟨y1, e1⟩ := get 1 (by omega)
    obtain ⟨y2, e2⟩ := get 2 (by omega)
    obtain ⟨y3, e3⟩ := get 3 (by omega)
    obtain ⟨y4, e4⟩ := get 4 (by omega)
    obtain ⟨y5, e5⟩ := get 5 (by omega)
    rw [e0, cells22] at f0
    rw [e1, cells4] at f1
    rw [e2, cells2] at f2
    rw [e3, cells9] at f3
    rw [e4, cells23] at f4
    rw [e5, cells24] at f5
    simp only [List.drop_zero, List.drop_succ_cons, List.take_succ_cons, List.take_zero] at f0 f1 f2 f3 f4 f5
    obtain ⟨k, hk, _, wk⟩ := DataW.trod_int under22 f0
    obtain ⟨b, hb, _⟩ := DataW.trod_bool Tryz.underlying4 f1
    obtain ⟨m, hm, _, wm⟩ := DataW.trod_int Tryz.underlying2 f2
    obtain ⟨s, hs, hy3, ws⟩ := DataW.trod_string Tryz.underlying9 f3
    simp only [List.cons.injEq, and_true] at hk hb hm hs
    have bk := bounds_u8 wk
    have bm := bounds_i64 wm
    have hL : ∃ (l : List V) (ao : Option Addr) (lc : Nat), c4 = .slice ao l.length lc ∧ l.length ≤ maxLen ∧ (0 < l.length → ∃ g o, ao = some ⟨g, o, none⟩ ∧ g < W.heap.size ∧ RepL W W.heap.size g o l) ∧ (Z 24 y4.1 → l.length ≤ 1759218604390 ∧ Vl.smallL l) := by
      rcases DataW.trod_slice Tryz.underlying24 f4 with ⟨hc, _⟩ | ⟨a, len, cap, elems, rest, q, hq, hc, hy, _, hlc, hcm, hel, he, _, _⟩
      · simp only [List.cons.injEq, and_true] at hc
        exact ⟨[], none, 0, hc, by decide, fun h => by simp at h, fun _ => ⟨by decide, by rw [Vl.smallL]; trivial⟩⟩
      · simp only [List.cons.injEq, and_true] at hc
        rw [cells26] at he
        have key : ∀ i, i < len → ∃ cs', W.cells? base (a.add (i * 6)) 6 = some cs' ∧ ∃ y, elems[i]? = some y ∧ DataW.trod enc Tryz.prog W base sp held q 27 cs' = some y := fun i hi => by
          have h1 := he i hi
          have h4 : elems[i]? = some elems[i] := List.getElem?_eq_getElem (by omega)
          rw [h4] at h1
          obtain ⟨cs', h2, h3⟩ := Option.bind_eq_some_iff.1 h1
          exact ⟨cs', h2, _, h4, h3⟩
        by_cases hlen : 0 < len
        · obtain ⟨cs0, hc0, _⟩ := key 0 hlen
          rw [Nat.zero_mul] at hc0
          obtain ⟨g, o, rfl, hg⟩ := spot_none hc0 (by omega)
          have part : ∀ i, i < len → ∃ t : V, (∃ d0 d1 d2 d3 d4 d5, Six W g (o + i * 6) d0 d1 d2 d3 d4 d5 ∧ Rep W W.heap.size t (.agg #[d0, d1, d2, d3, d4, d5])) ∧ (Z 24 y4.1 → Vl.small t) := fun i hi => by
            obtain ⟨cs', h2, y, hey, h3⟩ := key i hi
            obtain ⟨t, d0, d1, d2, d3, d4, d5, rfl, hr, hsm⟩ := ih q (by omega) cs' y h3
            obtain ⟨_, _, hcell⟩ := World.cells?_some h2
            rw [Addr.add_mid] at hcell
            have hc := fun j (hj : j < 6) => by
              have := hcell j hj
              rwa [Addr.add_mid] at this
            exact ⟨t, ⟨d0, d1, d2, d3, d4, d5, ⟨hc 0 (by omega), hc 1 (by omega), hc 2 (by omega), hc 3 (by omega), hc 4 (by omega), hc 5 (by omega)⟩, hr⟩, fun hbk => hsm (z_elem Tryz.underlying24 hy hey hbk)⟩
          obtain ⟨l, hll, hp⟩ := gather len part
          subst hll
          exact ⟨l, some ⟨g, o, none⟩, cap, hc, by omega, fun _ => ⟨g, o, rfl, hg, repL_mk l o fun j x hx => (hp j x hx).1⟩, fun hbk => ⟨by have := z_len Tryz.underlying24 bytes26 hy hbk; omega, smallL_mk l fun j x hx => (hp j x hx).2 hbk⟩⟩
        · have h0 : len = 0 := by omega
          subst h0
          exact ⟨[], some a, cap, hc, by decide, fun h => by simp at h, fun _ => ⟨by decide, by rw [Vl.smallL]; trivial⟩⟩
    have hF : ∃ (l : List (ByteArray × V)) (ao : Option Addr) (lc : Nat), c5 = .slice ao l.length lc ∧ l.length ≤ maxLen ∧ (0 < l.length → ∃ g o, ao = some ⟨g, o, none⟩ ∧ g < W.heap.size ∧ RepF W W.heap.size g o l) ∧ (Z 25 y5.1 → l.length ≤ 1466015503658 ∧ Vl.smallF l) := by
      rcases DataW.trod_slice Tryz.underlying25 f5 with ⟨hc, _⟩ | ⟨a, len, cap, elems, rest, q, hq, hc, hy, _, hlc, hcm, hel, he, _, _⟩
      · simp only [List.cons.injEq, and_true] at hc
        exact ⟨[], none, 0, hc, by decide, fun h => by simp at h, fun _ => ⟨by decide, by rw [Vl.smallF]; trivial⟩⟩
      · simp only [List.cons.injEq, and_true] at hc
        rw [cells44] at he
        have key : ∀ i, i < len → ∃ cs', W.cells? base (a.add (i * 7)) 7 = some cs' ∧ ∃ y, elems[i]? = some y ∧ DataW.trod enc Tryz.prog W base sp held q 62 cs' = some y := fun i hi => by
          have h1 := he i hi
          have h4 : elems[i]? = some elems[i] := List.getElem?_eq_getElem (by omega)
          rw [h4] at h1
          obtain ⟨cs', h2, h3⟩ := Option.bind_eq_some_iff.1 h1
          exact ⟨cs', h2, _, h4, h3⟩
        by_cases hlen : 0 < len
        · obtain ⟨cs0, hc0, _⟩ := key 0 hlen
          rw [Nat.zero_mul] at hc0
          obtain ⟨g, o, rfl, hg⟩ := spot_none hc0 (by omega)
          have part : ∀ i, i < len → ∃ p : ByteArray × V, (W.cell? ⟨g, o + i * 7, none⟩ = some (.string p.1) ∧ p.1.size ≤ maxLen ∧ ∃ d0 d1 d2 d3 d4 d5, Six W g (o + i * 7 + 1) d0 d1 d2 d3 d4 d5 ∧ Rep W W.heap.size p.2 (.agg #[d0, d1, d2, d3, d4, d5])) ∧ (Z 25 y5.1 → p.1.size ≤ 140737488351232 ∧ Vl.small p.2) := fun i hi => by
            obtain ⟨cs', h2, y, hey, h3⟩ := key i hi
            obtain ⟨zs, r, hr, hyz, hzl, hzz, hz⟩ := DataW.trod_struct Tryz.underlying62 h3
            rw [cells44] at hzl
            obtain ⟨d0, d1, d2, d3, d4, d5, d6, rfl⟩ := list7 hzl
            have g0 : DataW.trod enc Tryz.prog W base sp held r 9 (([d0, d1, d2, d3, d4, d5, d6].drop 0).take (Tryz.prog.cellsOf 9)) = zs[0]? := hz 0 _ rfl
            have g1 : DataW.trod enc Tryz.prog W base sp held r 27 (([d0, d1, d2, d3, d4, d5, d6].drop 1).take (Tryz.prog.cellsOf 27)) = zs[1]? := hz 1 _ rfl
            obtain ⟨u0, hu0⟩ : ∃ u0, zs[0]? = some u0 := ⟨_, List.getElem?_eq_getElem (by rw [hzz]; decide)⟩
            obtain ⟨u1, hu1⟩ : ∃ u1, zs[1]? = some u1 := ⟨_, List.getElem?_eq_getElem (by rw [hzz]; decide)⟩
            rw [hu0, cells9] at g0
            rw [hu1, cells26] at g1
            simp only [List.drop_zero, List.drop_succ_cons, List.take_succ_cons, List.take_zero] at g0 g1
            obtain ⟨nm, hnm, hun, wnm⟩ := DataW.trod_string Tryz.underlying9 g0
            simp only [List.cons.injEq, and_true] at hnm
            obtain ⟨t, a0, a1, a2, a3, a4, a5, hd, hrep, hsm⟩ := ih r (by omega) _ _ g1
            simp only [List.cons.injEq, and_true] at hd
            obtain ⟨rfl, rfl, rfl, rfl, rfl, rfl⟩ := hd
            subst hnm
            obtain ⟨_, _, hcell⟩ := World.cells?_some h2
            rw [Addr.add_mid] at hcell
            have hc := fun j (hj : j < 7) => by
              have := hcell j hj
              rwa [Addr.add_mid] at this
            exact ⟨(nm, t), ⟨hc 0 (by omega), wnm, d1, d2, d3, d4, d5, d6, ⟨hc 1 (by omega), hc 2 (by omega), hc 3 (by omega), hc 4 (by omega), hc 5 (by omega), hc 6 (by omega)⟩, hrep⟩, fun hbk => by
              have hb1 := z_elem Tryz.underlying25 hy hey hbk
              have hb2 := z_part Tryz.underlying62 rfl hyz hu0 hb1
              have hb3 := z_part Tryz.underlying62 rfl hyz hu1 hb1
              rw [hun] at hb2
              exact ⟨z_text nm hb2, hsm hb3⟩⟩
          obtain ⟨l, hll, hp⟩ := gather len part
          subst hll
          exact ⟨l, some ⟨g, o, none⟩, cap, hc, by omega, fun _ => ⟨g, o, rfl, hg, repF_mk l o fun j m x hx => (hp j (m, x) hx).1⟩, fun hbk => ⟨by have := z_len Tryz.underlying25 bytes44 hy hbk; omega, smallF_mk l fun j x hx => (hp j x hx).2 hbk⟩⟩
        · have h0 : len = 0 := by omega
          subst h0
          exact ⟨[], some a, cap, hc, by decide, fun h => by simp at h, fun _ => ⟨by decide, by rw [Vl.smallF]; trivial⟩⟩
    obtain ⟨l, ao, lc, hc4, hll, hl1, hls⟩ := hL
    obtain ⟨f, fo, fc, hc5, hfl, hf1, hfs⟩ := hF
    refine ⟨⟨k.toNat, b, m, s, l, f⟩, c0, c1, c2, c3, c4, c5, rfl, ?_, fun hbk => ?_⟩
    · rw [Rep]
      refine ⟨ao, lc, fo, fc, ?_, by omega, by omega, ws, hll, hfl, hl1, hf1⟩
      rw [hk, hb, hm, hs, hc4, hc5, show ((k.toNat : Nat) : Int) = k by omega]
    · have b3 := z_part Tryz.underlying27 rfl hx1 e3 hbk
      have b4 := z_part Tryz.underlying27 rfl hx1 e4 hbk
      have b5 := z_part Tryz.underlying27 rfl hx1 e5 hbk
      rw [hy3] at b3
      obtain ⟨q1, q2⟩ := hls b4
      obtain ⟨q3, q4⟩ := hfs b5
      rw [Vl.small]
      exact ⟨z_text s b3, q1, by omega, q2, q4⟩
set_option maxRecDepth 100000 in
/-- a value that came in, and its size -/
theorem open_sized {H : Type} {enc : TypeId × Value → H} {W : World} {r : Reach} {b0 base : Nat} {sp : Nat → Bool} {held : Bool} {v : Value} {d : DataW H} {p : List MemPlace}
    (hv : Value.okWide Tryz.prog W r b0 27 v) (h : DataW.Trod enc Tryz.prog W base sp held 27 v d p) : ∃ t : V, Rep W W.heap.size t v ∧ (Z 27 d → Vl.small t) := by
  obtain ⟨cs, rfl, _⟩ := okWide_struct Tryz.underlying27 hv
  obtain ⟨fuel, hf⟩ := h
  obtain ⟨t, c0, c1, c2, c3, c4, c5, hc, hr, hs⟩ := open26z fuel _ _ hf
  have e : cs = #[c0, c1, c2, c3, c4, c5] := by
    have h1 : cs.toList = [c0, c1, c2, c3, c4, c5] := hc
    rw [← Array.toArray_toList (xs := cs), h1]
  exact ⟨t, by rw [e]; exact hr, hs⟩
end Go.Proofs.YtkigenldiinioaaGreatDoor
