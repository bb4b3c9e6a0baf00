/- Several texts, joined: VOpen, BtOp -/
import Derived.Test.YtkigenldiinioaaGreatDoorQ15M
import Derived.Test.YtkigenldiinioaaGreatDoorCards
import Derived.Test.YtkigenldiinioaaGreatDoorTie
import Derived.ProofKit
import Derived.OpenShut
import Derived.Deep.Slices
import Derived.Deep.DeepHandedRow
import Derived.SizedLaws
import Derived.Lib.LaidU8T
import Derived.Lay
import Derived.Deep.DeepWitnessRowRef
import Derived.Test.YtkigenldiinioaaGreatDoorQ06M
/- A value handed in, opened: whatever reads as a value lies as one. -/
namespace Go.Proofs.YtkigenldiinioaaGreatDoor
open Go.ChangeShapes Go.WideShapes Go.ChangeAt Go.RowKit
open Vl (V)
theorem cell_lt {w : World} {g o : Nat} {v : Value} (h : w.cell? ⟨g, o, none⟩ = some v) : g < w.heap.size := Bn.lt_of_cell h
theorem cells26 : Tryz.prog.cellsOf 27 = 6 := by kernel_rfl
theorem cells44 : Tryz.prog.cellsOf 62 = 7 := by kernel_rfl
theorem cells22 : Tryz.prog.cellsOf 23 = 1 := by kernel_rfl
theorem cells4 : Tryz.prog.cellsOf 4 = 1 := by kernel_rfl
theorem cells2 : Tryz.prog.cellsOf 2 = 1 := by kernel_rfl
theorem cells9 : Tryz.prog.cellsOf 9 = 1 := by kernel_rfl
theorem cells23 : Tryz.prog.cellsOf 24 = 1 := by kernel_rfl
theorem cells24 : Tryz.prog.cellsOf 25 = 1 := by kernel_rfl
theorem under22 : Tryz.prog.underlying 23 = some (.int .u8) := Tryz.underlying23
/-- a list out of what there is at each place -/
theorem gather {α : Type} {P : Nat → α → Prop} : ∀ (n : Nat), (∀ i, i < n → ∃ x, P i x) → ∃ l : List α, l.length = n ∧ ∀ i x, l[i]? = some x → P i x
  | 0, _ => ⟨[], rfl, fun i x h => by simp at h⟩
  | n + 1, h => by
    obtain ⟨l, hl, hp⟩ := gather n (fun i hi => h i (by omega))
    obtain ⟨x, hx⟩ := h n (by omega)
    refine ⟨l ++ [x], by simp [hl], fun i y hy => ?_⟩
    by_cases hi : i < n
    · rw [List.getElem?_append_left (by omega)] at hy
      exact hp i y hy
    · rw [List.getElem?_append_right (by omega), hl] at hy
      have : i - n = 0 := by
        have := (List.getElem?_eq_some_iff.1 hy).1
        simpa using this
      rw [this] at hy
      simp only [List.getElem?_cons_zero, Option.some.injEq] at hy
      rw [← hy, show i = n by omega]
      exact hx
theorem list6 {cs : List Value} (h : cs.length = 6) : ∃ c0 c1 c2 c3 c4 c5, cs = [c0, c1, c2, c3, c4, c5] := by
  match cs, h with
  | [c0, c1, c2, c3, c4, c5], _ => exact ⟨c0, c1, c2, c3, c4, c5, rfl⟩
theorem list7 {cs : List Value} (h : cs.length = 7) : ∃ c0 c1 c2 c3 c4 c5 c6, cs = [c0, c1, c2, c3, c4, c5, c6] := by
  match cs, h with
  | [c0, c1, c2, c3, c4, c5, c6], _ => exact ⟨c0, c1, c2, c3, c4, c5, c6, rfl⟩
theorem spot_none {W : World} {a : Addr} {base n : Nat} {cs : List Value} (h : W.cells? base (a.add 0) n = some cs) (hn : 0 < n) : ∃ g o, a = ⟨g, o, none⟩ ∧ g < W.heap.size := by
  obtain ⟨hb, hl, hc⟩ := World.cells?_some h
  have h0 := hc 0 hn
  obtain ⟨v, hv⟩ : ∃ v, cs[0]? = some v := ⟨_, List.getElem?_eq_getElem (by omega)⟩
  rw [hv] at h0
  obtain ⟨g, o, sp⟩ := a
  have hs : sp = none := by simpa [Addr.add] using World.cell?_spot h0
  subst hs
  rw [Addr.add_mid, Addr.add_mid] at h0
  exact ⟨g, o, rfl, cell_lt h0⟩
theorem open26 {H : Type} {enc : TypeId × Value → H} {W : World} {base : Nat} {sp : Nat → Bool} {held : Bool} : ∀ (F : Nat) (cs : List Value) (x : DataW H × List MemPlace), DataW.trod enc Tryz.prog W base sp held F 27 cs = some x →
    ∃ (t : V) (c0 c1 c2 c3 c4 c5 : Value), cs = [c0, c1, c2, c3, c4, c5] ∧ Rep W W.heap.size t (.agg #[c0, c1, c2, c3, c4, c5]) := by
  intro F
  induction F using Nat.strongRecOn with
  | _ F ih =>
    intro cs x h
    obtain ⟨xs, n, hn, _, hl, hxl, hf⟩ := DataW.trod_struct Tryz.underlying27 h
    rw [cells26] at hl
    obtain ⟨c0, c1, c2, c3, c4, c5, rfl⟩ := list6 hl
    have f0 : DataW.trod enc Tryz.prog W base sp held n 23 (([c0, c1, c2, c3, c4, c5].drop 0).take (Tryz.prog.cellsOf 23)) = xs[0]? := hf 0 _ rfl
    have f1 : DataW.trod enc Tryz.prog W base sp held n 4 (([c0, c1, c2, c3, c4, c5].drop 1).take (Tryz.prog.cellsOf 4)) = xs[1]? := hf 1 _ rfl
    have f2 : DataW.trod enc Tryz.prog W base sp held n 2 (([c0, c1, c2, c3, c4, c5].drop 2).take (Tryz.prog.cellsOf 2)) = xs[2]? := hf 2 _ rfl
    have f3 : DataW.trod enc Tryz.prog W base sp held n 9 (([c0, c1, c2, c3, c4, c5].drop 3).take (Tryz.prog.cellsOf 9)) = xs[3]? := hf 3 _ rfl
    have f4 : DataW.trod enc Tryz.prog W base sp held n 24 (([c0, c1, c2, c3, c4, c5].drop 4).take (Tryz.prog.cellsOf 24)) = xs[4]? := hf 4 _ rfl
    have f5 : DataW.trod enc Tryz.prog W base sp held n 25 (([c0, c1, c2, c3, c4, c5].drop 5).take (Tryz.prog.cellsOf 25)) = xs[5]? := hf 5 _ rfl
    have get : ∀ i, i < 6 → ∃ y, xs[i]? = some y := fun i hi => ⟨_, List.getElem?_eq_getElem (by rw [hxl]; exact hi)⟩
    obtain ⟨y0, e0⟩ := get 0 (by omega)
    obtain ⟨y1, e1⟩ := get 1 (by omega)
    obtain ⟨y2, e2⟩ := get 2 (by omega)
    obtain ⟨y3, e3⟩ := get 3 (by omega)
    obtain ⟨y4, e4⟩ := get 4 (by omega)
    obtain ⟨y5, e5⟩ := get 5 (by omega)
    rw [e0, cells22] at f0
    rw [e1, cells4] at f1
    rw [e2, cells2] at f2
    rw [e3, cells9] at f3
    rw [e4, cells23] at f4
    rw [e5, cells24] at f5
    simp only [List.drop_zero, List.drop_succ_cons, List.take_succ_cons, List.take_zero] at f0 f1 f2 f3 f4 f5
    obtain ⟨k, hk, _, wk⟩ := DataW.trod_int under22 f0
    obtain ⟨b, hb, _⟩ := DataW.trod_bool Tryz.underlying4 f1
    obtain ⟨m, hm, _, wm⟩ := DataW.trod_int Tryz.underlying2 f2
    obtain ⟨s, hs, _, ws⟩ := DataW.trod_string Tryz.underlying9 f3
    simp only [List.cons.injEq, and_true] at hk hb hm hs
    have bk := bounds_u8 wk
    have bm := bounds_i64 wm
    have hL : ∃ (l : List V) (ao : Option Addr) (lc : Nat), c4 = .slice ao l.length lc ∧ l.length ≤ maxLen ∧ (0 < l.length → ∃ g o, ao = some ⟨g, o, none⟩ ∧ g < W.heap.size ∧ RepL W W.heap.size g o l) := by
      rcases DataW.trod_slice Tryz.underlying24 f4 with ⟨hc, _⟩ | ⟨a, len, cap, elems, rest, q, hq, hc, _, _, hlc, hcm, hel, he, _, _⟩
      · simp only [List.cons.injEq, and_true] at hc
        exact ⟨[], none, 0, hc, by decide, fun h => by simp at h⟩
      · simp only [List.cons.injEq, and_true] at hc
        rw [cells26] at he
        have key : ∀ i, i < len → ∃ cs', W.cells? base (a.add (i * 6)) 6 = some cs' ∧ ∃ y, DataW.trod enc Tryz.prog W base sp held q 27 cs' = some y := fun i hi => by
          have h1 := he i hi
          rw [List.getElem?_eq_getElem (by omega)] at h1
          obtain ⟨cs', h2, h3⟩ := Option.bind_eq_some_iff.1 h1
          exact ⟨cs', h2, _, h3⟩
        by_cases hlen : 0 < len
        · obtain ⟨cs0, hc0, _⟩ := key 0 hlen
          rw [Nat.zero_mul] at hc0
          obtain ⟨g, o, rfl, hg⟩ := spot_none hc0 (by omega)
          have part : ∀ i, i < len → ∃ t : V, ∃ d0 d1 d2 d3 d4 d5, Six W g (o + i * 6) d0 d1 d2 d3 d4 d5 ∧ Rep W W.heap.size t (.agg #[d0, d1, d2, d3, d4, d5]) := fun i hi => by
            obtain ⟨cs', h2, y, h3⟩ := key i hi
            obtain ⟨t, d0, d1, d2, d3, d4, d5, rfl, hr⟩ := ih q (by omega) cs' y h3
            obtain ⟨_, _, hcell⟩ := World.cells?_some h2
            rw [Addr.add_mid] at hcell
            have hc := fun j (hj : j < 6) => by
              have := hcell j hj
              rwa [Addr.add_mid] at this
            exact ⟨t, d0, d1, d2, d3, d4, d5, ⟨hc 0 (by omega), hc 1 (by omega), hc 2 (by omega), hc 3 (by omega), hc 4 (by omega), hc 5 (by omega)⟩, hr⟩
          obtain ⟨l, hll, hp⟩ := gather len part
          subst hll
          exact ⟨l, some ⟨g, o, none⟩, cap, hc, by omega, fun _ => ⟨g, o, rfl, hg, repL_mk l o hp⟩⟩
        · have h0 : len = 0 := by omega
          subst h0
          exact ⟨[], some a, cap, hc, by decide, fun h => by simp at h⟩
    have hF : ∃ (l : List (ByteArray × V)) (ao : Option Addr) (lc : Nat), c5 = .slice ao l.length lc ∧ l.length ≤ maxLen ∧ (0 < l.length → ∃ g o, ao = some ⟨g, o, none⟩ ∧ g < W.heap.size ∧ RepF W W.heap.size g o l) := by
      rcases DataW.trod_slice Tryz.underlying25 f5 with ⟨hc, _⟩ | ⟨a, len, cap, elems, rest, q, hq, hc, _, _, hlc, hcm, hel, he, _, _⟩
      · simp only [List.cons.injEq, and_true] at hc
        exact ⟨[], none, 0, hc, by decide, fun h => by simp at h⟩
      · simp only [List.cons.injEq, and_true] at hc
        rw [cells44] at he
        have key : ∀ i, i < len → ∃ cs', W.cells? base (a.add (i * 7)) 7 = some cs' ∧ ∃ y, DataW.trod enc Tryz.prog W base sp held q 62 cs' = some y := fun i hi => by
          have h1 := he i hi
          rw [List.getElem?_eq_getElem (by omega)] at h1
          obtain ⟨cs', h2, h3⟩ := Option.bind_eq_some_iff.1 h1
          exact ⟨cs', h2, _, h3⟩
        by_cases hlen : 0 < len
        · obtain ⟨cs0, hc0, _⟩ := key 0 hlen
          rw [Nat.zero_mul] at hc0
          obtain ⟨g, o, rfl, hg⟩ := spot_none hc0 (by omega)
          have part : ∀ i, i < len → ∃ p : ByteArray × V, W.cell? ⟨g, o + i * 7, none⟩ = some (.string p.1) ∧ p.1.size ≤ maxLen ∧ ∃ d0 d1 d2 d3 d4 d5, Six W g (o + i * 7 + 1) d0 d1 d2 d3 d4 d5 ∧ Rep W W.heap.size p.2 (.agg #[d0, d1, d2, d3, d4, d5]) := fun i hi => by
            obtain ⟨cs', h2, y, h3⟩ := key i hi
            obtain ⟨zs, r, hr, _, hzl, hzz, hz⟩ := DataW.trod_struct Tryz.underlying62 h3
            rw [cells44] at hzl
            obtain ⟨d0, d1, d2, d3, d4, d5, d6, rfl⟩ := list7 hzl
            have g0 : DataW.trod enc Tryz.prog W base sp held r 9 (([d0, d1, d2, d3, d4, d5, d6].drop 0).take (Tryz.prog.cellsOf 9)) = zs[0]? := hz 0 _ rfl
            have g1 : DataW.trod enc Tryz.prog W base sp held r 27 (([d0, d1, d2, d3, d4, d5, d6].drop 1).take (Tryz.prog.cellsOf 27)) = zs[1]? := hz 1 _ rfl
            rw [List.getElem?_eq_getElem (by rw [hzz]; decide), cells9] at g0
            rw [List.getElem?_eq_getElem (by rw [hzz]; decide), cells26] at g1
            simp only [List.drop_zero, List.drop_succ_cons, List.take_succ_cons, List.take_zero] at g0 g1
            obtain ⟨nm, hnm, _, wnm⟩ := DataW.trod_string Tryz.underlying9 g0
            simp only [List.cons.injEq, and_true] at hnm
            obtain ⟨t, a0, a1, a2, a3, a4, a5, hd, hrep⟩ := ih r (by omega) _ _ g1
            simp only [List.cons.injEq, and_true] at hd
            obtain ⟨rfl, rfl, rfl, rfl, rfl, rfl⟩ := hd
            subst hnm
            obtain ⟨_, _, hcell⟩ := World.cells?_some h2
            rw [Addr.add_mid] at hcell
            have hc := fun j (hj : j < 7) => by
              have := hcell j hj
              rwa [Addr.add_mid] at this
            exact ⟨(nm, t), hc 0 (by omega), wnm, d1, d2, d3, d4, d5, d6, ⟨hc 1 (by omega), hc 2 (by omega), hc 3 (by omega), hc 4 (by omega), hc 5 (by omega), hc 6 (by omega)⟩, hrep⟩
          obtain ⟨l, hll, hp⟩ := gather len part
          subst hll
          exact ⟨l, some ⟨g, o, none⟩, cap, hc, by omega, fun _ => ⟨g, o, rfl, hg, repF_mk l o fun j m x hx => hp j (m, x) hx⟩⟩
        · have h0 : len = 0 := by omega
          subst h0
          exact ⟨[], some a, cap, hc, by decide, fun h => by simp at h⟩
    obtain ⟨l, ao, lc, hc4, hll, hl1⟩ := hL
    obtain ⟨f, fo, fc, hc5, hfl, hf1⟩ := hF
    refine ⟨⟨k.toNat, b, m, s, l, f⟩, c0, c1, c2, c3, c4, c5, rfl, ?_⟩
    rw [Rep]
    refine ⟨ao, lc, fo, fc, ?_, by omega, by omega, ws, hll, hfl, hl1, hf1⟩
    rw [hk, hb, hm, hs, hc4, hc5, show ((k.toNat : Nat) : Int) = k by omega]
theorem u8x : U8Extra Tryz.prog Tryz.laysValid_ren := ⟨by kernel_rfl, by kernel_rfl, by kernel_rfl, by kernel_rfl, by kernel_rfl, by kernel_rfl, by kernel_rfl⟩
theorem first_is : Rows.laid_unicode_utf8_first = Lib.firstData := by kernel_rfl
theorem accept_is : (Rows.laid_unicode_utf8_acceptRanges : DataW Unit) = Lib.acceptData := by kernel_rfl
theorem own : ownKnob Tryz.prog.godebug = none := by kernel_rfl
theorem laidOut : laidOutB Tryz.prog = true := by kernel_rfl
/-- what every law's contract ends in: true is handed back, and each argument reads as it did -/
theorem law_post {H : Type} {enc : TypeId × Value → H} {f : Func} {sp : ChangeSpec} {W W' : World} {args : Array Value} {ds gs : List (DataW H)} {before pa : List MemPlace}
    (hW : DataW.Whole enc Tryz.prog f.params.toList sp.vars false W args.toList ds gs before) (hb : Below W.heap.size W W')
    (hres : f.resultTypes = #[4]) (hfr : (sp.fn H (ds ++ gs)).results = [.lit (.bool true)]) (hfa : (sp.fn H (ds ++ gs)).args = ds) (hfv : sp.vars = []) (hfv2 : (sp.fn H (ds ++ gs)).vars = [])
    (hargs : DataW.TrodAll enc Tryz.prog W' 0 (fun b => decide (b < W.heap.size)) true f.params.toList args.toList ds pa) :
    sp.post enc Tryz.prog f false true false false W args (.bool true) W' := by
  refine ⟨ds, gs, before, [], pa, [], hW, ?_, ?_, ?_, hb.frame _, fun h => by cases h⟩
  · rw [hres, hfr]
    exact trodAll_cons_mk (shut_bool Tryz.underlying4 _) trodAll_mk0
  · rw [hfa]; exact hargs
  · rw [hfv, hfv2]; rfl
set_option maxRecDepth 100000 in
/-- a value that came in -/
theorem open_value {H : Type} {enc : TypeId × Value → H} {W : World} {r : Reach} {b0 base : Nat} {sp : Nat → Bool} {held : Bool} {v : Value} {d : DataW H} {p : List MemPlace}
    (hv : Value.okWide Tryz.prog W r b0 27 v) (h : DataW.Trod enc Tryz.prog W base sp held 27 v d p) : ∃ t : V, Rep W W.heap.size t v := by
  obtain ⟨cs, rfl, _⟩ := okWide_struct Tryz.underlying27 hv
  obtain ⟨fuel, hf⟩ := h
  obtain ⟨t, c0, c1, c2, c3, c4, c5, hc, hr⟩ := open26 fuel _ _ hf
  have e : cs = #[c0, c1, c2, c3, c4, c5] := by
    have h1 : cs.toList = [c0, c1, c2, c3, c4, c5] := hc
    rw [← Array.toArray_toList (xs := cs), h1]
  exact ⟨t, by rw [e]; exact hr⟩
/-- the tables, out of the list of a row -/
theorem hasU_of {W : World} {L : List (String × DataW Unit)} (h : laidMet Tryz.prog L W) (h1 : ("unicode/utf8.first", Rows.laid_unicode_utf8_first) ∈ L) (h2 : ("unicode/utf8.acceptRanges", (Rows.laid_unicode_utf8_acceptRanges : DataW Unit)) ∈ L) : Bn.HasU W := by
  have r1 : Lib.VarReads Tryz.prog W "unicode/utf8.first" Rows.laid_unicode_utf8_first := Lib.laidMet.reads h h1
  have r2 : Lib.VarReads Tryz.prog W "unicode/utf8.acceptRanges" Rows.laid_unicode_utf8_acceptRanges := Lib.laidMet.reads h h2
  rw [first_is] at r1
  rw [accept_is] at r2
  exact ⟨utf8Tabs_of_readsT (U8Types.of196 Tryz.laysValid) u8x r1 r2⟩
theorem met_of {W : World} {L : List (String × DataW Unit)} (hn : (L.filter fun x => x.2.handleName?.isSome) = []) (h : laidMetH Tryz.prog L W) : laidMet Tryz.prog L W := by
  unfold laidMetH at h
  rw [hn] at h
  exact h
set_option maxRecDepth 100000 in
/-- values that came in, in a row -/
theorem open_vals {H : Type} {enc : TypeId × Value → H} {W : World} {r : Reach} {b0 base : Nat} {sp : Nat → Bool} {held : Bool} {v : Value} {d : DataW H} {p : List MemPlace}
    (hv : Value.okWide Tryz.prog W r b0 24 v) (h : DataW.Trod enc Tryz.prog W base sp held 24 v d p) : ∃ (l : List V) (ao : Option Addr) (lc : Nat), v = .slice ao l.length lc ∧ l.length ≤ maxLen ∧ (0 < l.length → ∃ g o, ao = some ⟨g, o, none⟩ ∧ g < W.heap.size ∧ RepL W W.heap.size g o l) := by
  obtain ⟨a0, len0, cap0, rfl⟩ := okWide_slice Tryz.underlying24 hv
  obtain ⟨fuel, hf⟩ := h
  rcases DataW.trod_slice Tryz.underlying24 hf with ⟨hc, _⟩ | ⟨a, len, cap, elems, rest, q, hq, hc, _, _, hlc, hcm, hel, he, _, _⟩
  · simp [Value.cells] at hc
    obtain ⟨rfl, rfl, rfl⟩ := hc
    exact ⟨[], none, 0, rfl, by decide, fun h => by simp at h⟩
  · simp [Value.cells] at hc
    obtain ⟨rfl, rfl, rfl⟩ := hc
    rw [cells26] at he
    have key : ∀ i, i < len0 → ∃ cs', W.cells? base (a.add (i * 6)) 6 = some cs' ∧ ∃ y, DataW.trod enc Tryz.prog W base sp held q 27 cs' = some y := fun i hi => by
      have h1 := he i hi
      rw [List.getElem?_eq_getElem (by omega)] at h1
      obtain ⟨cs', h2, h3⟩ := Option.bind_eq_some_iff.1 h1
      exact ⟨cs', h2, _, h3⟩
    by_cases hlen : 0 < len0
    · obtain ⟨cs0, hc0, _⟩ := key 0 hlen
      rw [Nat.zero_mul] at hc0
      obtain ⟨g, o, rfl, hg⟩ := spot_none hc0 (by omega)
      have part : ∀ i, i < len0 → ∃ t : V, ∃ d0 d1 d2 d3 d4 d5, Six W g (o + i * 6) d0 d1 d2 d3 d4 d5 ∧ Rep W W.heap.size t (.agg #[d0, d1, d2, d3, d4, d5]) := fun i hi => by
        obtain ⟨cs', h2, y, h3⟩ := key i hi
        obtain ⟨t, d0, d1, d2, d3, d4, d5, rfl, hr⟩ := open26 q cs' y h3
        obtain ⟨_, _, hcell⟩ := World.cells?_some h2
        rw [Addr.add_mid] at hcell
        have hc := fun j (hj : j < 6) => by
          have := hcell j hj
          rwa [Addr.add_mid] at this
        exact ⟨t, d0, d1, d2, d3, d4, d5, ⟨hc 0 (by omega), hc 1 (by omega), hc 2 (by omega), hc 3 (by omega), hc 4 (by omega), hc 5 (by omega)⟩, hr⟩
      obtain ⟨l, hll, hp⟩ := gather len0 part
      subst hll
      exact ⟨l, some ⟨g, o, none⟩, cap0, rfl, by omega, fun _ => ⟨g, o, rfl, hg, repL_mk l o hp⟩⟩
    · have h0 : len0 = 0 := by omega
      subst h0
      exact ⟨[], some a, cap0, rfl, by decide, fun h => by simp at h⟩
end Go.Proofs.YtkigenldiinioaaGreatDoor
/- Entries and bounds that came in, opened. -/
namespace Go.Proofs.YtkigenldiinioaaGreatDoor
open Go.ChangeShapes Go.WideShapes Go.ChangeAt Go.RowKit
open Vl (V)
theorem cellsEnt : Tryz.prog.cellsOf 49 = 7 := by kernel_rfl
theorem cellsNum : Tryz.prog.cellsOf 51 = 1 := by kernel_rfl
theorem cellsIds : Tryz.prog.cellsOf 38 = 1 := by kernel_rfl
theorem cellsBnd : Tryz.prog.cellsOf 29 = 8 := by kernel_rfl
theorem list8b {cs : List Value} (h : cs.length = 8) : ∃ c0 c1 c2 c3 c4 c5 c6 c7, cs = [c0, c1, c2, c3, c4, c5, c6, c7] := by
  match cs, h with
  | [c0, c1, c2, c3, c4, c5, c6, c7], _ => exact ⟨c0, c1, c2, c3, c4, c5, c6, c7, rfl⟩
theorem nat_u64c {z : Int} (h : (Lit.int .u64 z).wf = true) : ∃ n : Nat, z = (n : Int) ∧ n < 18446744073709551616 := by
  have h1 : 0 ≤ z ∧ z ≤ 18446744073709551615 := by
    simp only [Lit.wf, IntKind.min, IntKind.max, IntKind.signed, IntKind.bits, Bool.and_eq_true] at h
    simpa using h
  exact ⟨z.toNat, by omega, by omega⟩
/-- numbers that came in, in a row -/
def NumsI (w : World) (H : Nat) (pi : Option Addr) (l : List Nat) : Prop := 0 < l.length → ∃ g o, pi = some ⟨g, o, none⟩ ∧ g < H ∧ ∀ (m x : Nat), l[m]? = some x → w.cell? ⟨g, o + m, none⟩ = some (.int .u64 (x : Int))
/-- an entry that came in -/
def InE (w : World) (H g o : Nat) (p : V × List Nat) : Prop := ∃ k0 k1 k2 k3 k4 k5 pi cap, (w.cell? ⟨g, o, none⟩ = some k0 ∧ w.cell? ⟨g, o + 1, none⟩ = some k1 ∧ w.cell? ⟨g, o + 2, none⟩ = some k2 ∧ w.cell? ⟨g, o + 3, none⟩ = some k3 ∧ w.cell? ⟨g, o + 4, none⟩ = some k4 ∧ w.cell? ⟨g, o + 5, none⟩ = some k5 ∧ w.cell? ⟨g, o + 6, none⟩ = some (.slice pi p.2.length cap)) ∧ Rep w H p.1 (.agg #[k0, k1, k2, k3, k4, k5]) ∧ p.2.length ≤ maxLen ∧ NumsI w H pi p.2
/-- entries that came in -/
def InEs (w : World) (H : Nat) (a : Option Addr) (l : List (V × List Nat)) : Prop := 0 < l.length → ∃ g o, a = some ⟨g, o, none⟩ ∧ g < H ∧ ∀ (i : Nat) (p : V × List Nat), l[i]? = some p → InE w H g (o + i * 7) p
theorem NumsI.stays {w w' : World} {H : Nat} {pi : Option Addr} {l : List Nat} (h : NumsI w H pi l) (hb : Below H w w') : NumsI w' H pi l := fun hl => by
  obtain ⟨g, o, h1, h2, h3⟩ := h hl
  exact ⟨g, o, h1, h2, fun m x hx => (hb.cell (p := ⟨g, o + m, none⟩) h2).trans (h3 m x hx)⟩
theorem InEs.stays {w w' : World} {H : Nat} {a : Option Addr} {l : List (V × List Nat)} (h : InEs w H a l) (hb : Below H w w') : InEs w' H a l := fun hl => by
  obtain ⟨g, o, h1, h2, h3⟩ := h hl
  refine ⟨g, o, h1, h2, fun i p hp => ?_⟩
  obtain ⟨k0, k1, k2, k3, k4, k5, pi, cap, ⟨c0, c1, c2, c3, c4, c5, c6⟩, h4, h5, h6⟩ := h3 i p hp
  have cl : ∀ q, w'.cell? ⟨g, q, none⟩ = w.cell? ⟨g, q, none⟩ := fun q => hb.cell (p := ⟨g, q, none⟩) h2
  exact ⟨k0, k1, k2, k3, k4, k5, pi, cap, ⟨(cl _).trans c0, (cl _).trans c1, (cl _).trans c2, (cl _).trans c3, (cl _).trans c4, (cl _).trans c5, (cl _).trans c6⟩, rep_stays hb (Nat.le_refl _) _ _ h4, h5, h6.stays hb⟩
theorem open_nums {H : Type} {enc : TypeId × Value → H} {W : World} {base fuel : Nat} {sp : Nat → Bool} {held : Bool} {v : Value} {x : DataW H × List MemPlace}
    (hf : DataW.trod enc Tryz.prog W base sp held fuel 38 [v] = some x) : ∃ (l : List Nat) (ao : Option Addr) (lc : Nat), v = .slice ao l.length lc ∧ l.length ≤ maxLen ∧ NumsI W W.heap.size ao l := by
  rcases DataW.trod_slice Tryz.underlying38 hf with ⟨hc, _⟩ | ⟨a, len, cap, elems, rest, q, hq, hc, hy, _, hlc, hcm, hel, he, _, _⟩
  · simp at hc
    subst hc
    exact ⟨[], none, 0, rfl, by decide, fun h => by simp at h⟩
  · simp at hc
    subst hc
    rw [cellsNum] at he
    have key : ∀ i, i < len → ∃ cs', W.cells? base (a.add (i * 1)) 1 = some cs' ∧ ∃ y, DataW.trod enc Tryz.prog W base sp held q 51 cs' = some y := fun i hi => by
      have h1 := he i hi
      have h4 : elems[i]? = some elems[i] := List.getElem?_eq_getElem (by omega)
      rw [h4] at h1
      obtain ⟨cs', h2, h3⟩ := Option.bind_eq_some_iff.1 h1
      exact ⟨cs', h2, _, h3⟩
    by_cases hlen : 0 < len
    · obtain ⟨cs0, hc0, _⟩ := key 0 hlen
      rw [Nat.zero_mul] at hc0
      obtain ⟨g, o, rfl, hg⟩ := spot_none hc0 (by omega)
      have part : ∀ i, i < len → ∃ n : Nat, W.cell? ⟨g, o + i, none⟩ = some (.int .u64 (n : Int)) := fun i hi => by
        obtain ⟨cs', h2, y, h3⟩ := key i hi
        obtain ⟨d, hd, _, wd⟩ := DataW.trod_int Tryz.underlying51 h3
        obtain ⟨dn, rfl, hd2⟩ := nat_u64c wd
        obtain ⟨_, _, hcell⟩ := World.cells?_some h2
        have := hcell 0 (by omega)
        rw [Addr.add_mid, Addr.add_mid, hd, Nat.mul_one, Nat.add_zero] at this
        exact ⟨dn, this⟩
      obtain ⟨l, hll, hp⟩ := gather len part
      subst hll
      exact ⟨l, some ⟨g, o, none⟩, cap, rfl, by omega, fun _ => ⟨g, o, rfl, hg, hp⟩⟩
    · have h0 : len = 0 := by omega
      subst h0
      exact ⟨[], some a, cap, rfl, by decide, fun h => by simp at h⟩
theorem open_ent {H : Type} {enc : TypeId × Value → H} {W : World} {base : Nat} {sp : Nat → Bool} {held : Bool} {F : Nat} {cs : List Value} {x : DataW H × List MemPlace} (h : DataW.trod enc Tryz.prog W base sp held F 49 cs = some x) :
    ∃ (p : V × List Nat) (k0 k1 k2 k3 k4 k5 : Value) (pi : Option Addr) (cap : Nat), cs = [k0, k1, k2, k3, k4, k5, .slice pi p.2.length cap] ∧ Rep W W.heap.size p.1 (.agg #[k0, k1, k2, k3, k4, k5]) ∧ p.2.length ≤ maxLen ∧ NumsI W W.heap.size pi p.2 := by
  obtain ⟨xs, n, hn, hx1, hl, hxl, hf⟩ := DataW.trod_struct Tryz.underlying49 h
  rw [cellsEnt] at hl
  obtain ⟨c0, c1, c2, c3, c4, c5, c6, rfl⟩ := list7 hl
  have f0 : DataW.trod enc Tryz.prog W base sp held n 27 (([c0, c1, c2, c3, c4, c5, c6].drop 0).take (Tryz.prog.cellsOf 27)) = xs[0]? := hf 0 _ rfl
  have f1 : DataW.trod enc Tryz.prog W base sp held n 38 (([c0, c1, c2, c3, c4, c5, c6].drop 6).take (Tryz.prog.cellsOf 38)) = xs[1]? := hf 1 _ rfl
  have get : ∀ i, i < 2 → ∃ y, xs[i]? = some y := fun i hi => ⟨_, List.getElem?_eq_getElem (by rw [hxl]; exact hi)⟩
  obtain ⟨y0, e0⟩ := get 0 (by omega)
  obtain ⟨y1, e1⟩ := get 1 (by omega)
  rw [e0, cells26] at f0
  rw [e1, cellsIds] at f1
  simp only [List.drop_zero, List.drop_succ_cons, List.take_succ_cons, List.take_zero] at f0 f1
  obtain ⟨t, a0, a1, a2, a3, a4, a5, ha, hr⟩ := open26 _ _ _ f0
  simp only [List.cons.injEq, and_true] at ha
  obtain ⟨rfl, rfl, rfl, rfl, rfl, rfl⟩ := ha
  obtain ⟨l, ao, lc, rfl, hm, hN⟩ := open_nums f1
  exact ⟨(t, l), c0, c1, c2, c3, c4, c5, ao, lc, rfl, hr, hm, hN⟩
set_option maxRecDepth 100000 in
theorem open_ents {H : Type} {enc : TypeId × Value → H} {W : World} {r : Reach} {b0 base : Nat} {sp : Nat → Bool} {held : Bool} {v : Value} {d : DataW H} {p : List MemPlace}
    (hv : Value.okWide Tryz.prog W r b0 22 v) (h : DataW.Trod enc Tryz.prog W base sp held 22 v d p) : ∃ (l : List (V × List Nat)) (ao : Option Addr) (lc : Nat), v = .slice ao l.length lc ∧ l.length ≤ maxLen ∧ InEs W W.heap.size ao l := by
  obtain ⟨a0, len0, cap0, rfl⟩ := okWide_slice Tryz.underlying22 hv
  obtain ⟨fuel, hf⟩ := h
  rcases DataW.trod_slice Tryz.underlying22 hf with ⟨hc, _⟩ | ⟨a, len, cap, elems, rest, q, hq, hc, _, _, hlc, hcm, hel, he, _, _⟩
  · simp [Value.cells] at hc
    obtain ⟨rfl, rfl, rfl⟩ := hc
    exact ⟨[], none, 0, rfl, by decide, fun h => by simp at h⟩
  · simp [Value.cells] at hc
    obtain ⟨rfl, rfl, rfl⟩ := hc
    rw [cellsEnt] at he
    have key : ∀ i, i < len0 → ∃ cs', W.cells? base (a.add (i * 7)) 7 = some cs' ∧ ∃ y, DataW.trod enc Tryz.prog W base sp held q 49 cs' = some y := fun i hi => by
      have h1 := he i hi
      have h4 : elems[i]? = some elems[i] := List.getElem?_eq_getElem (by omega)
      rw [h4] at h1
      obtain ⟨cs', h2, h3⟩ := Option.bind_eq_some_iff.1 h1
      exact ⟨cs', h2, _, h3⟩
    by_cases hlen : 0 < len0
    · obtain ⟨cs0, hc0, _⟩ := key 0 hlen
      rw [Nat.zero_mul] at hc0
      obtain ⟨g, o, rfl, hg⟩ := spot_none hc0 (by omega)
      have part : ∀ i, i < len0 → ∃ p : V × List Nat, InE W W.heap.size g (o + i * 7) p := fun i hi => by
        obtain ⟨cs', h2, y, h3⟩ := key i hi
        obtain ⟨p, k0, k1, k2, k3, k4, k5, pi, lc, rfl, hr, hm, hN⟩ := open_ent h3
        obtain ⟨_, _, hcell⟩ := World.cells?_some h2
        rw [Addr.add_mid] at hcell
        have hc := fun j (hj : j < 7) => by
          have := hcell j hj
          rwa [Addr.add_mid] at this
        exact ⟨p, k0, k1, k2, k3, k4, k5, pi, lc, ⟨hc 0 (by omega), hc 1 (by omega), hc 2 (by omega), hc 3 (by omega), hc 4 (by omega), hc 5 (by omega), hc 6 (by omega)⟩, hr, hm, hN⟩
      obtain ⟨l, hll, hp⟩ := gather len0 part
      subst hll
      exact ⟨l, some ⟨g, o, none⟩, cap0, rfl, by omega, fun _ => ⟨g, o, rfl, hg, hp⟩⟩
    · have h0 : len0 = 0 := by omega
      subst h0
      exact ⟨[], some a, cap0, rfl, by decide, fun h => by simp at h⟩
set_option maxRecDepth 100000 in
/-- a bound that came in -/
theorem open_bound {H : Type} {enc : TypeId × Value → H} {W : World} {r : Reach} {b0 base : Nat} {sp : Nat → Bool} {held : Bool} {v : Value} {d : DataW H} {p : List MemPlace}
    (hv : Value.okWide Tryz.prog W r b0 29 v) (h : DataW.Trod enc Tryz.prog W base sp held 29 v d p) : ∃ o, Bnd W W.heap.size o v := by
  obtain ⟨cs, rfl, _⟩ := okWide_struct Tryz.underlying29 hv
  obtain ⟨fuel, hf⟩ := h
  obtain ⟨xs, n, hn, hx1, hl, hxl, hf⟩ := DataW.trod_struct Tryz.underlying29 hf
  rw [cellsBnd] at hl
  obtain ⟨c0, c1, c2, c3, c4, c5, c6, c7, e⟩ := list8b hl
  have e' : cs = #[c0, c1, c2, c3, c4, c5, c6, c7] := by
    have h1 : cs.toList = [c0, c1, c2, c3, c4, c5, c6, c7] := e
    rw [← Array.toArray_toList (xs := cs), h1]
  subst e'
  have f0 : DataW.trod enc Tryz.prog W base sp held n 4 (([c0, c1, c2, c3, c4, c5, c6, c7].drop 0).take (Tryz.prog.cellsOf 4)) = xs[0]? := hf 0 _ rfl
  have f1 : DataW.trod enc Tryz.prog W base sp held n 4 (([c0, c1, c2, c3, c4, c5, c6, c7].drop 1).take (Tryz.prog.cellsOf 4)) = xs[1]? := hf 1 _ rfl
  have f2 : DataW.trod enc Tryz.prog W base sp held n 27 (([c0, c1, c2, c3, c4, c5, c6, c7].drop 2).take (Tryz.prog.cellsOf 27)) = xs[2]? := hf 2 _ rfl
  have get : ∀ i, i < 3 → ∃ y, xs[i]? = some y := fun i hi => ⟨_, List.getElem?_eq_getElem (by rw [hxl]; exact hi)⟩
  obtain ⟨y0, e0⟩ := get 0 (by omega)
  obtain ⟨y1, e1⟩ := get 1 (by omega)
  obtain ⟨y2, e2⟩ := get 2 (by omega)
  rw [e0, cells4] at f0
  rw [e1, cells4] at f1
  rw [e2, cells26] at f2
  simp only [List.drop_zero, List.drop_succ_cons, List.take_succ_cons, List.take_zero] at f0 f1 f2
  obtain ⟨b, hb, _⟩ := DataW.trod_bool Tryz.underlying4 f0
  obtain ⟨q, hq, _⟩ := DataW.trod_bool Tryz.underlying4 f1
  obtain ⟨t, a0, a1, a2, a3, a4, a5, ha, hr⟩ := open26 _ _ _ f2
  simp only [List.cons.injEq, and_true] at ha hb hq
  obtain ⟨rfl, rfl, rfl, rfl, rfl, rfl⟩ := ha
  subst hb hq
  exact ⟨if b = true then some (q, t) else none, b, q, c2, c3, c4, c5, c6, c7, t, rfl, hr, rfl⟩
end Go.Proofs.YtkigenldiinioaaGreatDoor
