/- Tokens handed in, opened. -/
import Derived.Test.YtdejnphiejkglaaGreatDoorLOpen
import Derived.Deep.MidRow
import Derived.Test.YtdejnphiejkglaaGreatDoorLxZ
namespace Go.Proofs.YtdejnphiejkglaaGreatDoor
open Go.ChangeShapes Go.WideShapes Go.ChangeAt Go.RowKit
theorem cellsTok : Tryz.prog.cellsOf 24 = 4 := by kernel_rfl
theorem cellsTk : Tryz.prog.cellsOf 22 = 1 := by kernel_rfl
theorem cellsT9 : Tryz.prog.cellsOf 9 = 1 := by kernel_rfl
theorem cellsT2 : Tryz.prog.cellsOf 2 = 1 := by kernel_rfl
theorem cellsT3 : Tryz.prog.cellsOf 3 = 1 := by kernel_rfl
theorem list4T {cs : List Value} (h : cs.length = 4) : ∃ c0 c1 c2 c3, cs = [c0, c1, c2, c3] := by
  match cs, h with
  | [c0, c1, c2, c3], _ => exact ⟨c0, c1, c2, c3, rfl⟩
theorem nat_u8T {z : Int} (h : (Lit.int .u8 z).wf = true) : ∃ n : Nat, z = (n : Int) := by
  have h1 := bounds_u8 h
  exact ⟨z.toNat, by omega⟩
theorem int_i64T {z : Int} (h : (Lit.int .i64 z).wf = true) : -9223372036854775808 ≤ z ∧ z ≤ 9223372036854775807 := by
  simp only [Lit.wf, IntKind.min, IntKind.max, IntKind.signed, IntKind.bits, Bool.and_eq_true] at h
  simpa using h
/-- a list out of what there is at each place -/
theorem gatherT {α : Type} {P : Nat → α → Prop} : ∀ (n : Nat), (∀ i, i < n → ∃ x, P i x) → ∃ l : List α, l.length = n ∧ ∀ i x, l[i]? = some x → P i x
  | 0, _ => ⟨[], rfl, fun i x h => by simp at h⟩
  | n + 1, h => by
    obtain ⟨l, hl, hp⟩ := gatherT n (fun i hi => h i (by omega))
    obtain ⟨x, hx⟩ := h n (by omega)
    refine ⟨l ++ [x], by simp [hl], fun i y hy => ?_⟩
    by_cases hi : i < n
    · rw [List.getElem?_append_left (by omega)] at hy
      exact hp i y hy
    · rw [List.getElem?_append_right (by omega), hl] at hy
      have : i - n = 0 := by
        have := (List.getElem?_eq_some_iff.1 hy).1
        simpa using this
      rw [this] at hy
      simp only [List.getElem?_cons_zero, Option.some.injEq] at hy
      rw [← hy, show i = n by omega]
      exact hx
theorem cell_ltT {w : World} {g o : Nat} {v : Value} (h : w.cell? ⟨g, o, none⟩ = some v) : g < w.heap.size := by
  rcases Nat.lt_or_ge g w.heap.size with h1 | h1
  · exact h1
  · simp [World.cell?, h1] at h
theorem spot_noneT {W : World} {a : Addr} {base n : Nat} {cs : List Value} (h : W.cells? base (a.add 0) n = some cs) (hn : 0 < n) : ∃ g o, a = ⟨g, o, none⟩ ∧ g < W.heap.size := by
  obtain ⟨hb, hl, hc⟩ := World.cells?_some h
  have h0 := hc 0 hn
  obtain ⟨v, hv⟩ : ∃ v, cs[0]? = some v := ⟨_, List.getElem?_eq_getElem (by omega)⟩
  rw [hv] at h0
  obtain ⟨g, o, sp⟩ := a
  have hs : sp = none := by simpa [Addr.add] using World.cell?_spot h0
  subst hs
  rw [Addr.add_mid, Addr.add_mid] at h0
  exact ⟨g, o, rfl, cell_ltT h0⟩
theorem open_tok {H : Type} {enc : TypeId × Value → H} {W : World} {base : Nat} {sp : Nat → Bool} {held : Bool} {F : Nat} {cs : List Value} {x : DataW H × List MemPlace} (h : DataW.trod enc Tryz.prog W base sp held F 24 cs = some x) :
    ∃ t : Lx.At, cs = [.int .u8 (t.kind : Int), .string (Lx.bs t.text), .int .i64 t.n, .int .i64 t.at'] ∧ -9223372036854775808 ≤ t.n ∧ t.n ≤ 9223372036854775807 := by
  obtain ⟨xs, n, hn, _, hl, hxl, hf⟩ := DataW.trod_struct Tryz.underlying24 h
  rw [cellsTok] at hl
  obtain ⟨c0, c1, c2, c3, rfl⟩ := list4T hl
  have f0 : DataW.trod enc Tryz.prog W base sp held n 22 (([c0, c1, c2, c3].drop 0).take (Tryz.prog.cellsOf 22)) = xs[0]? := hf 0 _ rfl
  have f1 : DataW.trod enc Tryz.prog W base sp held n 9 (([c0, c1, c2, c3].drop 1).take (Tryz.prog.cellsOf 9)) = xs[1]? := hf 1 _ rfl
  have f2 : DataW.trod enc Tryz.prog W base sp held n 2 (([c0, c1, c2, c3].drop 2).take (Tryz.prog.cellsOf 2)) = xs[2]? := hf 2 _ rfl
  have f3 : DataW.trod enc Tryz.prog W base sp held n 3 (([c0, c1, c2, c3].drop 3).take (Tryz.prog.cellsOf 3)) = xs[3]? := hf 3 _ rfl
  have get : ∀ i, i < 4 → ∃ y, xs[i]? = some y := fun i hi => ⟨_, List.getElem?_eq_getElem (by rw [hxl]; exact hi)⟩
  obtain ⟨y0, e0⟩ := get 0 (by omega)
  obtain ⟨y1, e1⟩ := get 1 (by omega)
  obtain ⟨y2, e2⟩ := get 2 (by omega)
  obtain ⟨y3, e3⟩ := get 3 (by omega)
  rw [e0, cellsTk] at f0
  rw [e1, cellsT9] at f1
  rw [e2, cellsT2] at f2
  rw [e3, cellsT3] at f3
  simp only [List.drop_zero, List.drop_succ_cons, List.take_succ_cons, List.take_zero] at f0 f1 f2 f3
  obtain ⟨k, hk, _, wk⟩ := DataW.trod_int Tryz.underlying22 f0
  obtain ⟨s, hs, _, _⟩ := DataW.trod_string Tryz.underlying9 f1
  obtain ⟨d, hd, _, wd⟩ := DataW.trod_int Tryz.underlying2 f2
  obtain ⟨v, hv, _, _⟩ := DataW.trod_int Tryz.underlying3 f3
  simp only [List.cons.injEq, and_true] at hk hs hd hv
  obtain ⟨kn, rfl⟩ := nat_u8T wk
  subst hk hs hd hv
  exact ⟨⟨kn, s.data.toList, d, v⟩, by rw [Lx.bs_of], int_i64T wd⟩
set_option maxRecDepth 100000 in
theorem open_toks {H : Type} {enc : TypeId × Value → H} {W : World} {r : Reach} {b0 base : Nat} {sp : Nat → Bool} {held : Bool} {v : Value} {d : DataW H} {p : List MemPlace}
    (hv : Value.okWide Tryz.prog W r b0 25 v) (h : DataW.Trod enc Tryz.prog W base sp held 25 v d p) : ∃ l : List Lx.At, l.length ≤ 9223372036854775807 ∧ TA W W.heap.size v l := by
  obtain ⟨a0, len0, cap0, rfl⟩ := okWide_slice Tryz.underlying25 hv
  obtain ⟨fuel, hf⟩ := h
  rcases DataW.trod_slice Tryz.underlying25 hf with ⟨hc, _⟩ | ⟨a, len, cap, elems, rest, q, hq, hc, _, _, hlc, hcm, hel, he, _, _⟩
  · simp [Value.cells] at hc
    obtain ⟨rfl, rfl, rfl⟩ := hc
    exact ⟨[], by decide, none, 0, rfl, fun h => by simp at h⟩
  · simp [Value.cells] at hc
    obtain ⟨rfl, rfl, rfl⟩ := hc
    rw [cellsTok] at he
    have key : ∀ i, i < len0 → ∃ cs', W.cells? base (a.add (i * 4)) 4 = some cs' ∧ ∃ y, DataW.trod enc Tryz.prog W base sp held q 24 cs' = some y := fun i hi => by
      have h1 := he i hi
      rw [List.getElem?_eq_getElem (by omega)] at h1
      obtain ⟨cs', h2, h3⟩ := Option.bind_eq_some_iff.1 h1
      exact ⟨cs', h2, _, h3⟩
    by_cases hlen : 0 < len0
    · obtain ⟨cs0, hc0, _⟩ := key 0 hlen
      rw [Nat.zero_mul] at hc0
      obtain ⟨g, o, rfl, hg⟩ := spot_noneT hc0 (by omega)
      have part : ∀ i, i < len0 → ∃ t : Lx.At, (-9223372036854775808 ≤ t.n ∧ t.n ≤ 9223372036854775807) ∧ W.cell? ⟨g, o + i * 4, none⟩ = some (.int .u8 (t.kind : Int)) ∧ W.cell? ⟨g, o + i * 4 + 1, none⟩ = some (.string (Lx.bs t.text)) ∧ W.cell? ⟨g, o + i * 4 + 2, none⟩ = some (.int .i64 t.n) ∧ W.cell? ⟨g, o + i * 4 + 3, none⟩ = some (.int .i64 t.at') := fun i hi => by
        obtain ⟨cs', h2, y, h3⟩ := key i hi
        obtain ⟨t, rfl, hb⟩ := open_tok h3
        obtain ⟨_, _, hcell⟩ := World.cells?_some h2
        rw [Addr.add_mid] at hcell
        have hc := fun j (hj : j < 4) => by
          have := hcell j hj
          rwa [Addr.add_mid] at this
        exact ⟨t, hb, hc 0 (by omega), hc 1 (by omega), hc 2 (by omega), hc 3 (by omega)⟩
      obtain ⟨l, hll, hp⟩ := gatherT len0 part
      subst hll
      exact ⟨l, by unfold maxLen at hcm; omega, _, _, rfl, fun _ => ⟨g, o, rfl, hg, hp⟩⟩
    · have h0 : len0 = 0 := by omega
      subst h0
      exact ⟨[], by decide, _, _, rfl, fun h => by simp at h⟩
end Go.Proofs.YtdejnphiejkglaaGreatDoor
