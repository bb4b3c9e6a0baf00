/- Several texts, joined: PzO, PzA -/
import Derived.Test.YtfhkaffakniioaaGreatDoorQ11M
import Derived.Deep.MidRow
import Derived.Test.YtfhkaffakniioaaGreatDoorPrXM
import Derived.SizedLaws
import Derived.Deep.Upon
import Derived.Deep.AppendLies
import Derived.Deep.RegionHeld3
import Derived.Lib.AppendZeros
/- What opens a row of parse: its table, and steps, items, statements that are handed in. -/
namespace Go.Proofs.YtfhkaffakniioaaGreatDoor
open Go.ChangeShapes Go.WideShapes Go.ChangeAt Go.RowKit
namespace Ps
theorem cellsStep : Tryz.prog.cellsOf 29 = 3 := by kernel_rfl
theorem cellsItem : Tryz.prog.cellsOf 43 = 2 := by kernel_rfl
theorem cellsStmt : Tryz.prog.cellsOf 26 = 7 := by kernel_rfl
theorem cellsStepk : Tryz.prog.cellsOf 27 = 1 := by kernel_rfl
theorem cellsStmtk : Tryz.prog.cellsOf 22 = 1 := by kernel_rfl
theorem cellsSteps : Tryz.prog.cellsOf 24 = 1 := by kernel_rfl
theorem cellsItems : Tryz.prog.cellsOf 23 = 1 := by kernel_rfl
theorem cellsStr : Tryz.prog.cellsOf 9 = 1 := by kernel_rfl
theorem cellsBool : Tryz.prog.cellsOf 4 = 1 := by kernel_rfl
theorem cellsI64 : Tryz.prog.cellsOf 2 = 1 := by kernel_rfl
theorem cellsOpst : Tryz.prog.cellsOf 131 = 2 := by kernel_rfl
theorem gOpL : Tryz.prog.globalNamed "codicil/parse.operators" = some 2 := by kernel_rfl
theorem yOpL : (Tryz.prog.globals[2]?).map (·.type) = some 132 := by kernel_rfl
theorem list2P {cs : List Value} (h : cs.length = 2) : ∃ c0 c1, cs = [c0, c1] := by
  match cs, h with
  | [c0, c1], _ => exact ⟨c0, c1, rfl⟩
theorem list3P {cs : List Value} (h : cs.length = 3) : ∃ c0 c1 c2, cs = [c0, c1, c2] := by
  match cs, h with
  | [c0, c1, c2], _ => exact ⟨c0, c1, c2, rfl⟩
theorem list7P {cs : List Value} (h : cs.length = 7) : ∃ c0 c1 c2 c3 c4 c5 c6, cs = [c0, c1, c2, c3, c4, c5, c6] := by
  match cs, h with
  | [c0, c1, c2, c3, c4, c5, c6], _ => exact ⟨c0, c1, c2, c3, c4, c5, c6, rfl⟩
theorem nat_u8P {z : Int} (h : (Lit.int .u8 z).wf = true) : ∃ n : Nat, z = (n : Int) ∧ n < 256 := by
  have h1 := bounds_u8 h
  exact ⟨z.toNat, by omega, by omega⟩
theorem int_i64P {z : Int} (h : (Lit.int .i64 z).wf = true) : -9223372036854775808 ≤ z ∧ z ≤ 9223372036854775807 := by
  simp only [Lit.wf, IntKind.min, IntKind.max, IntKind.signed, IntKind.bits, Bool.and_eq_true] at h
  simpa using h
theorem gatherP {α : Type} {P : Nat → α → Prop} : ∀ (n : Nat), (∀ i, i < n → ∃ x, P i x) → ∃ l : List α, l.length = n ∧ ∀ i x, l[i]? = some x → P i x
  | 0, _ => ⟨[], rfl, fun i x h => by simp at h⟩
  | n + 1, h => by
    obtain ⟨l, hl, hp⟩ := gatherP n (fun i hi => h i (by omega))
    obtain ⟨x, hx⟩ := h n (by omega)
    refine ⟨l ++ [x], by simp [hl], fun i y hy => ?_⟩
    by_cases hi : i < n
    · rw [List.getElem?_append_left (by omega)] at hy
      exact hp i y hy
    · rw [List.getElem?_append_right (by omega), hl] at hy
      have : i - n = 0 := by
        have := (List.getElem?_eq_some_iff.1 hy).1
        simpa using this
      rw [this] at hy
      simp only [List.getElem?_cons_zero, Option.some.injEq] at hy
      rw [← hy, show i = n by omega]
      exact hx
theorem spot_noneP {W : World} {a : Addr} {base n : Nat} {cs : List Value} (h : W.cells? base (a.add 0) n = some cs) (hn : 0 < n) : ∃ g o, a = ⟨g, o, none⟩ := by
  obtain ⟨hb, hl, hc⟩ := World.cells?_some h
  have h0 := hc 0 hn
  obtain ⟨v, hv⟩ : ∃ v, cs[0]? = some v := ⟨_, List.getElem?_eq_getElem (by omega)⟩
  rw [hv] at h0
  obtain ⟨g, o, sp⟩ := a
  have hs : sp = none := by simpa [Addr.add] using World.cell?_spot h0
  subst hs
  exact ⟨g, o, rfl⟩
/-- no part of a reading is greater than the reach -/
def Zp {H : Type} (t : TypeId) (d : DataW H) : Prop := ∀ n ∈ d.weights Tryz.prog t, n ≤ 140737488351232
theorem zp_part {H : Type} {T t : TypeId} {fs : Array Field} {x : DataW H × List MemPlace} {xs : List (DataW H × List MemPlace)} {ps : List MemPlace} {i : Nat} {y : DataW H × List MemPlace} (hu : Tryz.prog.underlying T = some (.struct fs)) (ht : (fs.toList.map (·.type))[i]? = some t) (h : x = (.agg (xs.map (·.1)), ps)) (hy : xs[i]? = some y) (hz : Zp T x.1) : Zp t y.1 := by
  intro n hn
  apply hz n
  rw [h]
  simp only [DataW.weights, hu]
  exact DataW.weights_mem_each ht (by rw [List.getElem?_map, hy]; rfl) n hn
theorem weightsP_all {H : Type} {e : TypeId} : ∀ (l : List (DataW H)) (d : DataW H), d ∈ l → ∀ n ∈ d.weights Tryz.prog e, n ∈ DataW.weightsAll Tryz.prog e l
  | [], _, h => by cases h
  | x :: r, d, h => by
    intro n hn
    simp only [DataW.weightsAll, List.mem_append]
    cases List.mem_cons.1 h with
    | inl e => subst e; exact Or.inl hn
    | inr e => exact Or.inr (weightsP_all r d e n hn)
theorem zp_elem {H : Type} {T e : TypeId} {x : DataW H × List MemPlace} {es rs : List (DataW H × List MemPlace)} {ps : List MemPlace} {i : Nat} {y : DataW H × List MemPlace} (hu : Tryz.prog.underlying T = some (.slice e)) (h : x = (.slice (es.map (·.1)) (rs.map (·.1)), ps)) (hy : es[i]? = some y) (hz : Zp T x.1) : Zp e y.1 := by
  intro n hn
  apply hz n
  rw [h]
  simp only [DataW.weights, hu]
  refine List.mem_cons_of_mem _ (List.mem_append.2 (Or.inl ?_))
  exact weightsP_all (es.map (·.1)) y.1 (List.mem_map_of_mem (List.mem_of_getElem? hy)) n hn
theorem zp_len {H : Type} {T e : TypeId} {b : Nat} {x : DataW H × List MemPlace} {es rs : List (DataW H × List MemPlace)} {ps : List MemPlace} (hu : Tryz.prog.underlying T = some (.slice e)) (hb : Tryz.prog.bytesOf e = b) (h : x = (.slice (es.map (·.1)) (rs.map (·.1)), ps)) (hz : Zp T x.1) : es.length * b ≤ 140737488351232 := by
  have h1 : (es.length + rs.length) * b ≤ 140737488351232 := by
    apply hz
    rw [h]
    simp only [DataW.weights, hu]
    rw [hb, List.length_map, List.length_map]
    exact List.mem_cons_self
  exact Nat.le_trans (Nat.mul_le_mul_right _ (Nat.le_add_right _ _)) h1
theorem zp_text {H : Type} {t : TypeId} (l : List UInt8) (hz : Zp t (DataW.lit (H := H) (.string l))) : l.length ≤ 140737488351232 :=
  hz l.length (by simp only [DataW.weights]; exact List.mem_cons_self)
theorem sizedP_at {H : Type} {ts : List TypeId} {ds : List (DataW H)} (h : (DataW.weightsEach Tryz.prog ts ds).all (· ≤ reachBytes) = true) {j : Nat} {t : TypeId} {d : DataW H} (ht : ts[j]? = some t) (hd : ds[j]? = some d) : Zp t d := by
  intro n hn
  have := List.all_eq_true.1 h _ (DataW.weights_mem_each ht hd n hn)
  have h2 : n ≤ reachBytes := of_decide_eq_true this
  exact h2
theorem bytesStep : Tryz.prog.bytesOf 29 = 32 := by kernel_rfl
theorem bytesItem : Tryz.prog.bytesOf 43 = 40 := by kernel_rfl
/-- a step -/
theorem open_step {H : Type} {enc : TypeId × Value → H} {W : World} {base : Nat} {sp : Nat → Bool} {held : Bool} {F : Nat} {cs : List Value} {x : DataW H × List MemPlace} (h : DataW.trod enc Tryz.prog W base sp held F 29 cs = some x) :
    ∃ p : Sp, cs = [.int .u8 (p.kind : Int), .string (Lx.bs p.text), .int .i64 p.n] ∧ (Zp 29 x.1 → fitS p) ∧ p.kind < 256 := by
  obtain ⟨xs, n, hn, hx1, hl, hxl, hf⟩ := DataW.trod_struct Tryz.underlying29 h
  rw [cellsStep] at hl
  obtain ⟨c0, c1, c2, rfl⟩ := list3P hl
  have f0 : DataW.trod enc Tryz.prog W base sp held n 27 (([c0, c1, c2].drop 0).take (Tryz.prog.cellsOf 27)) = xs[0]? := hf 0 _ rfl
  have f1 : DataW.trod enc Tryz.prog W base sp held n 9 (([c0, c1, c2].drop 1).take (Tryz.prog.cellsOf 9)) = xs[1]? := hf 1 _ rfl
  have f2 : DataW.trod enc Tryz.prog W base sp held n 2 (([c0, c1, c2].drop 2).take (Tryz.prog.cellsOf 2)) = xs[2]? := hf 2 _ rfl
  have get : ∀ i, i < 3 → ∃ y, xs[i]? = some y := fun i hi => ⟨_, List.getElem?_eq_getElem (by rw [hxl]; exact hi)⟩
  obtain ⟨y0, e0⟩ := get 0 (by omega)
  obtain ⟨y1, e1⟩ := get 1 (by omega)
  obtain ⟨y2, e2⟩ := get 2 (by omega)
  rw [e0, cellsStepk] at f0
  rw [e1, cellsStr] at f1
  rw [e2, cellsI64] at f2
  simp only [List.drop_zero, List.drop_succ_cons, List.take_succ_cons, List.take_zero] at f0 f1 f2
  obtain ⟨k, hk, _, wk⟩ := DataW.trod_int Tryz.underlying27 f0
  obtain ⟨s, hs, hy1, _⟩ := DataW.trod_string Tryz.underlying9 f1
  obtain ⟨d, hd, _, wd⟩ := DataW.trod_int Tryz.underlying2 f2
  simp only [List.cons.injEq, and_true] at hk hs hd
  obtain ⟨kn, rfl, hk2⟩ := nat_u8P wk
  subst hk hs hd
  refine ⟨⟨kn, s.data.toList, d⟩, by rw [Lx.bs_of], fun hz => ⟨?_, int_i64P wd⟩, hk2⟩
  have h2 := zp_part (i := 1) (t := 9) Tryz.underlying29 rfl hx1 e1 hz
  rw [hy1] at h2
  exact Nat.le_trans (zp_text _ h2) (by decide)
set_option maxRecDepth 100000 in
theorem open_steps {H : Type} {enc : TypeId × Value → H} {W : World} {base fuel : Nat} {sp : Nat → Bool} {held : Bool} {v : Value} {x : DataW H × List MemPlace} (hf : DataW.trod enc Tryz.prog W base sp held fuel 24 [v] = some x) :
    ∃ (l : List Sp) (a : Option Addr) (c : Nat), v = .slice a l.length c ∧ l.length ≤ c ∧ c ≤ 9223372036854775807 ∧ Sts W a l ∧ (Zp 24 x.1 → fitE l ∧ l.length * 32 ≤ 140737488351232) ∧ ∀ p ∈ l, p.kind < 256 := by
  rcases DataW.trod_slice Tryz.underlying24 hf with ⟨hc, _⟩ | ⟨a, len, cap, elems, rest, q, hq, hc, hy, _, hlc, hcm, hel, he, _, _⟩
  · simp at hc
    subst hc
    exact ⟨[], none, 0, rfl, Nat.le_refl _, by decide, Sts.nil _ _, fun _ => ⟨⟨by decide, fun p hp => (by cases hp)⟩, by decide⟩, fun p hp => (by cases hp)⟩
  · simp at hc
    subst hc
    rw [cellsStep] at he
    have hcm2 : cap ≤ 9223372036854775807 := by unfold maxLen at hcm; omega
    have key : ∀ i, i < len → ∃ cs', W.cells? base (a.add (i * 3)) 3 = some cs' ∧ ∃ y, elems[i]? = some y ∧ DataW.trod enc Tryz.prog W base sp held q 29 cs' = some y := fun i hi => by
      have h1 := he i hi
      have h4 : elems[i]? = some elems[i] := List.getElem?_eq_getElem (by omega)
      rw [h4] at h1
      obtain ⟨cs', h2, h3⟩ := Option.bind_eq_some_iff.1 h1
      exact ⟨cs', h2, _, h4, h3⟩
    by_cases hlen : 0 < len
    · obtain ⟨cs0, hc0, _⟩ := key 0 hlen
      rw [Nat.zero_mul] at hc0
      obtain ⟨g, o, rfl⟩ := spot_noneP hc0 (by omega)
      have part : ∀ i, i < len → ∃ p : Sp, (W.cell? ⟨g, o + i * 3, none⟩ = some (.int .u8 (p.kind : Int)) ∧ W.cell? ⟨g, o + i * 3 + 1, none⟩ = some (.string (Lx.bs p.text)) ∧ W.cell? ⟨g, o + i * 3 + 2, none⟩ = some (.int .i64 p.n)) ∧ (Zp 24 x.1 → fitS p) ∧ p.kind < 256 := fun i hi => by
        obtain ⟨cs', h2, y, hey, h3⟩ := key i hi
        obtain ⟨p, rfl, hz, hk⟩ := open_step h3
        obtain ⟨_, _, hcell⟩ := World.cells?_some h2
        rw [Addr.add_mid] at hcell
        have hc := fun j (hj : j < 3) => by
          have := hcell j hj
          rwa [Addr.add_mid] at this
        exact ⟨p, ⟨hc 0 (by omega), hc 1 (by omega), hc 2 (by omega)⟩, fun z => hz (zp_elem Tryz.underlying24 hy hey z), hk⟩
      obtain ⟨l, hll, hp⟩ := gatherP len part
      subst hll
      refine ⟨l, some ⟨g, o, none⟩, cap, rfl, hlc, hcm2, fun j p hj => ⟨g, o, rfl, (hp j p hj).1⟩, fun z => ⟨⟨by omega, fun p hm => ?_⟩, by have := zp_len Tryz.underlying24 bytesStep hy z; rw [hel] at this; exact this⟩, fun p hm => ?_⟩
      · obtain ⟨i, hi⟩ := List.getElem?_of_mem hm
        exact (hp i p hi).2.1 z
      · obtain ⟨i, hi⟩ := List.getElem?_of_mem hm
        exact (hp i p hi).2.2
    · have h0 : len = 0 := by omega
      subst h0
      exact ⟨[], some a, cap, rfl, Nat.zero_le _, hcm2, Sts.nil _ _, fun _ => ⟨⟨by decide, fun p hp => (by cases hp)⟩, by decide⟩, fun p hp => (by cases hp)⟩
/-- an item -/
theorem open_item {H : Type} {enc : TypeId × Value → H} {W : World} {base : Nat} {sp : Nat → Bool} {held : Bool} {F : Nat} {cs : List Value} {x : DataW H × List MemPlace} (h : DataW.trod enc Tryz.prog W base sp held F 43 cs = some x) :
    ∃ (i : It) (a : Option Addr) (c : Nat), cs = [.string (Lx.bs i.name), .slice a i.expr.length c] ∧ Sts W a i.expr ∧ (Zp 43 x.1 → fitE i.expr ∧ i.name.length ≤ 140737488351232) := by
  obtain ⟨xs, n, hn, hx1, hl, hxl, hf⟩ := DataW.trod_struct Tryz.underlying43 h
  rw [cellsItem] at hl
  obtain ⟨c0, c1, rfl⟩ := list2P hl
  have f0 : DataW.trod enc Tryz.prog W base sp held n 9 (([c0, c1].drop 0).take (Tryz.prog.cellsOf 9)) = xs[0]? := hf 0 _ rfl
  have f1 : DataW.trod enc Tryz.prog W base sp held n 24 (([c0, c1].drop 1).take (Tryz.prog.cellsOf 24)) = xs[1]? := hf 1 _ rfl
  have get : ∀ i, i < 2 → ∃ y, xs[i]? = some y := fun i hi => ⟨_, List.getElem?_eq_getElem (by rw [hxl]; exact hi)⟩
  obtain ⟨y0, e0⟩ := get 0 (by omega)
  obtain ⟨y1, e1⟩ := get 1 (by omega)
  rw [e0, cellsStr] at f0
  rw [e1, cellsSteps] at f1
  simp only [List.drop_zero, List.drop_succ_cons, List.take_succ_cons, List.take_zero] at f0 f1
  obtain ⟨s, hs, hy0, _⟩ := DataW.trod_string Tryz.underlying9 f0
  obtain ⟨l, a, c, rfl, _, _, hS, hz, _⟩ := open_steps f1
  simp only [List.cons.injEq, and_true] at hs
  subst hs
  refine ⟨⟨s.data.toList, l⟩, a, c, by rw [Lx.bs_of], hS, fun z => ⟨(hz (zp_part (i := 1) (t := 24) Tryz.underlying43 rfl hx1 e1 z)).1, ?_⟩⟩
  have h2 := zp_part (i := 0) (t := 9) Tryz.underlying43 rfl hx1 e0 z
  rw [hy0] at h2
  exact zp_text _ h2
set_option maxRecDepth 100000 in
theorem open_items {H : Type} {enc : TypeId × Value → H} {W : World} {base fuel : Nat} {sp : Nat → Bool} {held : Bool} {v : Value} {x : DataW H × List MemPlace} (hf : DataW.trod enc Tryz.prog W base sp held fuel 23 [v] = some x) :
    ∃ (l : List It) (a : Option Addr) (c : Nat), v = .slice a l.length c ∧ l.length ≤ c ∧ Itm W a l ∧ (Zp 23 x.1 → (∀ i ∈ l, fitE i.expr ∧ i.name.length ≤ 140737488351232) ∧ l.length * 40 ≤ 140737488351232) := by
  rcases DataW.trod_slice Tryz.underlying23 hf with ⟨hc, _⟩ | ⟨a, len, cap, elems, rest, q, hq, hc, hy, _, hlc, hcm, hel, he, _, _⟩
  · simp at hc
    subst hc
    exact ⟨[], none, 0, rfl, Nat.le_refl _, Itm.nil _ _, fun _ => ⟨fun p hp => (by cases hp), by decide⟩⟩
  · simp at hc
    subst hc
    rw [cellsItem] at he
    have key : ∀ i, i < len → ∃ cs', W.cells? base (a.add (i * 2)) 2 = some cs' ∧ ∃ y, elems[i]? = some y ∧ DataW.trod enc Tryz.prog W base sp held q 43 cs' = some y := fun i hi => by
      have h1 := he i hi
      have h4 : elems[i]? = some elems[i] := List.getElem?_eq_getElem (by omega)
      rw [h4] at h1
      obtain ⟨cs', h2, h3⟩ := Option.bind_eq_some_iff.1 h1
      exact ⟨cs', h2, _, h4, h3⟩
    by_cases hlen : 0 < len
    · obtain ⟨cs0, hc0, _⟩ := key 0 hlen
      rw [Nat.zero_mul] at hc0
      obtain ⟨g, o, rfl⟩ := spot_noneP hc0 (by omega)
      have part : ∀ i, i < len → ∃ p : It, (∃ ea ec, W.cell? ⟨g, o + i * 2, none⟩ = some (.string (Lx.bs p.name)) ∧ W.cell? ⟨g, o + i * 2 + 1, none⟩ = some (.slice ea p.expr.length ec) ∧ Sts W ea p.expr) ∧ (Zp 23 x.1 → fitE p.expr ∧ p.name.length ≤ 140737488351232) := fun i hi => by
        obtain ⟨cs', h2, y, hey, h3⟩ := key i hi
        obtain ⟨p, ea, ec, rfl, hS, hz⟩ := open_item h3
        obtain ⟨_, _, hcell⟩ := World.cells?_some h2
        rw [Addr.add_mid] at hcell
        have hc := fun j (hj : j < 2) => by
          have := hcell j hj
          rwa [Addr.add_mid] at this
        exact ⟨p, ⟨ea, ec, hc 0 (by omega), hc 1 (by omega), hS⟩, fun z => hz (zp_elem Tryz.underlying23 hy hey z)⟩
      obtain ⟨l, hll, hp⟩ := gatherP len part
      subst hll
      refine ⟨l, some ⟨g, o, none⟩, cap, rfl, hlc, fun j p hj => ?_, fun z => ⟨fun p hm => ?_, by have := zp_len Tryz.underlying23 bytesItem hy z; rw [hel] at this; exact this⟩⟩
      · obtain ⟨⟨ea, ec, q⟩, _⟩ := hp j p hj
        exact ⟨g, o, ea, ec, rfl, q⟩
      · obtain ⟨i, hi⟩ := List.getElem?_of_mem hm
        exact (hp i p hi).2 z
    · have h0 : len = 0 := by omega
      subst h0
      exact ⟨[], some a, cap, rfl, Nat.zero_le _, Itm.nil _ _, fun _ => ⟨fun p hp => (by cases hp), by decide⟩⟩
set_option maxRecDepth 100000 in
/-- a statement -/
theorem open_stmt {H : Type} {enc : TypeId × Value → H} {W : World} {r : Reach} {b0 base : Nat} {sp : Nat → Bool} {held : Bool} {v : Value} {d : DataW H} {p : List MemPlace}
    (hv : Value.okWide Tryz.prog W r b0 26 v) (h : DataW.Trod enc Tryz.prog W base sp held 26 v d p) (hz : Zp 26 d) : ∃ (x : St) (ia ea : Option Addr) (ic ec : Nat), v = .agg (stv x ia ic ea ec) ∧ x.kind < 256 ∧ StM W ia ea x ∧ FitX x ∧ x.items.length ≤ ic ∧ x.items.length * 40 ≤ 140737488351232 := by
  obtain ⟨cs, rfl, hsz⟩ := okWide_struct Tryz.underlying26 hv
  obtain ⟨fuel, hf⟩ := h
  obtain ⟨xs, n, hn, hx1, hl, hxl, hf⟩ := DataW.trod_struct Tryz.underlying26 hf
  have hcl : cs.toList.length = 7 := hsz.trans cellsStmt
  obtain ⟨c0, c1, c2, c3, c4, c5, c6, hcs⟩ := list7P hcl
  have e : cs = #[c0, c1, c2, c3, c4, c5, c6] := by rw [← Array.toArray_toList (xs := cs), hcs]
  subst e
  have f0 : DataW.trod enc Tryz.prog W base sp held n 22 (([c0, c1, c2, c3, c4, c5, c6].drop 0).take (Tryz.prog.cellsOf 22)) = xs[0]? := hf 0 _ rfl
  have f1 : DataW.trod enc Tryz.prog W base sp held n 9 (([c0, c1, c2, c3, c4, c5, c6].drop 1).take (Tryz.prog.cellsOf 9)) = xs[1]? := hf 1 _ rfl
  have f2 : DataW.trod enc Tryz.prog W base sp held n 9 (([c0, c1, c2, c3, c4, c5, c6].drop 2).take (Tryz.prog.cellsOf 9)) = xs[2]? := hf 2 _ rfl
  have f3 : DataW.trod enc Tryz.prog W base sp held n 23 (([c0, c1, c2, c3, c4, c5, c6].drop 3).take (Tryz.prog.cellsOf 23)) = xs[3]? := hf 3 _ rfl
  have f4 : DataW.trod enc Tryz.prog W base sp held n 24 (([c0, c1, c2, c3, c4, c5, c6].drop 4).take (Tryz.prog.cellsOf 24)) = xs[4]? := hf 4 _ rfl
  have f5 : DataW.trod enc Tryz.prog W base sp held n 4 (([c0, c1, c2, c3, c4, c5, c6].drop 5).take (Tryz.prog.cellsOf 4)) = xs[5]? := hf 5 _ rfl
  have f6 : DataW.trod enc Tryz.prog W base sp held n 4 (([c0, c1, c2, c3, c4, c5, c6].drop 6).take (Tryz.prog.cellsOf 4)) = xs[6]? := hf 6 _ rfl
  have get : ∀ i, i < 7 → ∃ y, xs[i]? = some y := fun i hi => ⟨_, List.getElem?_eq_getElem (by rw [hxl]; exact hi)⟩
  obtain ⟨y0, e0⟩ := get 0 (by omega)
  obtain ⟨y1, e1⟩ := get 1 (by omega)
  obtain ⟨y2, e2⟩ := get 2 (by omega)
  obtain ⟨y3, e3⟩ := get 3 (by omega)
  obtain ⟨y4, e4⟩ := get 4 (by omega)
  obtain ⟨y5, e5⟩ := get 5 (by omega)
  obtain ⟨y6, e6⟩ := get 6 (by omega)
  rw [e0, cellsStmtk] at f0
  rw [e1, cellsStr] at f1
  rw [e2, cellsStr] at f2
  rw [e3, cellsItems] at f3
  rw [e4, cellsSteps] at f4
  rw [e5, cellsBool] at f5
  rw [e6, cellsBool] at f6
  simp only [List.drop_zero, List.drop_succ_cons, List.take_succ_cons, List.take_zero] at f0 f1 f2 f3 f4 f5 f6
  obtain ⟨k, hk, _, wk⟩ := DataW.trod_int Tryz.underlying22 f0
  obtain ⟨s1, hs1, _, _⟩ := DataW.trod_string Tryz.underlying9 f1
  obtain ⟨s2, hs2, _, _⟩ := DataW.trod_string Tryz.underlying9 f2
  obtain ⟨il, ia, ic, hv3, hic, hI, hzI⟩ := open_items f3
  obtain ⟨el, ea, ec, hv4, _, _, hE, hzE, _⟩ := open_steps f4
  obtain ⟨b5, hb5, _⟩ := DataW.trod_bool Tryz.underlying4 f5
  obtain ⟨b6, hb6, _⟩ := DataW.trod_bool Tryz.underlying4 f6
  simp only [List.cons.injEq, and_true] at hk hs1 hs2 hb5 hb6
  obtain ⟨kn, rfl, hk2⟩ := nat_u8P wk
  subst hk hs1 hs2 hv3 hv4 hb5 hb6
  obtain ⟨z1, z2⟩ := hzI (zp_part (i := 3) (t := 23) Tryz.underlying26 rfl hx1 e3 hz)
  obtain ⟨z3, _⟩ := hzE (zp_part (i := 4) (t := 24) Tryz.underlying26 rfl hx1 e4 hz)
  refine ⟨⟨kn, s1.data.toList, s2.data.toList, il, el, b5, b6⟩, ia, ea, ic, ec, by rw [stv, Lx.bs_of, Lx.bs_of], hk2, ⟨hI, hE⟩, ⟨⟨?_, fun i hi => (z1 i hi).1⟩, z3⟩, hic, z2⟩
  show il.length ≤ _
  omega
set_option maxRecDepth 100000 in
theorem open_stepsv {H : Type} {enc : TypeId × Value → H} {W : World} {r : Reach} {b0 base : Nat} {sp : Nat → Bool} {held : Bool} {v : Value} {d : DataW H} {p : List MemPlace}
    (hv : Value.okWide Tryz.prog W r b0 24 v) (h : DataW.Trod enc Tryz.prog W base sp held 24 v d p) (hz : Zp 24 d) : ∃ (l : List Sp) (a : Option Addr) (c : Nat), v = .slice a l.length c ∧ l.length ≤ c ∧ c ≤ 9223372036854775807 ∧ Sts W a l ∧ fitE l ∧ l.length * 32 ≤ 140737488351232 := by
  obtain ⟨a0, len0, cap0, rfl⟩ := okWide_slice Tryz.underlying24 hv
  obtain ⟨fuel, hf⟩ := h
  obtain ⟨l, a, c, e, h1, h2, h3, h4, _⟩ := open_steps (v := .slice a0 len0 cap0) hf
  exact ⟨l, a, c, e, h1, h2, h3, (h4 hz).1, (h4 hz).2⟩
/-- a row of the table of operators -/
theorem open_op {H : Type} {enc : TypeId × Value → H} {W : World} {base : Nat} {sp : Nat → Bool} {held : Bool} {F : Nat} {cs : List Value} {s : List UInt8} {k : Int} {x : DataW H × List MemPlace} (h : DataW.trod enc Tryz.prog W base sp held F 131 cs = some x) (hd : x.1 = .agg [.lit (.string s), .lit (.int .u8 k)]) : cs = [.string (Lx.bs s), .int .u8 k] := by
  obtain ⟨xs, n, hn, hx1, hl, hxl, hf⟩ := DataW.trod_struct Tryz.underlying131 h
  rw [cellsOpst] at hl
  obtain ⟨c0, c1, rfl⟩ := list2P hl
  have f0 : DataW.trod enc Tryz.prog W base sp held n 9 (([c0, c1].drop 0).take (Tryz.prog.cellsOf 9)) = xs[0]? := hf 0 _ rfl
  have f1 : DataW.trod enc Tryz.prog W base sp held n 27 (([c0, c1].drop 1).take (Tryz.prog.cellsOf 27)) = xs[1]? := hf 1 _ rfl
  obtain ⟨y0, y1, rfl⟩ : ∃ y0 y1, xs = [y0, y1] := by
    match xs, hxl with
    | [y0, y1], _ => exact ⟨y0, y1, rfl⟩
  rw [cellsStr] at f0
  rw [cellsStepk] at f1
  simp only [List.drop_zero, List.drop_succ_cons, List.take_succ_cons, List.take_zero, List.getElem?_cons_zero, List.getElem?_cons_succ] at f0 f1
  obtain ⟨s', hs, q0, _⟩ := DataW.trod_string Tryz.underlying9 f0
  obtain ⟨k', hk, q1, _⟩ := DataW.trod_int Tryz.underlying27 f1
  simp only [List.cons.injEq, and_true] at hs hk
  rw [hx1, q0, q1] at hd
  simp at hd
  obtain ⟨rfl, rfl⟩ := hd
  rw [hs, hk, Lx.bs_of]
set_option maxRecDepth 100000 in
/-- the table of operators, out of the list of a row -/
theorem hasO_of {W : World} {L : List (String × DataW Unit)} (h : laidMet Tryz.prog L W) (h1 : ("codicil/parse.operators", (Rows.laid_codicil_parse_operators : DataW Unit)) ∈ L) : HasO W := by
  obtain ⟨g, t, cs, fuel, p, hg, hty, hvar, hd⟩ := Lib.laidMet.reads h h1
  obtain rfl := Option.some.inj (gOpL.symm.trans hg)
  obtain rfl := Option.some.inj (yOpL.symm.trans hty)
  obtain ⟨xs, m, _, hx, hl, hxl, hf⟩ := DataW.trod_array Tryz.underlying132 hd
  have hX : (Rows.laid_codicil_parse_operators : DataW Unit) = .agg (xs.map (·.1)) := congrArg Prod.fst hx
  rw [Rows.laid_codicil_parse_operators] at hX
  have hX2 := DataW.agg.inj hX
  have key : ∀ i, i < 11 → (xs.map (·.1))[i]? = some (.agg [.lit (.string (otx.getD i [])), .lit (.int .u8 ((okd.getD i 0 : Nat) : Int))]) → W.cell? ⟨2, 2 * i, none⟩ = some (.string (Lx.bs (otx.getD i []))) ∧ W.cell? ⟨2, 2 * i + 1, none⟩ = some (.int .u8 ((okd.getD i 0 : Nat) : Int)) := fun i hi hxi => by
    rw [List.getElem?_map] at hxi
    obtain ⟨y, hy, hy1⟩ := Option.map_eq_some_iff.1 hxi
    have h2 := hf i hi
    rw [hy, cellsOpst] at h2
    have h3 := open_op h2 hy1
    have c0 := World.var?_cell hg hvar (2 * i)
    have c1 := World.var?_cell hg hvar (2 * i + 1)
    have d0 := congrArg (fun l => l[0]?) h3
    have d1 := congrArg (fun l => l[1]?) h3
    simp only [List.getElem?_take, List.getElem?_drop, List.getElem?_cons_zero, List.getElem?_cons_succ] at d0 d1
    rw [if_pos (by omega)] at d0 d1
    rw [← Array.getElem?_toList] at c0 c1
    rw [show i * 2 + 0 = 2 * i by omega] at d0
    rw [show i * 2 + 1 = 2 * i + 1 by omega] at d1
    exact ⟨c0.trans d0, c1.trans d1⟩
  have all : ∀ i, i < 11 → W.cell? ⟨2, 2 * i, none⟩ = some (.string (Lx.bs (otx.getD i []))) ∧ W.cell? ⟨2, 2 * i + 1, none⟩ = some (.int .u8 ((okd.getD i 0 : Nat) : Int)) := fun i hi => key i hi (by
    rw [← hX2]
    rcases i with _ | _ | _ | _ | _ | _ | _ | _ | _ | _ | _ | i
    all_goals first | rfl | omega)
  exact ⟨by have := (all 0 (by omega)).1; exact block_lt_of_cell this, all⟩
end Ps
end Go.Proofs.YtfhkaffakniioaaGreatDoor
/- Appending what lies anywhere, if anything: steps and items. -/
namespace Go.Proofs.YtfhkaffakniioaaGreatDoor
open Go.RowKit
namespace Ps
/-- where the cells of a slice lie -/
def SrcC (W : World) (xa : Option Addr) (news : List Value) : Prop := ∀ j u, news[j]? = some u → ∃ g o, xa = some ⟨g, o, none⟩ ∧ W.cell? ⟨g, o + j, none⟩ = some u
theorem SrcC.call {W W' : World} {xa : Option Addr} {l : List Value} (h : SrcC W xa l) (hb : Below W.heap.size W W') : SrcC W' xa l := fun j u hu => by
  obtain ⟨g, o, e, h1⟩ := h j u hu
  exact ⟨g, o, e, (hb.cell (p := ⟨g, o + j, none⟩) (block_lt_of_cell h1)).trans h1⟩
theorem own_block_le {W : World} {B size n : Nat} {t : TypeId} {v : Value} {L : List Value} (h : W.ownsRow B t size v n L) : ∀ k, v.ownBlock = some k → B ≤ k := by
  intro k hk
  rcases h.2 with ⟨e, _⟩ | ⟨g, cap, cur, e, hb, _⟩
  · rw [e] at hk; cases hk
  · rw [e] at hk; cases hk; exact hb
theorem append_none_any {t e : TypeId} {i : TypeInfo} (ht : Tryz.prog.underlying t = some (.slice e)) (hi : Tryz.prog.info? e = some i) (ao : Option Addr) (cap : Nat) (W : World) (b : Option Addr) (n c : Nat) (hnc : n ≤ c) (ty : TypeId) : (Builtin.append_ #[t, t] ty #[.slice b n c, .slice ao 0 cap]).run Tryz.prog W = .ok (.slice b n c) W := by
  refine run_append_nothing W t t ty e i ht hi _ n c hnc _ ⟨Or.inl ⟨e, ht⟩, fun w' => ?_, ?_, ?_, by simp, fun u hu => by cases hu⟩
  · simp [Builtin.lenOf]
  · cases ao <;> simp [Builtin.firstCells, loadCells, loadCellsFrom]
  · cases ao <;> simp [Builtin.firstCells, loadCells, loadCellsFrom]
theorem wp_append_any {o : Oper} {a : Act} {W : World} {K : Act → World → Prop} {Q : Exit → Act → World → Prop} (s x : Operand) (t : TypeId) (ho : o.op = .call { callee := .builtin .append, args := #[s, x], argTypes := #[t, t] })
    (base : Nat) (e : TypeId) (i : TypeInfo) (z : Value) (size bytes : Nat) (ht : Tryz.prog.underlying t = some (.slice e)) (hi : Tryz.prog.info? e = some i) (hz : i.zero = some z) (hsize : i.size = size) (hby : i.bytes = bytes) (hzs : z.cells.size = size) (hsz : 0 < size)
    (v : Value) (n : Nat) (xs : List Value) (hs : a.eval s = v) (hown : W.ownsRow base e size v n xs)
    (xa : Option Addr) (m c : Nat) (news : List Value) (hx : a.eval x = .slice xa m c) (hl : news.length = m * size) (hnews : SrcC W xa news) (h1 : ∀ u ∈ news, u.oneCell' = true)
    (h63 : n + m ≤ maxLen) (hbytes : (n + m) * bytes ≤ 140737488355328) (hbase : base ≤ W.heap.size)
    (h : ∀ b cap w', w'.ownsRow base e size (.slice b (n + m) cap) (n + m) (xs ++ news) → Below base W w' → (∀ k, k < W.heap.size → v.ownBlock ≠ some k → w'.heap[k]? = W.heap[k]?) → K (a.put o.dst (.slice b (n + m) cap)) w') : o.wp Tryz.prog a W K Q := by
  by_cases h0 : m = 0
  · subst h0
    have hn : news = [] := List.eq_nil_of_length_eq_zero (by rw [hl, Nat.zero_mul])
    subst hn
    obtain ⟨b, k, hv, hbk⟩ : ∃ b k, v = .slice b n k ∧ n ≤ k := by
      rcases hown.2 with ⟨e, e0⟩ | ⟨g, cap, cur, e, _, _, e4, _⟩
      · rw [e0]; exact ⟨_, _, e, Nat.le_refl _⟩
      · exact ⟨_, _, e, e4⟩
    have hrun := append_none_any ht hi xa c W b n k hbk o.type
    subst hv
    have hk := h b k W (by rw [List.append_nil]; exact hown) (Below.refl _ _) (fun _ _ _ => rfl)
    unfold Oper.wp execOp
    simp only [ho, resolve, invoke, builtin, Sem.run_bind, Sem.run_pure, Result.andThen_ok, List.map_toArray, List.map_cons, List.map_nil, hs, hx, hrun]
    exact hk
  · have hm : 0 < m := Nat.pos_of_ne_zero h0
    have hlen : 0 < news.length := by rw [hl]; exact Nat.mul_pos hm hsz
    obtain ⟨g, off, e0, _⟩ := hnews 0 _ (List.getElem?_eq_getElem hlen)
    subst e0
    refine wp_append_lies W s x t ho base e i z size bytes ht hi hz hsize hby hzs hsz v n xs hs hown ⟨g, off, none⟩ m c news hx hl (fun j u hu => ?_) h1 hm h63 hbytes hbase _ rfl ?_
    · obtain ⟨g', o', e1, h2⟩ := hnews j u hu
      cases e1
      rw [Addr.add_mid]
      exact h2
    · intro g cap w' ho' hg _ _
      exact h _ _ w' ho' ((Below.refl base W).grown hg hbase (own_block_le hown)) (fun k hk q => hg.block k hk (fun e => q e.symm))
theorem wpList_append_any {ops : Array Oper} {rest : List Oper} {o : Oper} {a : Act} {W : World} {Q : Exit → Act → World → Prop} (hgd : o.guard = none) (s x : Operand) (t : TypeId) (ho : o.op = .call { callee := .builtin .append, args := #[s, x], argTypes := #[t, t] })
    (base : Nat) (e : TypeId) (i : TypeInfo) (z : Value) (size bytes : Nat) (ht : Tryz.prog.underlying t = some (.slice e)) (hi : Tryz.prog.info? e = some i) (hz : i.zero = some z) (hsize : i.size = size) (hby : i.bytes = bytes) (hzs : z.cells.size = size) (hsz : 0 < size)
    (v : Value) (n : Nat) (xs : List Value) (hs : a.eval s = v) (hown : W.ownsRow base e size v n xs)
    (xa : Option Addr) (m c : Nat) (news : List Value) (hx : a.eval x = .slice xa m c) (hl : news.length = m * size) (hnews : SrcC W xa news) (h1 : ∀ u ∈ news, u.oneCell' = true)
    (h63 : n + m ≤ maxLen) (hbytes : (n + m) * bytes ≤ 140737488355328) (hbase : base ≤ W.heap.size)
    (h : ∀ b cap w', w'.ownsRow base e size (.slice b (n + m) cap) (n + m) (xs ++ news) → Below base W w' → (∀ k, k < W.heap.size → v.ownBlock ≠ some k → w'.heap[k]? = W.heap[k]?) → wpList Tryz.prog ops Q rest (a.put o.dst (.slice b (n + m) cap)) w') : wpList Tryz.prog ops Q (o :: rest) a W :=
  wpList_plain hgd fun _ hK => wp_append_any s x t ho base e i z size bytes ht hi hz hsize hby hzs hsz v n xs hs hown xa m c news hx hl hnews h1 h63 hbytes hbase fun b cap w' h2 h3 h4 => hK _ _ (h b cap w' h2 h3 h4)
theorem step_append_any {ops : Array Oper} {o : Oper} {a : Act} {W : World} {K : Act → World → Prop} {Q : Exit → Act → World → Prop} {E : Prop} (hgd : o.guard = none) (s x : Operand) (t : TypeId) (ho : o.op = .call { callee := .builtin .append, args := #[s, x], argTypes := #[t, t] })
    (base : Nat) (e : TypeId) (i : TypeInfo) (z : Value) (size bytes : Nat) (ht : Tryz.prog.underlying t = some (.slice e)) (hi : Tryz.prog.info? e = some i) (hz : i.zero = some z) (hsize : i.size = size) (hby : i.bytes = bytes) (hzs : z.cells.size = size) (hsz : 0 < size)
    (v : Value) (n : Nat) (xs : List Value) (hs : a.eval s = v) (hown : W.ownsRow base e size v n xs)
    (xa : Option Addr) (m c : Nat) (news : List Value) (hx : a.eval x = .slice xa m c) (hl : news.length = m * size) (hnews : SrcC W xa news) (h1 : ∀ u ∈ news, u.oneCell' = true)
    (h63 : n + m ≤ maxLen) (hbytes : (n + m) * bytes ≤ 140737488355328) (hbase : base ≤ W.heap.size)
    (h : ∀ b cap w', w'.ownsRow base e size (.slice b (n + m) cap) (n + m) (xs ++ news) → Below base W w' → (∀ k, k < W.heap.size → v.ownBlock ≠ some k → w'.heap[k]? = W.heap[k]?) → K (a.put o.dst (.slice b (n + m) cap)) w') :
    if Region.wanted o (yielded ops a.tmps) = true then Oper.wp Tryz.prog o a W K Q else E := by
  have hw : Region.wanted o (yielded ops a.tmps) = true := by simp [Region.wanted, hgd]
  rw [if_pos hw]
  exact wp_append_any s x t ho base e i z size bytes ht hi hz hsize hby hzs hsz v n xs hs hown xa m c news hx hl hnews h1 h63 hbytes hbase h
theorem scs_len (l : List Sp) : (scs l).length = l.length * 3 := by
  induction l with
  | nil => rfl
  | cons p r ih =>
    rw [scs, List.flatMap_cons, List.length_append, List.length_cons]
    rw [scs] at ih
    rw [ih, show (sc p).toList.length = 3 from rfl]
    omega
theorem ics_len (l : List (It × Value)) : (ics l).length = l.length * 2 := by
  induction l with
  | nil => rfl
  | cons p r ih =>
    rw [ics, List.flatMap_cons, List.length_append, List.length_cons]
    rw [ics] at ih
    rw [ih]
    simp
    omega
theorem Sts.src {W : World} {a : Option Addr} {l : List Sp} (h : Sts W a l) : SrcC W a (scs l) := fun j u hu => by
  have hj : j < l.length * 3 := by have := (List.getElem?_eq_some_iff.1 hu).1; rwa [scs_len] at this
  obtain ⟨p, hp⟩ : ∃ p, l[j / 3]? = some p := ⟨_, List.getElem?_eq_getElem (by omega)⟩
  obtain ⟨g, o, e, c0, c1, c2⟩ := h _ p hp
  have hr := scs_at hp (j % 3) (by omega)
  rw [show j / 3 * 3 + j % 3 = j by omega, hu] at hr
  refine ⟨g, o, e, ?_⟩
  rcases (show j % 3 = 0 ∨ j % 3 = 1 ∨ j % 3 = 2 by omega) with q | q | q
  · rw [q] at hr
    cases hr
    rw [show o + j = o + j / 3 * 3 by omega]; exact c0
  · rw [q] at hr
    cases hr
    rw [show o + j = o + j / 3 * 3 + 1 by omega]; exact c1
  · rw [q] at hr
    cases hr
    rw [show o + j = o + j / 3 * 3 + 2 by omega]; exact c2
/-- items with the slices of their expressions -/
def ItL (W : World) (L : List (It × Value)) : Prop := ∀ x ∈ L, ∃ ea ec, x.2 = .slice ea x.1.expr.length ec ∧ Sts W ea x.1.expr
theorem ItL.call {W W' : World} {L : List (It × Value)} (h : ItL W L) (hb : Below W.heap.size W W') : ItL W' L := fun x hx => by
  obtain ⟨ea, ec, e, hs⟩ := h x hx
  exact ⟨ea, ec, e, hs.call hb⟩
theorem ItL.more {W : World} {L M : List (It × Value)} (h : ItL W L) (hM : ItL W M) : ItL W (L ++ M) := fun x hx => (List.mem_append.1 hx).elim (h x) (hM x)
theorem gatherA {α : Type} {P : Nat → α → Prop} : ∀ (n : Nat), (∀ i, i < n → ∃ x, P i x) → ∃ l : List α, l.length = n ∧ ∀ i x, l[i]? = some x → P i x
  | 0, _ => ⟨[], rfl, fun i x h => by simp at h⟩
  | n + 1, h => by
    obtain ⟨l, hl, hp⟩ := gatherA n (fun i hi => h i (by omega))
    obtain ⟨x, hx⟩ := h n (by omega)
    refine ⟨l ++ [x], by simp [hl], fun i y hy => ?_⟩
    by_cases hi : i < n
    · rw [List.getElem?_append_left (by omega)] at hy
      exact hp i y hy
    · rw [List.getElem?_append_right (by omega), hl] at hy
      have : i - n = 0 := by
        have := (List.getElem?_eq_some_iff.1 hy).1
        simpa using this
      rw [this] at hy
      simp only [List.getElem?_cons_zero, Option.some.injEq] at hy
      rw [← hy, show i = n by omega]
      exact hx
theorem Itm.list {W : World} {a : Option Addr} {l : List It} (h : Itm W a l) : ∃ L : List (It × Value), L.map (·.1) = l ∧ ItL W L ∧ SrcC W a (ics L) := by
  obtain ⟨L, hL, hP⟩ := gatherA (P := fun j (x : It × Value) => l[j]? = some x.1 ∧ ∃ g o ea ec, a = some ⟨g, o, none⟩ ∧ W.cell? ⟨g, o + j * 2, none⟩ = some (.string (Lx.bs x.1.name)) ∧ W.cell? ⟨g, o + j * 2 + 1, none⟩ = some x.2 ∧ x.2 = .slice ea x.1.expr.length ec ∧ Sts W ea x.1.expr) l.length (fun j hj => by
    obtain ⟨g, o, ea, ec, e, c0, c1, hs⟩ := h j _ (List.getElem?_eq_getElem hj)
    exact ⟨(l[j], .slice ea l[j].expr.length ec), List.getElem?_eq_getElem hj, g, o, ea, ec, e, c0, c1, rfl, hs⟩)
  refine ⟨L, ?_, fun x hx => ?_, fun j u hu => ?_⟩
  · apply List.ext_getElem?
    intro j
    rw [List.getElem?_map]
    cases e : L[j]? with
    | none =>
      have : l.length ≤ j := by rw [← hL]; exact List.getElem?_eq_none_iff.1 e
      rw [List.getElem?_eq_none this]; rfl
    | some x => rw [(hP j x e).1]; rfl
  · obtain ⟨j, hj⟩ := List.getElem?_of_mem hx
    obtain ⟨_, g, o, ea, ec, _, _, _, e, hs⟩ := hP j x hj
    exact ⟨ea, ec, e, hs⟩
  · have hj : j < L.length * 2 := by have := (List.getElem?_eq_some_iff.1 hu).1; rwa [ics_len] at this
    obtain ⟨x, hx⟩ : ∃ x, L[j / 2]? = some x := ⟨_, List.getElem?_eq_getElem (by omega)⟩
    obtain ⟨_, g, o, ea, ec, e, c0, c1, _⟩ := hP _ x hx
    have hr := ics_at hx (j % 2) (by omega)
    rw [show j / 2 * 2 + j % 2 = j by omega, hu] at hr
    refine ⟨g, o, e, ?_⟩
    rcases (show j % 2 = 0 ∨ j % 2 = 1 by omega) with q | q
    · rw [q] at hr
      cases hr
      rw [show o + j = o + j / 2 * 2 by omega]; exact c0
    · rw [q] at hr
      cases hr
      rw [show o + j = o + j / 2 * 2 + 1 by omega]; exact c1
end Ps
end Go.Proofs.YtfhkaffakniioaaGreatDoor
