/- ValueInside, walked. -/
import Derived.Test.YtcgkoogdgagddaaDoorLivesW
import Derived.Test.YtcgkoogdgagddaaDoorInsideM
import Derived.Test.YtcgkoogdgagddaaDoorGetA
import Derived.Deep.RegionLawGrows
import Derived.Deep.Upon
import Derived.Deep.AppendLies
namespace Go.Proofs.YtcgkoogdgagddaaDoor
open Go.RowKit
open Vl (V)
theorem alone_l (t : V) : Vl.alone utf 0 (tl [t]) = 0 := by
  simp [tl, Vl.alone, Vl.strange, show (⟨#[]⟩ : ByteArray) = ByteArray.empty from rfl]
theorem check_l (t : V) : Vl.check utf 0 (tl [t]) = Vl.check utf 1 t := by
  have h := alone_l t
  rw [tl] at h ⊢
  rw [Vl.check, if_neg (by simpa using h), Vl.checkL, Vl.checkL, Vl.checkF]
  by_cases h1 : Vl.check utf 1 t = 0
  · simp [h1]
  · simp [h1]
theorem get_l (t : V) (ss : List ByteArray) : getV (tl [t]) (⟨#[48]⟩ :: ss) = getV t ss := by
  rw [getV, show stepV (tl [t]) ⟨#[48]⟩ = some t by rw [tl, stepV, if_pos rfl, place_0]; rfl]
/-- the law's own variables: the value, the list of it -/
structure NS (w W : World) (H L g : Nat) (t : V) (v0 v1 v2 v3 v4 v5 : Value) : Prop where
  below : Below w.heap.size w W
  bv : Row6 W w.heap.size v0 v1 v2 v3 v4 v5
  bl : Row6 W L (.int .u8 5) (.bool false) (.int .i64 0) (.string ⟨#[]⟩) (.slice (some ⟨g, 0, none⟩) 1 1) (.slice none 0 0)
  rv : Rep W H t (.agg #[v0, v1, v2, v3, v4, v5])
  rl : Rep W (g + 1) (tl [t]) (.agg #[.int .u8 5, .bool false, .int .i64 0, .string ⟨#[]⟩, .slice (some ⟨g, 0, none⟩) 1 1, .slice none 0 0])
  low : H ≤ w.heap.size
  lt : g < W.heap.size
theorem NS.call {w W W' : World} {H L g : Nat} {t : V} {v0 v1 v2 v3 v4 v5 : Value} (h : NS w W H L g t v0 v1 v2 v3 v4 v5) (hb : Below W.heap.size W W') : NS w W' H L g t v0 v1 v2 v3 v4 v5 :=
  ⟨h.below.trans (hb.mono h.below.size), h.bv.call hb, h.bl.call hb, rep_stays (hb.mono (Nat.le_trans h.low h.below.size)) (Nat.le_refl _) t _ h.rv, rep_stays (hb.mono (by have := h.lt; omega)) (Nat.le_refl _) _ _ h.rl, h.low, Nat.lt_of_lt_of_le h.lt hb.size⟩
theorem rep_zero' (w : World) (H : Nat) : Rep w H ⟨0, false, 0, ⟨#[]⟩, [], []⟩ (.agg #[.int .u8 0, .bool false, .int .i64 0, .string ⟨#[]⟩, .slice none 0 0, .slice none 0 0]) := by
  rw [Rep]
  exact ⟨none, 0, none, 0, rfl, by omega, by omega, by decide, by decide, by decide, fun h => by simp at h, fun h => by simp at h⟩
theorem got_form {o : Option V} {e : Ending} {w' : World} (h : Got o e w') : ∃ (yk : Nat) (yb : Bool) (yn : Int) (ys : ByteArray) (ya : Option Addr) (yl yc : Nat) (yf : Option Addr) (ym yq : Nat), e = .returned (.tuple #[.agg #[.int .u8 (yk : Int), .bool yb, .int .i64 yn, .string ys, .slice ya yl yc, .slice yf ym yq], .bool o.isSome]) ∧ Rep w' w'.heap.size (o.getD ⟨0, false, 0, ⟨#[]⟩, [], []⟩) (.agg #[.int .u8 (yk : Int), .bool yb, .int .i64 yn, .string ys, .slice ya yl yc, .slice yf ym yq]) := by
  cases o with
  | none =>
    have h' : e = .returned (.tuple #[.agg #[.int .u8 0, .bool false, .int .i64 0, .string ⟨#[]⟩, .slice none 0 0, .slice none 0 0], .bool false]) := h
    exact ⟨0, false, 0, ⟨#[]⟩, none, 0, 0, none, 0, 0, h', rep_zero' _ _⟩
  | some x =>
    obtain ⟨v', rfl, hr⟩ : ∃ v', e = .returned (.tuple #[v', .bool true]) ∧ Rep w' w'.heap.size x v' := h
    obtain ⟨yk, yb, yn, ys, ya, yl, yc, yf, ym, yq, rfl⟩ := repA_form (rep_repA _ v' hr)
    exact ⟨yk, yb, yn, ys, ya, yl, yc, yf, ym, yq, rfl, hr⟩
theorem LiesP.stays {w W : World} {ao : Option Addr} {ss : List ByteArray} (h : LiesP w ao ss) (hb : Below w.heap.size w W) : LiesP W ao ss :=
  ⟨h.1, h.2.1, fun hp => by
    obtain ⟨g, o, e, hg, hc⟩ := h.2.2 hp
    exact ⟨g, o, e, Nat.lt_of_lt_of_le hg hb.size, fun j s hs => (hb.cell (p := ⟨g, o + j, none⟩) hg).trans (hc j s hs)⟩⟩
theorem row_new3 (w : World) (o : Obj) (v0 v1 v2 v3 v4 v5 : Value) : Row6 (((w.alloc (.cells #[v0, v1, v2, v3, v4, v5] 26)).alloc o).drew) w.heap.size v0 v1 v2 v3 v4 v5 :=
  show Row6 ((w.alloc (.cells #[v0, v1, v2, v3, v4, v5] 26)).alloc o) w.heap.size v0 v1 v2 v3 v4 v5 from (row_new w v0 v1 v2 v3 v4 v5).call (below_new _ _)
theorem row_new2 (w : World) (o : Obj) (v0 v1 v2 v3 v4 v5 : Value) : Row6 (((w.alloc o).alloc (.cells #[v0, v1, v2, v3, v4, v5] 26)).drew) (w.heap.size + 1) v0 v1 v2 v3 v4 v5 := by
  have h := row_new (w.alloc o) v0 v1 v2 v3 v4 v5
  rw [show (w.alloc o).heap.size = w.heap.size + 1 by simp] at h
  exact h
theorem row_ne {a b c : Nat} (h : a < b) (h2 : b ≤ c) : a ≠ c := by omega
theorem cellA (w : World) (v : Value) (t : TypeId) : ((w.alloc (.cells #[v] t)).drew).cell? ⟨w.heap.size, 0, none⟩ = some v := by
  show (w.alloc (.cells #[v] t)).cell? ⟨w.heap.size, 0, none⟩ = some v
  rw [cell_of_row _ _ _ _ _ _ (heap_alloc_new w (.cells #[v] t))]; rfl
theorem cellC (w : World) (v : Value) (t : TypeId) (o : Obj) : (((w.alloc (.cells #[v] t)).alloc o).drew).cell? ⟨w.heap.size, 0, none⟩ = some v := by
  show ((w.alloc (.cells #[v] t)).alloc o).cell? ⟨w.heap.size, 0, none⟩ = some v
  rw [cell_of_row _ _ _ _ _ _ ((Below.heap_alloc _ _ _ (by simp)).trans (heap_alloc_new w (.cells #[v] t)))]; rfl
theorem cellB (w : World) (v : Value) (t : TypeId) (o : Obj) : (((w.alloc o).alloc (.cells #[v] t)).drew).cell? ⟨w.heap.size + 1, 0, none⟩ = some v := by
  simp
theorem info9 : (Tryd.prog.info? 9).map (fun i => (i.zero, i.size, i.bytes)) = some (some (.string ⟨#[]⟩), 1, 16) := by kernel_rfl
theorem step_path {ops : Array Oper} {o : Oper} {a : Act} {W : World} {K : Act → World → Prop} {Q : Exit → Act → World → Prop} {E : Prop} (hg : o.guard = none) (s x : Operand) (hop : o.op = Op.call { callee := Callee.builtin Builtin.append, args := #[s, x], argTypes := #[39, 39] })
    (gb : Nat) (hs : a.eval s = .slice (some ⟨gb, 0, none⟩) 1 1) (h0 : W.cell? ⟨gb, 0, none⟩ = some (.string ⟨#[48]⟩)) (ss : List ByteArray) (gp op np cap : Nat) (hx : a.eval x = .slice (some ⟨gp, op, none⟩) np cap) (hnp : np = ss.length) (hc : LiesP W (some ⟨gp, op, none⟩) ss) (hp : 0 < np) (hn : np ≤ 8796093021952)
    (hK : ∀ ga ca w', Below W.heap.size W w' → LiesP w' (some ⟨ga, 0, none⟩) (⟨#[48]⟩ :: ss) → K (a.put o.dst (.slice (some ⟨ga, 0, none⟩) (1 + np) ca)) w') :
    if Region.wanted o (yielded ops a.tmps) = true then Oper.wp Tryd.prog o a W K Q else E := by
  subst hnp
  obtain ⟨i0, hi, hz0, hz1, hz2⟩ := info_parts info9
  obtain ⟨c1, c2, c3⟩ := hc
  obtain ⟨g', o', he, hlt, hcell⟩ := c3 hp
  cases he
  refine step_append_grows hg s x 39 hop 9 i0 _ 1 16 Tryd.underlying39 hi hz0 hz1 hz2 rfl (by decide) (some ⟨gb, 0, none⟩) 1 1 [.string ⟨#[48]⟩] hs (fun h => by cases h) rfl ?_ ⟨gp, op, none⟩ ss.length cap (ss.map Value.string) hx (by simp) ?_ ?_ (by omega) (by unfold maxLen; omega) (by omega) ?_
  · intro b hb j u hu
    cases hb
    match j, hu with
    | 0, hu => simp at hu; subst hu; rw [Addr.add_mid]; exact h0
    | j + 1, hu => simp at hu
  · intro j u hu
    rw [List.getElem?_map] at hu
    cases hj : ss[j]? with
    | none => rw [hj] at hu; cases hu
    | some s =>
      rw [hj] at hu
      simp only [Option.map_some, Option.some.injEq] at hu
      subst hu
      rw [Addr.add_mid]
      exact hcell j s hj
  · intro u hu
    obtain ⟨s, _, rfl⟩ := List.mem_map.1 hu
    rfl
  · intro v' w' hown hgrow
    obtain ⟨ga, ca, rfl, hb, hl⟩ := hown.form (by omega)
    refine hK ga ca w' ((Below.refl _ _).grown hgrow (Nat.le_refl _) (fun k hk => by cases hk)) ⟨by simp; unfold maxLen at *; omega, ?_, fun _ => ⟨ga, 0, rfl, hl, ?_⟩⟩
    · intro s hs'
      cases List.mem_cons.1 hs' with
      | inl e => rw [e]; decide
      | inr e => exact c2 s e
    · intro j s hj
      have := hown.cells (g := ga) rfl j (.string s) (by
        have e : [Value.string ⟨#[48]⟩] ++ ss.map Value.string = (⟨#[48]⟩ :: ss).map Value.string := rfl
        rw [e, List.getElem?_map, hj]; rfl)
      rw [Addr.add_mid] at this
      exact this
theorem fin6 {W : World} {b : Nat} {u0 u1 u2 u3 u4 u5 : Value} (h : Row6 W b u0 u1 u2 u3 u4 u5) (v0 v1 v2 v3 v4 v5 : Value) :
    Row6 ((((((W.setCell ⟨b, 0, none⟩ v0).setCell ⟨b, 1, none⟩ v1).setCell ⟨b, 2, none⟩ v2).setCell ⟨b, 3, none⟩ v3).setCell ⟨b, 4, none⟩ v4).setCell ⟨b, 5, none⟩ v5) b v0 v1 v2 v3 v4 v5 ∧
    (∀ g, g ≠ b → ((((((W.setCell ⟨b, 0, none⟩ v0).setCell ⟨b, 1, none⟩ v1).setCell ⟨b, 2, none⟩ v2).setCell ⟨b, 3, none⟩ v3).setCell ⟨b, 4, none⟩ v4).setCell ⟨b, 5, none⟩ v5).heap[g]? = W.heap[g]?) ∧
    ((((((W.setCell ⟨b, 0, none⟩ v0).setCell ⟨b, 1, none⟩ v1).setCell ⟨b, 2, none⟩ v2).setCell ⟨b, 3, none⟩ v3).setCell ⟨b, 4, none⟩ v4).setCell ⟨b, 5, none⟩ v5).heap.size = W.heap.size ∧
    (∀ B A, Below B A W → B ≤ b → Below B A ((((((W.setCell ⟨b, 0, none⟩ v0).setCell ⟨b, 1, none⟩ v1).setCell ⟨b, 2, none⟩ v2).setCell ⟨b, 3, none⟩ v3).setCell ⟨b, 4, none⟩ v4).setCell ⟨b, 5, none⟩ v5)) := by
  rw [sets6]
  exact ⟨Row6.put h _ _ _ _ _ _, fun g hg => heap_setCells_ne b g hg _ _ _, size_setCells' b _ _ _, fun B A hb hle => below_setCells hle _ _ hb⟩
theorem hidRow {W : World} {b : Nat} {u0 u1 u2 u3 u4 u5 : Value} (h : Row6 W b u0 u1 u2 u3 u4 u5) : Hid (Row6 W b u0 u1 u2 u3 u4 u5) := h
theorem hidRep {W : World} {A : Nat → Prop} {x : V} {v : Value} (h : RepA W A x v) : Hid (RepA W A x v) := h
theorem close_set {w7 w9 : World} {b BB : Nat} {u0 u1 u2 u3 u4 u5 z0 z1 z2 z3 z4 z5 : Value} {gx : V} (hY : Row6 w9 b u0 u1 u2 u3 u4 u5) (hB : Below w7.heap.size w7 w9) (hl : w7.heap.size ≤ b) (hlt : b < BB) (hr : RepA w9 (fun q => BB ≤ q ∧ q < w9.heap.size) gx (.agg #[z0, z1, z2, z3, z4, z5])) :
    Row6 ((((((w9.setCell ⟨b, 0, none⟩ z0).setCell ⟨b, 1, none⟩ z1).setCell ⟨b, 2, none⟩ z2).setCell ⟨b, 3, none⟩ z3).setCell ⟨b, 4, none⟩ z4).setCell ⟨b, 5, none⟩ z5) b z0 z1 z2 z3 z4 z5 ∧ Rep ((((((w9.setCell ⟨b, 0, none⟩ z0).setCell ⟨b, 1, none⟩ z1).setCell ⟨b, 2, none⟩ z2).setCell ⟨b, 3, none⟩ z3).setCell ⟨b, 4, none⟩ z4).setCell ⟨b, 5, none⟩ z5) ((((((w9.setCell ⟨b, 0, none⟩ z0).setCell ⟨b, 1, none⟩ z1).setCell ⟨b, 2, none⟩ z2).setCell ⟨b, 3, none⟩ z3).setCell ⟨b, 4, none⟩ z4).setCell ⟨b, 5, none⟩ z5).heap.size gx (.agg #[z0, z1, z2, z3, z4, z5]) ∧ Below w7.heap.size w7 ((((((w9.setCell ⟨b, 0, none⟩ z0).setCell ⟨b, 1, none⟩ z1).setCell ⟨b, 2, none⟩ z2).setCell ⟨b, 3, none⟩ z3).setCell ⟨b, 4, none⟩ z4).setCell ⟨b, 5, none⟩ z5) := by
  obtain ⟨f1, f2, f3, f4⟩ := fin6 hY z0 z1 z2 z3 z4 z5
  refine ⟨f1, ?_, f4 _ _ hB hl⟩
  rw [f3]
  exact repA_rep (fun _ hg => hg.2) gx _ (repA_stays (B := fun q => BB ≤ q ∧ q < w9.heap.size) (fun g hg => f2 g (by have := hg.1; omega)) (fun _ hg => hg) gx _ hr)
theorem close_new {w7 w9 : World} {BB : Nat} {z0 z1 z2 z3 z4 z5 : Value} {gx : V} (hB : Below w7.heap.size w7 w9) (hr : RepA w9 (fun q => BB ≤ q ∧ q < w9.heap.size) gx (.agg #[z0, z1, z2, z3, z4, z5])) :
    Row6 (w9.alloc (.cells #[z0, z1, z2, z3, z4, z5] 26)) w9.heap.size z0 z1 z2 z3 z4 z5 ∧ Rep (w9.alloc (.cells #[z0, z1, z2, z3, z4, z5] 26)) (w9.alloc (.cells #[z0, z1, z2, z3, z4, z5] 26)).heap.size gx (.agg #[z0, z1, z2, z3, z4, z5]) ∧ Below w7.heap.size w7 (w9.alloc (.cells #[z0, z1, z2, z3, z4, z5] 26)) :=
  ⟨row_new w9 _ _ _ _ _ _, rep_stays (below_new _ _) (below_new _ _).size gx _ (repA_rep (fun _ hg => hg.2) gx _ hr), hB.alloc hB.size _⟩
theorem liesOne {W : World} {gb : Nat} (h : W.cell? ⟨gb, 0, none⟩ = some (.string ⟨#[48]⟩)) : LiesP W (some ⟨gb, 0, none⟩) [⟨#[48]⟩] := by
  refine ⟨by simp [maxLen], fun s hs => ?_, fun _ => ⟨gb, 0, rfl, cell_lt h, fun j s hs => ?_⟩⟩
  · simp at hs; subst hs; decide
  · match j, hs with
    | 0, hs => simp at hs; subst hs; exact h
    | j + 1, hs => simp at hs
theorem append_none (ao : Option Addr) (cap : Nat) (W : World) (g0 : Nat) (ty : TypeId) : (Builtin.append_ #[39, 39] ty #[.slice (some ⟨g0, 0, none⟩) 1 1, .slice ao 0 cap]).run Tryd.prog W = .ok (.slice (some ⟨g0, 0, none⟩) 1 1) W := by
  obtain ⟨i0, hi, hz0, hz1, hz2⟩ := info_parts info9
  refine run_append_nothing W 39 39 ty 9 i0 Tryd.underlying39 hi _ 1 1 (by omega) _ ⟨Or.inl ⟨9, Tryd.underlying39⟩, fun w' => ?_, ?_, ?_, by simp, fun u hu => by cases hu⟩
  · simp [Builtin.lenOf]
  · cases ao <;> simp [Builtin.firstCells, loadCells, loadCellsFrom]
  · cases ao <;> simp [Builtin.firstCells, loadCells, loadCellsFrom]
theorem step_none {ops : Array Oper} {o : Oper} {a : Act} {W : World} {K : Act → World → Prop} {Q : Exit → Act → World → Prop} {E : Prop} (hg : o.guard = none) (s x : Operand) (hop : o.op = Op.call { callee := Callee.builtin Builtin.append, args := #[s, x], argTypes := #[39, 39] })
    (gb : Nat) (hs : a.eval s = .slice (some ⟨gb, 0, none⟩) 1 1) (ao : Option Addr) (cap : Nat) (hx : a.eval x = .slice ao 0 cap) (hK : K (a.put o.dst (.slice (some ⟨gb, 0, none⟩) 1 1)) W) :
    if Region.wanted o (yielded ops a.tmps) = true then Oper.wp Tryd.prog o a W K Q else E := by
  have hw : Region.wanted o (yielded ops a.tmps) = true := by simp [Region.wanted, hg]
  rw [if_pos hw]
  have hrun := append_none ao cap W gb o.type
  unfold Oper.wp
  simp [execOp, hop, resolve, invoke, builtin, hs, hx, hrun, Result.andThen]
  exact hK
theorem got_formA {B : Nat} {o : Option V} {e : Ending} {w' : World} (h : GotA B o e w') : ∃ (yk : Nat) (yb : Bool) (yn : Int) (ys : ByteArray) (ya : Option Addr) (yl yc : Nat) (yf : Option Addr) (ym yq : Nat), e = .returned (.tuple #[.agg #[.int .u8 (yk : Int), .bool yb, .int .i64 yn, .string ys, .slice ya yl yc, .slice yf ym yq], .bool o.isSome]) ∧ RepA w' (fun g => B ≤ g ∧ g < w'.heap.size) (o.getD ⟨0, false, 0, ⟨#[]⟩, [], []⟩) (.agg #[.int .u8 (yk : Int), .bool yb, .int .i64 yn, .string ys, .slice ya yl yc, .slice yf ym yq]) := by
  cases o with
  | none =>
    have h' : e = .returned (.tuple #[.agg #[.int .u8 0, .bool false, .int .i64 0, .string ⟨#[]⟩, .slice none 0 0, .slice none 0 0], .bool false]) := h
    exact ⟨0, false, 0, ⟨#[]⟩, none, 0, 0, none, 0, 0, h', repA_stays (fun _ _ => rfl) (fun _ hg => absurd hg (Nat.not_lt_zero _)) _ _ (rep_repA _ _ (rep_zero' w' 0))⟩
  | some x =>
    obtain ⟨v', rfl, hr⟩ : ∃ v', e = .returned (.tuple #[v', .bool true]) ∧ RepA w' (fun g => B ≤ g ∧ g < w'.heap.size) x v' := h
    obtain ⟨yk, yb, yn, ys, ya, yl, yc, yf, ym, yq, rfl⟩ := repA_form hr
    exact ⟨yk, yb, yn, ys, ya, yl, yc, yf, ym, yq, rfl, hr⟩
/-- .. and what was got -/
structure QX (w W : World) (H L g : Nat) (t : V) (v0 v1 v2 v3 v4 v5 : Value) (X : Nat) (gx : V) (y0 y1 y2 y3 y4 y5 : Value) : Prop where
  ns : NS w W H L g t v0 v1 v2 v3 v4 v5
  bx : Row6 W X y0 y1 y2 y3 y4 y5
  rx : Rep W X gx (.agg #[y0, y1, y2, y3, y4, y5])
theorem QX.call {w W W' : World} {H L g : Nat} {t : V} {v0 v1 v2 v3 v4 v5 : Value} {X : Nat} {gx : V} {y0 y1 y2 y3 y4 y5 : Value} (h : QX w W H L g t v0 v1 v2 v3 v4 v5 X gx y0 y1 y2 y3 y4 y5) (hb : Below W.heap.size W W') : QX w W' H L g t v0 v1 v2 v3 v4 v5 X gx y0 y1 y2 y3 y4 y5 :=
  ⟨h.ns.call hb, h.bx.call hb, rep_stays (hb.mono (by have := h.bx.1; omega)) (Nat.le_refl _) _ _ h.rx⟩
set_option maxHeartbeats 8000000 in
set_option maxRecDepth 100000 in
theorem inside6_head (t : V) (ht : Vl.small t) (ss : List ByteArray) (ao : Option Addr) (cap : Nat) (w : World) (hT : HasT w) (H : Nat) (v : Value) (hH : H ≤ w.heap.size) (hR : Rep w H t v) (hP : LiesP w ao ss) (hn : ss.length ≤ 8796093021952) (hc : ss.length ≤ cap) :
    Calls Tryd.prog 6 #[v, .slice ao ss.length cap] w fun e w' => e = .returned (.bool true) ∧ Below w.heap.size w w' := by
  obtain ⟨xk, xb, xn, xs, xa, xl, xc, xf, xm, xq, hv⟩ := repA_form (rep_repA t v hR)
  subst hv
  obtain ⟨ka, hka⟩ : ∃ k, k = Vl.check utf 0 t := ⟨_, rfl⟩
  obtain ⟨kb, hkb⟩ : ∃ k, k = Vl.check utf 1 t := ⟨_, rfl⟩
  have HUP : Hid ((ka = 0 → kb = 0 ∨ kb = 10) ∧ (ka ≠ 0 → kb ≠ 0)) := by
    rw [hka, hkb]; exact ⟨Vl.check_up0 utf t 0, Vl.check_up1 utf t 0⟩
  have HT : Hid (HasT w) := hT
  have HP : Hid (LiesP w ao ss) := hP
  have KA : Hid (∀ W, HasT W → H ≤ W.heap.size → Rep W H t (.agg #[.int .u8 (xk : Int), .bool xb, .int .i64 xn, .string xs, .slice xa xl xc, .slice xf xm xq]) → Calls Tryd.prog 11 #[.agg #[.int .u8 (xk : Int), .bool xb, .int .i64 xn, .string xs, .slice xa xl xc, .slice xf xm xq]] W fun e w' => e = .returned (.int .i64 (ka : Int)) ∧ Below W.heap.size W w') := fun W h1 h2 h3 => by
    rw [hka]; exact check11 t W h1 H _ h2 h3
  have KB : Hid (∀ W g, HasT W → g + 1 ≤ W.heap.size → Rep W (g + 1) (tl [t]) (.agg #[.int .u8 5, .bool false, .int .i64 0, .string ⟨#[]⟩, .slice (some ⟨g, 0, none⟩) 1 1, .slice none 0 0]) → Calls Tryd.prog 11 #[.agg #[.int .u8 5, .bool false, .int .i64 0, .string ⟨#[]⟩, .slice (some ⟨g, 0, none⟩) 1 1, .slice none 0 0]] W fun e w' => e = .returned (.int .i64 (kb : Int)) ∧ Below W.heap.size W w') := fun W g h1 h2 h3 => by
    rw [hkb, ← check_l t]; exact check11 (tl [t]) W h1 (g + 1) _ h2 h3
  have HR : Hid (Rep w H t (.agg #[.int .u8 (xk : Int), .bool xb, .int .i64 xn, .string xs, .slice xa xl xc, .slice xf xm xq])) := hR
  obtain ⟨np, hnp⟩ : ∃ n, n = ss.length := ⟨_, rfl⟩
  have HNP : Hid (np = ss.length) := hnp
  rw [← hnp] at hn hc ⊢
  clear hT hP hR hka hkb hnp
  go_enter Tryd.func6, Tryd.ntmps6
  go_wp2_with fail
  refine (lives9 _ (HT.out.stays (below_new w _))).mono ?_
  rintro e w1 ⟨rfl, hb1⟩
  have B1 : Hid (Below w.heap.size w w1) := (below_new w _).trans (hb1.mono (by simp))
  have R1 : Hid (Row6 w1 w.heap.size (.int .u8 (xk : Int)) (.bool xb) (.int .i64 xn) (.string xs) (.slice xa xl xc) (.slice xf xm xq)) := (row_new w _ _ _ _ _ _).call hb1
  clear hb1
  obtain ⟨p0, p1, p2, p3, p4, p5⟩ := R1.out.cells
  go_wp2_with fail
  refine (list14 _ _ _ _).mono ?_
  rintro e w2 ⟨rfl, hb2⟩
  have N2 : Hid (NS w (w2.alloc (.cells #[.int .u8 5, .bool false, .int .i64 0, .string ⟨#[]⟩, .slice (some ⟨w1.heap.size, 0, none⟩) 1 1, .slice none 0 0] 26)) H w2.heap.size w1.heap.size t (.int .u8 (xk : Int)) (.bool xb) (.int .i64 xn) (.string xs) (.slice xa xl xc) (.slice xf xm xq)) := by
    have hr : Row6 (w1.alloc (.cells #[.int .u8 (xk : Int), .bool xb, .int .i64 xn, .string xs, .slice xa xl xc, .slice xf xm xq] 26)) w1.heap.size (.int .u8 (xk : Int)) (.bool xb) (.int .i64 xn) (.string xs) (.slice xa xl xc) (.slice xf xm xq) := row_new w1 _ _ _ _ _ _
    have hr2 := hr.call hb2
    have bb := (B1.out.alloc B1.out.size (.cells #[.int .u8 (xk : Int), .bool xb, .int .i64 xn, .string xs, .slice xa xl xc, .slice xf xm xq] 26))
    have bb2 := bb.trans (hb2.mono bb.size)
    have rv2 : Rep w2 H t (.agg #[.int .u8 (xk : Int), .bool xb, .int .i64 xn, .string xs, .slice xa xl xc, .slice xf xm xq]) := rep_stays (bb2.mono hH) (Nat.le_refl _) t _ HR.out
    have rl2 : Rep w2 (w1.heap.size + 1) (tl [t]) (.agg #[.int .u8 5, .bool false, .int .i64 0, .string ⟨#[]⟩, .slice (some ⟨w1.heap.size, 0, none⟩) 1 1, .slice none 0 0]) := rep_l1 hr2 (by omega) (rep_stays (Below.refl _ _) (by have := B1.out.size; omega) t _ rv2)
    have n2 := below_new w2 (.cells #[.int .u8 5, .bool false, .int .i64 0, .string ⟨#[]⟩, .slice (some ⟨w1.heap.size, 0, none⟩) 1 1, .slice none 0 0] 26)
    exact ⟨bb2.trans (n2.mono bb2.size), ((R1.out.call (below_new _ _)).call hb2).call n2, row_new w2 _ _ _ _ _ _, rep_stays (n2.mono (Nat.le_trans hH bb2.size)) (Nat.le_refl _) t _ rv2, rep_stays (n2.mono (by have := hr2.1; omega)) (Nat.le_refl _) _ _ rl2, hH, by have := hr2.1; simp; omega⟩
  obtain ⟨L, hL⟩ : ∃ L, L = w2.heap.size := ⟨_, rfl⟩
  obtain ⟨g, hg⟩ : ∃ L, L = w1.heap.size := ⟨_, rfl⟩
  obtain ⟨w3, hw3⟩ : ∃ W, W = w2.alloc (.cells #[.int .u8 5, .bool false, .int .i64 0, .string ⟨#[]⟩, .slice (some ⟨w1.heap.size, 0, none⟩) 1 1, .slice none 0 0] 26) := ⟨_, rfl⟩
  clear hb2 p0 p1 p2 p3 p4 p5 R1 B1 HR
  go_wp2_with fail
  rw [← hw3, ← hL, ← hg] at N2 ⊢
  clear hw3 hL hg
  have LA : Hid (∀ W, NS w W H L g t (.int .u8 (xk : Int)) (.bool xb) (.int .i64 xn) (.string xs) (.slice xa xl xc) (.slice xf xm xq) → Calls Tryd.prog 11 #[.agg #[.int .u8 (xk : Int), .bool xb, .int .i64 xn, .string xs, .slice xa xl xc, .slice xf xm xq]] W fun e w' => e = .returned (.int .i64 (ka : Int)) ∧ Below W.heap.size W w') := fun W h => KA.out W (HT.out.stays h.below) (Nat.le_trans h.low h.below.size) h.rv
  have LB : Hid (∀ W, NS w W H L g t (.int .u8 (xk : Int)) (.bool xb) (.int .i64 xn) (.string xs) (.slice xa xl xc) (.slice xf xm xq) → Calls Tryd.prog 11 #[.agg #[.int .u8 5, .bool false, .int .i64 0, .string ⟨#[]⟩, .slice (some ⟨g, 0, none⟩) 1 1, .slice none 0 0]] W fun e w' => e = .returned (.int .i64 (kb : Int)) ∧ Below W.heap.size W w') := fun W h => KB.out W g (HT.out.stays h.below) (by have := h.lt; omega) h.rl
  obtain ⟨bo, hbo⟩ : ∃ b, b = (getV t ss).isSome := ⟨_, rfl⟩
  obtain ⟨gx, hgx⟩ : ∃ x, x = (getV t ss).getD ⟨0, false, 0, ⟨#[]⟩, [], []⟩ := ⟨_, rfl⟩
  have C16 : Hid (∀ W, NS w W H L g t (.int .u8 (xk : Int)) (.bool xb) (.int .i64 xn) (.string xs) (.slice xa xl xc) (.slice xf xm xq) → Calls Tryd.prog 16 #[.agg #[.int .u8 (xk : Int), .bool xb, .int .i64 xn, .string xs, .slice xa xl xc, .slice xf xm xq], .slice ao np cap] W fun e w' => ∃ (yk : Nat) (yb : Bool) (yn : Int) (ys : ByteArray) (ya : Option Addr) (yl yc : Nat) (yf : Option Addr) (ym yq : Nat), e = .returned (.tuple #[.agg #[.int .u8 (yk : Int), .bool yb, .int .i64 yn, .string ys, .slice ya yl yc, .slice yf ym yq], .bool bo]) ∧ Rep w' w'.heap.size gx (.agg #[.int .u8 (yk : Int), .bool yb, .int .i64 yn, .string ys, .slice ya yl yc, .slice yf ym yq]) ∧ Below W.heap.size W w') := fun W h => by
    rw [HNP.out, hbo, hgx]
    refine (get16 t ht ss ao cap W (HT.out.stays h.below) H _ (Nat.le_trans h.low h.below.size) h.rv (HP.out.stays h.below)).mono ?_
    rintro e w' ⟨hg, hb⟩
    obtain ⟨yk, yb, yn, ys, ya, yl, yc, yf, ym, yq, e1, e2⟩ := got_form hg
    exact ⟨yk, yb, yn, ys, ya, yl, yc, yf, ym, yq, e1, e2, hb⟩
  have D16 : Hid (∀ W ga ca, NS w W H L g t (.int .u8 (xk : Int)) (.bool xb) (.int .i64 xn) (.string xs) (.slice xa xl xc) (.slice xf xm xq) → LiesP W (some ⟨ga, 0, none⟩) (⟨#[48]⟩ :: ss) → Calls Tryd.prog 16 #[.agg #[.int .u8 5, .bool false, .int .i64 0, .string ⟨#[]⟩, .slice (some ⟨g, 0, none⟩) 1 1, .slice none 0 0], .slice (some ⟨ga, 0, none⟩) (1 + np) ca] W fun e w' => ∃ (yk : Nat) (yb : Bool) (yn : Int) (ys : ByteArray) (ya : Option Addr) (yl yc : Nat) (yf : Option Addr) (ym yq : Nat), e = .returned (.tuple #[.agg #[.int .u8 (yk : Int), .bool yb, .int .i64 yn, .string ys, .slice ya yl yc, .slice yf ym yq], .bool bo]) ∧ RepA w' (fun q => W.heap.size ≤ q ∧ q < w'.heap.size) gx (.agg #[.int .u8 (yk : Int), .bool yb, .int .i64 yn, .string ys, .slice ya yl yc, .slice yf ym yq]) ∧ Below W.heap.size W w') := fun W ga ca h hp => by
    rw [HNP.out, hbo, hgx, show 1 + ss.length = (⟨#[48]⟩ :: ss : List ByteArray).length by simp; omega]
    refine (get16a (tl [t]) (small_l1 ht) (⟨#[48]⟩ :: ss) _ ca W (HT.out.stays h.below) (g + 1) _ (by have := h.lt; omega) h.rl hp).mono ?_
    rintro e w' ⟨hg, hb⟩
    rw [get_l] at hg
    obtain ⟨yk, yb, yn, ys, ya, yl, yc, yf, ym, yq, e1, e2⟩ := got_formA hg
    exact ⟨yk, yb, yn, ys, ya, yl, yc, yf, ym, yq, e1, e2, hb⟩
  clear KA KB hbo hgx
  obtain ⟨i0', i1, i2, i3, i4, i5⟩ := N2.out.bv.cells
  obtain ⟨j0, j1, j2, j3, j4, j5⟩ := N2.out.bl.cells
  go_region_held3 (fun W' => W'.cell? ⟨w.heap.size, 0, none⟩ = some (.int .u8 (xk : Int)) ∧ W'.cell? ⟨w.heap.size, 1, none⟩ = some (.bool xb) ∧ W'.cell? ⟨w.heap.size, 2, none⟩ = some (.int .i64 xn) ∧ W'.cell? ⟨w.heap.size, 3, none⟩ = some (.string xs) ∧ W'.cell? ⟨w.heap.size, 4, none⟩ = some (.slice xa xl xc) ∧ W'.cell? ⟨w.heap.size, 5, none⟩ = some (.slice xf xm xq) ∧ W'.cell? ⟨L, 0, none⟩ = some (.int .u8 5) ∧ W'.cell? ⟨L, 1, none⟩ = some (.bool false) ∧ W'.cell? ⟨L, 2, none⟩ = some (.int .i64 0) ∧ W'.cell? ⟨L, 3, none⟩ = some (.string ⟨#[]⟩) ∧ W'.cell? ⟨L, 4, none⟩ = some (.slice (some ⟨g, 0, none⟩) 1 1) ∧ W'.cell? ⟨L, 5, none⟩ = some (.slice none 0 0)) (go_keep) (first
    | (go_at_call_of 11 (Value.agg #[.int .u8 (xk : Int), .bool xb, .int .i64 xn, .string xs, .slice xa xl xc, .slice xf xm xq]); refine (LA.out _ ?_).mono ?_; (first | exact N2.out | exact N2.out.call (Below.refl _ _).drew); rintro e w4 ⟨rfl, hb4⟩
       have N2 : Hid (NS w w4 H L g t (.int .u8 (xk : Int)) (.bool xb) (.int .i64 xn) (.string xs) (.slice xa xl xc) (.slice xf xm xq)) := N2.out.call (by first | exact hb4 | exact (Below.refl _ _).drew.trans hb4)
       clear hb4
       obtain ⟨i0', i1, i2, i3, i4, i5⟩ := N2.out.bv.cells
       obtain ⟨j0, j1, j2, j3, j4, j5⟩ := N2.out.bl.cells)
    | (go_at_call_of 11 (Value.agg #[.int .u8 5, .bool false, .int .i64 0, .string ⟨#[]⟩, .slice (some ⟨g, 0, none⟩) 1 1, .slice none 0 0]); refine (LB.out _ ?_).mono ?_; (first | exact N2.out | exact N2.out.call (Below.refl _ _).drew); rintro e w4 ⟨rfl, hb4⟩
       have N2 : Hid (NS w w4 H L g t (.int .u8 (xk : Int)) (.bool xb) (.int .i64 xn) (.string xs) (.slice xa xl xc) (.slice xf xm xq)) := N2.out.call (by first | exact hb4 | exact (Below.refl _ _).drew.trans hb4)
       clear hb4
       obtain ⟨i0', i1, i2, i3, i4, i5⟩ := N2.out.bv.cells
       obtain ⟨j0, j1, j2, j3, j4, j5⟩ := N2.out.bl.cells))
  clear LA LB
  go_upto_region 5 with fail
  have N5 : Hid (NS w _ H L g t (.int .u8 (xk : Int)) (.bool xb) (.int .i64 xn) (.string xs) (.slice xa xl xc) (.slice xf xm xq)) := N2
  go_cut [38] from 21 to 37 (fun s38 wx => s38 = .bool false ∧ NS w wx H L g t (.int .u8 (xk : Int)) (.bool xb) (.int .i64 xn) (.string xs) (.slice xa xl xc) (.slice xf xm xq))
  case first =>
    by_cases h0 : ka = 0
    · rcases HUP.out.1 h0 with h1 | h1
      · subst h0 h1
        go_wp2_with fail
        go_meet
        exact ⟨rfl, N5.out⟩
      · subst h0 h1
        go_wp2_with fail
        go_meet
        exact ⟨rfl, N5.out⟩
    · have h1 := HUP.out.2 h0
      have e0 : ((ka : Int) == 0) = false := by simp; omega
      have e1 : ((kb : Int) == 0) = false := by simp; omega
      go_wp2_with fail
      go_meet
      exact ⟨rfl, N5.out⟩
  case rest =>
    obtain ⟨rfl, hN⟩ := hcut
    have N6 : Hid (NS w wc H L g t (.int .u8 (xk : Int)) (.bool xb) (.int .i64 xn) (.string xs) (.slice xa xl xc) (.slice xf xm xq)) := hN
    clear hN N2 N5 HUP
    obtain ⟨i0', i1, i2, i3, i4, i5⟩ := N6.out.bv.cells
    obtain ⟨j0, j1, j2, j3, j4, j5⟩ := N6.out.bl.cells
    go_wp2_with fail
    refine (C16.out _ N6.out).mono ?_
    rintro e w6 ⟨yk, yb, yn, ys, ya, yl, yc, yf, ym, yq, rfl, hr6, hb6⟩
    have P7 : Hid (QX w (w6.alloc (.cells #[.int .u8 (yk : Int), .bool yb, .int .i64 yn, .string ys, .slice ya yl yc, .slice yf ym yq] 26)) H L g t (.int .u8 (xk : Int)) (.bool xb) (.int .i64 xn) (.string xs) (.slice xa xl xc) (.slice xf xm xq) w6.heap.size gx (.int .u8 (yk : Int)) (.bool yb) (.int .i64 yn) (.string ys) (.slice ya yl yc) (.slice yf ym yq)) :=
      ⟨(N6.out.call hb6).call (below_new _ _), row_new w6 _ _ _ _ _ _, rep_stays (below_new _ _) (Nat.le_refl _) _ _ hr6⟩
    clear hb6 hr6 N6 C16 i0' i1 i2 i3 i4 i5 j0 j1 j2 j3 j4 j5
    obtain ⟨X, hX⟩ : ∃ X, X = w6.heap.size := ⟨_, rfl⟩
    obtain ⟨w7, hw7⟩ : ∃ W, W = w6.alloc (.cells #[.int .u8 (yk : Int), .bool yb, .int .i64 yn, .string ys, .slice ya yl yc, .slice yf ym yq] 26) := ⟨_, rfl⟩
    go_wp2_with fail
    rw [← hw7, ← hX] at P7 ⊢
    clear hw7 hX
    obtain ⟨j0, j1, j2, j3, j4, j5⟩ := P7.out.ns.bl.cells
    have ltl := P7.out.ns.bl.1
    go_cut [10, 11] from 45 to 52 (fun s10 s11 wx => ∃ (Y : Nat) (zk : Nat) (zb : Bool) (zn : Int) (zs : ByteArray) (za : Option Addr) (zl zc : Nat) (zf : Option Addr) (zm zq : Nat), s10 = .pointer (some ⟨Y, 0, none⟩) ∧ s11 = .bool bo ∧ Row6 wx Y (.int .u8 (zk : Int)) (.bool zb) (.int .i64 zn) (.string zs) (.slice za zl zc) (.slice zf zm zq) ∧ Rep wx wx.heap.size gx (.agg #[.int .u8 (zk : Int), .bool zb, .int .i64 zn, .string zs, .slice za zl zc, .slice zf zm zq]) ∧ QX w wx H L g t (.int .u8 (xk : Int)) (.bool xb) (.int .i64 xn) (.string xs) (.slice xa xl xc) (.slice xf xm xq) X gx (.int .u8 (yk : Int)) (.bool yb) (.int .i64 yn) (.string ys) (.slice ya yl yc) (.slice yf ym yq))
    case first =>
      by_cases hpos : 0 < np
      · obtain ⟨gp, op, rfl, hgp, hcp⟩ := HP.out.2.2 (by have := HNP.out; omega)
        go_region_held3 (fun W' => W'.cell? ⟨L, 0, none⟩ = some (.int .u8 5) ∧ W'.cell? ⟨L, 1, none⟩ = some (.bool false) ∧ W'.cell? ⟨L, 2, none⟩ = some (.int .i64 0) ∧ W'.cell? ⟨L, 3, none⟩ = some (.string ⟨#[]⟩) ∧ W'.cell? ⟨L, 4, none⟩ = some (.slice (some ⟨g, 0, none⟩) 1 1) ∧ W'.cell? ⟨L, 5, none⟩ = some (.slice none 0 0)) (go_keep) (first
        | (refine step_path rfl _ _ rfl _ (by rfl) (by first | exact cellA _ _ _ | exact cellB _ _ _ _ | exact cellC _ _ _ _) ss gp op np cap (by rfl) HNP.out (HP.out.stays (P7.out.ns.below.trans (Below.mono (by first | exact (below_new _ _).drew | exact (below_new2 _ _ _).drew) P7.out.ns.below.size))) hpos hn ?_
           intro ga ca w8 hb8 hl8
           have HB8 : Hid (Below w7.heap.size w7 w8) := (by first | exact (below_new _ _).drew.trans (hb8.mono (by simp)) | exact (below_new2 _ _ _).drew.trans (hb8.mono (by simp; omega)))
           have LP : Hid (LiesP w8 (some ⟨ga, 0, none⟩) (⟨#[48]⟩ :: ss)) := hl8
           have lt8 := HB8.out.size
           first
             | (have hbx : Row6 w8 w7.heap.size (.int .u8 0) (.bool false) (.int .i64 0) (.string ⟨#[]⟩) (.slice none 0 0) (.slice none 0 0) := Row6.call (w := ((w7.alloc (.cells #[.int .u8 0, .bool false, .int .i64 0, .string ⟨#[]⟩, .slice none 0 0, .slice none 0 0] 26)).alloc (.cells #[.string ⟨#[48]⟩] 9)).drew) (row_new3 w7 _ _ _ _ _ _ _) hb8
                have HBX : Hid (w7.heap.size ≤ w7.heap.size ∧ Row6 w8 w7.heap.size (.int .u8 0) (.bool false) (.int .i64 0) (.string ⟨#[]⟩) (.slice none 0 0) (.slice none 0 0)) := ⟨Nat.le_refl _, hbx⟩
                obtain ⟨x0, x1, x2, x3, x4, x5⟩ := hbx.cells
                clear hbx)
             | (have hbx : Row6 w8 (w7.heap.size + 1) (.int .u8 0) (.bool false) (.int .i64 0) (.string ⟨#[]⟩) (.slice none 0 0) (.slice none 0 0) := Row6.call (w := ((w7.alloc (.cells #[.string ⟨#[48]⟩] 9)).alloc (.cells #[.int .u8 0, .bool false, .int .i64 0, .string ⟨#[]⟩, .slice none 0 0, .slice none 0 0] 26)).drew) (row_new2 w7 _ _ _ _ _ _ _) hb8
                have HBX : Hid (w7.heap.size ≤ w7.heap.size + 1 ∧ Row6 w8 (w7.heap.size + 1) (.int .u8 0) (.bool false) (.int .i64 0) (.string ⟨#[]⟩) (.slice none 0 0) (.slice none 0 0)) := ⟨by omega, hbx⟩
                obtain ⟨x0, x1, x2, x3, x4, x5⟩ := hbx.cells
                clear hbx)
             | skip
           clear hb8 hl8
           obtain ⟨j0, j1, j2, j3, j4, j5⟩ := (P7.out.call HB8.out).ns.bl.cells)
        | (go_at_call 16; refine (D16.out _ ga ca ?_ ?_).mono ?_
           (first | exact (P7.out.call HB8.out).ns | exact ((P7.out.call HB8.out).call (below_new _ _)).ns)
           (first | exact LP.out | exact LP.out.stays (below_new _ _))
           rintro e w9 ⟨zk, zb, zn, zs, za, zl, zc, zf, zm, zq, rfl, hr9, hb9⟩
           have HB9 : Hid (Below w7.heap.size w7 w9) := (by first | exact HB8.out.trans (hb9.mono HB8.out.size) | exact (HB8.out.alloc HB8.out.size _).trans (hb9.mono (HB8.out.alloc HB8.out.size _).size))
           first
             | (have hby := Row6.call HBX.out.2 hb9
                have HLB := HBX.out.1
                have HLT := HBX.out.2.1
                have hneL := row_ne P7.out.ns.bl.1 HBX.out.1
                have hneR := hneL.symm
                clear x0 x1 x2 x3 x4 x5
                obtain ⟨x0, x1, x2, x3, x4, x5⟩ := hby.cells
                have fx := hby.free
                have lx := hby.1
                have HBY := hidRow hby
                clear hby)
             | (have hby : Row6 w9 w8.heap.size (.int .u8 0) (.bool false) (.int .i64 0) (.string ⟨#[]⟩) (.slice none 0 0) (.slice none 0 0) := Row6.call (row_new w8 _ _ _ _ _ _) hb9
                have HLB := HB8.out.size
                have HLT : w8.heap.size < (w8.alloc (.cells #[.int .u8 0, .bool false, .int .i64 0, .string ⟨#[]⟩, .slice none 0 0, .slice none 0 0] 26)).heap.size := by simp
                have hneL := row_ne P7.out.ns.bl.1 HB8.out.size
                have hneR := hneL.symm
                obtain ⟨x0, x1, x2, x3, x4, x5⟩ := hby.cells
                have fx := hby.free
                have lx := hby.1
                have HBY := hidRow hby
                clear hby)
             | skip
           have HR9 := hidRep hr9
           clear hb9 hr9
           obtain ⟨j0, j1, j2, j3, j4, j5⟩ := (P7.out.call HB9.out).ns.bl.cells))
        all_goals
          go_wp2_with fail
          go_meet
          first
            | (revert HBY
               intro HBY
               obtain ⟨a1, a2, a3⟩ := close_set HBY.out HB9.out HLB HLT HR9.out
               exact ⟨_, zk, zb, zn, zs, za, zl, zc, zf, zm, zq, rfl, rfl, a1, a2, P7.out.call a3⟩)
            | (obtain ⟨a1, a2, a3⟩ := close_new HB9.out HR9.out
               exact ⟨_, zk, zb, zn, zs, za, zl, zc, zf, zm, zq, rfl, rfl, a1, a2, P7.out.call a3⟩)
      · have hz : np = 0 := by omega
        subst hz
        have hss : ss = [] := List.eq_nil_of_length_eq_zero HNP.out.symm
        subst hss
        clear hpos
        go_region_held3 (fun W' => W'.cell? ⟨L, 0, none⟩ = some (.int .u8 5) ∧ W'.cell? ⟨L, 1, none⟩ = some (.bool false) ∧ W'.cell? ⟨L, 2, none⟩ = some (.int .i64 0) ∧ W'.cell? ⟨L, 3, none⟩ = some (.string ⟨#[]⟩) ∧ W'.cell? ⟨L, 4, none⟩ = some (.slice (some ⟨g, 0, none⟩) 1 1) ∧ W'.cell? ⟨L, 5, none⟩ = some (.slice none 0 0)) (go_keep) (first
        | (refine step_none rfl _ _ rfl _ (by rfl) ao cap (by rfl) ?_)
        | (go_at_call 16; refine (D16.out _ _ 1 ?_ ?_).mono ?_
           (exact (P7.out.call (by first | exact (below_new _ _).drew | exact (below_new2 _ _ _).drew)).ns)
           (exact liesOne (by first | exact cellA _ _ _ | exact cellB _ _ _ _ | exact cellC _ _ _ _))
           rintro e w9 ⟨zk, zb, zn, zs, za, zl, zc, zf, zm, zq, rfl, hr9, hb9⟩
           have HB9 : Hid (Below w7.heap.size w7 w9) := (by first | exact (below_new _ _).drew.trans (hb9.mono (by simp)) | exact (below_new2 _ _ _).drew.trans (hb9.mono (by simp; omega)))
           first
             | (have hby : Row6 w9 w7.heap.size (.int .u8 0) (.bool false) (.int .i64 0) (.string ⟨#[]⟩) (.slice none 0 0) (.slice none 0 0) := Row6.call (w := ((w7.alloc (.cells #[.int .u8 0, .bool false, .int .i64 0, .string ⟨#[]⟩, .slice none 0 0, .slice none 0 0] 26)).alloc (.cells #[.string ⟨#[48]⟩] 9)).drew) (row_new3 w7 _ _ _ _ _ _ _) hb9
                have HLB := Nat.le_refl w7.heap.size
                have HLT : w7.heap.size < (((w7.alloc (.cells #[.int .u8 0, .bool false, .int .i64 0, .string ⟨#[]⟩, .slice none 0 0, .slice none 0 0] 26)).alloc (.cells #[.string ⟨#[48]⟩] 9)).drew).heap.size := by simp; omega
                have hneL := row_ne P7.out.ns.bl.1 (Nat.le_refl w7.heap.size)
                have hneR := hneL.symm
                obtain ⟨x0, x1, x2, x3, x4, x5⟩ := hby.cells
                have fx := hby.free
                have lx := hby.1
                have HBY : Hid (Row6 w9 w7.heap.size (.int .u8 0) (.bool false) (.int .i64 0) (.string ⟨#[]⟩) (.slice none 0 0) (.slice none 0 0)) := hby
                clear hby)
             | (have hby : Row6 w9 (w7.heap.size + 1) (.int .u8 0) (.bool false) (.int .i64 0) (.string ⟨#[]⟩) (.slice none 0 0) (.slice none 0 0) := Row6.call (w := ((w7.alloc (.cells #[.string ⟨#[48]⟩] 9)).alloc (.cells #[.int .u8 0, .bool false, .int .i64 0, .string ⟨#[]⟩, .slice none 0 0, .slice none 0 0] 26)).drew) (row_new2 w7 _ _ _ _ _ _ _) hb9
                have HLB := Nat.le_succ w7.heap.size
                have HLT : w7.heap.size + 1 < (((w7.alloc (.cells #[.string ⟨#[48]⟩] 9)).alloc (.cells #[.int .u8 0, .bool false, .int .i64 0, .string ⟨#[]⟩, .slice none 0 0, .slice none 0 0] 26)).drew).heap.size := by simp
                have hneL := row_ne P7.out.ns.bl.1 (Nat.le_succ w7.heap.size)
                have hneR := hneL.symm
                obtain ⟨x0, x1, x2, x3, x4, x5⟩ := hby.cells
                have fx := hby.free
                have lx := hby.1
                have HBY : Hid (Row6 w9 (w7.heap.size + 1) (.int .u8 0) (.bool false) (.int .i64 0) (.string ⟨#[]⟩) (.slice none 0 0) (.slice none 0 0)) := hby
                clear hby)
             | skip
           have HR9 := hidRep hr9
           clear hb9 hr9
           obtain ⟨j0, j1, j2, j3, j4, j5⟩ := (P7.out.call HB9.out).ns.bl.cells))
        all_goals
          go_wp2_with fail
          go_meet
          first
            | (revert HBY
               intro HBY
               obtain ⟨a1, a2, a3⟩ := close_set HBY.out HB9.out HLB HLT HR9.out
               exact ⟨_, zk, zb, zn, zs, za, zl, zc, zf, zm, zq, rfl, rfl, a1, a2, P7.out.call a3⟩)
            | (obtain ⟨a1, a2, a3⟩ := close_new HB9.out HR9.out
               exact ⟨_, zk, zb, zn, zs, za, zl, zc, zf, zm, zq, rfl, rfl, a1, a2, P7.out.call a3⟩)
    case rest =>
      obtain ⟨Y, zk, zb, zn, zs, za, zl, zc, zf, zm, zq, rfl, rfl, hY, hrY, hP⟩ := hcut
      have P9 : Hid (QX w wc H L g t (.int .u8 (xk : Int)) (.bool xb) (.int .i64 xn) (.string xs) (.slice xa xl xc) (.slice xf xm xq) X gx (.int .u8 (yk : Int)) (.bool yb) (.int .i64 yn) (.string ys) (.slice ya yl yc) (.slice yf ym yq)) := hP
      obtain ⟨k0, k1, k2, k3, k4, k5⟩ := hP.bx.cells
      obtain ⟨m0, m1, m2, m3, m4, m5⟩ := hY.cells
      have S12 : Hid (Calls Tryd.prog 12 #[.agg #[.int .u8 (yk : Int), .bool yb, .int .i64 yn, .string ys, .slice ya yl yc, .slice yf ym yq], .agg #[.int .u8 (zk : Int), .bool zb, .int .i64 zn, .string zs, .slice za zl zc, .slice zf zm zq]] wc fun e w' => e = .returned (.bool true) ∧ Below wc.heap.size wc w') := by
        have := same12 _ gx (Nat.le_refl _) gx wc wc.heap.size _ _ (Nat.le_refl _) (rep_stays (Below.refl _ _) (by have := hP.bx.1; omega) _ _ hP.rx) hrY
        rw [Vl.same_refl] at this
        exact this
      clear hP hY hrY P7 D16 j0 j1 j2 j3 j4 j5 ltl
      cases bo
      all_goals
        go_wp2_with fail
        refine S12.out.mono ?_
        rintro e w9 ⟨rfl, hb9⟩
        have B9 : Hid (Below w.heap.size w w9) := P9.out.ns.below.trans (hb9.mono P9.out.ns.below.size)
        clear hb9
        go_wp2
        go_ret
        exact ⟨rfl, B9.out⟩
end Go.Proofs.YtcgkoogdgagddaaDoor
