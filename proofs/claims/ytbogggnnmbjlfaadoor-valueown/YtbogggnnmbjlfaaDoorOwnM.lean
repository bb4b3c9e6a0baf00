/- Get without a path, walked: a clone whose rows may be written. -/
import Derived.Test.YtbogggnnmbjlfaaDoorGetA
import Derived.Test.YtbogggnnmbjlfaaDoorCopyL
import Derived.Test.YtbogggnnmbjlfaaDoorPutG
namespace Go.Proofs.YtbogggnnmbjlfaaDoor
open Go.RowKit
open Vl (V)
/-- rows of a cloned value may be written -/
theorem cloned_free {W : World} {B M : Nat} {t : V} {v : Value} (h : Cloned W B M t v) : ∃ c0 c1 c2 c3 c4 c5, v = .agg #[c0, c1, c2, c3, c4, c5] ∧ FreeC W c4 ∧ FreeC W c5 := by
  obtain ⟨k, b, n, s, l, f⟩ := t
  obtain ⟨ao, lc, fo, fc, rfl, _, _, _, _, _, h1, h2⟩ := h
  refine ⟨_, _, _, _, _, _, rfl, fun a m q e r => ?_, fun a m q e r => ?_⟩
  · rcases h1 with ⟨_, e2, _⟩ | ⟨_, g, e2, h3, _⟩
    · rw [e2] at e; cases e
    · rw [e2] at e; cases e; exact h3.2 r
  · rcases h2 with ⟨_, e2, _⟩ | ⟨_, g, e2, _, _, h3⟩
    · rw [e2] at e; cases e
    · rw [e2] at e; cases e
      obtain ⟨_, C, hC, _⟩ := h3
      exact row_free hC r
set_option maxHeartbeats 4000000 in
set_option maxRecDepth 100000 in
theorem get10_nil (t : V) (ht : Vl.small t) (w : World) (H : Nat) (v : Value) (hH : H ≤ w.heap.size) (hR : Rep w H t v) :
    Calls Tryd.prog 10 #[v, .slice none 0 0] w fun e w' => ∃ v', e = .returned (.tuple #[v', .bool true]) ∧ Below w.heap.size w w' ∧ RepA w' (fun g => w.heap.size ≤ g ∧ g < w'.heap.size) t v' ∧ ∃ c0 c1 c2 c3 c4 c5, v' = .agg #[c0, c1, c2, c3, c4, c5] ∧ FreeC w' c4 ∧ FreeC w' c5 := by
  obtain ⟨xk, xb, xn, xs, xa, xl, xc, ya, yl, yc, hv⟩ := repA_form (rep_repA t v hR)
  subst hv
  obtain ⟨w1, hw1, hb1, hr1, hz1⟩ := two_new w (.int .u8 (xk : Int)) (.bool xb) (.int .i64 xn) (.string xs) (.slice xa xl xc) (.slice ya yl yc)
  have HW1 : Hid (w1 = (w.alloc (.cells #[.int .u8 (xk : Int), .bool xb, .int .i64 xn, .string xs, .slice xa xl xc, .slice ya yl yc] 26)).alloc (.cells #[.int .u8 0, .bool false, .int .i64 0, .string ⟨#[]⟩, .slice none 0 0, .slice none 0 0] 26)) := hw1
  have HB1 : Hid (Below w.heap.size w w1) := hb1
  have HR1 : Hid (Row6 w1 w.heap.size (.int .u8 (xk : Int)) (.bool xb) (.int .i64 xn) (.string xs) (.slice xa xl xc) (.slice ya yl yc)) := hr1
  have HZ1 : Hid (Z6 w1 (w.heap.size + 1)) := hz1
  have C31 : Hid (Calls Tryd.prog 31 #[.agg #[.int .u8 (xk : Int), .bool xb, .int .i64 xn, .string xs, .slice xa xl xc, .slice ya yl yc]] w1 fun e w' => ∃ (zk : Nat) (zb : Bool) (zn : Int) (zs : ByteArray) (za : Option Addr) (zl zc : Nat) (ta : Option Addr) (tl tc : Nat), e = .returned (.agg #[.int .u8 (zk : Int), .bool zb, .int .i64 zn, .string zs, .slice za zl zc, .slice ta tl tc]) ∧ Below w1.heap.size w1 w' ∧ RepA w' (fun g => w1.heap.size ≤ g ∧ g < w'.heap.size) t (.agg #[.int .u8 (zk : Int), .bool zb, .int .i64 zn, .string zs, .slice za zl zc, .slice ta tl tc]) ∧ FreeC w' (.slice za zl zc) ∧ FreeC w' (.slice ta tl tc)) := by
    refine (clone34 _ t (Nat.le_refl _) ht w1 H _ (by have := hb1.size; omega) (rep_stays (hb1.mono hH) (Nat.le_refl _) t _ hR)).mono ?_
    rintro e w' ⟨v', M, rfl, hb, hc⟩
    have hr2 := hc.rep ht
    obtain ⟨c0, c1, c2, c3, c4, c5, e0, f1, f2⟩ := cloned_free hc
    obtain ⟨zk, zb, zn, zs, za, zl, zc, ta, tl, tc, rfl⟩ := repA_form hr2
    simp only [Value.agg.injEq, Array.mk.injEq, List.cons.injEq, and_true] at e0
    obtain ⟨_, _, _, _, rfl, rfl⟩ := e0
    exact ⟨zk, zb, zn, zs, za, zl, zc, ta, tl, tc, rfl, hb, hr2, f1, f2⟩
  clear hw1 hb1 hr1 hz1 hR ht hH
  go_enter Tryd.func10, Tryd.ntmps10
  go_wp2
  rw [← HW1.out]
  go_loopw [12] (fun i wr => i = .int .i64 0 ∧ wr = w1) (fun _ _ => 0)
  case atStart => exact ⟨rfl, rfl⟩
  case round =>
    obtain ⟨rfl, rfl⟩ := hrel
    obtain ⟨p0, p1, p2, p3, p4, p5⟩ := HR1.out.cells
    go_wp2_with fail
    refine C31.out.mono ?_
    rintro e w3 ⟨zk, zb, zn, zs, za, zl, zc, ta, tl, tc, rfl, hb3, hr3, f1, f2⟩
    have Z3 := HZ1.out.call hb3
    obtain ⟨q0, q1, q2, q3, q4, q5⟩ := Row6.cells Z3
    have fz := Row6.free Z3
    have lt3 := Z3.1
    obtain ⟨a1, a2, a3⟩ := answer_own Z3 (HB1.out.trans (hb3.mono HB1.out.size)) (repA_stays (fun _ _ => rfl) (fun g hg => ⟨by have := HZ1.out.1; omega, hg.2⟩) t _ hr3)
    have HA1 : Hid _ := a1
    have HA2 : Hid _ := a2
    have HA3 : Hid _ := a3
    have F1 : Hid (FreeC w3 (.slice za zl zc)) := f1
    have F2 : Hid (FreeC w3 (.slice ta tl tc)) := f2
    clear a1 a2 a3 f1 f2 hb3 hr3 Z3 p0 p1 p2 p3 p4 p5
    go_wp2
    rw [sets6]
    exact bodyPost_ret (v := .tuple #[.agg #[.int .u8 (zk : Int), .bool zb, .int .i64 zn, .string zs, .slice za zl zc, .slice ta tl tc], .bool true]) ((results_row_tmp (fn := Tryd.f10) (p := 4) (u := 5) (ty := 26) (by rfl) _ _ (w.heap.size + 1) 26 _ (0, 0) _ (by rfl) HA1.out Tryd.underlying26 rfl info26).trans (by rfl)) rfl ⟨_, rfl, HA2.out, HA3.out, _, _, _, _, _, _, rfl, fun a m q e r => by rw [World.frozen?_setCells]; exact F1.out a m q e r, fun a m q e r => by rw [World.frozen?_setCells]; exact F2.out a m q e r⟩
end Go.Proofs.YtbogggnnmbjlfaaDoor
namespace Go.Proofs.YtbogggnnmbjlfaaDoor
open Go.RowKit
open Vl (V)
theorem six_cell {W : World} {g o : Nat} {c0 c1 c2 c3 c4 c5 : Value} (h : Six W g o c0 c1 c2 c3 c4 c5) (r : Nat) (hr : r < 6) : ∃ v, W.cell? ⟨g, o + r, none⟩ = some v := by
  obtain ⟨h0, h1, h2, h3, h4, h5⟩ := h
  match r, hr with
  | 0, _ => exact ⟨_, h0⟩
  | 1, _ => exact ⟨_, h1⟩
  | 2, _ => exact ⟨_, h2⟩
  | 3, _ => exact ⟨_, h3⟩
  | 4, _ => exact ⟨_, h4⟩
  | 5, _ => exact ⟨_, h5⟩
theorem repLA_cells {W : World} {A : Nat → Prop} {g o : Nat} {l : List V} (h : RepLA W A g o l) (q : Nat) (hq : q < l.length * 6) : ∃ v, W.cell? ⟨g, o + q, none⟩ = some v := by
  obtain ⟨x, hx⟩ : ∃ x, l[q / 6]? = some x := ⟨_, List.getElem?_eq_getElem (by omega)⟩
  obtain ⟨c0, c1, c2, c3, c4, c5, h1, _⟩ := repLA_at l o h _ x hx
  have := six_cell h1 (q % 6) (Nat.mod_lt _ (by omega))
  rwa [show o + q / 6 * 6 + q % 6 = o + q by omega] at this
theorem repFA_cells {W : World} {A : Nat → Prop} {g o : Nat} {f : List (ByteArray × V)} (h : RepFA W A g o f) (q : Nat) (hq : q < f.length * 7) : ∃ v, W.cell? ⟨g, o + q, none⟩ = some v := by
  obtain ⟨⟨m, x⟩, hx⟩ : ∃ x, f[q / 7]? = some x := ⟨_, List.getElem?_eq_getElem (by omega)⟩
  obtain ⟨h0, _, c0, c1, c2, c3, c4, c5, h1, _⟩ := repFA_at f o h _ m x hx
  by_cases hz : q % 7 = 0
  · rw [show o + q = o + q / 7 * 7 by omega]; exact ⟨_, h0⟩
  · have := six_cell h1 (q % 7 - 1) (by omega)
    rwa [show o + q / 7 * 7 + 1 + (q % 7 - 1) = o + q by omega] at this
/-- a slice's row lies between two bounds, and may be written -/
def Wr (W : World) (lo hi size : Nat) (fo : Option Addr) (n : Nat) : Prop := n ≤ maxLen ∧ (0 < n → ∃ F o, fo = some ⟨F, o, none⟩ ∧ lo ≤ F ∧ F < hi ∧ (∀ q, q < n * size → ∃ v, W.cell? ⟨F, o + q, none⟩ = some v) ∧ ∀ r, W.frozen? ⟨F, r, none⟩ = false)
theorem Wr.call {W W' : World} {lo hi size : Nat} {fo : Option Addr} {n : Nat} (h : Wr W lo hi size fo n) (hh : hi ≤ W.heap.size) (hb : Below W.heap.size W W') : Wr W' lo hi size fo n := by
  refine ⟨h.1, fun hp => ?_⟩
  obtain ⟨F, o, e, h1, h2, h3, h4⟩ := h.2 hp
  refine ⟨F, o, e, h1, h2, fun q hq => ?_, fun r => ?_⟩
  · obtain ⟨v, hv⟩ := h3 q hq
    exact ⟨v, (hb.cell (p := ⟨F, o + q, none⟩) (by show F < _; omega)).trans hv⟩
  · exact (World.frozen?_of_block (w := W) (a := ⟨F, r, none⟩) (hb.block F (by omega))).trans (h4 r)
theorem isSome_cell_set {W : World} {b o : Nat} {u : Value} {x : Addr} (h : ∃ v, W.cell? x = some v) : ∃ v, (W.setCell ⟨b, o, none⟩ u).cell? x = some v := by
  by_cases hx : x = ⟨b, o, none⟩
  · subst hx
    obtain ⟨v, hv⟩ := h
    exact ⟨u, World.cell?_setCell_same _ _ _ hv⟩
  · obtain ⟨v, hv⟩ := h
    exact ⟨v, (World.cell?_setCell_other _ _ _ _ (fun e => hx e.symm)).trans hv⟩
theorem isSome_cells_set {b : Nat} {x : Addr} : ∀ (vs : List Value) (o : Nat) (W : World), (∃ v, W.cell? x = some v) → ∃ v, (W.setCells b o vs).cell? x = some v
  | [], _, _, h => h
  | v :: r, o, W, h => by rw [World.setCells]; exact isSome_cells_set r (o + 1) _ (isSome_cell_set h)
theorem Wr.set {W : World} {lo hi size b p : Nat} {fo : Option Addr} {n : Nat} (h : Wr W lo hi size fo n) (vs : List Value) : Wr (W.setCells b p vs) lo hi size fo n := by
  refine ⟨h.1, fun hp => ?_⟩
  obtain ⟨F, o, e, h1, h2, h3, h4⟩ := h.2 hp
  exact ⟨F, o, e, h1, h2, fun q hq => isSome_cells_set vs p W (h3 q hq), fun r => by rw [World.frozen?_setCells]; exact h4 r⟩
/-- the two answers that are spoilt: their boxes, their rows -/
structure OW (wk W : World) (Ba Bb : Nat) (a0 a1 a2 a3 a4 b0 b1 b2 b3 : Value) (fo : Option Addr) (fn fc : Nat) (lo : Option Addr) (ln lc : Nat) (go : Option Addr) (gn gc : Nat) : Prop where
  below : Below wk.heap.size wk W
  ra : Row6 W Ba a0 a1 a2 a3 a4 (.slice fo fn fc)
  rb : Row6 W Bb b0 b1 b2 b3 (.slice lo ln lc) (.slice go gn gc)
  wa : Wr W wk.heap.size Ba 7 fo fn
  wl : Wr W (Ba + 1) Bb 6 lo ln
  wf : Wr W (Ba + 1) Bb 7 go gn
  le : wk.heap.size ≤ Ba ∧ Ba < Bb
theorem OW.set {wk W : World} {Ba Bb : Nat} {a0 a1 a2 a3 a4 b0 b1 b2 b3 : Value} {fo : Option Addr} {fn fc : Nat} {lo : Option Addr} {ln lc : Nat} {go : Option Addr} {gn gc : Nat} (h : OW wk W Ba Bb a0 a1 a2 a3 a4 b0 b1 b2 b3 fo fn fc lo ln lc go gn gc) {F : Nat} (h1 : wk.heap.size ≤ F) (h2 : F ≠ Ba) (h3 : F ≠ Bb) (p : Nat) (vs : List Value) :
    OW wk (W.setCells F p vs) Ba Bb a0 a1 a2 a3 a4 b0 b1 b2 b3 fo fn fc lo ln lc go gn gc :=
  ⟨below_setCells h1 _ _ h.below, ⟨by rw [size_setCells']; exact h.ra.1, (heap_setCells_ne F _ (fun e => h2 e.symm) _ _ _).trans h.ra.2⟩, ⟨by rw [size_setCells']; exact h.rb.1, (heap_setCells_ne F _ (fun e => h3 e.symm) _ _ _).trans h.rb.2⟩, h.wa.set vs, h.wl.set vs, h.wf.set vs, h.le⟩
/-- what Put answers, whatever it was handed -/
theorem wr_of_fields {W : World} {A : Nat → Prop} {t : V} {c0 c1 c2 c3 c4 : Value} {fo : Option Addr} {n k lo : Nat} (h : RepA W A t (.agg #[c0, c1, c2, c3, c4, .slice fo n k])) (hA : ∀ g, A g → lo ≤ g ∧ g < W.heap.size) (hf : FreeC W (.slice fo n k)) : Wr W lo W.heap.size 7 fo n := by
  obtain ⟨k', b', n', s', l', f'⟩ := t
  rw [RepA] at h
  obtain ⟨ao, lc, fo', fc, e, _, _, _, _, h1, _, h2⟩ := h
  simp only [Value.agg.injEq, Array.mk.injEq, List.cons.injEq, and_true, Value.slice.injEq] at e
  obtain ⟨_, _, _, _, _, rfl, rfl, rfl⟩ := e
  refine ⟨h1, fun hp => ?_⟩
  obtain ⟨g, o, rfl, hg, hr⟩ := h2 hp
  exact ⟨g, o, rfl, (hA g hg).1, (hA g hg).2, fun q hq => repFA_cells hr q hq, fun r => hf _ _ _ rfl r⟩
theorem wr_of_list {W : World} {A : Nat → Prop} {t : V} {c0 c1 c2 c3 c5 : Value} {fo : Option Addr} {n k lo : Nat} (h : RepA W A t (.agg #[c0, c1, c2, c3, .slice fo n k, c5])) (hA : ∀ g, A g → lo ≤ g ∧ g < W.heap.size) (hf : FreeC W (.slice fo n k)) : Wr W lo W.heap.size 6 fo n := by
  obtain ⟨k', b', n', s', l', f'⟩ := t
  rw [RepA] at h
  obtain ⟨ao, lc, fo', fc, e, _, _, _, h1, _, h2, _⟩ := h
  simp only [Value.agg.injEq, Array.mk.injEq, List.cons.injEq, and_true, Value.slice.injEq] at e
  obtain ⟨_, _, _, _, ⟨rfl, rfl, rfl⟩, _⟩ := e
  refine ⟨h1, fun hp => ?_⟩
  obtain ⟨g, o, rfl, hg, hr⟩ := h2 hp
  exact ⟨g, o, rfl, (hA g hg).1, (hA g hg).2, fun q hq => repLA_cells hr q hq, fun r => hf _ _ _ rfl r⟩
end Go.Proofs.YtbogggnnmbjlfaaDoor
