/- The law ValueOwn, walked: it answers true whatever the values and the name. -/
import Derived.Test.YtbogggnnmbjlfaaDoorGetA
import Derived.Test.YtbogggnnmbjlfaaDoorCopyL
import Derived.Test.YtbogggnnmbjlfaaDoorPutG
import Derived.Test.YtbogggnnmbjlfaaDoorPutsF
import Derived.Test.YtbogggnnmbjlfaaDoorPutW
import Derived.Test.YtbogggnnmbjlfaaDoorCopyA
namespace Go.Proofs.YtbogggnnmbjlfaaDoor
open Go.RowKit
open Vl (V)
/-- rows of a cloned value may be written -/
theorem cloned_free {W : World} {B M : Nat} {t : V} {v : Value} (h : Cloned W B M t v) : ∃ c0 c1 c2 c3 c4 c5, v = .agg #[c0, c1, c2, c3, c4, c5] ∧ FreeC W c4 ∧ FreeC W c5 := by
  obtain ⟨k, b, n, s, l, f⟩ := t
  obtain ⟨ao, lc, fo, fc, rfl, _, _, _, _, _, h1, h2⟩ := h
  refine ⟨_, _, _, _, _, _, rfl, fun a m q e r => ?_, fun a m q e r => ?_⟩
  · rcases h1 with ⟨_, e2, _⟩ | ⟨_, g, e2, h3, _⟩
    · rw [e2] at e; cases e
    · rw [e2] at e; cases e; exact h3.2 r
  · rcases h2 with ⟨_, e2, _⟩ | ⟨_, g, e2, _, _, h3⟩
    · rw [e2] at e; cases e
    · rw [e2] at e; cases e
      obtain ⟨_, C, hC, _⟩ := h3
      exact row_free hC r
set_option maxHeartbeats 4000000 in
set_option maxRecDepth 100000 in
theorem get10_nil (t : V) (ht : Vl.small t) (w : World) (H : Nat) (v : Value) (hH : H ≤ w.heap.size) (hR : Rep w H t v) :
    Calls Tryd.prog 10 #[v, .slice none 0 0] w fun e w' => ∃ v', e = .returned (.tuple #[v', .bool true]) ∧ Below w.heap.size w w' ∧ RepA w' (fun g => w.heap.size ≤ g ∧ g < w'.heap.size) t v' ∧ ∃ c0 c1 c2 c3 c4 c5, v' = .agg #[c0, c1, c2, c3, c4, c5] ∧ FreeC w' c4 ∧ FreeC w' c5 := by
  obtain ⟨xk, xb, xn, xs, xa, xl, xc, ya, yl, yc, hv⟩ := repA_form (rep_repA t v hR)
  subst hv
  obtain ⟨w1, hw1, hb1, hr1, hz1⟩ := two_new w (.int .u8 (xk : Int)) (.bool xb) (.int .i64 xn) (.string xs) (.slice xa xl xc) (.slice ya yl yc)
  have HW1 : Hid (w1 = (w.alloc (.cells #[.int .u8 (xk : Int), .bool xb, .int .i64 xn, .string xs, .slice xa xl xc, .slice ya yl yc] 26)).alloc (.cells #[.int .u8 0, .bool false, .int .i64 0, .string ⟨#[]⟩, .slice none 0 0, .slice none 0 0] 26)) := hw1
  have HB1 : Hid (Below w.heap.size w w1) := hb1
  have HR1 : Hid (Row6 w1 w.heap.size (.int .u8 (xk : Int)) (.bool xb) (.int .i64 xn) (.string xs) (.slice xa xl xc) (.slice ya yl yc)) := hr1
  have HZ1 : Hid (Z6 w1 (w.heap.size + 1)) := hz1
  have C31 : Hid (Calls Tryd.prog 31 #[.agg #[.int .u8 (xk : Int), .bool xb, .int .i64 xn, .string xs, .slice xa xl xc, .slice ya yl yc]] w1 fun e w' => ∃ (zk : Nat) (zb : Bool) (zn : Int) (zs : ByteArray) (za : Option Addr) (zl zc : Nat) (ta : Option Addr) (tl tc : Nat), e = .returned (.agg #[.int .u8 (zk : Int), .bool zb, .int .i64 zn, .string zs, .slice za zl zc, .slice ta tl tc]) ∧ Below w1.heap.size w1 w' ∧ RepA w' (fun g => w1.heap.size ≤ g ∧ g < w'.heap.size) t (.agg #[.int .u8 (zk : Int), .bool zb, .int .i64 zn, .string zs, .slice za zl zc, .slice ta tl tc]) ∧ FreeC w' (.slice za zl zc) ∧ FreeC w' (.slice ta tl tc)) := by
    refine (clone34 _ t (Nat.le_refl _) ht w1 H _ (by have := hb1.size; omega) (rep_stays (hb1.mono hH) (Nat.le_refl _) t _ hR)).mono ?_
    rintro e w' ⟨v', M, rfl, hb, hc⟩
    have hr2 := hc.rep ht
    obtain ⟨c0, c1, c2, c3, c4, c5, e0, f1, f2⟩ := cloned_free hc
    obtain ⟨zk, zb, zn, zs, za, zl, zc, ta, tl, tc, rfl⟩ := repA_form hr2
    simp only [Value.agg.injEq, Array.mk.injEq, List.cons.injEq, and_true] at e0
    obtain ⟨_, _, _, _, rfl, rfl⟩ := e0
    exact ⟨zk, zb, zn, zs, za, zl, zc, ta, tl, tc, rfl, hb, hr2, f1, f2⟩
  clear hw1 hb1 hr1 hz1 hR ht hH
  go_enter Tryd.func10, Tryd.ntmps10
  go_wp2
  rw [← HW1.out]
  go_loopw [12] (fun i wr => i = .int .i64 0 ∧ wr = w1) (fun _ _ => 0)
  case atStart => exact ⟨rfl, rfl⟩
  case round =>
    obtain ⟨rfl, rfl⟩ := hrel
    obtain ⟨p0, p1, p2, p3, p4, p5⟩ := HR1.out.cells
    go_wp2_with fail
    refine C31.out.mono ?_
    rintro e w3 ⟨zk, zb, zn, zs, za, zl, zc, ta, tl, tc, rfl, hb3, hr3, f1, f2⟩
    have Z3 := HZ1.out.call hb3
    obtain ⟨q0, q1, q2, q3, q4, q5⟩ := Row6.cells Z3
    have fz := Row6.free Z3
    have lt3 := Z3.1
    obtain ⟨a1, a2, a3⟩ := answer_own Z3 (HB1.out.trans (hb3.mono HB1.out.size)) (repA_stays (fun _ _ => rfl) (fun g hg => ⟨by have := HZ1.out.1; omega, hg.2⟩) t _ hr3)
    have HA1 : Hid _ := a1
    have HA2 : Hid _ := a2
    have HA3 : Hid _ := a3
    have F1 : Hid (FreeC w3 (.slice za zl zc)) := f1
    have F2 : Hid (FreeC w3 (.slice ta tl tc)) := f2
    clear a1 a2 a3 f1 f2 hb3 hr3 Z3 p0 p1 p2 p3 p4 p5
    go_wp2
    rw [sets6]
    exact bodyPost_ret (v := .tuple #[.agg #[.int .u8 (zk : Int), .bool zb, .int .i64 zn, .string zs, .slice za zl zc, .slice ta tl tc], .bool true]) ((results_row_tmp (fn := Tryd.f10) (p := 4) (u := 5) (ty := 26) (by rfl) _ _ (w.heap.size + 1) 26 _ (0, 0) _ (by rfl) HA1.out Tryd.underlying26 rfl info26).trans (by rfl)) rfl ⟨_, rfl, HA2.out, HA3.out, _, _, _, _, _, _, rfl, fun a m q e r => by rw [World.frozen?_setCells]; exact F1.out a m q e r, fun a m q e r => by rw [World.frozen?_setCells]; exact F2.out a m q e r⟩
end Go.Proofs.YtbogggnnmbjlfaaDoor
namespace Go.Proofs.YtbogggnnmbjlfaaDoor
open Go.RowKit
open Vl (V)
theorem six_cell {W : World} {g o : Nat} {c0 c1 c2 c3 c4 c5 : Value} (h : Six W g o c0 c1 c2 c3 c4 c5) (r : Nat) (hr : r < 6) : ∃ v, W.cell? ⟨g, o + r, none⟩ = some v := by
  obtain ⟨h0, h1, h2, h3, h4, h5⟩ := h
  match r, hr with
  | 0, _ => exact ⟨_, h0⟩
  | 1, _ => exact ⟨_, h1⟩
  | 2, _ => exact ⟨_, h2⟩
  | 3, _ => exact ⟨_, h3⟩
  | 4, _ => exact ⟨_, h4⟩
  | 5, _ => exact ⟨_, h5⟩
theorem repLA_cells {W : World} {A : Nat → Prop} {g o : Nat} {l : List V} (h : RepLA W A g o l) (q : Nat) (hq : q < l.length * 6) : ∃ v, W.cell? ⟨g, o + q, none⟩ = some v := by
  obtain ⟨x, hx⟩ : ∃ x, l[q / 6]? = some x := ⟨_, List.getElem?_eq_getElem (by omega)⟩
  obtain ⟨c0, c1, c2, c3, c4, c5, h1, _⟩ := repLA_at l o h _ x hx
  have := six_cell h1 (q % 6) (Nat.mod_lt _ (by omega))
  rwa [show o + q / 6 * 6 + q % 6 = o + q by omega] at this
theorem repFA_cells {W : World} {A : Nat → Prop} {g o : Nat} {f : List (ByteArray × V)} (h : RepFA W A g o f) (q : Nat) (hq : q < f.length * 7) : ∃ v, W.cell? ⟨g, o + q, none⟩ = some v := by
  obtain ⟨⟨m, x⟩, hx⟩ : ∃ x, f[q / 7]? = some x := ⟨_, List.getElem?_eq_getElem (by omega)⟩
  obtain ⟨h0, _, c0, c1, c2, c3, c4, c5, h1, _⟩ := repFA_at f o h _ m x hx
  by_cases hz : q % 7 = 0
  · rw [show o + q = o + q / 7 * 7 by omega]; exact ⟨_, h0⟩
  · have := six_cell h1 (q % 7 - 1) (by omega)
    rwa [show o + q / 7 * 7 + 1 + (q % 7 - 1) = o + q by omega] at this
/-- a slice's row lies between two bounds, and may be written -/
def Wr (W : World) (lo hi size : Nat) (fo : Option Addr) (n : Nat) : Prop := n ≤ maxLen ∧ (0 < n → ∃ F o, fo = some ⟨F, o, none⟩ ∧ lo ≤ F ∧ F < hi ∧ (∀ q, q < n * size → ∃ v, W.cell? ⟨F, o + q, none⟩ = some v) ∧ ∀ r, W.frozen? ⟨F, r, none⟩ = false)
theorem Wr.call {W W' : World} {lo hi size : Nat} {fo : Option Addr} {n : Nat} (h : Wr W lo hi size fo n) (hh : hi ≤ W.heap.size) (hb : Below W.heap.size W W') : Wr W' lo hi size fo n := by
  refine ⟨h.1, fun hp => ?_⟩
  obtain ⟨F, o, e, h1, h2, h3, h4⟩ := h.2 hp
  refine ⟨F, o, e, h1, h2, fun q hq => ?_, fun r => ?_⟩
  · obtain ⟨v, hv⟩ := h3 q hq
    exact ⟨v, (hb.cell (p := ⟨F, o + q, none⟩) (by show F < _; omega)).trans hv⟩
  · exact (World.frozen?_of_block (w := W) (a := ⟨F, r, none⟩) (hb.block F (by omega))).trans (h4 r)
theorem isSome_cell_set {W : World} {b o : Nat} {u : Value} {x : Addr} (h : ∃ v, W.cell? x = some v) : ∃ v, (W.setCell ⟨b, o, none⟩ u).cell? x = some v := by
  by_cases hx : x = ⟨b, o, none⟩
  · subst hx
    obtain ⟨v, hv⟩ := h
    exact ⟨u, World.cell?_setCell_same _ _ _ hv⟩
  · obtain ⟨v, hv⟩ := h
    exact ⟨v, (World.cell?_setCell_other _ _ _ _ (fun e => hx e.symm)).trans hv⟩
theorem isSome_cells_set {b : Nat} {x : Addr} : ∀ (vs : List Value) (o : Nat) (W : World), (∃ v, W.cell? x = some v) → ∃ v, (W.setCells b o vs).cell? x = some v
  | [], _, _, h => h
  | v :: r, o, W, h => by rw [World.setCells]; exact isSome_cells_set r (o + 1) _ (isSome_cell_set h)
theorem Wr.set {W : World} {lo hi size b p : Nat} {fo : Option Addr} {n : Nat} (h : Wr W lo hi size fo n) (vs : List Value) : Wr (W.setCells b p vs) lo hi size fo n := by
  refine ⟨h.1, fun hp => ?_⟩
  obtain ⟨F, o, e, h1, h2, h3, h4⟩ := h.2 hp
  exact ⟨F, o, e, h1, h2, fun q hq => isSome_cells_set vs p W (h3 q hq), fun r => by rw [World.frozen?_setCells]; exact h4 r⟩
/-- the two answers that are spoilt: their boxes, their rows -/
structure OW (wk W : World) (Ba Bb : Nat) (a0 a1 a2 a3 a4 b0 b1 b2 b3 : Value) (fo : Option Addr) (fn fc : Nat) (lo : Option Addr) (ln lc : Nat) (go : Option Addr) (gn gc : Nat) : Prop where
  below : Below wk.heap.size wk W
  ra : Row6 W Ba a0 a1 a2 a3 a4 (.slice fo fn fc)
  rb : Row6 W Bb b0 b1 b2 b3 (.slice lo ln lc) (.slice go gn gc)
  wa : Wr W wk.heap.size Ba 7 fo fn
  wl : Wr W (Ba + 1) Bb 6 lo ln
  wf : Wr W (Ba + 1) Bb 7 go gn
  le : wk.heap.size ≤ Ba ∧ Ba < Bb
theorem OW.set {wk W : World} {Ba Bb : Nat} {a0 a1 a2 a3 a4 b0 b1 b2 b3 : Value} {fo : Option Addr} {fn fc : Nat} {lo : Option Addr} {ln lc : Nat} {go : Option Addr} {gn gc : Nat} (h : OW wk W Ba Bb a0 a1 a2 a3 a4 b0 b1 b2 b3 fo fn fc lo ln lc go gn gc) {F : Nat} (h1 : wk.heap.size ≤ F) (h2 : F ≠ Ba) (h3 : F ≠ Bb) (p : Nat) (vs : List Value) :
    OW wk (W.setCells F p vs) Ba Bb a0 a1 a2 a3 a4 b0 b1 b2 b3 fo fn fc lo ln lc go gn gc :=
  ⟨below_setCells h1 _ _ h.below, ⟨by rw [size_setCells']; exact h.ra.1, (heap_setCells_ne F _ (fun e => h2 e.symm) _ _ _).trans h.ra.2⟩, ⟨by rw [size_setCells']; exact h.rb.1, (heap_setCells_ne F _ (fun e => h3 e.symm) _ _ _).trans h.rb.2⟩, h.wa.set vs, h.wl.set vs, h.wf.set vs, h.le⟩
/-- what Put answers, whatever it was handed -/
theorem wr_of_fields {W : World} {A : Nat → Prop} {t : V} {c0 c1 c2 c3 c4 : Value} {fo : Option Addr} {n k lo : Nat} (h : RepA W A t (.agg #[c0, c1, c2, c3, c4, .slice fo n k])) (hA : ∀ g, A g → lo ≤ g ∧ g < W.heap.size) (hf : FreeC W (.slice fo n k)) : Wr W lo W.heap.size 7 fo n := by
  obtain ⟨k', b', n', s', l', f'⟩ := t
  rw [RepA] at h
  obtain ⟨ao, lc, fo', fc, e, _, _, _, _, h1, _, h2⟩ := h
  simp only [Value.agg.injEq, Array.mk.injEq, List.cons.injEq, and_true, Value.slice.injEq] at e
  obtain ⟨_, _, _, _, _, rfl, rfl, rfl⟩ := e
  refine ⟨h1, fun hp => ?_⟩
  obtain ⟨g, o, rfl, hg, hr⟩ := h2 hp
  exact ⟨g, o, rfl, (hA g hg).1, (hA g hg).2, fun q hq => repFA_cells hr q hq, fun r => hf _ _ _ rfl r⟩
theorem wr_of_list {W : World} {A : Nat → Prop} {t : V} {c0 c1 c2 c3 c5 : Value} {fo : Option Addr} {n k lo : Nat} (h : RepA W A t (.agg #[c0, c1, c2, c3, .slice fo n k, c5])) (hA : ∀ g, A g → lo ≤ g ∧ g < W.heap.size) (hf : FreeC W (.slice fo n k)) : Wr W lo W.heap.size 6 fo n := by
  obtain ⟨k', b', n', s', l', f'⟩ := t
  rw [RepA] at h
  obtain ⟨ao, lc, fo', fc, e, _, _, _, h1, _, h2, _⟩ := h
  simp only [Value.agg.injEq, Array.mk.injEq, List.cons.injEq, and_true, Value.slice.injEq] at e
  obtain ⟨_, _, _, _, ⟨rfl, rfl, rfl⟩, _⟩ := e
  refine ⟨h1, fun hp => ?_⟩
  obtain ⟨g, o, rfl, hg, hr⟩ := h2 hp
  exact ⟨g, o, rfl, (hA g hg).1, (hA g hg).2, fun q hq => repLA_cells hr q hq, fun r => hf _ _ _ rfl r⟩
end Go.Proofs.YtbogggnnmbjlfaaDoor
namespace Go.Proofs.YtbogggnnmbjlfaaDoor
open Go.RowKit
open Vl (V)
set_option maxHeartbeats 4000000 in
set_option maxRecDepth 100000 in
theorem put15_none (name : ByteArray) (k : Nat) (hk : k ≠ 6) (b : Bool) (n : Int) (s : ByteArray) (ao : Option Addr) (ll lc : Nat) (fo : Option Addr) (fl fc : Nat) (xk : Nat) (xb : Bool) (xn : Int) (xs : ByteArray) (xa : Option Addr) (xl xc : Nat) (xf : Option Addr) (xm xq : Nat) (w : World) :
    Calls Tryd.prog 12 #[.agg #[.int .u8 (k : Int), .bool b, .int .i64 n, .string s, .slice ao ll lc, .slice fo fl fc], .string name, .agg #[.int .u8 (xk : Int), .bool xb, .int .i64 xn, .string xs, .slice xa xl xc, .slice xf xm xq]] w fun e w' => e = .returned (.tuple #[.agg #[.int .u8 0, .bool false, .int .i64 0, .string ⟨#[]⟩, .slice none 0 0, .slice none 0 0], .int .i64 5]) ∧ Below w.heap.size w w' := by
  have j6 : ((k : Int) == 6) = false := by simp; omega
  go_enter Tryd.func12, Tryd.ntmps12
  go_wp2
  refine bodyPost_ret (results_put _ (w.heap.size + 1 + 1 + 1) _ _ _ _ _ _ ?_ _ (by rfl) 5 (by rfl)) rfl ⟨rfl, (below_new2 _ _ _).trans ((below_new2 _ _ _).mono (by simp; omega))⟩
  have := heap_alloc_new (((w.alloc (.cells #[.int .u8 (k : Int), .bool b, .int .i64 n, .string s, .slice ao ll lc, .slice fo fl fc] 26)).alloc (.cells #[.string name] 9)).alloc (.cells #[.int .u8 (xk : Int), .bool xb, .int .i64 xn, .string xs, .slice xa xl xc, .slice xf xm xq] 26)) (.cells #[.int .u8 0, .bool false, .int .i64 0, .string ⟨#[]⟩, .slice none 0 0, .slice none 0 0] 26)
  simpa using this
/-- Put, whatever it is handed: its answer's fields may be written -/
theorem put_any (name : ByteArray) (hn : name.size ≤ 140737488351232) (t x : V) (ht : Vl.small t) (hx : Vl.small x) (hfl : ∀ b n s l f, t = ⟨6, b, n, s, l, f⟩ → f.length ≤ 1466015503667) (W : World) (H : Nat) (vt vx : Value) (hH : H ≤ W.heap.size) (hr : Rep W H t vt) (hrx : Rep W H x vx) :
    Calls Tryd.prog 12 #[vt, .string name, vx] W fun e w' => ∃ (ak : Nat) (ab : Bool) (an : Int) (at0 : ByteArray) (aa : Option Addr) (al ac : Nat) (fo : Option Addr) (fn fc : Nat) (er : Int), e = .returned (.tuple #[.agg #[.int .u8 (ak : Int), .bool ab, .int .i64 an, .string at0, .slice aa al ac, .slice fo fn fc], .int .i64 er]) ∧ Below W.heap.size W w' ∧ Wr w' W.heap.size w'.heap.size 7 fo fn := by
  obtain ⟨k, b, n, s, l, f⟩ := t
  by_cases hk : k = 6
  · subst hk
    refine (put15 name hn x hx b n s l f ht (hfl b n s l f rfl) W H vt vx hH hr hrx).mono ?_
    rintro e w' ⟨v', rfl, hb, hra, c0, c1, c2, c3, c4, c5, e0, hf⟩
    obtain ⟨ak, ab, an, at0, aa, al, ac, fo, fn, fc, rfl⟩ := repA_form hra
    simp only [Value.agg.injEq, Array.mk.injEq, List.cons.injEq, and_true] at e0
    obtain ⟨_, _, _, _, _, rfl⟩ := e0
    exact ⟨ak, ab, an, at0, aa, al, ac, fo, fn, fc, 0, rfl, hb, wr_of_fields hra (fun g hg => hg) hf⟩
  · obtain ⟨xk, xb, xn, xs, xa, xl, xc, xf, xm, xq, rfl⟩ := repA_form (rep_repA x vx hrx)
    rw [Rep] at hr
    obtain ⟨ao, lc, fo, fc, rfl, _⟩ := hr
    refine (put15_none name k hk b n s ao l.length lc fo f.length fc xk xb xn xs xa xl xc xf xm xq W).mono ?_
    rintro e w' ⟨rfl, hb⟩
    exact ⟨0, false, 0, ⟨#[]⟩, none, 0, 0, none, 0, 0, 5, rfl, hb, by decide, fun h => absurd h (by decide)⟩
set_option maxHeartbeats 16000000 in
set_option maxRecDepth 100000 in
theorem own4 (t x : V) (ht : Vl.small t) (hxs : Vl.small x) (hfl : ∀ b n s l f, t = ⟨6, b, n, s, l, f⟩ → f.length ≤ 1466015503667) (na : ByteArray) (hna : na.size ≤ 140737488351232) (w : World) (hT : HasT w) (H : Nat) (va vx : Value) (hH : H ≤ w.heap.size) (ha : Rep w H t va) (hx : Rep w H x vx) :
    Calls Tryd.prog 4 #[va, .string na, vx] w fun e w' => e = .returned (.bool true) ∧ Below w.heap.size w w' := by
  obtain ⟨xk, xb, xn, xs, xa, xl, xc, xf, xm, xq, xv⟩ := repA_form (rep_repA t va ha)
  obtain ⟨yk, yb, yn, ys, ya, yl, yc, yf, ym, yq, yv⟩ := repA_form (rep_repA x vx hx)
  subst xv yv
  have S0 := (Fs.two hT hH ha hx).hid
  have HST : Hid (Vl.small t) := ht
  have HSX : Hid (Vl.small x) := hxs
  have HFL : Hid (∀ b n s l f, t = ⟨6, b, n, s, l, f⟩ → f.length ≤ 1466015503667) := hfl
  have HNA : Hid (na.size ≤ 140737488351232) := hna
  clear hT ha hx hH ht hxs hfl hna
  go_enter Tryd.func4, Tryd.ntmps4
  go_wp2_with fail
  refine (lives9 _ S0.out.t).mono ?_
  rintro e w1 ⟨rfl, hb1⟩
  have S1 := (S0.out.call hb1).hid
  clear hb1 S0
  obtain ⟨i0, i1, i2, i3, i4, i5⟩ := (S1.out.row 0 rfl).cells
  go_wp2_with fail
  refine (copy9 _ t (Nat.le_refl _) HST.out _ _ _ (S1.out.rep 2 rfl).1 (S1.out.rep 2 rfl).2).mono ?_
  rintro e w2 ⟨v', rfl, hb2, hr2⟩
  obtain ⟨gk, gb, gn, gs, ga, gl, gc, gf, gm, gq, rfl⟩ := repA_form hr2
  have S2 := ((S1.out.call hb2).box (repA_rep (fun g hg => hg.2) _ _ hr2)).hid
  clear hb2 hr2 S1 i0 i1 i2 i3 i4 i5
  go_upto_region 4 with fail
  obtain ⟨wk, hwk⟩ : ∃ wk, wk = w2.alloc (.cells #[.int .u8 (gk : Int), .bool gb, .int .i64 gn, .string gs, .slice ga gl gc, .slice gf gm gq] 26) := ⟨_, rfl⟩
  obtain ⟨Bg, hBg⟩ : ∃ B, B = w2.heap.size := ⟨_, rfl⟩
  rw [← hwk, ← hBg] at S2 ⊢
  clear hwk hBg
  obtain ⟨i0, i1, i2, i3, i4, i5⟩ := (S2.out.row 0 rfl).cells
  obtain ⟨j0, j1, j2, j3, j4, j5⟩ := (S2.out.row 3 rfl).cells
  go_wp2_with fail
  refine (put_any na HNA.out t x HST.out HSX.out HFL.out wk wk.heap.size _ _ (Nat.le_refl _) (S2.out.up 1 rfl) (S2.out.up 5 rfl)).mono ?_
  rintro e w4 ⟨ak, ab, an, at0, aa, al, ac, fo, fn, fc, er, rfl, hb4, hw4⟩
  have HB4 : Hid (Below wk.heap.size wk w4) := hb4
  have HW4 : Hid (Wr w4 wk.heap.size w4.heap.size 7 fo fn) := hw4
  have S4 := ((S2.out.call hb4).call (below_new w4 (.cells #[.int .u8 (ak : Int), .bool ab, .int .i64 an, .string at0, .slice aa al ac, .slice fo fn fc] 26))).hid
  clear hb4 hw4 i0 i1 i2 i3 i4 i5 j0 j1 j2 j3 j4 j5
  go_upto_region 5 with fail
  obtain ⟨w5, hw5⟩ : ∃ w5, w5 = w4.alloc (.cells #[.int .u8 (ak : Int), .bool ab, .int .i64 an, .string at0, .slice aa al ac, .slice fo fn fc] 26) := ⟨_, rfl⟩
  obtain ⟨Ba, hBa⟩ : ∃ B, B = w4.heap.size := ⟨_, rfl⟩
  have RA : Hid (Row6 w5 Ba (.int .u8 (ak : Int)) (.bool ab) (.int .i64 an) (.string at0) (.slice aa al ac) (.slice fo fn fc)) := by
    show Row6 _ _ _ _ _ _ _ _
    rw [hw5, hBa]; exact ⟨by simp, heap_alloc_new w4 _⟩
  have WA : Hid (Wr w5 wk.heap.size Ba 7 fo fn) := by
    show Wr _ _ _ _ _ _
    rw [hBa]; exact HW4.out.call (Nat.le_refl _) (by rw [hw5]; exact below_new _ _)
  have HK5 : Hid (wk.heap.size ≤ Ba ∧ Ba + 1 = w5.heap.size) := ⟨by rw [hBa]; exact HB4.out.size, by rw [hw5, hBa]; simp⟩
  have HB5 : Hid (Below wk.heap.size wk w5) := by
    show Below _ _ _
    rw [hw5]; exact HB4.out.alloc HB4.out.size _
  rw [← hw5] at S4 ⊢
  rw [← hBa]
  clear hw5 hBa HW4 HB4
  obtain ⟨i0, i1, i2, i3, i4, i5⟩ := (S4.out.row 0 rfl).cells
  go_wp2_with fail
  refine (get10_nil t HST.out w5 _ _ (S4.out.rep 1 rfl).1 (S4.out.rep 1 rfl).2).mono ?_
  rintro e w6 ⟨v', rfl, hb6, hr6, c0, c1, c2, c3, c4, c5, e0, f1, f2⟩
  obtain ⟨bk, bb, bn, bs, lo, ln, lc, go, gn2, gc2, rfl⟩ := repA_form hr6
  simp only [Value.agg.injEq, Array.mk.injEq, List.cons.injEq, and_true] at e0
  obtain ⟨rfl, rfl, rfl, rfl, rfl, rfl⟩ := e0
  have WL6 : Hid (Wr w6 (Ba + 1) w6.heap.size 6 lo ln) := wr_of_list hr6 (fun g hg => ⟨by rw [HK5.out.2]; exact hg.1, hg.2⟩) f1
  have WF6 : Hid (Wr w6 (Ba + 1) w6.heap.size 7 go gn2) := wr_of_fields hr6 (fun g hg => ⟨by rw [HK5.out.2]; exact hg.1, hg.2⟩) f2
  have HB6 : Hid (Below w5.heap.size w5 w6) := hb6
  clear hb6 hr6 f1 f2 i0 i1 i2 i3 i4 i5
  have O7 : Hid (OW wk (w6.alloc (.cells #[.int .u8 (bk : Int), .bool bb, .int .i64 bn, .string bs, .slice lo ln lc, .slice go gn2 gc2] 26)) Ba w6.heap.size (.int .u8 (ak : Int)) (.bool ab) (.int .i64 an) (.string at0) (.slice aa al ac) (.int .u8 (bk : Int)) (.bool bb) (.int .i64 bn) (.string bs) fo fn fc lo ln lc go gn2 gc2) := by
    have hbn := below_new w6 (.cells #[.int .u8 (bk : Int), .bool bb, .int .i64 bn, .string bs, .slice lo ln lc, .slice go gn2 gc2] 26)
    have h1 := HK5.out
    have h2 := HB6.out.size
    refine ⟨(HB5.out.trans (HB6.out.mono HB5.out.size)).trans (hbn.mono (by omega)), (RA.out.call HB6.out).call hbn, ⟨by simp, heap_alloc_new w6 _⟩, (WA.out.call (by omega) HB6.out).call (by omega) hbn, WL6.out.call (Nat.le_refl _) hbn, WF6.out.call (Nat.le_refl _) hbn, h1.1, by omega⟩
  clear RA WA HK5 HB5 WL6 WF6 HB6 S4
  go_upto_region 6 with fail
  obtain ⟨w7, hw7⟩ : ∃ w7, w7 = w6.alloc (.cells #[.int .u8 (bk : Int), .bool bb, .int .i64 bn, .string bs, .slice lo ln lc, .slice go gn2 gc2] 26) := ⟨_, rfl⟩
  obtain ⟨Bb, hBb⟩ : ∃ B, B = w6.heap.size := ⟨_, rfl⟩
  rw [← hw7, ← hBb] at O7 ⊢
  clear hw7 hBb
  obtain ⟨i0, i1, i2, i3, i4, i5⟩ := O7.out.ra.cells
  have hfn : fn ≤ 9223372036854775807 := maxLen_lt O7.out.wa.1
  have hln : ln ≤ 9223372036854775807 := maxLen_lt O7.out.wl.1
  have hgn : gn2 ≤ 9223372036854775807 := maxLen_lt O7.out.wf.1
  go_wp2
  clear i0 i1 i2 i3 i4 i5
  go_loopw [36] (fun i wr => ∃ j : Nat, j ≤ fn ∧ i = .int .i64 j ∧ OW wk wr Ba Bb (.int .u8 (ak : Int)) (.bool ab) (.int .i64 an) (.string at0) (.slice aa al ac) (.int .u8 (bk : Int)) (.bool bb) (.int .i64 bn) (.string bs) fo fn fc lo ln lc go gn2 gc2) (fun i _ => fn - (intOf i).toNat)
  case atStart => exact ⟨0, Nat.zero_le _, rfl, O7.out⟩
  case round =>
    obtain ⟨j, hj, rfl, hO⟩ := hrel
    have O : Hid (OW wk wr Ba Bb (.int .u8 (ak : Int)) (.bool ab) (.int .i64 an) (.string at0) (.slice aa al ac) (.int .u8 (bk : Int)) (.bool bb) (.int .i64 bn) (.string bs) fo fn fc lo ln lc go gn2 gc2) := hO
    clear hO O7
    by_cases hlt : j < fn
    · obtain ⟨F, o, rfl, hF1, hF2, hF3, fz⟩ := O.out.wa.2 (by omega)
      obtain ⟨u0, hu0⟩ := hF3 (j * 7) (by omega)
      rw [show o + j * 7 = o + j * 7 from rfl] at hu0
      have O2 : Hid (OW wk (wr.setCells F (o + j * 7) [.string ⟨#[115, 112, 111, 105, 108, 116]⟩]) Ba Bb (.int .u8 (ak : Int)) (.bool ab) (.int .i64 an) (.string at0) (.slice aa al ac) (.int .u8 (bk : Int)) (.bool bb) (.int .i64 bn) (.string bs) (some ⟨F, o, none⟩) fn fc lo ln lc go gn2 gc2) := O.out.set hF1 (by omega) (by have := O.out.le; omega) _ _
      obtain ⟨i0, i1, i2, i3, i4, i5⟩ := O.out.ra.cells
      have ltF : F < wr.heap.size := by have := O.out.ra.1; omega
      have ltA := O.out.ra.1
      clear hF1 hF2 hF3
      go_wp2
      go_roundw
      case rel => first | exact ⟨j + 1, by omega, by go_num, O2.out⟩ | ((repeat apply Exists.intro); exact ⟨⟨j + 1, by omega, by go_num, O2.out⟩, rfl⟩)
      case measure => simp [intOf]; omega
    · obtain ⟨w8, rfl⟩ : ∃ w8, w8 = wr := ⟨_, rfl⟩
      obtain ⟨i0, i1, i2, i3, i4, i5⟩ := O.out.rb.cells
      go_wp2
      clear i0 i1 i2 i3 i4 i5
      have O8 : Hid (OW wk w8 Ba Bb (.int .u8 (ak : Int)) (.bool ab) (.int .i64 an) (.string at0) (.slice aa al ac) (.int .u8 (bk : Int)) (.bool bb) (.int .i64 bn) (.string bs) fo fn fc lo ln lc go gn2 gc2) := O.out
      clear O
      go_loopw [48] (fun i wr => ∃ j : Nat, j ≤ ln ∧ i = .int .i64 j ∧ OW wk wr Ba Bb (.int .u8 (ak : Int)) (.bool ab) (.int .i64 an) (.string at0) (.slice aa al ac) (.int .u8 (bk : Int)) (.bool bb) (.int .i64 bn) (.string bs) fo fn fc lo ln lc go gn2 gc2) (fun i _ => ln - (intOf i).toNat)
      case atStart => exact ⟨0, Nat.zero_le _, rfl, O8.out⟩
      case round =>
        obtain ⟨p, hp, rfl, hO⟩ := hrel
        have O : Hid (OW wk wr Ba Bb (.int .u8 (ak : Int)) (.bool ab) (.int .i64 an) (.string at0) (.slice aa al ac) (.int .u8 (bk : Int)) (.bool bb) (.int .i64 bn) (.string bs) fo fn fc lo ln lc go gn2 gc2) := hO
        clear hO O8
        by_cases hlt2 : p < ln
        · obtain ⟨F, o, rfl, hF1, hF2, hF3, fz⟩ := O.out.wl.2 (by omega)
          obtain ⟨u0, hu0⟩ := hF3 (p * 6) (by omega)
          obtain ⟨u1, hu1⟩ := hF3 (p * 6 + 1) (by omega)
          obtain ⟨u2, hu2⟩ := hF3 (p * 6 + 2) (by omega)
          obtain ⟨u3, hu3⟩ := hF3 (p * 6 + 3) (by omega)
          obtain ⟨u4, hu4⟩ := hF3 (p * 6 + 4) (by omega)
          obtain ⟨u5, hu5⟩ := hF3 (p * 6 + 5) (by omega)
          rw [← Nat.add_assoc] at hu1 hu2 hu3 hu4 hu5
          have O2 : Hid (OW wk (wr.setCells F (o + p * 6) [.int .u8 2, .bool false, .int .i64 9, .string ⟨#[]⟩, .slice none 0 0, .slice none 0 0]) Ba Bb (.int .u8 (ak : Int)) (.bool ab) (.int .i64 an) (.string at0) (.slice aa al ac) (.int .u8 (bk : Int)) (.bool bb) (.int .i64 bn) (.string bs) fo fn fc (some ⟨F, o, none⟩) ln lc go gn2 gc2) := O.out.set (by have := O.out.le; omega) (by omega) (by omega) _ _
          obtain ⟨i0, i1, i2, i3, i4, i5⟩ := O.out.rb.cells
          have ltF : F < wr.heap.size := by have := O.out.rb.1; omega
          have ltB := O.out.rb.1
          clear hF1 hF2 hF3
          go_wp2
          go_roundw
          case rel => first | exact ⟨p + 1, by omega, by go_num, O2.out⟩ | ((repeat apply Exists.intro); exact ⟨⟨p + 1, by omega, by go_num, O2.out⟩, rfl⟩)
          case measure => simp [intOf]; omega
        · obtain ⟨w9, rfl⟩ : ∃ w9, w9 = wr := ⟨_, rfl⟩
          obtain ⟨i0, i1, i2, i3, i4, i5⟩ := O.out.rb.cells
          go_wp2
          clear i0 i1 i2 i3 i4 i5
          have O9 : Hid (OW wk w9 Ba Bb (.int .u8 (ak : Int)) (.bool ab) (.int .i64 an) (.string at0) (.slice aa al ac) (.int .u8 (bk : Int)) (.bool bb) (.int .i64 bn) (.string bs) fo fn fc lo ln lc go gn2 gc2) := O.out
          clear O
          go_loopw [60] (fun i wr => ∃ j : Nat, j ≤ gn2 ∧ i = .int .i64 j ∧ OW wk wr Ba Bb (.int .u8 (ak : Int)) (.bool ab) (.int .i64 an) (.string at0) (.slice aa al ac) (.int .u8 (bk : Int)) (.bool bb) (.int .i64 bn) (.string bs) fo fn fc lo ln lc go gn2 gc2) (fun i _ => gn2 - (intOf i).toNat)
          case atStart => exact ⟨0, Nat.zero_le _, rfl, O9.out⟩
          case round =>
            obtain ⟨q, hq, rfl, hO⟩ := hrel
            have O : Hid (OW wk wr Ba Bb (.int .u8 (ak : Int)) (.bool ab) (.int .i64 an) (.string at0) (.slice aa al ac) (.int .u8 (bk : Int)) (.bool bb) (.int .i64 bn) (.string bs) fo fn fc lo ln lc go gn2 gc2) := hO
            clear hO O9
            by_cases hlt3 : q < gn2
            · obtain ⟨F, o, rfl, hF1, hF2, hF3, fz⟩ := O.out.wf.2 (by omega)
              obtain ⟨u0, hu0⟩ := hF3 (q * 7 + 1) (by omega)
              obtain ⟨u1, hu1⟩ := hF3 (q * 7 + 2) (by omega)
              obtain ⟨u2, hu2⟩ := hF3 (q * 7 + 3) (by omega)
              obtain ⟨u3, hu3⟩ := hF3 (q * 7 + 4) (by omega)
              obtain ⟨u4, hu4⟩ := hF3 (q * 7 + 5) (by omega)
              obtain ⟨u5, hu5⟩ := hF3 (q * 7 + 6) (by omega)
              rw [← Nat.add_assoc] at hu0 hu1 hu2 hu3 hu4 hu5
              have O2 : Hid (OW wk (wr.setCells F (o + q * 7 + 1) [.int .u8 2, .bool false, .int .i64 9, .string ⟨#[]⟩, .slice none 0 0, .slice none 0 0]) Ba Bb (.int .u8 (ak : Int)) (.bool ab) (.int .i64 an) (.string at0) (.slice aa al ac) (.int .u8 (bk : Int)) (.bool bb) (.int .i64 bn) (.string bs) fo fn fc lo ln lc (some ⟨F, o, none⟩) gn2 gc2) := O.out.set (by have := O.out.le; omega) (by omega) (by omega) _ _
              obtain ⟨i0, i1, i2, i3, i4, i5⟩ := O.out.rb.cells
              have ltF : F < wr.heap.size := by have := O.out.rb.1; omega
              have ltB := O.out.rb.1
              clear hF1 hF2 hF3
              go_wp2
              go_roundw
              case rel => first | exact ⟨q + 1, by omega, by go_num, O2.out⟩ | ((repeat apply Exists.intro); exact ⟨⟨q + 1, by omega, by go_num, O2.out⟩, rfl⟩)
              case measure => simp [intOf]; omega
            · obtain ⟨wa, rfl⟩ : ∃ wa, wa = wr := ⟨_, rfl⟩
              have T := (S2.out.call O.out.below).hid
              clear O S2
              go_upto_region 21 with fail
              obtain ⟨i0, i1, i2, i3, i4, i5⟩ := (T.out.row 0 rfl).cells
              go_wp2_with fail
              refine (get10_nil t HST.out wa _ _ (T.out.rep 1 rfl).1 (T.out.rep 1 rfl).2).mono ?_
              rintro e wb ⟨v', rfl, hbb, hrb, _⟩
              obtain ⟨ck, cb, cn, cs, ca, cl, cc, cf, cm, cq, rfl⟩ := repA_form hrb
              have U := ((T.out.call hbb).box (repA_rep (fun g hg => hg.2) _ _ hrb)).hid
              clear hbb hrb T i0 i1 i2 i3 i4 i5
              go_upto_region 22 with fail
              obtain ⟨wc, hwc⟩ : ∃ wc, wc = wb.alloc (.cells #[.int .u8 (ck : Int), .bool cb, .int .i64 cn, .string cs, .slice ca cl cc, .slice cf cm cq] 26) := ⟨_, rfl⟩
              obtain ⟨Bc, hBc⟩ : ∃ B, B = wb.heap.size := ⟨_, rfl⟩
              rw [← hwc, ← hBc] at U ⊢
              clear hwc hBc
              obtain ⟨i0, i1, i2, i3, i4, i5⟩ := (U.out.row 2 rfl).cells
              obtain ⟨j0, j1, j2, j3, j4, j5⟩ := (U.out.row 4 rfl).cells
              go_wp2_with fail
              refine (rsame17 _ t (Nat.le_refl _) t _ _ _ _ (Nat.le_refl _) (U.out.up 3 rfl) (U.out.up 6 rfl)).mono ?_
              rintro e wd ⟨rfl, hbd⟩
              have X := (U.out.call hbd).hid
              rw [Vl.same_refl]
              clear hbd U i0 i1 i2 i3 i4 i5 j0 j1 j2 j3 j4 j5
              obtain ⟨i0, i1, i2, i3, i4, i5⟩ := (X.out.row 0 rfl).cells
              obtain ⟨j0, j1, j2, j3, j4, j5⟩ := (X.out.row 4 rfl).cells
              go_wp2_with fail
              refine (rsame17 _ t (Nat.le_refl _) t _ _ _ _ (Nat.le_refl _) (X.out.up 1 rfl) (X.out.up 6 rfl)).mono ?_
              rintro e we ⟨rfl, hbe⟩
              have HB : Hid (Below w.heap.size w we) := (X.out.call hbe).below
              rw [Vl.same_refl]
              clear hbe X i0 i1 i2 i3 i4 i5 j0 j1 j2 j3 j4 j5
              go_wp2
              exact ⟨rfl, _, results_tmp (by rfl) _ _ _, rfl, HB.out⟩
end Go.Proofs.YtbogggnnmbjlfaaDoor
