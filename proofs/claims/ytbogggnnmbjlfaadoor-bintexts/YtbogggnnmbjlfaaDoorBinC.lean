/- The two closures that write a part, given what writing a value does. -/
import Derived.Test.YtbogggnnmbjlfaaDoorBinP
import Derived.Test.YtbogggnnmbjlfaaDoorBinM
namespace Go.Proofs.YtbogggnnmbjlfaaDoor
open Go.RowKit
open Vl (V)
theorem block_cells {W : World} {B t : Nat} {C : Array Value} (h : W.heap[B]? = some (.cells C t (0, 0))) (j : Nat) (u : Value) (hu : C[j]? = some u) : W.cell? ⟨B, j, none⟩ = some u := by
  rw [cell_of_row _ _ _ _ _ _ h]; exact hu
set_option maxHeartbeats 2000000 in
set_option maxRecDepth 10000 in
theorem part73 (g B : Nat) (l : List V) (j : Nat) (x : V) (hx : l[j]? = some x) (hl : l.length ≤ 64) (H : Nat) (ga oa lc : Nat) (k : Nat) (b : Bool) (n : Int) (s : ByteArray) (fo : Option Addr) (fl fc : Nat) (o : List UInt8) (v : Value) (W : World)
    (hp : W.heap[B]? = some (.cells #[.pointer (some ⟨g, 0, none⟩)] 93 (0, 0)))
    (hv : W.heap[B + 1]? = some (.cells #[.int .u8 (k : Int), .bool b, .int .i64 n, .string s, .slice (some ⟨ga, oa, none⟩) l.length lc, .slice fo fl fc] 26 (0, 0)))
    (hr : RepL W H ga oa l) (C : ∀ xv W', Rep W H x xv → Below W.heap.size W W' → Calls Tryd.prog 42 #[.pointer (some ⟨g, 0, none⟩), xv] W' fun e w' => e = .returned (.tuple #[]) ∧ ∃ v2, Out g (Bn.wr x o) v2 w' ∧ Wrote g v v2 W w') :
    Calls Tryd.prog 73 #[.int .i64 (j : Int), .pointer (some ⟨B, 0, none⟩), .pointer (some ⟨B + 1, 0, none⟩)] W fun e w' => e = .returned (.tuple #[]) ∧ ∃ v2, Out g (Bn.wr x o) v2 w' ∧ Wrote g v v2 W w' := by
  have hjl : j < l.length := (List.getElem?_eq_some_iff.1 hx).1
  obtain ⟨c0, c1, c2, c3, c4, c5, ⟨d0, d1, d2, d3, d4, d5⟩, hrx⟩ := repL_at l oa hr j x hx
  obtain ⟨xk, xb, xn, xs, xa, xl, xc, ya, yl, yc, rfl, rfl, rfl, rfl, rfl, rfl⟩ := rep_form hrx
  have C42 : Hid (∀ W', Below W.heap.size W W' → Calls Tryd.prog 42 #[.pointer (some ⟨g, 0, none⟩), .agg #[.int .u8 (xk : Int), .bool xb, .int .i64 xn, .string xs, .slice xa xl xc, .slice ya yl yc]] W' fun e w' => e = .returned (.tuple #[]) ∧ ∃ v2, Out g (Bn.wr x o) v2 w' ∧ Wrote g v v2 W w') := fun W' hW => C _ W' hrx hW
  obtain ⟨m, hm⟩ : ∃ m, m = l.length := ⟨_, rfl⟩
  rw [← hm] at hv hjl
  have hm64 : m ≤ 64 := by omega
  have p0 := block_cells hp 0 _ rfl
  have v4 := block_cells hv 4 _ rfl
  clear hp hv hr C hrx hx hl hm
  go_enter Tryd.func73, Tryd.ntmps73
  go_region_law (first
    | (go_simp; go_at_call 42; refine (C42.out _ ?_).mono ?_; (first | exact Below.refl _ _ | exact (Below.refl _ _).drew); rintro e w4 ⟨rfl, v2, h4, h5⟩
       have R4 : Hid (Out g (Bn.wr x o) v2 w4) := h4
       have R5 : Hid (Wrote g v v2 W w4) := h5
       clear h4 h5))
  all_goals
    go_end0
    exact ⟨rfl, v2, R4.out, R5.out⟩
set_option maxHeartbeats 2000000 in
set_option maxRecDepth 10000 in
theorem part74 (g B : Nat) (f : List (ByteArray × V)) (j : Nat) (m : ByteArray) (x : V) (hx : f[j]? = some (m, x)) (hl : f.length ≤ 64) (H : Nat) (ga oa fc : Nat) (k : Nat) (b : Bool) (n : Int) (s : ByteArray) (lo : Option Addr) (ll lc : Nat) (o : List UInt8) (ho : o.length ≤ 16384) (hms : m.size ≤ 65536) (v : Value) (W : World)
    (hout : Out g o v W) (hg : g < B) (hB : B + 1 < W.heap.size) (hne : v.ownBlock ≠ some B ∧ v.ownBlock ≠ some (B + 1))
    (hp : W.heap[B]? = some (.cells #[.pointer (some ⟨g, 0, none⟩)] 93 (0, 0)))
    (hv : W.heap[B + 1]? = some (.cells #[.int .u8 (k : Int), .bool b, .int .i64 n, .string s, .slice lo ll lc, .slice (some ⟨ga, oa, none⟩) f.length fc] 26 (0, 0)))
    (hH : H ≤ g) (hga : ga < H) (hr : RepF W H ga oa f) (C : ∀ xv v1 W1 W', Rep W1 H x xv → Out g (o ++ Bn.text m) v1 W1 → Wrote g v v1 W W1 → Below W1.heap.size W1 W' → Calls Tryd.prog 42 #[.pointer (some ⟨g, 0, none⟩), xv] W' fun e w' => e = .returned (.tuple #[]) ∧ ∃ v2, Out g (Bn.wr x (o ++ Bn.text m)) v2 w' ∧ Wrote g v v2 W w') :
    Calls Tryd.prog 74 #[.int .i64 (j : Int), .pointer (some ⟨B, 0, none⟩), .pointer (some ⟨B + 1, 0, none⟩)] W fun e w' => e = .returned (.tuple #[]) ∧ ∃ v2, Out g (Bn.wr x (o ++ Bn.text m)) v2 w' ∧ Wrote g v v2 W w' := by
  have hjl : j < f.length := (List.getElem?_eq_some_iff.1 hx).1
  have C71 : Hid (∀ W', Below W.heap.size W W' → Calls Tryd.prog 71 #[.pointer (some ⟨g, 0, none⟩), .string m] W' fun e w' => e = .returned (.tuple #[]) ∧ ∃ v', Out g (o ++ Bn.text m) v' w' ∧ Wrote g v v' W w') := fun W' hW =>
    (text71 g o (by omega) m (by omega) v W' (hout.call hW)).mono (fun e w' ⟨h1, v', h2, h3⟩ => ⟨h1, v', h2, h3.after hW⟩)
  obtain ⟨d00, hm0, c0, c1, c2, c3, c4, c5, ⟨d0, d1, d2, d3, d4, d5⟩, hrx⟩ := repF_at f oa hr j m x hx
  obtain ⟨q, hq⟩ : ∃ q, q = f.length := ⟨_, rfl⟩
  have HP : Hid (W.heap[B]? = some (.cells #[.pointer (some ⟨g, 0, none⟩)] 93 (0, 0))) := hp
  have HV : Hid (W.heap[B + 1]? = some (.cells #[.int .u8 (k : Int), .bool b, .int .i64 n, .string s, .slice lo ll lc, .slice (some ⟨ga, oa, none⟩) q fc] 26 (0, 0))) := by show _ = _; rw [hq]; exact hv
  have HST : Hid (∀ v1 W1, Wrote g v v1 W W1 → W1.heap[B]? = W.heap[B]? ∧ W1.heap[B + 1]? = W.heap[B + 1]? ∧ Below H W W1) := fun v1 W1 h =>
    ⟨h.block B (by omega) (by omega) hne.1, h.block (B + 1) (by omega) (by omega) hne.2, (h.below hout).mono hH⟩
  have HR : Hid (RepF W H ga oa f) := hr
  have HX : Hid (f[j]? = some (m, x)) := hx
  have HCC : Hid (∀ xv v1 W1 W', Rep W1 H x xv → Out g (o ++ Bn.text m) v1 W1 → Wrote g v v1 W W1 → Below W1.heap.size W1 W' → Calls Tryd.prog 42 #[.pointer (some ⟨g, 0, none⟩), xv] W' fun e w' => e = .returned (.tuple #[]) ∧ ∃ v2, Out g (Bn.wr x (o ++ Bn.text m)) v2 w' ∧ Wrote g v v2 W w') := C
  rw [← hq] at hv hjl
  have hq64 : q ≤ 64 := by omega
  have p0 := block_cells hp 0 _ rfl
  have v5 := block_cells hv 5 _ rfl
  clear hp hv hr C hrx hx hl hq d0 d1 d2 d3 d4 d5 hm0 hout hg hB hne hH ho hms
  go_enter Tryd.func74, Tryd.ntmps74
  go_wp2
  go_region_law (first
    | (go_simp; go_at_call 71; refine (C71.out _ ?_).mono ?_; (first | exact Below.refl _ _ | exact (Below.refl _ _).drew); rintro e w4 ⟨rfl, v2, h4, h5⟩
       have R4 : Hid (Out g (o ++ Bn.text m) v2 w4) := h4
       have R5 : Hid (Wrote g v v2 W w4) := h5
       clear h4 h5))
  all_goals
    obtain ⟨b1, b2, b3⟩ := HST.out v2 w4 R5.out
    have p0 := block_cells (b1.trans HP.out) 0 _ rfl
    have v5 := block_cells (b2.trans HV.out) 5 _ rfl
    obtain ⟨d00, hm0, c0, c1, c2, c3, c4, c5, ⟨d0, d1, d2, d3, d4, d5⟩, hrx⟩ := repF_at f oa (repF_stays b3 (Nat.le_refl _) hga f oa HR.out) j m x HX.out
    rw [show oa + j * 7 + 1 + 1 = oa + j * 7 + 2 by omega] at d1
    rw [show oa + j * 7 + 1 + 2 = oa + j * 7 + 3 by omega] at d2
    rw [show oa + j * 7 + 1 + 3 = oa + j * 7 + 4 by omega] at d3
    rw [show oa + j * 7 + 1 + 4 = oa + j * 7 + 5 by omega] at d4
    rw [show oa + j * 7 + 1 + 5 = oa + j * 7 + 6 by omega] at d5
    obtain ⟨xk, xb, xn, xs, xa, xl, xc, ya, yl, yc, rfl, rfl, rfl, rfl, rfl, rfl⟩ := rep_form hrx
    have C42 : Hid (∀ W', Below w4.heap.size w4 W' → Calls Tryd.prog 42 #[.pointer (some ⟨g, 0, none⟩), .agg #[.int .u8 (xk : Int), .bool xb, .int .i64 xn, .string xs, .slice xa xl xc, .slice ya yl yc]] W' fun e w' => e = .returned (.tuple #[]) ∧ ∃ v2, Out g (Bn.wr x (o ++ Bn.text m)) v2 w' ∧ Wrote g v v2 W w') := fun W' hW => HCC.out _ v2 w4 W' hrx R4.out R5.out hW
    clear hrx b1 b2 b3 hm0 R4 R5
    go_wp2
    go_region_law (first
      | (go_simp; go_at_call 42; refine (C42.out _ ?_).mono ?_; (first | exact Below.refl _ _ | exact (Below.refl _ _).drew); rintro e w6 ⟨rfl, v6, h4, h5⟩
         have R6 : Hid (Out g (Bn.wr x (o ++ Bn.text m)) v6 w6) := h4
         have R7 : Hid (Wrote g v v6 W w6) := h5
         clear h4 h5))
    all_goals
      go_end0
      exact ⟨rfl, v6, R6.out, R7.out⟩
end Go.Proofs.YtbogggnnmbjlfaaDoor
