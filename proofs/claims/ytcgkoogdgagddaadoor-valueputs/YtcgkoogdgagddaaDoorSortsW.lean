/- The law ValueSorts, walked: it answers true whatever the values and names. -/
import Derived.Test.YtcgkoogdgagddaaDoorSortsM
import Derived.Test.YtcgkoogdgagddaaDoorPutW
import Derived.Test.YtcgkoogdgagddaaDoorOrderX
namespace Go.Proofs.YtcgkoogdgagddaaDoor
open Go.RowKit
open Vl (V)
theorem fin6s {W : World} {b : Nat} {u0 u1 u2 u3 u4 u5 : Value} (h : Row6 W b u0 u1 u2 u3 u4 u5) (v0 v1 v2 v3 v4 v5 : Value) :
    Row6 ((((((W.setCell ⟨b, 0, none⟩ v0).setCell ⟨b, 1, none⟩ v1).setCell ⟨b, 2, none⟩ v2).setCell ⟨b, 3, none⟩ v3).setCell ⟨b, 4, none⟩ v4).setCell ⟨b, 5, none⟩ v5) b v0 v1 v2 v3 v4 v5 ∧
    (∀ g, g ≠ b → ((((((W.setCell ⟨b, 0, none⟩ v0).setCell ⟨b, 1, none⟩ v1).setCell ⟨b, 2, none⟩ v2).setCell ⟨b, 3, none⟩ v3).setCell ⟨b, 4, none⟩ v4).setCell ⟨b, 5, none⟩ v5).heap[g]? = W.heap[g]?) ∧
    ((((((W.setCell ⟨b, 0, none⟩ v0).setCell ⟨b, 1, none⟩ v1).setCell ⟨b, 2, none⟩ v2).setCell ⟨b, 3, none⟩ v3).setCell ⟨b, 4, none⟩ v4).setCell ⟨b, 5, none⟩ v5).heap.size = W.heap.size ∧
    (∀ B A, Below B A W → B ≤ b → Below B A ((((((W.setCell ⟨b, 0, none⟩ v0).setCell ⟨b, 1, none⟩ v1).setCell ⟨b, 2, none⟩ v2).setCell ⟨b, 3, none⟩ v3).setCell ⟨b, 4, none⟩ v4).setCell ⟨b, 5, none⟩ v5)) := by
  rw [sets6]
  refine ⟨⟨by rw [size_setCells']; exact h.1, ?_⟩, fun g hg => heap_setCells_ne b g hg _ _ _, size_setCells' b _ _ _, fun B A hb hle => below_setCells hle _ _ hb⟩
  rw [heap_setCells_put b 26 [v0, v1, v2, v3, v4, v5] 0 W _ h.2, putAll6]
theorem OS.set {w W W' : World} {H B : Nat} {a b c : V} {a0 a1 a2 a3 a4 a5 b0 b1 b2 b3 b4 b5 c0 c1 c2 c3 c4 c5 : Value} (h : OS w W H a b c a0 a1 a2 a3 a4 a5 b0 b1 b2 b3 b4 b5 c0 c1 c2 c3 c4 c5) (hT : HasT w) (hB : w.heap.size + 1 + 1 < B) (hne : ∀ g, g ≠ B → W'.heap[g]? = W.heap[g]?) (hs : W'.heap.size = W.heap.size) (hbl : ∀ K A, Below K A W → K ≤ B → Below K A W') : OS w W' H a b c a0 a1 a2 a3 a4 a5 b0 b1 b2 b3 b4 b5 c0 c1 c2 c3 c4 c5 := by
  have hl := h.low
  have hb := hbl _ _ h.below (by omega)
  have hr := hbl H W (Below.refl _ _) (by omega)
  exact ⟨hb, h.low, hT.stays hb, ⟨by rw [hs]; exact h.ra.1, (hne _ (by omega)).trans h.ra.2⟩, ⟨by rw [hs]; exact h.rb.1, (hne _ (by omega)).trans h.rb.2⟩, ⟨by rw [hs]; exact h.rc.1, (hne _ (by omega)).trans h.rc.2⟩, rep_stays hr (Nat.le_refl _) a _ h.va, rep_stays hr (Nat.le_refl _) b _ h.vb, rep_stays hr (Nat.le_refl _) c _ h.vc⟩
/-- a value in a box of its own, its rows in blocks of a kind -/
structure BX (W : World) (B : Nat) (A : Nat → Prop) (t : V) (c0 c1 c2 c3 c4 c5 : Value) : Prop where
  row : Row6 W B c0 c1 c2 c3 c4 c5
  rep : RepA W A t (.agg #[c0, c1, c2, c3, c4, c5])
theorem BX.call {W W' : World} {B : Nat} {A : Nat → Prop} {t : V} {c0 c1 c2 c3 c4 c5 : Value} (h : BX W B A t c0 c1 c2 c3 c4 c5) (hA : ∀ g, A g → g < W.heap.size) (hb : Below W.heap.size W W') : BX W' B A t c0 c1 c2 c3 c4 c5 :=
  ⟨h.row.call hb, repA_stays (fun g hg => hb.block g (hA g hg)) (fun _ hg => hg) t _ h.rep⟩
theorem BX.set {W W' : World} {B B' : Nat} {A : Nat → Prop} {t : V} {c0 c1 c2 c3 c4 c5 : Value} (h : BX W B A t c0 c1 c2 c3 c4 c5) (hB : B ≠ B') (hA : ∀ g, A g → g ≠ B') (hne : ∀ g, g ≠ B' → W'.heap[g]? = W.heap[g]?) (hs : W'.heap.size = W.heap.size) : BX W' B A t c0 c1 c2 c3 c4 c5 :=
  ⟨⟨by rw [hs]; exact h.row.1, (hne _ hB).trans h.row.2⟩, repA_stays (fun g hg => hne g (hA g hg)) (fun _ hg => hg) t _ h.rep⟩
set_option maxHeartbeats 4000000 in
set_option maxRecDepth 100000 in
theorem put15_none (name : ByteArray) (k : Nat) (hk : k ≠ 6) (b : Bool) (n : Int) (s : ByteArray) (ao : Option Addr) (ll lc : Nat) (fo : Option Addr) (fl fc : Nat) (xk : Nat) (xb : Bool) (xn : Int) (xs : ByteArray) (xa : Option Addr) (xl xc : Nat) (xf : Option Addr) (xm xq : Nat) (w : World) :
    Calls Tryd.prog 15 #[.agg #[.int .u8 (k : Int), .bool b, .int .i64 n, .string s, .slice ao ll lc, .slice fo fl fc], .string name, .agg #[.int .u8 (xk : Int), .bool xb, .int .i64 xn, .string xs, .slice xa xl xc, .slice xf xm xq]] w fun e w' => e = .returned (.tuple #[.agg #[.int .u8 0, .bool false, .int .i64 0, .string ⟨#[]⟩, .slice none 0 0, .slice none 0 0], .int .i64 5]) ∧ Below w.heap.size w w' := by
  have j6 : ((k : Int) == 6) = false := by simp; omega
  go_enter Tryd.func15, Tryd.ntmps15
  go_wp2
  refine bodyPost_ret (results_put _ (w.heap.size + 1 + 1 + 1) _ _ _ _ _ _ ?_ _ (by rfl) 5 (by rfl)) rfl ⟨rfl, (below_new2 _ _ _).trans ((below_new2 _ _ _).mono (by simp; omega))⟩
  have := heap_alloc_new (((w.alloc (.cells #[.int .u8 (k : Int), .bool b, .int .i64 n, .string s, .slice ao ll lc, .slice fo fl fc] 26)).alloc (.cells #[.string name] 9)).alloc (.cells #[.int .u8 (xk : Int), .bool xb, .int .i64 xn, .string xs, .slice xa xl xc, .slice xf xm xq] 26)) (.cells #[.int .u8 0, .bool false, .int .i64 0, .string ⟨#[]⟩, .slice none 0 0, .slice none 0 0] 26)
  simpa using this
set_option maxHeartbeats 16000000 in
set_option maxRecDepth 100000 in
theorem sorts5_other (k : Nat) (hk : k ≠ 6) (b : Bool) (n : Int) (s : ByteArray) (l : List V) (f : List (ByteArray × V)) (x y : V) (na nb : ByteArray) (w : World) (hT : HasT w) (H : Nat) (va vx vy : Value) (hH : H ≤ w.heap.size) (ha : Rep w H ⟨k, b, n, s, l, f⟩ va) (hx : Rep w H x vx) (hy : Rep w H y vy) :
    Calls Tryd.prog 5 #[va, .string na, .string nb, vx, vy] w fun e w' => e = .returned (.bool true) ∧ Below w.heap.size w w' := by
  have ha' := ha
  rw [Rep] at ha'
  obtain ⟨xa, xc, xf, xq, rfl, _⟩ := ha'
  obtain ⟨yk, yb, yn, ys, ya, yl, yc, yf, ym, yq, yv⟩ := repA_form (rep_repA x vx hx)
  obtain ⟨zk, zb, zn, zs, za, zl, zc, zf, zm, zq, zv⟩ := repA_form (rep_repA y vy hy)
  subst yv zv
  obtain ⟨t, ht⟩ : ∃ t : V, t = ⟨k, b, n, s, l, f⟩ := ⟨_, rfl⟩
  rw [← ht] at ha
  obtain ⟨xl, hxl⟩ : ∃ n, n = l.length := ⟨_, rfl⟩
  obtain ⟨xm, hxm⟩ : ∃ n, n = f.length := ⟨_, rfl⟩
  rw [← hxl, ← hxm] at ha ⊢
  have S0 : Hid (OS w (((w.alloc (.cells #[.int .u8 (k : Int), .bool b, .int .i64 n, .string s, .slice xa xl xc, .slice xf xm xq] 26)).alloc (.cells #[.int .u8 (yk : Int), .bool yb, .int .i64 yn, .string ys, .slice ya yl yc, .slice yf ym yq] 26)).alloc (.cells #[.int .u8 (zk : Int), .bool zb, .int .i64 zn, .string zs, .slice za zl zc, .slice zf zm zq] 26)) H t x y (.int .u8 (k : Int)) (.bool b) (.int .i64 n) (.string s) (.slice xa xl xc) (.slice xf xm xq) (.int .u8 (yk : Int)) (.bool yb) (.int .i64 yn) (.string ys) (.slice ya yl yc) (.slice yf ym yq) (.int .u8 (zk : Int)) (.bool zb) (.int .i64 zn) (.string zs) (.slice za zl zc) (.slice zf zm zq)) := OS.mk3 hT hH ha hx hy
  clear hT ha hx hy ht hxl hxm
  go_enter Tryd.func5, Tryd.ntmps5
  go_wp2_with fail
  refine (lives9 _ S0.out.t).mono ?_
  rintro e w1 ⟨rfl, hb1⟩
  have S1 : Hid (OS w w1 H t x y (.int .u8 (k : Int)) (.bool b) (.int .i64 n) (.string s) (.slice xa xl xc) (.slice xf xm xq) (.int .u8 (yk : Int)) (.bool yb) (.int .i64 yn) (.string ys) (.slice ya yl yc) (.slice yf ym yq) (.int .u8 (zk : Int)) (.bool zb) (.int .i64 zn) (.string zs) (.slice za zl zc) (.slice zf zm zq)) := S0.out.call hb1
  clear hb1 S0
  obtain ⟨i0, i1, i2, i3, i4, i5⟩ := S1.out.ra.cells
  obtain ⟨j0, j1, j2, j3, j4, j5⟩ := S1.out.rb.cells
  go_wp2_with fail
  refine (put15_none na k hk b n s xa xl xc xf xm xq yk yb yn ys ya yl yc yf ym yq _).mono ?_
  rintro e w2 ⟨rfl, hb2⟩
  have S3 : Hid (OS w (w2.alloc (.cells #[.int .u8 0, .bool false, .int .i64 0, .string ⟨#[]⟩, .slice none 0 0, .slice none 0 0] 26)) H t x y (.int .u8 (k : Int)) (.bool b) (.int .i64 n) (.string s) (.slice xa xl xc) (.slice xf xm xq) (.int .u8 (yk : Int)) (.bool yb) (.int .i64 yn) (.string ys) (.slice ya yl yc) (.slice yf ym yq) (.int .u8 (zk : Int)) (.bool zb) (.int .i64 zn) (.string zs) (.slice za zl zc) (.slice zf zm zq)) := (S1.out.call hb2).call (below_new _ _)
  clear hb2 S1 i0 i1 i2 i3 i4 i5 j0 j1 j2 j3 j4 j5
  obtain ⟨i0, i1, i2, i3, i4, i5⟩ := S3.out.ra.cells
  obtain ⟨k0, k1, k2, k3, k4, k5⟩ := S3.out.rc.cells
  go_upto_region 4 with fail
  obtain ⟨w3, hw3⟩ : ∃ w3, w3 = w2.alloc (.cells #[.int .u8 0, .bool false, .int .i64 0, .string ⟨#[]⟩, .slice none 0 0, .slice none 0 0] 26) := ⟨_, rfl⟩
  rw [← hw3] at S3 i0 i1 i2 i3 i4 i5 k0 k1 k2 k3 k4 k5 ⊢
  clear hw3
  go_wp2_with fail
  refine (put15_none nb k hk b n s xa xl xc xf xm xq zk zb zn zs za zl zc zf zm zq _).mono ?_
  rintro e w4 ⟨rfl, hb4⟩
  have HB : Hid (Below w.heap.size w (w4.alloc (.cells #[.int .u8 0, .bool false, .int .i64 0, .string ⟨#[]⟩, .slice none 0 0, .slice none 0 0] 26))) := ((S3.out.call hb4).call (below_new _ _)).below
  clear hb4 S3 i0 i1 i2 i3 i4 i5 k0 k1 k2 k3 k4 k5
  go_wp2
  exact ⟨rfl, _, results_tmp (by rfl) _ _ _, rfl, HB.out⟩
set_option maxHeartbeats 16000000 in
set_option maxRecDepth 100000 in
theorem sorts5_struct (b : Bool) (n : Int) (s : ByteArray) (l : List V) (f : List (ByteArray × V)) (hts : Vl.small ⟨6, b, n, s, l, f⟩) (hfl : f.length ≤ 1466015503658) (x y : V) (hxs : Vl.small x) (hys : Vl.small y) (na nb : ByteArray) (hna : na.size ≤ 140737488351232) (hnb : nb.size ≤ 140737488351232) (w : World) (hT : HasT w) (H : Nat) (va vx vy : Value) (hH : H ≤ w.heap.size) (ha : Rep w H ⟨6, b, n, s, l, f⟩ va) (hx : Rep w H x vx) (hy : Rep w H y vy) :
    Calls Tryd.prog 5 #[va, .string na, .string nb, vx, vy] w fun e w' => e = .returned (.bool true) ∧ Below w.heap.size w w' := by
  have ha' := ha
  rw [Rep] at ha'
  obtain ⟨xa, xc, xf, xq, rfl, _⟩ := ha'
  obtain ⟨yk, yb, yn, ys, ya, yl, yc, yf, ym, yq, yv⟩ := repA_form (rep_repA x vx hx)
  obtain ⟨zk, zb, zn, zs, za, zl, zc, zf, zm, zq, zv⟩ := repA_form (rep_repA y vy hy)
  subst yv zv
  obtain ⟨t, ht⟩ : ∃ t : V, t = ⟨6, b, n, s, l, f⟩ := ⟨_, rfl⟩
  obtain ⟨tp, htp⟩ : ∃ t : V, t = ⟨6, b, n, s, l, Vl.putF f na x⟩ := ⟨_, rfl⟩
  obtain ⟨tq, htq⟩ : ∃ t : V, t = ⟨6, b, n, s, l, Vl.putF f nb y⟩ := ⟨_, rfl⟩
  obtain ⟨tp2, htp2⟩ : ∃ t : V, t = ⟨6, b, n, s, l, Vl.putF (Vl.putF f na x) nb y⟩ := ⟨_, rfl⟩
  obtain ⟨tq2, htq2⟩ : ∃ t : V, t = ⟨6, b, n, s, l, Vl.putF (Vl.putF f nb y) na x⟩ := ⟨_, rfl⟩
  have sp := Vl.put_small hts (by omega) hna hxs
  have sq := Vl.put_small hts (by omega) hnb hys
  have lp := Vl.putF_len f na x
  have lq := Vl.putF_len f nb y
  have SP2 : Hid (Vl.small tp2) := by show Vl.small _; rw [htp2]; exact Vl.put_small sp (by omega) hnb hys
  obtain ⟨xl, hxl⟩ : ∃ n, n = l.length := ⟨_, rfl⟩
  obtain ⟨xm, hxm⟩ : ∃ n, n = f.length := ⟨_, rfl⟩
  have P1 : Hid (∀ W, OS w W H t x y (.int .u8 6) (.bool b) (.int .i64 n) (.string s) (.slice xa xl xc) (.slice xf xm xq) (.int .u8 (yk : Int)) (.bool yb) (.int .i64 yn) (.string ys) (.slice ya yl yc) (.slice yf ym yq) (.int .u8 (zk : Int)) (.bool zb) (.int .i64 zn) (.string zs) (.slice za zl zc) (.slice zf zm zq) → Calls Tryd.prog 15 #[.agg #[.int .u8 6, .bool b, .int .i64 n, .string s, .slice xa xl xc, .slice xf xm xq], .string na, .agg #[.int .u8 (yk : Int), .bool yb, .int .i64 yn, .string ys, .slice ya yl yc, .slice yf ym yq]] W fun e w' => ∃ v', e = .returned (.tuple #[v', .int .i64 0]) ∧ Below W.heap.size W w' ∧ RepA w' (fun g => W.heap.size ≤ g ∧ g < w'.heap.size) tp v') := fun W hW => by
    rw [htp]; exact put15 na hna x hxs b n s l f hts (by omega) W H _ _ (Nat.le_trans hW.low hW.below.size) (by rw [← ht]; exact hW.va) hW.vb
  have P2 : Hid (∀ W, OS w W H t x y (.int .u8 6) (.bool b) (.int .i64 n) (.string s) (.slice xa xl xc) (.slice xf xm xq) (.int .u8 (yk : Int)) (.bool yb) (.int .i64 yn) (.string ys) (.slice ya yl yc) (.slice yf ym yq) (.int .u8 (zk : Int)) (.bool zb) (.int .i64 zn) (.string zs) (.slice za zl zc) (.slice zf zm zq) → Calls Tryd.prog 15 #[.agg #[.int .u8 6, .bool b, .int .i64 n, .string s, .slice xa xl xc, .slice xf xm xq], .string nb, .agg #[.int .u8 (zk : Int), .bool zb, .int .i64 zn, .string zs, .slice za zl zc, .slice zf zm zq]] W fun e w' => ∃ v', e = .returned (.tuple #[v', .int .i64 0]) ∧ Below W.heap.size W w' ∧ RepA w' (fun g => W.heap.size ≤ g ∧ g < w'.heap.size) tq v') := fun W hW => by
    rw [htq]; exact put15 nb hnb y hys b n s l f hts (by omega) W H _ _ (Nat.le_trans hW.low hW.below.size) (by rw [← ht]; exact hW.va) hW.vc
  have P3 : Hid (∀ W K v, OS w W H t x y (.int .u8 6) (.bool b) (.int .i64 n) (.string s) (.slice xa xl xc) (.slice xf xm xq) (.int .u8 (yk : Int)) (.bool yb) (.int .i64 yn) (.string ys) (.slice ya yl yc) (.slice yf ym yq) (.int .u8 (zk : Int)) (.bool zb) (.int .i64 zn) (.string zs) (.slice za zl zc) (.slice zf zm zq) → H ≤ K → K ≤ W.heap.size → Rep W K tp v → Calls Tryd.prog 15 #[v, .string nb, .agg #[.int .u8 (zk : Int), .bool zb, .int .i64 zn, .string zs, .slice za zl zc, .slice zf zm zq]] W fun e w' => ∃ v', e = .returned (.tuple #[v', .int .i64 0]) ∧ Below W.heap.size W w' ∧ RepA w' (fun g => W.heap.size ≤ g ∧ g < w'.heap.size) tp2 v') := fun W K v hW h1 h2 hr => by
    rw [htp2]; exact put15 nb hnb y hys b n s l _ sp (by omega) W K _ _ h2 (by rw [← htp]; exact hr) (rep_stays (Below.refl _ _) h1 y _ hW.vc)
  have P4 : Hid (∀ W K v, OS w W H t x y (.int .u8 6) (.bool b) (.int .i64 n) (.string s) (.slice xa xl xc) (.slice xf xm xq) (.int .u8 (yk : Int)) (.bool yb) (.int .i64 yn) (.string ys) (.slice ya yl yc) (.slice yf ym yq) (.int .u8 (zk : Int)) (.bool zb) (.int .i64 zn) (.string zs) (.slice za zl zc) (.slice zf zm zq) → H ≤ K → K ≤ W.heap.size → Rep W K tq v → Calls Tryd.prog 15 #[v, .string na, .agg #[.int .u8 (yk : Int), .bool yb, .int .i64 yn, .string ys, .slice ya yl yc, .slice yf ym yq]] W fun e w' => ∃ v', e = .returned (.tuple #[v', .int .i64 0]) ∧ Below W.heap.size W w' ∧ RepA w' (fun g => W.heap.size ≤ g ∧ g < w'.heap.size) tq2 v') := fun W K v hW h1 h2 hr => by
    rw [htq2]; exact put15 na hna x hxs b n s l _ sq (by omega) W K _ _ h2 (by rw [← htq]; exact hr) (rep_stays (Below.refl _ _) h1 x _ hW.vb)
  obtain ⟨ck, hck⟩ : ∃ k, k = Vl.check utf 0 t := ⟨_, rfl⟩
  have CK : Hid (∀ W, OS w W H t x y (.int .u8 6) (.bool b) (.int .i64 n) (.string s) (.slice xa xl xc) (.slice xf xm xq) (.int .u8 (yk : Int)) (.bool yb) (.int .i64 yn) (.string ys) (.slice ya yl yc) (.slice yf ym yq) (.int .u8 (zk : Int)) (.bool zb) (.int .i64 zn) (.string zs) (.slice za zl zc) (.slice zf zm zq) → Calls Tryd.prog 11 #[.agg #[.int .u8 6, .bool b, .int .i64 n, .string s, .slice xa xl xc, .slice xf xm xq]] W fun e w' => e = .returned (.int .i64 (ck : Int)) ∧ Below W.heap.size W w') := fun W hW => by
    rw [hck]; exact check11 t W hW.t H _ (Nat.le_trans hW.low hW.below.size) hW.va
  have HEQ : Hid (na ≠ nb → ck = 0 → tp2 = tq2) := fun h1 h2 => by
    rw [htp2, htq2, Vl.putF_comm h1 x y (Vl.check_up utf (d := 0) (by rw [← ht, ← hck]; exact h2))]
  have HGET : Hid (na = nb → getV tp2 [nb] = some y) := fun h => by
    show getV _ _ = _
    rw [htp2, getV, stepV, if_neg (by decide), if_pos rfl, Vl.put_got nb y]
    rfl
  have HT : Hid (HasT w) := hT
  have HNB : Hid (nb.size ≤ 140737488351232) := hnb
  rw [← ht, ← hxl, ← hxm] at ha
  rw [← hxl, ← hxm]
  have S0 : Hid (OS w (((w.alloc (.cells #[.int .u8 6, .bool b, .int .i64 n, .string s, .slice xa xl xc, .slice xf xm xq] 26)).alloc (.cells #[.int .u8 (yk : Int), .bool yb, .int .i64 yn, .string ys, .slice ya yl yc, .slice yf ym yq] 26)).alloc (.cells #[.int .u8 (zk : Int), .bool zb, .int .i64 zn, .string zs, .slice za zl zc, .slice zf zm zq] 26)) H t x y (.int .u8 6) (.bool b) (.int .i64 n) (.string s) (.slice xa xl xc) (.slice xf xm xq) (.int .u8 (yk : Int)) (.bool yb) (.int .i64 yn) (.string ys) (.slice ya yl yc) (.slice yf ym yq) (.int .u8 (zk : Int)) (.bool zb) (.int .i64 zn) (.string zs) (.slice za zl zc) (.slice zf zm zq)) := OS.mk3 hT hH ha hx hy
  have HH : Hid (H ≤ w.heap.size) := hH
  clear hT ha hx hy ht hxl hxm htp htq htp2 htq2 sp sq lp lq hck hts hfl hxs hys hna hnb hH
  go_enter Tryd.func5, Tryd.ntmps5
  go_wp2_with fail
  refine (lives9 _ S0.out.t).mono ?_
  rintro e w1 ⟨rfl, hb1⟩
  have S1 : Hid (OS w w1 H t x y (.int .u8 6) (.bool b) (.int .i64 n) (.string s) (.slice xa xl xc) (.slice xf xm xq) (.int .u8 (yk : Int)) (.bool yb) (.int .i64 yn) (.string ys) (.slice ya yl yc) (.slice yf ym yq) (.int .u8 (zk : Int)) (.bool zb) (.int .i64 zn) (.string zs) (.slice za zl zc) (.slice zf zm zq)) := S0.out.call hb1
  clear hb1 S0
  obtain ⟨i0, i1, i2, i3, i4, i5⟩ := S1.out.ra.cells
  obtain ⟨j0, j1, j2, j3, j4, j5⟩ := S1.out.rb.cells
  go_wp2_with fail
  refine (P1.out _ S1.out).mono ?_
  rintro e w2 ⟨v1, rfl, hb2, hr2⟩
  obtain ⟨pk, pb, pn, ps, pa, pl, pc, pf, pm, pq, rfl⟩ := repA_form hr2
  have S3 : Hid (OS w (w2.alloc (.cells #[.int .u8 (pk : Int), .bool pb, .int .i64 pn, .string ps, .slice pa pl pc, .slice pf pm pq] 26)) H t x y (.int .u8 6) (.bool b) (.int .i64 n) (.string s) (.slice xa xl xc) (.slice xf xm xq) (.int .u8 (yk : Int)) (.bool yb) (.int .i64 yn) (.string ys) (.slice ya yl yc) (.slice yf ym yq) (.int .u8 (zk : Int)) (.bool zb) (.int .i64 zn) (.string zs) (.slice za zl zc) (.slice zf zm zq)) := (S1.out.call hb2).call (below_new _ _)
  have X3 : Hid (BX (w2.alloc (.cells #[.int .u8 (pk : Int), .bool pb, .int .i64 pn, .string ps, .slice pa pl pc, .slice pf pm pq] 26)) w2.heap.size (fun g => w1.heap.size ≤ g ∧ g < w2.heap.size) tp (.int .u8 (pk : Int)) (.bool pb) (.int .i64 pn) (.string ps) (.slice pa pl pc) (.slice pf pm pq)) := ⟨⟨by simp, heap_alloc_new w2 _⟩, repA_stays (fun g hg => Below.heap_alloc _ _ _ hg.2) (fun _ hg => hg) _ _ hr2⟩
  have HL1 : Hid (w.heap.size + 1 + 1 < w1.heap.size) := S1.out.rc.1
  have HL2 : Hid (w1.heap.size ≤ w2.heap.size) := hb2.size
  clear hb2 hr2 S1 i0 i1 i2 i3 i4 i5 j0 j1 j2 j3 j4 j5 P1
  go_upto_region 4 with fail
  obtain ⟨w3, hw3⟩ : ∃ w3, w3 = w2.alloc (.cells #[.int .u8 (pk : Int), .bool pb, .int .i64 pn, .string ps, .slice pa pl pc, .slice pf pm pq] 26) := ⟨_, rfl⟩
  obtain ⟨B1, hB1⟩ : ∃ B, B = w2.heap.size := ⟨_, rfl⟩
  rw [← hw3] at S3 X3 ⊢
  rw [← hB1] at X3 HL2 ⊢
  clear hw3 hB1
  obtain ⟨i0, i1, i2, i3, i4, i5⟩ := S3.out.ra.cells
  obtain ⟨k0, k1, k2, k3, k4, k5⟩ := S3.out.rc.cells
  go_wp2_with fail
  refine (P2.out _ S3.out).mono ?_
  rintro e w4 ⟨v2, rfl, hb4, hr4⟩
  obtain ⟨uk, ub, un, us, ua, ul, uc, uf, um, uq, rfl⟩ := repA_form hr4
  have S5 : Hid (OS w (w4.alloc (.cells #[.int .u8 (uk : Int), .bool ub, .int .i64 un, .string us, .slice ua ul uc, .slice uf um uq] 26)) H t x y (.int .u8 6) (.bool b) (.int .i64 n) (.string s) (.slice xa xl xc) (.slice xf xm xq) (.int .u8 (yk : Int)) (.bool yb) (.int .i64 yn) (.string ys) (.slice ya yl yc) (.slice yf ym yq) (.int .u8 (zk : Int)) (.bool zb) (.int .i64 zn) (.string zs) (.slice za zl zc) (.slice zf zm zq)) := (S3.out.call hb4).call (below_new _ _)
  have X5 : Hid (BX (w4.alloc (.cells #[.int .u8 (uk : Int), .bool ub, .int .i64 un, .string us, .slice ua ul uc, .slice uf um uq] 26)) B1 (fun g => w1.heap.size ≤ g ∧ g < B1) tp (.int .u8 (pk : Int)) (.bool pb) (.int .i64 pn) (.string ps) (.slice pa pl pc) (.slice pf pm pq)) := (X3.out.call (fun g hg => by have := X3.out.row.1; omega) hb4).call (fun g hg => by have := X3.out.row.1; have := hb4.size; omega) (below_new _ _)
  have Y5 : Hid (BX (w4.alloc (.cells #[.int .u8 (uk : Int), .bool ub, .int .i64 un, .string us, .slice ua ul uc, .slice uf um uq] 26)) w4.heap.size (fun g => B1 < g ∧ g < w4.heap.size) tq (.int .u8 (uk : Int)) (.bool ub) (.int .i64 un) (.string us) (.slice ua ul uc) (.slice uf um uq)) := ⟨⟨by simp, heap_alloc_new w4 _⟩, repA_stays (fun g hg => Below.heap_alloc _ _ _ hg.2) (fun g hg => ⟨by have := X3.out.row.1; omega, hg.2⟩) _ _ hr4⟩
  have HL4 : Hid (B1 < w4.heap.size) := by have := X3.out.row.1; have := hb4.size; show _ < _; omega
  clear hb4 hr4 S3 X3 i0 i1 i2 i3 i4 i5 k0 k1 k2 k3 k4 k5 P2
  go_upto_region 7 with fail
  obtain ⟨w5, hw5⟩ : ∃ w5, w5 = w4.alloc (.cells #[.int .u8 (uk : Int), .bool ub, .int .i64 un, .string us, .slice ua ul uc, .slice uf um uq] 26) := ⟨_, rfl⟩
  obtain ⟨B2, hB2⟩ : ∃ B, B = w4.heap.size := ⟨_, rfl⟩
  rw [← hw5] at S5 X5 Y5 ⊢
  rw [← hB2] at Y5 HL4 ⊢
  clear hw5 hB2
  obtain ⟨p0, p1, p2, p3, p4, p5⟩ := X5.out.row.cells
  obtain ⟨k0, k1, k2, k3, k4, k5⟩ := S5.out.rc.cells
  have RP : Hid (Rep w5 B1 tp (.agg #[.int .u8 (pk : Int), .bool pb, .int .i64 pn, .string ps, .slice pa pl pc, .slice pf pm pq])) := repA_rep (fun g hg => hg.2) _ _ X5.out.rep
  go_wp2_with fail
  refine (P3.out _ B1 _ S5.out (by have h1 := HH.out; have h2 := HL1.out; have h3 := HL2.out; omega) (by have := X5.out.row.1; omega) RP.out).mono ?_
  rintro e w6 ⟨v3, rfl, hb6, hr6⟩
  obtain ⟨ok, ob, on, os, oa, ol, oc, of, om, oq, rfl⟩ := repA_form hr6
  have S6 : Hid (OS w w6 H t x y (.int .u8 6) (.bool b) (.int .i64 n) (.string s) (.slice xa xl xc) (.slice xf xm xq) (.int .u8 (yk : Int)) (.bool yb) (.int .i64 yn) (.string ys) (.slice ya yl yc) (.slice yf ym yq) (.int .u8 (zk : Int)) (.bool zb) (.int .i64 zn) (.string zs) (.slice za zl zc) (.slice zf zm zq)) := S5.out.call hb6
  have X6 := X5.out.call (fun g hg => by have := X5.out.row.1; omega) hb6
  have Y6 := Y5.out.call (fun g hg => by have := Y5.out.row.1; omega) hb6
  obtain ⟨f1, f2, f3, f4⟩ := fin6s X6.row (.int .u8 (ok : Int)) (.bool ob) (.int .i64 on) (.string os) (.slice oa ol oc) (.slice of om oq)
  have S7 : Hid (OS w ((((((w6.setCell ⟨B1, 0, none⟩ (.int .u8 (ok : Int))).setCell ⟨B1, 1, none⟩ (.bool ob)).setCell ⟨B1, 2, none⟩ (.int .i64 on)).setCell ⟨B1, 3, none⟩ (.string os)).setCell ⟨B1, 4, none⟩ (.slice oa ol oc)).setCell ⟨B1, 5, none⟩ (.slice of om oq)) H t x y (.int .u8 6) (.bool b) (.int .i64 n) (.string s) (.slice xa xl xc) (.slice xf xm xq) (.int .u8 (yk : Int)) (.bool yb) (.int .i64 yn) (.string ys) (.slice ya yl yc) (.slice yf ym yq) (.int .u8 (zk : Int)) (.bool zb) (.int .i64 zn) (.string zs) (.slice za zl zc) (.slice zf zm zq)) := S6.out.set HT.out (by have h1 := HL1.out; have h2 := HL2.out; omega) f2 f3 f4
  have Y7 : Hid (BX ((((((w6.setCell ⟨B1, 0, none⟩ (.int .u8 (ok : Int))).setCell ⟨B1, 1, none⟩ (.bool ob)).setCell ⟨B1, 2, none⟩ (.int .i64 on)).setCell ⟨B1, 3, none⟩ (.string os)).setCell ⟨B1, 4, none⟩ (.slice oa ol oc)).setCell ⟨B1, 5, none⟩ (.slice of om oq)) B2 (fun g => B1 < g ∧ g < B2) tq (.int .u8 (uk : Int)) (.bool ub) (.int .i64 un) (.string us) (.slice ua ul uc) (.slice uf um uq)) := Y6.set (by have := HL4.out; omega) (fun g hg => by omega) f2 f3
  have X7 : Hid (BX ((((((w6.setCell ⟨B1, 0, none⟩ (.int .u8 (ok : Int))).setCell ⟨B1, 1, none⟩ (.bool ob)).setCell ⟨B1, 2, none⟩ (.int .i64 on)).setCell ⟨B1, 3, none⟩ (.string os)).setCell ⟨B1, 4, none⟩ (.slice oa ol oc)).setCell ⟨B1, 5, none⟩ (.slice of om oq)) B1 (fun g => B2 < g ∧ g < w6.heap.size) tp2 (.int .u8 (ok : Int)) (.bool ob) (.int .i64 on) (.string os) (.slice oa ol oc) (.slice of om oq)) := ⟨f1, repA_stays (fun g hg => f2 g (by have h1 := HL4.out; have h2 := Y5.out.row.1; omega)) (fun g hg => ⟨by have h2 := Y5.out.row.1; omega, hg.2⟩) _ _ hr6⟩
  have HZ7 : Hid (((((((w6.setCell ⟨B1, 0, none⟩ (.int .u8 (ok : Int))).setCell ⟨B1, 1, none⟩ (.bool ob)).setCell ⟨B1, 2, none⟩ (.int .i64 on)).setCell ⟨B1, 3, none⟩ (.string os)).setCell ⟨B1, 4, none⟩ (.slice oa ol oc)).setCell ⟨B1, 5, none⟩ (.slice of om oq)).heap.size = w6.heap.size) := f3
  obtain ⟨g0, g1, g2, g3, g4, g5⟩ := X6.row.cells
  have fzp := X6.row.free
  have ltp := X6.row.1
  have HY6 : Hid (B2 < w6.heap.size) := Y6.row.1
  clear hb6 hr6 S5 X5 Y5 X6 Y6 S6 f1 f2 f3 f4 p0 p1 p2 p3 p4 p5 k0 k1 k2 k3 k4 k5 RP P3
  go_upto_region 8 with fail
  obtain ⟨w7, hw7⟩ : ∃ w7, w7 = ((((((w6.setCell ⟨B1, 0, none⟩ (.int .u8 (ok : Int))).setCell ⟨B1, 1, none⟩ (.bool ob)).setCell ⟨B1, 2, none⟩ (.int .i64 on)).setCell ⟨B1, 3, none⟩ (.string os)).setCell ⟨B1, 4, none⟩ (.slice oa ol oc)).setCell ⟨B1, 5, none⟩ (.slice of om oq)) := ⟨_, rfl⟩
  rw [← hw7] at S7 Y7 X7 HZ7 ⊢
  clear hw7 g0 g1 g2 g3 g4 g5 fzp ltp
  obtain ⟨p0, p1, p2, p3, p4, p5⟩ := Y7.out.row.cells
  obtain ⟨k0, k1, k2, k3, k4, k5⟩ := S7.out.rb.cells
  have RQ : Hid (Rep w7 B2 tq (.agg #[.int .u8 (uk : Int), .bool ub, .int .i64 un, .string us, .slice ua ul uc, .slice uf um uq])) := repA_rep (fun g hg => hg.2) _ _ Y7.out.rep
  go_wp2_with fail
  refine (P4.out _ B2 _ S7.out (by have h1 := HH.out; have h2 := HL1.out; have h3 := HL2.out; have h4 := HL4.out; omega) (by have := Y7.out.row.1; omega) RQ.out).mono ?_
  rintro e w8 ⟨v4, rfl, hb8, hr8⟩
  obtain ⟨rk, rb, rn, rs, ra, rl, rc, rf, rm, rq, rfl⟩ := repA_form hr8
  have S8 : Hid (OS w w8 H t x y (.int .u8 6) (.bool b) (.int .i64 n) (.string s) (.slice xa xl xc) (.slice xf xm xq) (.int .u8 (yk : Int)) (.bool yb) (.int .i64 yn) (.string ys) (.slice ya yl yc) (.slice yf ym yq) (.int .u8 (zk : Int)) (.bool zb) (.int .i64 zn) (.string zs) (.slice za zl zc) (.slice zf zm zq)) := S7.out.call hb8
  have X8 := X7.out.call (fun g hg => by have := HZ7.out; omega) hb8
  have Y8 := Y7.out.call (fun g hg => by have := Y7.out.row.1; omega) hb8
  obtain ⟨f1, f2, f3, f4⟩ := fin6s Y8.row (.int .u8 (rk : Int)) (.bool rb) (.int .i64 rn) (.string rs) (.slice ra rl rc) (.slice rf rm rq)
  have S9 : Hid (OS w ((((((w8.setCell ⟨B2, 0, none⟩ (.int .u8 (rk : Int))).setCell ⟨B2, 1, none⟩ (.bool rb)).setCell ⟨B2, 2, none⟩ (.int .i64 rn)).setCell ⟨B2, 3, none⟩ (.string rs)).setCell ⟨B2, 4, none⟩ (.slice ra rl rc)).setCell ⟨B2, 5, none⟩ (.slice rf rm rq)) H t x y (.int .u8 6) (.bool b) (.int .i64 n) (.string s) (.slice xa xl xc) (.slice xf xm xq) (.int .u8 (yk : Int)) (.bool yb) (.int .i64 yn) (.string ys) (.slice ya yl yc) (.slice yf ym yq) (.int .u8 (zk : Int)) (.bool zb) (.int .i64 zn) (.string zs) (.slice za zl zc) (.slice zf zm zq)) := S8.out.set HT.out (by have h1 := HL1.out; have h2 := HL2.out; have h3 := HL4.out; omega) f2 f3 f4
  have X9 : Hid (BX ((((((w8.setCell ⟨B2, 0, none⟩ (.int .u8 (rk : Int))).setCell ⟨B2, 1, none⟩ (.bool rb)).setCell ⟨B2, 2, none⟩ (.int .i64 rn)).setCell ⟨B2, 3, none⟩ (.string rs)).setCell ⟨B2, 4, none⟩ (.slice ra rl rc)).setCell ⟨B2, 5, none⟩ (.slice rf rm rq)) B1 (fun g => B2 < g ∧ g < w6.heap.size) tp2 (.int .u8 (ok : Int)) (.bool ob) (.int .i64 on) (.string os) (.slice oa ol oc) (.slice of om oq)) := X8.set (by have := HL4.out; omega) (fun g hg => by omega) f2 f3
  have Y9 : Hid (BX ((((((w8.setCell ⟨B2, 0, none⟩ (.int .u8 (rk : Int))).setCell ⟨B2, 1, none⟩ (.bool rb)).setCell ⟨B2, 2, none⟩ (.int .i64 rn)).setCell ⟨B2, 3, none⟩ (.string rs)).setCell ⟨B2, 4, none⟩ (.slice ra rl rc)).setCell ⟨B2, 5, none⟩ (.slice rf rm rq)) B2 (fun g => B2 < g ∧ g < w8.heap.size) tq2 (.int .u8 (rk : Int)) (.bool rb) (.int .i64 rn) (.string rs) (.slice ra rl rc) (.slice rf rm rq)) := ⟨f1, repA_stays (fun g hg => f2 g (by have h2 := HY6.out; have h3 := HZ7.out; omega)) (fun g hg => ⟨by have h2 := HY6.out; have h3 := HZ7.out; omega, hg.2⟩) _ _ hr8⟩
  have HZ9 : Hid (((((((w8.setCell ⟨B2, 0, none⟩ (.int .u8 (rk : Int))).setCell ⟨B2, 1, none⟩ (.bool rb)).setCell ⟨B2, 2, none⟩ (.int .i64 rn)).setCell ⟨B2, 3, none⟩ (.string rs)).setCell ⟨B2, 4, none⟩ (.slice ra rl rc)).setCell ⟨B2, 5, none⟩ (.slice rf rm rq)).heap.size = w8.heap.size ∧ w6.heap.size ≤ w8.heap.size) := ⟨f3, by have := hb8.size; have := HZ7.out; omega⟩
  obtain ⟨g0, g1, g2, g3, g4, g5⟩ := Y8.row.cells
  have fzp := Y8.row.free
  have ltp := Y8.row.1
  clear hb8 hr8 S7 X7 Y7 X8 Y8 S8 f1 f2 f3 f4 p0 p1 p2 p3 p4 p5 k0 k1 k2 k3 k4 k5 RQ P4
  go_upto_region 9 with fail
  obtain ⟨w9, hw9⟩ : ∃ w9, w9 = ((((((w8.setCell ⟨B2, 0, none⟩ (.int .u8 (rk : Int))).setCell ⟨B2, 1, none⟩ (.bool rb)).setCell ⟨B2, 2, none⟩ (.int .i64 rn)).setCell ⟨B2, 3, none⟩ (.string rs)).setCell ⟨B2, 4, none⟩ (.slice ra rl rc)).setCell ⟨B2, 5, none⟩ (.slice rf rm rq)) := ⟨_, rfl⟩
  rw [← hw9] at S9 X9 Y9 HZ9 ⊢
  clear hw9 g0 g1 g2 g3 g4 g5 fzp ltp
  obtain ⟨p0, p1, p2, p3, p4, p5⟩ := X9.out.row.cells
  have RP2 : Hid (Rep w9 w9.heap.size tp2 (.agg #[.int .u8 (ok : Int), .bool ob, .int .i64 on, .string os, .slice oa ol oc, .slice of om oq])) := repA_rep (fun g hg => by have := HZ9.out; omega) _ _ X9.out.rep
  have RQ2 : Hid (Rep w9 w9.heap.size tq2 (.agg #[.int .u8 (rk : Int), .bool rb, .int .i64 rn, .string rs, .slice ra rl rc, .slice rf rm rq])) := repA_rep (fun g hg => by have := HZ9.out; omega) _ _ Y9.out.rep
  by_cases hab : na = nb
  · subst hab
    have GET : Hid (Calls Tryd.prog 16 #[.agg #[.int .u8 (ok : Int), .bool ob, .int .i64 on, .string os, .slice oa ol oc, .slice of om oq], .slice (some ⟨w9.heap.size, 0, none⟩) 1 1] (w9.alloc (.cells #[.string na] 9)) fun e w' => (∃ v', e = .returned (.tuple #[v', .bool true]) ∧ Rep w' w'.heap.size y v') ∧ Below (w9.alloc (.cells #[.string na] 9)).heap.size (w9.alloc (.cells #[.string na] 9)) w') := by
      have hg := get16 tp2 SP2.out [na] (some ⟨w9.heap.size, 0, none⟩) 1 (w9.alloc (.cells #[.string na] 9)) (S9.out.t.stays (below_new _ _)) w9.heap.size _ (below_new _ _).size (rep_stays (below_new _ _) (Nat.le_refl _) _ _ RP2.out)
        ⟨by simp [maxLen], fun s hs => by simp only [List.mem_cons, List.not_mem_nil, or_false] at hs; rw [hs]; exact HNB.out, fun _ => ⟨w9.heap.size, 0, rfl, by simp, fun j s hj => by
          match j, hj with
          | 0, hj => simp only [List.getElem?_cons_zero, Option.some.injEq] at hj; subst hj; rw [cell_of_row _ _ _ _ _ _ (heap_alloc_new w9 _)]; rfl
          | j + 1, hj => simp at hj⟩⟩
      rw [HGET.out rfl] at hg
      exact hg
    go_wp2_with fail
    refine GET.out.mono ?_
    rintro e w10 ⟨⟨v5, rfl, hr10⟩, hb10⟩
    obtain ⟨dk, db, dn, ds, da, dl, dc, df, dm, dq, rfl⟩ := repA_form (rep_repA y _ hr10)
    have S11 : Hid (OS w (w10.alloc (.cells #[.int .u8 (dk : Int), .bool db, .int .i64 dn, .string ds, .slice da dl dc, .slice df dm dq] 26)) H t x y (.int .u8 6) (.bool b) (.int .i64 n) (.string s) (.slice xa xl xc) (.slice xf xm xq) (.int .u8 (yk : Int)) (.bool yb) (.int .i64 yn) (.string ys) (.slice ya yl yc) (.slice yf ym yq) (.int .u8 (zk : Int)) (.bool zb) (.int .i64 zn) (.string zs) (.slice za zl zc) (.slice zf zm zq)) := ((S9.out.call (below_new _ _)).call hb10).call (below_new _ _)
    have R11 : Hid (Row6 (w10.alloc (.cells #[.int .u8 (dk : Int), .bool db, .int .i64 dn, .string ds, .slice da dl dc, .slice df dm dq] 26)) w10.heap.size (.int .u8 (dk : Int)) (.bool db) (.int .i64 dn) (.string ds) (.slice da dl dc) (.slice df dm dq)) := ⟨by simp, heap_alloc_new w10 _⟩
    have RG : Hid (Rep (w10.alloc (.cells #[.int .u8 (dk : Int), .bool db, .int .i64 dn, .string ds, .slice da dl dc, .slice df dm dq] 26)) w10.heap.size y (.agg #[.int .u8 (dk : Int), .bool db, .int .i64 dn, .string ds, .slice da dl dc, .slice df dm dq])) := rep_stays (below_new _ _) (Nat.le_refl _) _ _ hr10
    have HH10 : Hid (H ≤ w10.heap.size) := Nat.le_trans S9.out.low (Nat.le_trans S9.out.below.size (Nat.le_trans (below_new w9 _).size hb10.size))
    clear hb10 hr10 GET S9 X9 Y9 p0 p1 p2 p3 p4 p5 RP2 RQ2
    go_upto_region 11 with fail
    obtain ⟨w11, hw11⟩ : ∃ w11, w11 = w10.alloc (.cells #[.int .u8 (dk : Int), .bool db, .int .i64 dn, .string ds, .slice da dl dc, .slice df dm dq] 26) := ⟨_, rfl⟩
    obtain ⟨B3, hB3⟩ : ∃ B, B = w10.heap.size := ⟨_, rfl⟩
    rw [← hw11] at S11 R11 RG ⊢
    rw [← hB3] at R11 RG HH10 ⊢
    clear hw11 hB3
    obtain ⟨p0, p1, p2, p3, p4, p5⟩ := R11.out.cells
    obtain ⟨k0, k1, k2, k3, k4, k5⟩ := S11.out.rc.cells
    go_wp2_with fail
    refine (same12 _ y (Nat.le_refl _) y _ B3 _ _ (Nat.le_of_lt R11.out.1) RG.out (rep_stays (Below.refl _ _) HH10.out y _ S11.out.vc)).mono ?_
    rintro e w12 ⟨rfl, hb12⟩
    have HB : Hid (Below w.heap.size w w12) := (S11.out.call hb12).below
    clear hb12
    rw [Vl.same_refl]
    go_wp2
    exact ⟨rfl, _, results_tmp (by rfl) _ _ _, rfl, HB.out⟩
  · have hl : (na.toList == nb.toList) = false := by
      rw [Go.ByteArray.toList_eq, Go.ByteArray.toList_eq]
      simp only [beq_eq_false_iff_ne, ne_eq]
      intro e
      apply hab
      cases na; cases nb
      simp only [ByteArray.mk.injEq]
      exact Array.toList_inj.1 e
    have HAB : Hid (na ≠ nb) := hab
    obtain ⟨i0, i1, i2, i3, i4, i5⟩ := S9.out.ra.cells
    go_wp2_with fail
    refine (CK.out _ S9.out).mono ?_
    rintro e w10 ⟨rfl, hb10⟩
    have HB10 : Hid (Below w.heap.size w w10) := (S9.out.call hb10).below
    by_cases hc : ck = 0
    · have e2 := HEQ.out HAB.out hc
      subst hc e2
      have X10 := X9.out.row.call hb10
      have Y10 := Y9.out.row.call hb10
      have RP3 : Hid (Rep w10 w9.heap.size tp2 (.agg #[.int .u8 (ok : Int), .bool ob, .int .i64 on, .string os, .slice oa ol oc, .slice of om oq])) := rep_stays hb10 (Nat.le_refl _) _ _ RP2.out
      have RQ3 : Hid (Rep w10 w9.heap.size tp2 (.agg #[.int .u8 (rk : Int), .bool rb, .int .i64 rn, .string rs, .slice ra rl rc, .slice rf rm rq])) := rep_stays hb10 (Nat.le_refl _) _ _ RQ2.out
      have HS10 : Hid (w9.heap.size ≤ w10.heap.size) := hb10.size
      clear hb10 S9 X9 Y9 p0 p1 p2 p3 p4 p5 i0 i1 i2 i3 i4 i5 RP2 RQ2
      obtain ⟨p0, p1, p2, p3, p4, p5⟩ := X10.cells
      obtain ⟨k0, k1, k2, k3, k4, k5⟩ := Y10.cells
      clear X10 Y10
      go_wp2_with fail
      refine (same12 _ tp2 (Nat.le_refl _) tp2 _ w9.heap.size _ _ HS10.out RP3.out RQ3.out).mono ?_
      rintro e w12 ⟨rfl, hb12⟩
      have HB : Hid (Below w.heap.size w w12) := HB10.out.trans (hb12.mono HB10.out.size)
      clear hb12
      rw [Vl.same_refl]
      go_wp2
      exact ⟨rfl, _, results_tmp (by rfl) _ _ _, rfl, HB.out⟩
    · have hc1 : ((ck : Int) == 0) = false := by simp; omega
      clear hb10
      go_wp2
      exact ⟨rfl, _, results_tmp (by rfl) _ _ _, rfl, HB10.out⟩
end Go.Proofs.YtcgkoogdgagddaaDoor
