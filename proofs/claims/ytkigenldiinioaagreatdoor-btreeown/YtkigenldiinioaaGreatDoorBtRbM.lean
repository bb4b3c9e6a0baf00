/- Range of a tree within bounds that are right: walked. -/
import Derived.Test.YtkigenldiinioaaGreatDoorQ23M
import Derived.Test.YtkigenldiinioaaGreatDoorQ17M
namespace Go.Proofs.YtkigenldiinioaaGreatDoor
open Go.RowKit Go.Shelf
open Vl (V)
attribute [local go_sem ↓] Go.wp_at_zero Go.wp_at_succ
attribute [local go_sem] Oper.semAt_some
/-- an append onto an owned row, as one operation -/
theorem operIn_append_own {G : Fence} {nF : Nat} {P : Program} {Q : Exit → Act → World → Prop} {w : World} {o : Oper} {a : Act} {K : Act → World → Prop} (s x : Operand) (t : TypeId)
    (ho : o.op = .call { callee := .builtin .append, args := #[s, x], argTypes := #[t, t] })
    (base : Nat) (e : TypeId) (i : TypeInfo) (z : Value) (size bytes : Nat) (ht : P.underlying t = some (.slice e)) (hi : P.info? e = some i) (hz : i.zero = some z)
    (hsize : i.size = size) (hby : i.bytes = bytes) (hzs : z.cells.size = size) (hsz : 0 < size)
    (v : Value) (n : Nat) (xs : List Value) (hs : a.eval s = v) (hown : w.ownsRow base e size v n xs)
    (ad : Addr) (m c : Nat) (news : List Value) (hx : a.eval x = .slice (some ad) m c) (hl : news.length = m * size) (hnews : ∀ j u, news[j]? = some u → w.cell? (ad.add j) = some u) (h1 : ∀ u ∈ news, u.oneCell' = true)
    (h63 : n + m ≤ maxLen) (hbytes : (n + m) * bytes ≤ 140737488355328) (hbase : base ≤ w.heap.size)
    (h : ∀ v' w', w'.ownsRow base e size v' (n + m) (xs ++ news) → w.grownBy w' v.ownBlock → (v'.ownBlock = v.ownBlock ∨ v'.ownBlock = some w.heap.size) → K (a.put o.dst v') w') : o.wpIn G nF P a w K Q := by
  obtain ⟨v', w', hr, h2, h3, h4, h5⟩ := run_append_own_at (P := P) w base t o.type e i z size bytes ht hi hz hsize hby hzs hsz v n xs hown ad m c news hl hnews h1 h63 hbytes hbase
  unfold Oper.wpIn
  refine ⟨by simp [Oper.about, ho, resolve, Target.leads, Sem.run_pure], ?_⟩
  rw [Oper.semAt_plain G _ _ (by rw [ho]; intro c hc'; cases hc')]
  simp [execOp, ho, resolve, invoke, builtin, hs, hx, hr, Result.andThen]
  exact h v' w' h2 h3 h5
theorem EntC.len {W : World} {A : Nat → Prop} {k : V} {l : List Nat} {c : List Value} (h : EntC W A k l c) : c.length = 7 := by
  obtain ⟨k0, k1, k2, k3, k4, k5, i, cap, rfl, _⟩ := h
  rfl
theorem aent_parts : (Tryz.prog.info? 49).map (fun i => (i.zero, i.size, i.bytes)) = some (some (.agg #[.int .u8 0, .bool false, .int .i64 0, .string ⟨#[]⟩, .slice none 0 0, .slice none 0 0, .slice none 0 0]), 7, 104) := by kernel_rfl
/-- what comes ahead in the region of Range's loop -/
def Bt.ypre : Nat → List Nat := fun i => (#[[], [], [1], [1, 2], [1, 2, 3], [1, 2, 3, 4], [], [6], [6, 7], [6, 7, 8], [1, 2, 3, 4, 5, 6, 7, 8, 9], [1, 2, 3, 4, 5, 6, 7, 8, 9, 10], [1, 2, 3, 4, 5, 6, 7, 8, 9, 10, 11], [0, 1, 2, 3, 4, 5, 6, 7, 8, 9, 10, 11, 12], [0, 1, 2, 3, 4, 5, 6, 7, 8, 9, 10, 11, 12, 13]] : Array (List Nat)).getD i []
/-- the region's state: by what is done -/
structure YI (S : Nat → Value → World → Prop) (Pre : World → Prop) (App : Value → World → Prop) (Fin : World → Prop) (L : Nat → Bool) (f : Nat → Value) (W : World) : Prop where
  vals : L 13 = false → ∀ j, j < 13 → L j = true → S j (f j) W
  ahead : L 13 = false → L 14 = false ∧ Pre W
  mid : L 13 = true → L 14 = false → App (f 13) W
  fin : L 14 = true → Fin W
theorem YI.step {S : Nat → Value → World → Prop} {Pre : World → Prop} {App : Value → World → Prop} {Fin : World → Prop} {L : Nat → Bool} {f : Nat → Value} {W W' : World} (hst : ∀ j v W W', S j v W → Below W.heap.size W W' → S j v W') (h : YI S Pre App Fin L f W) {i : Nat} {v : Value} (hi : i < 13) (h13 : L 13 = false) (hb : Below W.heap.size W W') (hP : Pre W') (hS : S i v W') : YI S Pre App Fin (updB L i) (upd f i v) W' where
  vals := fun _ j hj hL => by
    by_cases e : j = i
    · subst e; rw [upd_same]; exact hS
    · rw [updB_other e] at hL; rw [upd_other e]; exact hst _ _ _ _ (h.vals h13 j hj hL) hb
  ahead := fun _ => by rw [updB_other (by omega)]; exact ⟨(h.ahead h13).1, hP⟩
  mid := fun hL => by rw [updB_other (by omega), h13] at hL; cases hL
  fin := fun hL => by rw [updB_other (by omega), (h.ahead h13).1] at hL; cases hL
theorem YI.app {S : Nat → Value → World → Prop} {Pre : World → Prop} {App : Value → World → Prop} {Fin : World → Prop} {L : Nat → Bool} {f : Nat → Value} {W' : World} {v : Value} (h14 : L 14 = false) (hA : App v W') : YI S Pre App Fin (updB L 13) (upd f 13 v) W' where
  vals := fun hL => by rw [updB_same] at hL; cases hL
  ahead := fun hL => by rw [updB_same] at hL; cases hL
  mid := fun _ _ => by rw [upd_same]; exact hA
  fin := fun hL => by rw [updB_other (by omega), h14] at hL; cases hL
theorem YI.store {S : Nat → Value → World → Prop} {Pre : World → Prop} {App : Value → World → Prop} {Fin : World → Prop} {L : Nat → Bool} {f : Nat → Value} {W' : World} {v : Value} (h13 : L 13 = true) (hF : Fin W') : YI S Pre App Fin (updB L 14) (upd f 14 v) W' where
  vals := fun hL => by rw [updB_other (by omega), h13] at hL; cases hL
  ahead := fun hL => by rw [updB_other (by omega), h13] at hL; cases hL
  mid := fun _ hL => by rw [updB_same] at hL; cases hL
  fin := fun _ => hF
/-- what the slots hold -/
def Bt.yS (s0 : Nat) (e : Nat) (v c9 : Value) (c0 c1 c2 c3 c4 c5 : Value) (k : V) (l : List Nat) (j : Nat) (u : Value) (W : World) : Prop :=
  if j = 0 then u = v
  else if j = 4 then u = .agg #[c0, c1, c2, c3, c4, c5]
  else if j = 5 then ∃ (q : Nat) (b : Bool) (m : Int) (s : ByteArray) (a1 : Option Addr) (l1 e1 : Nat) (a2 : Option Addr) (l2 e2 : Nat), u = .agg #[.int .u8 (q : Int), .bool b, .int .i64 m, .string s, .slice a1 l1 e1, .slice a2 l2 e2] ∧ RepA W (fun g => s0 ≤ g ∧ g < W.heap.size) k u
  else if j = 8 then u = .pointer (some ⟨e, 6, none⟩)
  else if j = 9 then u = c9
  else if j = 10 then ∃ i cap, u = .slice (some ⟨i, 0, none⟩) l.length cap ∧ (s0 ≤ i ∧ i < W.heap.size) ∧ IdsAt W (.slice (some ⟨i, 0, none⟩) l.length cap) l
  else if j = 11 then ∃ (q : Nat) (b : Bool) (m : Int) (s : ByteArray) (a1 : Option Addr) (l1 e1 : Nat) (a2 : Option Addr) (l2 e2 i cap : Nat), u = .agg #[.int .u8 (q : Int), .bool b, .int .i64 m, .string s, .slice a1 l1 e1, .slice a2 l2 e2, .slice (some ⟨i, 0, none⟩) l.length cap] ∧ EntC W (fun g => s0 ≤ g ∧ g < W.heap.size) k l [.int .u8 (q : Int), .bool b, .int .i64 m, .string s, .slice a1 l1 e1, .slice a2 l2 e2, .slice (some ⟨i, 0, none⟩) l.length cap]
  else if j = 12 then ∃ (g : Nat) (c : List Value), u = .slice (some ⟨g, 0, none⟩) 1 1 ∧ EntC W (fun g => s0 ≤ g ∧ g < W.heap.size) k l c ∧ (∀ j u, c[j]? = some u → W.cell? ⟨g, j, none⟩ = some u) ∧ (∀ u ∈ c, u.oneCell' = true) ∧ g < W.heap.size
  else u = .pointer (some ⟨e, 0, none⟩)
theorem Bt.yS_stays {s0 e : Nat} {v c9 c0 c1 c2 c3 c4 c5 : Value} {k : V} {l : List Nat} (j : Nat) (u : Value) (W W' : World) (h : Bt.yS s0 e v c9 c0 c1 c2 c3 c4 c5 k l j u W) (hb : Below W.heap.size W W') : Bt.yS s0 e v c9 c0 c1 c2 c3 c4 c5 k l j u W' := by
  have hs := hb.size
  unfold Bt.yS at h ⊢
  by_cases q0 : j = 0
  · rw [if_pos q0] at h ⊢; exact h
  rw [if_neg q0] at h ⊢
  by_cases q4 : j = 4
  · rw [if_pos q4] at h ⊢; exact h
  rw [if_neg q4] at h ⊢
  by_cases q5 : j = 5
  · rw [if_pos q5] at h ⊢
    obtain ⟨q, b, m, s, a1, l1, e1, a2, l2, e2, h1, h2⟩ := h
    exact ⟨q, b, m, s, a1, l1, e1, a2, l2, e2, h1, repA_stays (fun g hg => hb.block g hg.2) (fun g hg => ⟨hg.1, by have := hg.2; omega⟩) _ _ h2⟩
  rw [if_neg q5] at h ⊢
  by_cases q8 : j = 8
  · rw [if_pos q8] at h ⊢; exact h
  rw [if_neg q8] at h ⊢
  by_cases q9 : j = 9
  · rw [if_pos q9] at h ⊢; exact h
  rw [if_neg q9] at h ⊢
  by_cases q10 : j = 10
  · rw [if_pos q10] at h ⊢
    obtain ⟨i, cap, h1, h2, h3⟩ := h
    refine ⟨i, cap, h1, ⟨h2.1, by omega⟩, owns_stays h3 fun g hg => ?_⟩
    obtain rfl : g = i := by injection hg with hg; exact hg.symm
    exact hb.block g h2.2
  rw [if_neg q10] at h ⊢
  by_cases q11 : j = 11
  · rw [if_pos q11] at h ⊢
    obtain ⟨q, b, m, s, a1, l1, e1, a2, l2, e2, i, cap, h1, h2⟩ := h
    exact ⟨q, b, m, s, a1, l1, e1, a2, l2, e2, i, cap, h1, h2.stays (fun g hg => hb.block g hg.2) fun g hg => ⟨hg.1, by have := hg.2; omega⟩⟩
  rw [if_neg q11] at h ⊢
  by_cases q12 : j = 12
  · rw [if_pos q12] at h ⊢
    obtain ⟨g, c, h1, h2, h3, h4, h5⟩ := h
    exact ⟨g, c, h1, h2.stays (fun g hg => hb.block g hg.2) (fun g hg => ⟨hg.1, by have := hg.2; omega⟩), fun j u hj => (hb.cell (p := ⟨g, j, none⟩) h5).trans (h3 j u hj), h4, by omega⟩
  rw [if_neg q12] at h ⊢
  exact h
section
variable {w : World} {F : Nat → Prop} {tb : Nat} {t : Bt.T} {key : Nat → V} {ids : Nat → List Nat} {ir : Nat → Nat} {n : Nat}
set_option maxHeartbeats 4000000 in
set_option maxRecDepth 100000 in
theorem range_ok (h : TA w F tb t key ids ir n) (hU : Bn.HasU w) (lo hi : Option (Bool × V)) (lv hv : Value) (hlo : Bnd w w.heap.size lo lv) (hhi : Bnd w w.heap.size hi hv) (klo : ∀ p, lo = some p → Bt.kerr p.2 = 0) (khi : ∀ p, hi = some p → Bt.kerr p.2 = 0) :
    Calls Tryz.prog 11 #[.pointer (some ⟨tb, 0, none⟩), lv, hv] w fun ex w' => ∃ v B, ex = .returned (.tuple #[v, .int .i64 0]) ∧ w.heap.size ≤ B ∧ RI w B key ids (Bt.wl key lo hi t) v w' := by
  have hlo' := hlo
  have hhi' := hhi
  obtain ⟨ha, oa, l0, l1, l2, l3, l4, l5, x, rfl, rx, ea⟩ := hlo
  obtain ⟨hb, ob, r0, r1, r2, r3, r4, r5, y, rfl, ry, eb⟩ := hhi
  obtain ⟨xk, xb, xn, xs, xa, xl, xc, xf, xm, xd, rfl, rfl, rfl, rfl, rfl, rfl⟩ := rep_form rx
  obtain ⟨yk, yb, yn, ys, ya, yl, yc, yf, ym, yd, rfl, rfl, rfl, rfl, rfl, rfl⟩ := rep_form ry
  have kx : ha = true → Bt.kerr x = 0 := fun q => klo (oa, x) (by rw [ea, if_pos q])
  have ky : hb = true → Bt.kerr y = 0 := fun q => khi (ob, y) (by rw [eb, if_pos q])
  obtain ⟨w2, hw2⟩ : ∃ w2, w2 = ((w.alloc (.cells #[.bool ha, .bool oa, .int .u8 (xk : Int), .bool xb, .int .i64 xn, .string xs, .slice xa xl xc, .slice xf xm xd] 29)).alloc (.cells #[.bool hb, .bool ob, .int .u8 (yk : Int), .bool yb, .int .i64 yn, .string ys, .slice ya yl yc, .slice yf ym yd] 29)).alloc (.cells #[.bool ha, .bool oa, .int .u8 (xk : Int), .bool xb, .int .i64 xn, .string xs, .slice xa xl xc, .slice xf xm xd, .bool hb, .bool ob, .int .u8 (yk : Int), .bool yb, .int .i64 yn, .string ys, .slice ya yl yc, .slice yf ym yd] 29) := ⟨_, rfl⟩
  obtain ⟨Bl, hBl⟩ : ∃ Bl, Bl = w.heap.size := ⟨_, rfl⟩
  obtain ⟨Bh, hBh⟩ : ∃ Bh, Bh = w.heap.size + 1 := ⟨_, rfl⟩
  obtain ⟨S, hS⟩ : ∃ S, S = w.heap.size + 1 + 1 := ⟨_, rfl⟩
  obtain ⟨b2, bl2, bh2, bs2⟩ : Below w.heap.size w w2 ∧ w2.heap[Bl]? = some (.cells #[.bool ha, .bool oa, .int .u8 (xk : Int), .bool xb, .int .i64 xn, .string xs, .slice xa xl xc, .slice xf xm xd] 29 (0, 0)) ∧ w2.heap[Bh]? = some (.cells #[.bool hb, .bool ob, .int .u8 (yk : Int), .bool yb, .int .i64 yn, .string ys, .slice ya yl yc, .slice yf ym yd] 29 (0, 0)) ∧ w2.heap[S]? = some (.cells #[.bool ha, .bool oa, .int .u8 (xk : Int), .bool xb, .int .i64 xn, .string xs, .slice xa xl xc, .slice xf xm xd, .bool hb, .bool ob, .int .u8 (yk : Int), .bool yb, .int .i64 yn, .string ys, .slice ya yl yc, .slice yf ym yd] 29 (0, 0)) := by
    rw [hw2, hBl, hBh, hS]
    exact three_new (Below.refl _ _) _ _ _ _ _ _
  have s2 : w2.heap.size = w.heap.size + 3 := by rw [hw2]; simp
  have HD : Hid (∀ W, Below w2.heap.size w2 W → Below w.heap.size w W ∧ W.heap[Bl]? = some (.cells #[.bool ha, .bool oa, .int .u8 (xk : Int), .bool xb, .int .i64 xn, .string xs, .slice xa xl xc, .slice xf xm xd] 29 (0, 0)) ∧ W.heap[Bh]? = some (.cells #[.bool hb, .bool ob, .int .u8 (yk : Int), .bool yb, .int .i64 yn, .string ys, .slice ya yl yc, .slice yf ym yd] 29 (0, 0)) ∧ W.heap[S]? = some (.cells #[.bool ha, .bool oa, .int .u8 (xk : Int), .bool xb, .int .i64 xn, .string xs, .slice xa xl xc, .slice xf xm xd, .bool hb, .bool ob, .int .u8 (yk : Int), .bool yb, .int .i64 yn, .string ys, .slice ya yl yc, .slice yf ym yd] 29 (0, 0))) := fun W hW => ⟨b2.trans (hW.mono b2.size), (hW.block _ (lt_of_row bl2)).trans bl2, (hW.block _ (lt_of_row bh2)).trans bh2, (hW.block _ (lt_of_row bs2)).trans bs2⟩
  have CX : Hid (ha = true → ∀ W, Below w.heap.size w W → Calls Tryz.prog 30 #[.agg #[.int .u8 (xk : Int), .bool xb, .int .i64 xn, .string xs, .slice xa xl xc, .slice xf xm xd]] W fun e w' => e = .returned (.int .i64 0) ∧ Below W.heap.size W w') := fun q W hW => by
    have := check27 x W (hU.stays hW) w.heap.size _ hW.size (rep_stays hW (Nat.le_refl _) _ _ rx)
    rw [show Vl.check Bn.u8 0 x = 0 from kx q] at this
    exact this
  have CY : Hid (hb = true → ∀ W, Below w.heap.size w W → Calls Tryz.prog 30 #[.agg #[.int .u8 (yk : Int), .bool yb, .int .i64 yn, .string ys, .slice ya yl yc, .slice yf ym yd]] W fun e w' => e = .returned (.int .i64 0) ∧ Below W.heap.size W w') := fun q W hW => by
    have := check27 y W (hU.stays hW) w.heap.size _ hW.size (rep_stays hW (Nat.le_refl _) _ _ ry)
    rw [show Vl.check Bn.u8 0 y = 0 from ky q] at this
    exact this
  have HH : Hid (TA w F tb t key ids ir n ∧ Bnd w w.heap.size lo (.agg #[.bool ha, .bool oa, .int .u8 (xk : Int), .bool xb, .int .i64 xn, .string xs, .slice xa xl xc, .slice xf xm xd]) ∧ Bnd w w.heap.size hi (.agg #[.bool hb, .bool ob, .int .u8 (yk : Int), .bool yb, .int .i64 yn, .string ys, .slice ya yl yc, .slice yf ym yd]) ∧ w2.heap.size = w.heap.size + 3) := ⟨h, hlo', hhi', s2⟩
  clear h hU hlo' hhi' klo khi kx ky rx ry ea eb b2 bl2 bh2 bs2 s2
  refine (callsIn_wide (n := 10)).1 (callsIn_of_wp_marks Tryz.func11 rfl trivial (wpIn_wide.2 ?_) rfl)
  simp only [Tryz.ntmps11, List.size_toArray, List.length_cons, List.length_nil, Nat.reduceAdd, Nat.reduceSub, Array.replicate_succ, Array.replicate_zero, List.push_toArray, List.append_toArray, List.nil_append, List.cons_append]
  go_upto_region 3 with fail
  go_wp2_with fail
  rw [← hw2, ← hS, ← hBh, ← hBl]
  have HB0 : Hid (Bl = w.heap.size ∧ Bh = w.heap.size + 1 ∧ S = w.heap.size + 1 + 1) := ⟨hBl, hBh, hS⟩
  clear hw2 hS hBh hBl
  go_loopw [19] (fun i wr => ∃ (j : Nat), i = .int .i64 (j : Int) ∧ j ≤ 2 ∧ Below w2.heap.size w2 wr) (fun i _ => 2 - (intOf i).toNat)
  case atStart => exact ⟨0, rfl, by omega, Below.refl _ _⟩
  case round =>
      obtain ⟨j, rfl, hj, hbr⟩ := hrel
      have HBR : Hid (Below w2.heap.size w2 wr) := hbr
      clear hbr
      rcases (show j = 0 ∨ j = 1 ∨ j = 2 by omega) with rfl | rfl | rfl
      · obtain ⟨k1, _, _, ks⟩ := HD.out wr HBR.out
        have z0 := cells_at ks 0 _ rfl
        have z1 := cells_at ks 1 _ rfl
        have z2 := cells_at ks 2 _ rfl
        have z3 := cells_at ks 3 _ rfl
        have z4 := cells_at ks 4 _ rfl
        have z5 := cells_at ks 5 _ rfl
        have z6 := cells_at ks 6 _ rfl
        have z7 := cells_at ks 7 _ rfl
        clear k1 ks
        go_upto_region 6 with fail
        obtain ⟨w3, hw3⟩ : ∃ w3, w3 = wr.alloc (.cells #[.bool ha, .bool oa, .int .u8 (xk : Int), .bool xb, .int .i64 xn, .string xs, .slice xa xl xc, .slice xf xm xd] 29) := ⟨_, rfl⟩
        have n1 := by have := heap_alloc_new wr (.cells #[.bool ha, .bool oa, .int .u8 (xk : Int), .bool xb, .int .i64 xn, .string xs, .slice xa xl xc, .slice xf xm xd] 29); rw [← hw3] at this; exact this
        have n2 : Below wr.heap.size wr w3 := by rw [hw3]; exact below_new _ _
        rw [← hw3]
        obtain ⟨X, hX⟩ : ∃ X, X = wr.heap.size := ⟨_, rfl⟩
        rw [← hX] at n1 ⊢
        have HB3 : Hid (Below w2.heap.size w2 w3) := HBR.out.trans (n2.mono HBR.out.size)
        have y0 := cells_at n1 0 _ rfl
        have y2 := cells_at n1 2 _ rfl
        have y3 := cells_at n1 3 _ rfl
        have y4 := cells_at n1 4 _ rfl
        have y5 := cells_at n1 5 _ rfl
        have y6 := cells_at n1 6 _ rfl
        have y7 := cells_at n1 7 _ rfl
        clear z0 z1 z2 z3 z4 z5 z6 z7 hw3 n1 n2 hX
        cases ha with
        | false =>
          go_wp2
          go_roundw
          case rel => exact ⟨1, rfl, by omega, HB3.out⟩
          case measure => simp [intOf]
        | true =>
          go_wp2_with (go_at_call 30; refine (CX.out rfl _ (HD.out _ HB3.out).1).mono ?_; rintro ex w4 ⟨rfl, hb4⟩; have HB4 : Hid (Below w2.heap.size w2 w4) := HB3.out.trans (hb4.mono HB3.out.size); clear hb4)
          go_roundw
          case rel => exact ⟨1, rfl, by omega, HB4.out⟩
          case measure => simp [intOf]
      · obtain ⟨k1, _, _, ks⟩ := HD.out wr HBR.out
        have z0 := cells_at ks 8 _ rfl
        have z1 := cells_at ks 9 _ rfl
        have z2 := cells_at ks 10 _ rfl
        have z3 := cells_at ks 11 _ rfl
        have z4 := cells_at ks 12 _ rfl
        have z5 := cells_at ks 13 _ rfl
        have z6 := cells_at ks 14 _ rfl
        have z7 := cells_at ks 15 _ rfl
        clear k1 ks
        go_upto_region 6 with fail
        obtain ⟨w3, hw3⟩ : ∃ w3, w3 = wr.alloc (.cells #[.bool hb, .bool ob, .int .u8 (yk : Int), .bool yb, .int .i64 yn, .string ys, .slice ya yl yc, .slice yf ym yd] 29) := ⟨_, rfl⟩
        have n1 := by have := heap_alloc_new wr (.cells #[.bool hb, .bool ob, .int .u8 (yk : Int), .bool yb, .int .i64 yn, .string ys, .slice ya yl yc, .slice yf ym yd] 29); rw [← hw3] at this; exact this
        have n2 : Below wr.heap.size wr w3 := by rw [hw3]; exact below_new _ _
        rw [← hw3]
        obtain ⟨X, hX⟩ : ∃ X, X = wr.heap.size := ⟨_, rfl⟩
        rw [← hX] at n1 ⊢
        have HB3 : Hid (Below w2.heap.size w2 w3) := HBR.out.trans (n2.mono HBR.out.size)
        have y0 := cells_at n1 0 _ rfl
        have y2 := cells_at n1 2 _ rfl
        have y3 := cells_at n1 3 _ rfl
        have y4 := cells_at n1 4 _ rfl
        have y5 := cells_at n1 5 _ rfl
        have y6 := cells_at n1 6 _ rfl
        have y7 := cells_at n1 7 _ rfl
        clear z0 z1 z2 z3 z4 z5 z6 z7 hw3 n1 n2 hX
        cases hb with
        | false =>
          go_wp2
          go_roundw
          case rel => exact ⟨2, rfl, by omega, HB3.out⟩
          case measure => simp [intOf]
        | true =>
          go_wp2_with (go_at_call 30; refine (CY.out rfl _ (HD.out _ HB3.out).1).mono ?_; rintro ex w4 ⟨rfl, hb4⟩; have HB4 : Hid (Below w2.heap.size w2 w4) := HB3.out.trans (hb4.mono HB3.out.size); clear hb4)
          go_roundw
          case rel => exact ⟨2, rfl, by omega, HB4.out⟩
          case measure => simp [intOf]
      · go_upto_region 12 with fail
        obtain ⟨w4, hw4⟩ : ∃ w4, w4 = wr.alloc (.cells #[.slice none 0 0] 22) := ⟨_, rfl⟩
        obtain ⟨B, hB⟩ : ∃ B, B = wr.heap.size := ⟨_, rfl⟩
        rw [← hw4, ← hB]
        have hbx : w4.heap[B]? = some (.cells #[.slice none 0 0] 22 (0, 0)) := by rw [hw4, hB]; exact heap_alloc_new wr _
        have b4 : Below w2.heap.size w2 w4 := by rw [hw4]; exact HBR.out.trans ((below_new wr _).mono HBR.out.size)
        have s4 : w4.heap.size = B + 1 := by rw [hw4, hB]; simp
        have hBB : w2.heap.size ≤ B := by rw [hB]; exact HBR.out.size
        obtain ⟨po, hpo⟩ : ∃ po, Bt.ptr (Bt.top t) = .pointer po := ⟨_, rfl⟩
        have hbox := HH.out.1.box
        rw [hpo] at hbox
        have HC : Hid (∀ W', Below w4.heap.size w4 W' → W'.cell? ⟨tb, 0, none⟩ = some (.pointer po) ∧ W'.cell? ⟨Bl, 0, none⟩ = some (.bool ha) ∧ W'.cell? ⟨Bl, 1, none⟩ = some (.bool oa) ∧ W'.cell? ⟨Bl, 2, none⟩ = some (.int .u8 (xk : Int)) ∧ W'.cell? ⟨Bl, 3, none⟩ = some (.bool xb) ∧ W'.cell? ⟨Bl, 4, none⟩ = some (.int .i64 xn) ∧ W'.cell? ⟨Bl, 5, none⟩ = some (.string xs) ∧ W'.cell? ⟨Bl, 6, none⟩ = some (.slice xa xl xc) ∧ W'.cell? ⟨Bl, 7, none⟩ = some (.slice xf xm xd) ∧ W'.cell? ⟨Bh, 0, none⟩ = some (.bool hb) ∧ W'.cell? ⟨Bh, 1, none⟩ = some (.bool ob) ∧ W'.cell? ⟨Bh, 2, none⟩ = some (.int .u8 (yk : Int)) ∧ W'.cell? ⟨Bh, 3, none⟩ = some (.bool yb) ∧ W'.cell? ⟨Bh, 4, none⟩ = some (.int .i64 yn) ∧ W'.cell? ⟨Bh, 5, none⟩ = some (.string ys) ∧ W'.cell? ⟨Bh, 6, none⟩ = some (.slice ya yl yc) ∧ W'.cell? ⟨Bh, 7, none⟩ = some (.slice yf ym yd)) := fun W' hW => by
          obtain ⟨q3, q1, q2, _⟩ := HD.out W' (b4.trans (hW.mono b4.size))
          have q0 := (q3.block _ (lt_of_row hbox)).trans hbox
          exact ⟨cells_at q0 0 _ rfl, cells_at q1 0 _ rfl, cells_at q1 1 _ rfl, cells_at q1 2 _ rfl, cells_at q1 3 _ rfl, cells_at q1 4 _ rfl, cells_at q1 5 _ rfl, cells_at q1 6 _ rfl, cells_at q1 7 _ rfl, cells_at q2 0 _ rfl, cells_at q2 1 _ rfl, cells_at q2 2 _ rfl, cells_at q2 3 _ rfl, cells_at q2 4 _ rfl, cells_at q2 5 _ rfl, cells_at q2 6 _ rfl, cells_at q2 7 _ rfl⟩
        have CW : Hid (∀ W', Below w4.heap.size w4 W' → Calls Tryz.prog 31 #[.pointer po, .agg #[.bool ha, .bool oa, .int .u8 (xk : Int), .bool xb, .int .i64 xn, .string xs, .slice xa xl xc, .slice xf xm xd], .agg #[.bool hb, .bool ob, .int .u8 (yk : Int), .bool yb, .int .i64 yn, .string ys, .slice ya yl yc, .slice yf ym yd]] W' fun e w' => ∃ s, e = .returned (.func (.func 50) #[] #[.pointer (some ⟨s, 0, none⟩), .pointer (some ⟨s + 1, 0, none⟩), .pointer (some ⟨s + 2, 0, none⟩)]) ∧ Hid (Below w4.heap.size w4 w' ∧ w'.heap[s]? = some (.cells #[.pointer po] 67 (0, 0)) ∧ w'.heap[s + 1]? = some (.cells #[.bool ha, .bool oa, .int .u8 (xk : Int), .bool xb, .int .i64 xn, .string xs, .slice xa xl xc, .slice xf xm xd] 29 (0, 0)) ∧ w'.heap[s + 2]? = some (.cells #[.bool hb, .bool ob, .int .u8 (yk : Int), .bool yb, .int .i64 yn, .string ys, .slice ya yl yc, .slice yf ym yd] 29 (0, 0)))) := fun W' hW => by
          refine (within_c _ _ _ W' _ _ _ _ _ _ _ _ _ _ _ _ _ _ _ _ rfl rfl po rfl).mono ?_
          rintro e w' ⟨rfl, rfl⟩
          exact ⟨W'.heap.size, rfl, hW.trans ((three_new (Below.refl _ _) _ _ _ _ _ _).1.mono hW.size), (three_new (Below.refl _ _) _ _ _ _ _ _).2⟩
        have HB4 : Hid (Below w.heap.size w w4 ∧ w4.heap[B]? = some (.cells #[.slice none 0 0] 22 (0, 0)) ∧ w4.heap.size = B + 1 ∧ w.heap.size + 3 ≤ B ∧ Bt.ptr (Bt.top t) = .pointer po) := ⟨(HD.out w4 b4).1, hbx, s4, by have := HH.out.2.2.2; omega, hpo⟩
        obtain ⟨cn, zl0, zl1, zl2, zl3, zl4, zl5, zl6, zl7, zh0, zh1, zh2, zh3, zh4, zh5, zh6, zh7⟩ := HC.out w4 (Below.refl _ _)
        clear hw4 hB hbx b4 s4 hBB hpo hbox HBR HD CX CY
        go_region_held3 (fun W' => W'.cell? ⟨tb, 0, none⟩ = some (.pointer po) ∧ W'.cell? ⟨Bl, 0, none⟩ = some (.bool ha) ∧ W'.cell? ⟨Bl, 1, none⟩ = some (.bool oa) ∧ W'.cell? ⟨Bl, 2, none⟩ = some (.int .u8 (xk : Int)) ∧ W'.cell? ⟨Bl, 3, none⟩ = some (.bool xb) ∧ W'.cell? ⟨Bl, 4, none⟩ = some (.int .i64 xn) ∧ W'.cell? ⟨Bl, 5, none⟩ = some (.string xs) ∧ W'.cell? ⟨Bl, 6, none⟩ = some (.slice xa xl xc) ∧ W'.cell? ⟨Bl, 7, none⟩ = some (.slice xf xm xd) ∧ W'.cell? ⟨Bh, 0, none⟩ = some (.bool hb) ∧ W'.cell? ⟨Bh, 1, none⟩ = some (.bool ob) ∧ W'.cell? ⟨Bh, 2, none⟩ = some (.int .u8 (yk : Int)) ∧ W'.cell? ⟨Bh, 3, none⟩ = some (.bool yb) ∧ W'.cell? ⟨Bh, 4, none⟩ = some (.int .i64 yn) ∧ W'.cell? ⟨Bh, 5, none⟩ = some (.string ys) ∧ W'.cell? ⟨Bh, 6, none⟩ = some (.slice ya yl yc) ∧ W'.cell? ⟨Bh, 7, none⟩ = some (.slice yf ym yd)) (go_keep) (first
          | (go_at_call 31; refine (CW.out _ (by first | exact Below.refl _ _ | exact (Below.refl _ _).drew)).mono ?_; rintro e w5 ⟨s, rfl, HW5⟩; obtain ⟨cn, zl0, zl1, zl2, zl3, zl4, zl5, zl6, zl7, zh0, zh1, zh2, zh3, zh4, zh5, zh6, zh7⟩ := HC.out _ HW5.out.1))
        clear cn zl0 zl1 zl2 zl3 zl4 zl5 zl6 zl7 zh0 zh1 zh2 zh3 zh4 zh5 zh6 zh7 HC CW
        have H5 : Hid (w5.heap[s]? = some (.cells #[Bt.ptr (Bt.top t)] 67 (0, 0)) ∧ Below w.heap.size w w5 ∧ B + 1 ≤ w5.heap.size ∧ w5.heap[B]? = some (.cells #[.slice none 0 0] 22 (0, 0)) ∧ w.heap.size ≤ B) := ⟨by rw [HB4.out.2.2.2.2]; exact HW5.out.2.1, HB4.out.1.trans (HW5.out.1.mono HB4.out.1.size), by have := HW5.out.1.size; have := HB4.out.2.2.1; omega, (HW5.out.1.block _ (lt_of_row HB4.out.2.1)).trans HB4.out.2.1, by have := HB4.out.2.2.2.1; omega⟩
        have SQ : SeqO Fence.wide 9 Tryz.prog 50 #[.pointer (some ⟨s, 0, none⟩), .pointer (some ⟨s + 1, 0, none⟩), .pointer (some ⟨s + 2, 0, none⟩)] (fun x : { e : Nat // e ∈ Bt.flat t } => Value.pointer (some ⟨x.1, 0, none⟩)) (Kq w.heap.size) (fun ys => ys.map Subtype.val = Bt.wl key lo hi t) (fun pre => pre.map Subtype.val <+: Bt.wl key lo hi t) (Bt.wl key lo hi t).length w5 :=
          within1_seq key lo hi w.heap.size (fun e => e ∈ Bt.flat t) _ _ _ _ _ _ _ _ _ _ _ _ _ _ _ _ t HH.out.1.wf HH.out.1.rises (fun _ he => he) w5 s (s + 1) (s + 2) H5.out.2.1.size (RT.stays H5.out.2.1 HH.out.1.rt) (HH.out.2.1.stays H5.out.2.1) (HH.out.2.2.1.stays H5.out.2.1) H5.out.1 HW5.out.2.2.1 HW5.out.2.2.2
        have HI0 : Hid (RI w B key ids [] (.slice none 0 0) w5) := RI.start H5.out.2.1 H5.out.2.2.2.1
        clear HW5
        go_wp2_with fail
        refine (wpIn_wide (n := 10)).1 ?_
        refine wpIn_rangeO (F := Fence.wide) (n := 10) rfl (by omega) (gf := 50) (lb := #[.pointer (some ⟨s, 0, none⟩), .pointer (some ⟨s + 1, 0, none⟩), .pointer (some ⟨s + 2, 0, none⟩)]) rfl trivial (enters_of Tryz.func50 (by kernel_rfl) rfl) SQ (fun h k => h.trans k) (Kq.put H5.out.2.1.size) rfl
          (fun q W => ∃ v, RI w B key ids (q.map Subtype.val) v W) (fun _ _ _ => False) (RI.own _ H5.out.2.1.size) (fun _ _ _ _ _ h _ _ => h) ⟨_, HI0.out⟩
          (fun x => { tmps := #[.pointer (some ⟨tb, 0, none⟩), .agg #[.bool ha, .bool oa, .int .u8 (xk : Int), .bool xb, .int .i64 xn, .string xs, .slice xa xl xc, .slice xf xm xd], .agg #[.bool hb, .bool ob, .int .u8 (yk : Int), .bool yb, .int .i64 yn, .string ys, .slice ya yl yc, .slice yf ym yd], undef, .pointer (some ⟨Bl, 0, none⟩), .pointer (some ⟨Bh, 0, none⟩), u6, u7, undef, u9, u10, .pointer (some ⟨B, 0, none⟩), .pointer (some ⟨x.1, 0, none⟩), .pointer (some ⟨tb, 0, none⟩), .bool false, .agg #[.bool ha, .bool oa, .int .u8 (xk : Int), .bool xb, .int .i64 xn, .string xs, .slice xa xl xc, .slice xf xm xd], .agg #[.bool hb, .bool ob, .int .u8 (yk : Int), .bool yb, .int .i64 yn, .string ys, .slice ya yl yc, .slice yf ym yd], .slice (some ⟨S, 0, none⟩) 2 2, .int .i64 2, .int .i64 2, .bool false, u21, u22, u23, u24, u25, u26, u27, u28, u29, u30, u31, u32, .pointer (some ⟨tb, 0, none⟩), .pointer (some ⟨tb, 0, none⟩), .pointer (some ⟨tb, 0, none⟩), .pointer po, .agg #[.bool ha, .bool oa, .int .u8 (xk : Int), .bool xb, .int .i64 xn, .string xs, .slice xa xl xc, .slice xf xm xd], .agg #[.bool hb, .bool ob, .int .u8 (yk : Int), .bool yb, .int .i64 yn, .string ys, .slice ya yl yc, .slice yf ym yd], .func (.func 50) #[] #[.pointer (some ⟨s, 0, none⟩), .pointer (some ⟨s + 1, 0, none⟩), .pointer (some ⟨s + 2, 0, none⟩)], .pointer (some ⟨x.1, 0, none⟩), undef, undef, undef, undef, undef, undef, undef, undef, undef, undef, undef, undef, undef, undef, undef], defers := [] }) ?assign ?body ?done ?stop
        case assign =>
          intro l x W K hK
          gi_wp2
          exact hK
        case body =>
          rintro l pre x W hs ⟨v, hC⟩ hlen
          obtain ⟨e, hee⟩ : ∃ e, e = x.1 := ⟨_, rfl⟩
          have hm : e ∈ Bt.flat t := by rw [hee]; exact x.2
          have hTW := HH.out.1.stays hC.below
          obtain ⟨fe, fi, c0, c1, c2, c3, c4, c5, cap, h1, h2, h3⟩ := hTW.ent e hm
          obtain ⟨il, hil⟩ : ∃ il, il = (ids e).length := ⟨_, rfl⟩
          obtain ⟨csl, k1, k2, k3⟩ := hC.ents
          obtain ⟨av, ln, lc, rfl⟩ : ∃ av ln lc, v = .slice av ln lc := by
            rcases k2.2 with ⟨h, _⟩ | ⟨g, cap, cur, h, _⟩
            · exact ⟨_, _, _, h⟩
            · exact ⟨_, _, _, h⟩
          have hfl : (ids e).length ≤ 1024 := Nat.le_trans (HH.out.1.few hm) HH.out.1.le
          have hwl : (Bt.wl key lo hi t).length ≤ 1024 := by
            rw [Bt.wl_flat HH.out.1.wf HH.out.1.rises]
            exact Nat.le_trans (List.length_filter_le _ _) (Nat.le_trans HH.out.1.keys HH.out.1.le)
          have HIL : Hid (il = (ids e).length) := hil
          have HX : Hid (∀ X, Below W.heap.size W X → X.cell? ⟨B, 0, none⟩ = some (.slice av ln lc) ∧ X.cell? ⟨e, 0, none⟩ = some c0 ∧ X.cell? ⟨e, 1, none⟩ = some c1 ∧ X.cell? ⟨e, 2, none⟩ = some c2 ∧ X.cell? ⟨e, 3, none⟩ = some c3 ∧ X.cell? ⟨e, 4, none⟩ = some c4 ∧ X.cell? ⟨e, 5, none⟩ = some c5 ∧ X.cell? ⟨e, 6, none⟩ = some (.slice (some ⟨ir e, 0, none⟩) il cap)) := fun X hX => by
            have q1 := (hX.block _ (lt_of_row h1)).trans h1
            have q2 := (hX.block _ (lt_of_row hC.box)).trans hC.box
            rw [← hil] at q1
            exact ⟨cells_at q2 0 _ rfl, cells_at q1 0 _ rfl, cells_at q1 1 _ rfl, cells_at q1 2 _ rfl, cells_at q1 3 _ rfl, cells_at q1 4 _ rfl, cells_at q1 5 _ rfl, cells_at q1 6 _ rfl⟩
          have CO : Hid (∀ X, Below W.heap.size W X → Calls Tryz.prog 32 #[.agg #[c0, c1, c2, c3, c4, c5]] X fun ex w' => ∃ (q : Nat) (b : Bool) (m : Int) (z : ByteArray) (a1 : Option Addr) (l1 e1 : Nat) (a2 : Option Addr) (l2 e2 : Nat), ex = .returned (.agg #[.int .u8 (q : Int), .bool b, .int .i64 m, .string z, .slice a1 l1 e1, .slice a2 l2 e2]) ∧ Below X.heap.size X w' ∧ RepA w' (fun g => W.heap.size ≤ g ∧ g < w'.heap.size) (key e) (.agg #[.int .u8 (q : Int), .bool b, .int .i64 m, .string z, .slice a1 l1 e1, .slice a2 l2 e2])) := fun X hX => by
            refine (own_c (key e) (hTW.small e hm) X W.heap.size _ hX.size (rep_stays hX (Nat.le_refl _) _ _ (repA_rep (fun g hg => hg.1) _ _ h2))).mono ?_
            rintro ex w' ⟨v', rfl, hb, hr⟩
            obtain ⟨q, b, m, z, a1, l1, e1, a2, l2, e2, rfl⟩ := repA_form hr
            exact ⟨q, b, m, z, a1, l1, e1, a2, l2, e2, rfl, hb, repA_stays (fun _ _ => rfl) (fun g hg => ⟨by have := hg.1; have := hX.size; omega, hg.2⟩) _ _ hr⟩
          have CC : Hid (∀ X, Below W.heap.size W X → Calls Tryz.prog 33 #[.slice (some ⟨ir e, 0, none⟩) il cap] X fun ex w' => ∃ i' cap', ex = .returned (.slice (some ⟨i', 0, none⟩) il cap') ∧ Below X.heap.size X w' ∧ (W.heap.size ≤ i' ∧ i' < w'.heap.size) ∧ IdsAt w' (.slice (some ⟨i', 0, none⟩) (ids e).length cap') (ids e)) := fun X hX => by
            obtain ⟨i1, hi1, hy0, hy1, hy2⟩ := info_parts insU_info
            obtain ⟨_, hgl, hcl⟩ := ids_cells h3
            refine (Tryz.slices_Clone i1 _ 1 8 hi1 hy0 hy1 hy2 rfl (by decide) (fun _ => by kernel_rfl) (ir e) 0 il cap (Bt.nums (ids e)) X (by rw [Bt.nums, List.length_map, hil]; omega) (by unfold maxLen; omega) (by omega) (fun j u hj => ?_) nums_one).mono ?_
            · rw [Bt.nums, List.getElem?_map] at hj
              cases hq : (ids e)[j]? with
              | none => rw [hq] at hj; cases hj
              | some y =>
                rw [hq] at hj
                cases hj
                exact (hX.cell (p := ⟨ir e, 0 + j, none⟩) hgl).trans (hcl j y hq)
            · rintro ex w' ⟨v', rfl, ho, hne, hb⟩
              rcases ho.2 with ⟨q, _⟩ | ⟨g', cap', cur, rfl, q2, q3, _⟩
              · exact absurd q hne
              · refine ⟨g', cap', rfl, hb, ⟨Nat.le_trans hX.size q2, lt_of_row q3⟩, ?_⟩
                rw [hil] at ho
                refine ⟨ho.1, ?_⟩
                rcases ho.2 with ⟨q, _⟩ | ⟨g2, cap2, cur2, r1, _, r3⟩
                · exact absurd q (by simp)
                · exact .inr ⟨g2, cap2, cur2, r1, Nat.zero_le _, r3⟩
          have HROW : Hid (∀ X, Below W.heap.size W X → X.ownsRow (B + 1) 49 7 (.slice av ln lc) pre.length csl.flatten) := fun X hX => by
            rw [List.length_map] at k2
            refine owns_stays k2 fun g hg => ?_
            rcases k2.2 with ⟨q, _⟩ | ⟨g2, cap2, cur2, q, _, q3, _⟩
            · rw [q] at hg; cases hg
            · rw [q] at hg; cases hg; exact hX.block _ (lt_of_row q3)
          have HSZ : Hid (B + 1 ≤ W.heap.size) := by have := H5.out.2.2.1; show _ ≤ _; omega
          have FIT : Hid (pre.length + 1 ≤ maxLen ∧ (pre.length + 1) * 104 ≤ 140737488355328) := ⟨by unfold maxLen; omega, by omega⟩
          have HAPP : Hid (∀ X X' v' c, Below W.heap.size W X → EntC X (fun g => W.heap.size ≤ g ∧ g < X.heap.size) (key e) (ids e) c → X'.ownsRow (B + 1) 49 7 v' (pre.length + 1) (csl.flatten ++ c) → X.grownBy X' (Value.slice av ln lc).ownBlock → (v'.ownBlock = (Value.slice av ln lc).ownBlock ∨ v'.ownBlock = some X.heap.size) → (∃ a n c, v' = .slice a n c) ∧ X'.heap[B]? = some (.cells #[.slice av ln lc] 22 (0, 0)) ∧ ownPostG w5.heap.size (Kq w.heap.size) (fun q W => ∃ v, RI w B key ids (q.map Subtype.val) v W) (fun _ _ _ => False) (pre ++ [x]) W .normal { tmps := #[], defers := [] } (X'.setCell ⟨B, 0, none⟩ v')) := fun X X' v' c hX hE ho hg hv => by
            have hst := hC.step (e := e) H5.out.2.2.2.2 H5.out.2.2.2.2 H5.out.2.2.1 HSZ.out k1 k2 k3 hX hE (by rw [List.length_map]; exact ho) hg hv
            refine ⟨?_, hst.1, hst.2.1, hst.2.2.1, v', ?_⟩
            · obtain ⟨g, cap, q⟩ := ownsRow_succ ho
              exact ⟨_, _, _, q⟩
            · rw [List.map_append, List.map_singleton, ← hee]
              exact hst.2.2.2
          obtain ⟨i0, hi0, hz0, hz1, hz2⟩ := info_parts aent_parts
          rw [← hee]
          clear hee hC hs hlen hm hTW fe fi h1 h2 h3 hil k1 k2 k3 hfl hwl SQ HI0 H5 HB4 HH
          apply wpIn_block
          refine wpIn_region_ph (by kernel_rfl) (by kernel_rfl) Bt.ypre (by kernel_rfl) (fun f => { tmps := #[.pointer (some ⟨tb, 0, none⟩), .agg #[.bool ha, .bool oa, .int .u8 (xk : Int), .bool xb, .int .i64 xn, .string xs, .slice xa xl xc, .slice xf xm xd], .agg #[.bool hb, .bool ob, .int .u8 (yk : Int), .bool yb, .int .i64 yn, .string ys, .slice ya yl yc, .slice yf ym yd], undef, .pointer (some ⟨Bl, 0, none⟩), .pointer (some ⟨Bh, 0, none⟩), u6, u7, undef, u9, u10, .pointer (some ⟨B, 0, none⟩), .pointer (some ⟨e, 0, none⟩), .pointer (some ⟨tb, 0, none⟩), .bool false, .agg #[.bool ha, .bool oa, .int .u8 (xk : Int), .bool xb, .int .i64 xn, .string xs, .slice xa xl xc, .slice xf xm xd], .agg #[.bool hb, .bool ob, .int .u8 (yk : Int), .bool yb, .int .i64 yn, .string ys, .slice ya yl yc, .slice yf ym yd], .slice (some ⟨S, 0, none⟩) 2 2, .int .i64 2, .int .i64 2, .bool false, u21, u22, u23, u24, u25, u26, u27, u28, u29, u30, u31, u32, .pointer (some ⟨tb, 0, none⟩), .pointer (some ⟨tb, 0, none⟩), .pointer (some ⟨tb, 0, none⟩), .pointer po, .agg #[.bool ha, .bool oa, .int .u8 (xk : Int), .bool xb, .int .i64 xn, .string xs, .slice xa xl xc, .slice xf xm xd], .agg #[.bool hb, .bool ob, .int .u8 (yk : Int), .bool yb, .int .i64 yn, .string ys, .slice ya yl yc, .slice yf ym yd], .func (.func 50) #[] #[.pointer (some ⟨s, 0, none⟩), .pointer (some ⟨s + 1, 0, none⟩), .pointer (some ⟨s + 2, 0, none⟩)], .pointer (some ⟨e, 0, none⟩), f 0, f 1, f 2, f 3, f 4, f 5, f 6, f 7, f 8, f 9, f 10, f 11, f 12, f 13, undef], defers := [] }) (fun _ => undef) rfl (YI (Bt.yS W.heap.size e (.slice av ln lc) (.slice (some ⟨ir e, 0, none⟩) il cap) c0 c1 c2 c3 c4 c5 (key e) (ids e)) (fun X => Below W.heap.size W X) (fun v' X' => (∃ a n c, v' = .slice a n c) ∧ X'.heap[B]? = some (.cells #[.slice av ln lc] 22 (0, 0)) ∧ ownPostG w5.heap.size (Kq w.heap.size) (fun q W => ∃ v, RI w B key ids (q.map Subtype.val) v W) (fun _ _ _ => False) (pre ++ [x]) W .normal { tmps := #[], defers := [] } (X'.setCell ⟨B, 0, none⟩ v')) (fun X' => ownPostG w5.heap.size (Kq w.heap.size) (fun q W => ∃ v, RI w B key ids (q.map Subtype.val) v W) (fun _ _ _ => False) (pre ++ [x]) W .normal { tmps := #[], defers := [] } X')) ?init2 ?step2 ?done2
          case init2 => exact ⟨fun _ j _ h => (by cases h), fun _ => ⟨rfl, (Below.refl _ _).drew⟩, fun h => (by cases h), fun h => (by cases h)⟩
          case done2 =>
            intro L f X hL hI
            have hF := hI.fin (hL 14 (by simp))
            simp only [Exit.inBlock]
            exact hF
          intro i hi L f X hLi hwt hno hI
          have HI : Hid (YI _ _ _ _ L f X) := hI
          have hi15 : i < 15 := hi
          clear hi hI
          rcases (show i = 0 ∨ i = 1 ∨ i = 2 ∨ i = 3 ∨ i = 4 ∨ i = 5 ∨ i = 6 ∨ i = 7 ∨ i = 8 ∨ i = 9 ∨ i = 10 ∨ i = 11 ∨ i = 12 ∨ i = 13 ∨ i = 14 by omega) with rfl | rfl | rfl | rfl | rfl | rfl | rfl | rfl | rfl | rfl | rfl | rfl | rfl | rfl | rfl
          · -- 0
            have n13 : L 13 = false := hno 13 (by decide)
            have HP : Hid (Below W.heap.size W X) := (HI.out.ahead n13).2
            obtain ⟨y0, y1, y2, y3, y4, y5, y6, y7⟩ := HX.out X HP.out
            have HN : Hid (L 13 = false) := n13
            clear n13
            clear hwt hno hLi
            refine wpOpIn_of rfl rfl ?_
            intro K' hK'
            have HK' : Hid _ := hK'
            clear hK'
            change Oper.wpIn _ _ _ ⟨_, _, _, _, _, _⟩ _ _ _ _
            dsimp only
            go_simp
            exact HK'.out _ _ ⟨.slice av ln lc, (by rfl), HI.out.step Bt.yS_stays (by omega) HN.out (Below.refl _ _) HP.out rfl⟩
          · -- 1
            have n13 : L 13 = false := hno 13 (by decide)
            have HP : Hid (Below W.heap.size W X) := (HI.out.ahead n13).2
            have HN : Hid (L 13 = false) := n13
            clear n13
            clear hwt hno hLi
            refine wpOpIn_of rfl rfl ?_
            intro K' hK'
            have HK' : Hid _ := hK'
            clear hK'
            change Oper.wpIn _ _ _ ⟨_, _, _, _, _, _⟩ _ _ _ _
            dsimp only
            go_simp
            exact HK'.out _ _ ⟨.pointer (some ⟨e, 0, none⟩), (by rfl), HI.out.step Bt.yS_stays (by omega) HN.out (Below.refl _ _) HP.out rfl⟩
          · -- 2
            have n13 : L 13 = false := hno 13 (by decide)
            have HP : Hid (Below W.heap.size W X) := (HI.out.ahead n13).2
            have g1 : f 1 = .pointer (some ⟨e, 0, none⟩) := HI.out.vals n13 1 (by omega) (hwt 1 rfl)
            have HN : Hid (L 13 = false) := n13
            clear n13
            clear hwt hno hLi
            refine wpOpIn_of rfl rfl ?_
            intro K' hK'
            have HK' : Hid _ := hK'
            clear hK'
            change Oper.wpIn _ _ _ ⟨_, _, _, _, _, _⟩ _ _ _ _
            dsimp only
            rw [g1]
            go_simp
            exact HK'.out _ _ ⟨.pointer (some ⟨e, 0, none⟩), (by simp [upd, g1]), HI.out.step Bt.yS_stays (by omega) HN.out (Below.refl _ _) HP.out rfl⟩
          · -- 3
            have n13 : L 13 = false := hno 13 (by decide)
            have HP : Hid (Below W.heap.size W X) := (HI.out.ahead n13).2
            have g2 : f 2 = .pointer (some ⟨e, 0, none⟩) := HI.out.vals n13 2 (by omega) (hwt 2 rfl)
            have HN : Hid (L 13 = false) := n13
            clear n13
            clear hwt hno hLi
            refine wpOpIn_of rfl rfl ?_
            intro K' hK'
            have HK' : Hid _ := hK'
            clear hK'
            change Oper.wpIn _ _ _ ⟨_, _, _, _, _, _⟩ _ _ _ _
            dsimp only
            rw [g2]
            go_simp
            exact HK'.out _ _ ⟨.pointer (some ⟨e, 0, none⟩), (by simp [upd, g2]), HI.out.step Bt.yS_stays (by omega) HN.out (Below.refl _ _) HP.out rfl⟩
          · -- 4
            have n13 : L 13 = false := hno 13 (by decide)
            have HP : Hid (Below W.heap.size W X) := (HI.out.ahead n13).2
            have g3 : f 3 = .pointer (some ⟨e, 0, none⟩) := HI.out.vals n13 3 (by omega) (hwt 3 rfl)
            obtain ⟨y0, y1, y2, y3, y4, y5, y6, y7⟩ := HX.out X HP.out
            have HN : Hid (L 13 = false) := n13
            clear n13
            clear hwt hno hLi
            refine wpOpIn_of rfl rfl ?_
            intro K' hK'
            have HK' : Hid _ := hK'
            clear hK'
            change Oper.wpIn _ _ _ ⟨_, _, _, _, _, _⟩ _ _ _ _
            dsimp only
            rw [g3]
            go_simp
            exact HK'.out _ _ ⟨.agg #[c0, c1, c2, c3, c4, c5], (by simp [upd, g3]), HI.out.step Bt.yS_stays (by omega) HN.out (Below.refl _ _) HP.out rfl⟩
          · -- 5
            have n13 : L 13 = false := hno 13 (by decide)
            have HP : Hid (Below W.heap.size W X) := (HI.out.ahead n13).2
            have g4 : f 4 = .agg #[c0, c1, c2, c3, c4, c5] := HI.out.vals n13 4 (by omega) (hwt 4 rfl)
            have HN : Hid (L 13 = false) := n13
            clear n13
            clear hwt hno hLi
            refine wpOpIn_of rfl rfl ?_
            intro K' hK'
            have HK' : Hid _ := hK'
            clear hK'
            change Oper.wpIn _ _ _ ⟨_, _, _, _, _, _⟩ _ _ _ _
            dsimp only
            rw [g4]
            go_simp
            refine ⟨trivial, ?_⟩
            gi_at_call 32
            refine (callsIn_wide.2 (CO.out X HP.out)).mono ?_
            rintro ex wa ⟨q, b, m, z, a1, l1, e1, a2, l2, e2, rfl, hb2, hR⟩
            exact HK'.out _ _ ⟨.agg #[.int .u8 (q : Int), .bool b, .int .i64 m, .string z, .slice a1 l1 e1, .slice a2 l2 e2], (by simp [upd, g4]), HI.out.step Bt.yS_stays (by omega) HN.out hb2 (HP.out.trans (hb2.mono HP.out.size)) ⟨q, b, m, z, a1, l1, e1, a2, l2, e2, rfl, hR⟩⟩
          · -- 6
            have n13 : L 13 = false := hno 13 (by decide)
            have HP : Hid (Below W.heap.size W X) := (HI.out.ahead n13).2
            have HN : Hid (L 13 = false) := n13
            clear n13
            clear hwt hno hLi
            refine wpOpIn_of rfl rfl ?_
            intro K' hK'
            have HK' : Hid _ := hK'
            clear hK'
            change Oper.wpIn _ _ _ ⟨_, _, _, _, _, _⟩ _ _ _ _
            dsimp only
            go_simp
            exact HK'.out _ _ ⟨.pointer (some ⟨e, 0, none⟩), (by rfl), HI.out.step Bt.yS_stays (by omega) HN.out (Below.refl _ _) HP.out rfl⟩
          · -- 7
            have n13 : L 13 = false := hno 13 (by decide)
            have HP : Hid (Below W.heap.size W X) := (HI.out.ahead n13).2
            have g6 : f 6 = .pointer (some ⟨e, 0, none⟩) := HI.out.vals n13 6 (by omega) (hwt 6 rfl)
            have HN : Hid (L 13 = false) := n13
            clear n13
            clear hwt hno hLi
            refine wpOpIn_of rfl rfl ?_
            intro K' hK'
            have HK' : Hid _ := hK'
            clear hK'
            change Oper.wpIn _ _ _ ⟨_, _, _, _, _, _⟩ _ _ _ _
            dsimp only
            rw [g6]
            go_simp
            exact HK'.out _ _ ⟨.pointer (some ⟨e, 0, none⟩), (by simp [upd, g6]), HI.out.step Bt.yS_stays (by omega) HN.out (Below.refl _ _) HP.out rfl⟩
          · -- 8
            have n13 : L 13 = false := hno 13 (by decide)
            have HP : Hid (Below W.heap.size W X) := (HI.out.ahead n13).2
            have g7 : f 7 = .pointer (some ⟨e, 0, none⟩) := HI.out.vals n13 7 (by omega) (hwt 7 rfl)
            have HN : Hid (L 13 = false) := n13
            clear n13
            clear hwt hno hLi
            refine wpOpIn_of rfl rfl ?_
            intro K' hK'
            have HK' : Hid _ := hK'
            clear hK'
            change Oper.wpIn _ _ _ ⟨_, _, _, _, _, _⟩ _ _ _ _
            dsimp only
            rw [g7]
            go_simp
            exact HK'.out _ _ ⟨.pointer (some ⟨e, 6, none⟩), (by simp [upd, g7]), HI.out.step Bt.yS_stays (by omega) HN.out (Below.refl _ _) HP.out rfl⟩
          · -- 9
            have n13 : L 13 = false := hno 13 (by decide)
            have HP : Hid (Below W.heap.size W X) := (HI.out.ahead n13).2
            have g8 : f 8 = .pointer (some ⟨e, 6, none⟩) := HI.out.vals n13 8 (by omega) (hwt 8 rfl)
            obtain ⟨y0, y1, y2, y3, y4, y5, y6, y7⟩ := HX.out X HP.out
            have HN : Hid (L 13 = false) := n13
            clear n13
            clear hwt hno hLi
            refine wpOpIn_of rfl rfl ?_
            intro K' hK'
            have HK' : Hid _ := hK'
            clear hK'
            change Oper.wpIn _ _ _ ⟨_, _, _, _, _, _⟩ _ _ _ _
            dsimp only
            rw [g8]
            go_simp
            exact HK'.out _ _ ⟨.slice (some ⟨ir e, 0, none⟩) il cap, (by simp [upd, g8]), HI.out.step Bt.yS_stays (by omega) HN.out (Below.refl _ _) HP.out rfl⟩
          · -- 10
            have n13 : L 13 = false := hno 13 (by decide)
            have HP : Hid (Below W.heap.size W X) := (HI.out.ahead n13).2
            have g9 : f 9 = .slice (some ⟨ir e, 0, none⟩) il cap := HI.out.vals n13 9 (by omega) (hwt 9 rfl)
            have HN : Hid (L 13 = false) := n13
            clear n13
            clear hwt hno hLi
            refine wpOpIn_of rfl rfl ?_
            intro K' hK'
            have HK' : Hid _ := hK'
            clear hK'
            change Oper.wpIn _ _ _ ⟨_, _, _, _, _, _⟩ _ _ _ _
            dsimp only
            rw [g9]
            go_simp
            refine ⟨trivial, ?_⟩
            gi_at_call 33
            refine (callsIn_wide.2 (CC.out X HP.out)).mono ?_
            rintro ex wa ⟨i', cap', rfl, hb2, h2, h3⟩
            exact HK'.out _ _ ⟨.slice (some ⟨i', 0, none⟩) il cap', (by simp [upd, g9]), HI.out.step Bt.yS_stays (by omega) HN.out hb2 (HP.out.trans (hb2.mono HP.out.size)) ⟨i', cap', by rw [HIL.out], h2, h3⟩⟩
          · -- 11
            have n13 : L 13 = false := hno 13 (by decide)
            have HP : Hid (Below W.heap.size W X) := (HI.out.ahead n13).2
            obtain ⟨q, b, m, z, a1, l1, e1, a2, l2, e2, g5, hR⟩ : Bt.yS _ _ _ _ _ _ _ _ _ _ _ _ 5 (f 5) X := HI.out.vals n13 5 (by omega) (hwt 5 rfl)
            obtain ⟨i', cap', g10, hi', hI'⟩ : Bt.yS _ _ _ _ _ _ _ _ _ _ _ _ 10 (f 10) X := HI.out.vals n13 10 (by omega) (hwt 10 rfl)
            have HE : Hid (EntC X (fun g => W.heap.size ≤ g ∧ g < X.heap.size) (key e) (ids e) [.int .u8 (q : Int), .bool b, .int .i64 m, .string z, .slice a1 l1 e1, .slice a2 l2 e2, .slice (some ⟨i', 0, none⟩) (ids e).length cap']) := ⟨_, _, _, _, _, _, i', cap', rfl, by rw [← g5]; exact hR, hi', hI'⟩
            rw [← HIL.out] at g10 HE
            clear hR hi' hI'
            have HN : Hid (L 13 = false) := n13
            clear n13
            clear hwt hno hLi
            refine wpOpIn_of rfl rfl ?_
            intro K' hK'
            have HK' : Hid _ := hK'
            clear hK'
            change Oper.wpIn _ _ _ ⟨_, _, _, _, _, _⟩ _ _ _ _
            dsimp only
            rw [g5, g10]
            go_simp
            exact HK'.out _ _ ⟨.agg #[.int .u8 (q : Int), .bool b, .int .i64 m, .string z, .slice a1 l1 e1, .slice a2 l2 e2, .slice (some ⟨i', 0, none⟩) il cap'], (by simp [upd, g5, g10]), HI.out.step Bt.yS_stays (by omega) HN.out (Below.refl _ _) HP.out ⟨q, b, m, z, a1, l1, e1, a2, l2, e2, i', cap', by rw [HIL.out], by rw [← HIL.out]; exact HE.out⟩⟩
          · -- 12
            have n13 : L 13 = false := hno 13 (by decide)
            have HP : Hid (Below W.heap.size W X) := (HI.out.ahead n13).2
            obtain ⟨q, b, m, z, a1, l1, e1, a2, l2, e2, i', cap', g11, hE⟩ : Bt.yS _ _ _ _ _ _ _ _ _ _ _ _ 11 (f 11) X := HI.out.vals n13 11 (by omega) (hwt 11 rfl)
            have HE : Hid (EntC X (fun g => W.heap.size ≤ g ∧ g < X.heap.size) (key e) (ids e) [.int .u8 (q : Int), .bool b, .int .i64 m, .string z, .slice a1 l1 e1, .slice a2 l2 e2, .slice (some ⟨i', 0, none⟩) (ids e).length cap']) := hE
            rw [← HIL.out] at g11 HE
            clear hE
            have HN : Hid (L 13 = false) := n13
            clear n13
            clear hwt hno hLi
            refine wpOpIn_of rfl rfl ?_
            intro K' hK'
            have HK' : Hid _ := hK'
            clear hK'
            change Oper.wpIn _ _ _ ⟨_, _, _, _, _, _⟩ _ _ _ _
            dsimp only
            rw [g11]
            go_simp
            exact HK'.out _ _ ⟨.slice (some ⟨X.heap.size, 0, none⟩) 1 1, (by simp [upd, g11]), HI.out.step Bt.yS_stays (by omega) HN.out (below_new _ _) (HP.out.trans ((below_new _ _).mono HP.out.size)) ⟨X.heap.size, _, rfl, HE.out.stays (fun g hg => (below_new X _).block g hg.2) (fun g hg => ⟨hg.1, by have := hg.2; simp; omega⟩), fun j u hj => cells_at (heap_alloc_new X _) j u (by simpa using hj), by simp [Value.oneCell'], by simp⟩⟩
          · -- 13
            have HP : Hid (Below W.heap.size W X) := (HI.out.ahead hLi).2
            have n14 := (HI.out.ahead hLi).1
            have n13 := hLi
            have g0 : f 0 = .slice av ln lc := HI.out.vals n13 0 (by omega) (hwt 0 rfl)
            obtain ⟨g, c, g12, hE, hcl, hone, hgl⟩ : Bt.yS _ _ _ _ _ _ _ _ _ _ _ _ 12 (f 12) X := HI.out.vals n13 12 (by omega) (hwt 12 rfl)
            have HQ : Hid (EntC X (fun g => W.heap.size ≤ g ∧ g < X.heap.size) (key e) (ids e) c ∧ (∀ j u, c[j]? = some u → X.cell? ⟨g, j, none⟩ = some u) ∧ (∀ u ∈ c, u.oneCell' = true)) := ⟨hE, hcl, hone⟩
            clear hE hcl hone hgl
            have HN : Hid (L 13 = false) := n13
            clear n13
            clear hwt hno hLi
            refine wpOpIn_of rfl rfl ?_
            intro K' hK'
            have HK' : Hid _ := hK'
            clear hK'
            change Oper.wpIn _ _ _ ⟨_, _, _, _, _, _⟩ _ _ _ _
            dsimp only
            rw [g0, g12]
            refine operIn_append_own _ _ 22 rfl (B + 1) 49 i0 _ 7 104 Tryz.underlying22 hi0 hz0 hz1 hz2 rfl (by decide) (.slice av ln lc) pre.length csl.flatten rfl (HROW.out X HP.out) ⟨g, 0, none⟩ 1 1 c rfl (by rw [HQ.out.1.len]) (fun j u hj => by rw [Addr.add_lit, Nat.zero_add]; exact HQ.out.2.1 j u hj) HQ.out.2.2 FIT.out.1 FIT.out.2 (by have := HP.out.size; have := HSZ.out; omega) ?_
            intro v' X' ho hg hv
            exact HK'.out _ _ ⟨v', (by simp [Act.put, upd, g0, g12]), YI.app n14 (HAPP.out X X' v' c HP.out HQ.out.1 ho hg hv)⟩
          · -- 14
            obtain ⟨⟨a3, l3, c3', g13⟩, hbx, hfin⟩ := HI.out.mid (hwt 13 rfl) hLi
            have n13 := hwt 13 rfl
            have cb := cells_at hbx 0 _ rfl
            have fz := row_freeV hbx
            have HFN : Hid _ := hfin
            have HN : Hid (L 13 = true) := n13
            clear hfin hbx n13
            clear hwt hno hLi
            refine wpOpIn_of rfl rfl ?_
            intro K' hK'
            have HK' : Hid _ := hK'
            clear hK'
            change Oper.wpIn _ _ _ ⟨_, _, _, _, _, _⟩ _ _ _ _
            dsimp only
            rw [g13]
            go_simp
            exact HK'.out _ _ ⟨undef, (by simp [upd, g13]), YI.store HN.out (by rw [← g13]; exact HFN.out)⟩
        case done =>
          rintro D ys W hD hS ⟨v, hC⟩ hDD
          have cb : W.cell? ⟨B, 0, none⟩ = some v := cells_at hC.box 0 _ rfl
          have HE : Hid (∃ B, w.heap.size ≤ B ∧ RI w B key ids (Bt.wl key lo hi t) v (W.putObj D (.deferred none))) := by
            refine ⟨B, H5.out.2.2.2.2, ?_⟩
            rw [← hS]
            obtain ⟨cs, e1, e2, e3⟩ := hC.ents
            have hne : ∀ g, CellsAt W g → (W.putObj D (.deferred none)).heap[g]? = W.heap[g]? := fun g ⟨c, ty, fr, h0⟩ => World.putObj_heap_other (fun q => by subst q; rw [hDD] at h0; cases h0)
            refine ⟨hC.below.trans (belowK_b (w := w) (Nat.le_refl _) W D _ _ (by have := H5.out.2.1.size; omega) hDD rfl rfl), (hne _ ⟨_, _, _, hC.box⟩).trans hC.box, cs, e1, owns_stays e2 fun g hg => ?_, fun j e c he hc => (e3 j e c he hc).stays (fun g q => hne g q.2) fun g q => ⟨⟨q.1.1, by rw [World.putObj_size]; exact q.1.2.1, q.1.2.2⟩, q.2.keep (hne g q.2)⟩⟩
            rcases e2.2 with ⟨rfl, _⟩ | ⟨g2, cap, cur, rfl, _, q3, _⟩
            · cases hg
            · cases hg; exact hne _ ⟨_, _, _, q3⟩
          obtain ⟨av, ln, lc, rfl⟩ : ∃ av ln lc, v = .slice av ln lc := by
            obtain ⟨cs, _, e2, _⟩ := hC.ents
            rcases e2.2 with ⟨h, _⟩ | ⟨g, cap, cur, h, _⟩
            · exact ⟨_, _, _, h⟩
            · exact ⟨_, _, _, h⟩
          clear hC
          go_wp2
          refine ⟨by simp, .inl ⟨_, _, rfl, run_takeDeferred hDD, ?_⟩⟩
          obtain ⟨B2, q1, q2⟩ := HE.out
          exact ⟨_, results_tmp2 rfl _ _ _, .slice av ln lc, B2, by rfl, q1, q2⟩
        case stop =>
          rintro D c pre W _ _ h _
          exact h.elim
end
end Go.Proofs.YtkigenldiinioaaGreatDoor
