/- The document's Range: walked. -/
import Derived.Test.YtkigenldiinioaaGreatDoorRfEM
import Derived.Test.YtkigenldiinioaaGreatDoorApEM
import Derived.Test.YtkigenldiinioaaGreatDoorQ18M
import Derived.Deep.RegionLawGrows
namespace Go.Proofs.YtkigenldiinioaaGreatDoor
open Go.RowKit Go.Shelf
open Vl (V)
attribute [local go_sem ↓] Go.wp_at_zero Go.wp_at_succ
/-- what comes ahead in the region of Range's loop -/
def Bt.rpre : Nat → List Nat := fun i => (#[[], [], [1], [1, 2], [], [], [5], [1, 2, 3, 4, 5, 6], [1, 2, 3, 4, 5, 6, 7], [1, 2, 3, 4, 5, 6, 7, 8], [0, 1, 2, 3, 4, 5, 6, 7, 8, 9], [0, 1, 2, 3, 4, 5, 6, 7, 8, 9, 10]] : Array (List Nat)).getD i []
/-- the region's state: by what is done -/
structure RJ (S : Nat → Value → World → Prop) (lv : Value) (Pre : World → Prop) (App : Value → World → Prop) (L : Nat → Bool) (f : Nat → Value) (W : World) : Prop where
  vals : L 10 = false → ∀ j, j < 10 → L j = true → S j (f j) W
  ahead : L 10 = false → L 11 = false ∧ Pre W
  old : L 11 = false → f 11 = lv
  mid : L 10 = true → L 11 = false → App (f 10) W
  fin : L 11 = true → App (f 11) W
theorem RJ.step {S : Nat → Value → World → Prop} {lv : Value} {Pre : World → Prop} {App : Value → World → Prop} {L : Nat → Bool} {f : Nat → Value} {W W' : World} (hst : ∀ j v W W', S j v W → Below W.heap.size W W' → S j v W') (h : RJ S lv Pre App L f W) {i : Nat} {v : Value} (hi : i < 10) (h10 : L 10 = false) (hb : Below W.heap.size W W') (hP : Pre W') (hS : S i v W') : RJ S lv Pre App (updB L i) (upd f i v) W' where
  vals := fun _ j hj hL => by
    by_cases e : j = i
    · subst e; rw [upd_same]; exact hS
    · rw [updB_other e] at hL; rw [upd_other e]; exact hst _ _ _ _ (h.vals h10 j hj hL) hb
  ahead := fun _ => by rw [updB_other (by omega)]; exact ⟨(h.ahead h10).1, hP⟩
  old := fun _ => by rw [upd_other (by omega)]; exact h.old (h.ahead h10).1
  mid := fun hL => by rw [updB_other (by omega), h10] at hL; cases hL
  fin := fun hL => by rw [updB_other (by omega), (h.ahead h10).1] at hL; cases hL
theorem RJ.app {S : Nat → Value → World → Prop} {lv : Value} {Pre : World → Prop} {App : Value → World → Prop} {L : Nat → Bool} {f : Nat → Value} {W W' : World} {v : Value} (h : RJ S lv Pre App L f W) (h10 : L 10 = false) (hA : App v W') : RJ S lv Pre App (updB L 10) (upd f 10 v) W' where
  vals := fun hL => by rw [updB_same] at hL; cases hL
  ahead := fun hL => by rw [updB_same] at hL; cases hL
  old := fun hL => by rw [upd_other (by omega)]; exact h.old (h.ahead h10).1
  mid := fun _ _ => by rw [upd_same]; exact hA
  fin := fun hL => by rw [updB_other (by omega), (h.ahead h10).1] at hL; cases hL
theorem RJ.last {S : Nat → Value → World → Prop} {lv : Value} {Pre : World → Prop} {App : Value → World → Prop} {L : Nat → Bool} {f : Nat → Value} {W : World} {v : Value} (h10 : L 10 = true) (hA : App v W) : RJ S lv Pre App (updB L 11) (upd f 11 v) W where
  vals := fun hL => by rw [updB_other (by omega), h10] at hL; cases hL
  ahead := fun hL => by rw [updB_other (by omega), h10] at hL; cases hL
  old := fun hL => by rw [updB_same] at hL; cases hL
  mid := fun _ hL => by rw [updB_same] at hL; cases hL
  fin := fun _ => by rw [upd_same]; exact hA
/-- what the slots hold -/
def Bt.rS (s0 X : Nat) (lv kv iv : Value) (p : V × List Nat) (j : Nat) (u : Value) (W : World) : Prop :=
  if j = 0 then u = lv
  else if j = 2 then u = kv
  else if j = 3 then ∃ (q : Nat) (b : Bool) (m : Int) (s : ByteArray) (a1 : Option Addr) (l1 e1 : Nat) (a2 : Option Addr) (l2 e2 : Nat), u = .agg #[.int .u8 (q : Int), .bool b, .int .i64 m, .string s, .slice a1 l1 e1, .slice a2 l2 e2] ∧ RepA W (fun g => s0 ≤ g ∧ g < W.heap.size) p.1 u
  else if j = 4 then ∃ g : Nat, u = .slice (some ⟨g, 0, none⟩) 0 0
  else if j = 5 then u = .pointer (some ⟨X, 6, none⟩)
  else if j = 6 then u = iv
  else if j = 7 then ∃ i cap, u = .slice (some ⟨i, 0, none⟩) p.2.length cap ∧ NumsA W (fun g => s0 ≤ g ∧ g < W.heap.size) (some ⟨i, 0, none⟩) p.2
  else if j = 8 then ∃ (q : Nat) (b : Bool) (m : Int) (s : ByteArray) (a1 : Option Addr) (l1 e1 : Nat) (a2 : Option Addr) (l2 e2 i cap : Nat), u = .agg #[.int .u8 (q : Int), .bool b, .int .i64 m, .string s, .slice a1 l1 e1, .slice a2 l2 e2, .slice (some ⟨i, 0, none⟩) p.2.length cap] ∧ EntV W (fun g => s0 ≤ g ∧ g < W.heap.size) p [.int .u8 (q : Int), .bool b, .int .i64 m, .string s, .slice a1 l1 e1, .slice a2 l2 e2, .slice (some ⟨i, 0, none⟩) p.2.length cap]
  else if j = 9 then ∃ (g : Nat) (c : List Value), u = .slice (some ⟨g, 0, none⟩) 1 1 ∧ EntV W (fun g => s0 ≤ g ∧ g < W.heap.size) p c ∧ ∃ cs, W.heap[g]? = some (.cells cs 49 (0, 0)) ∧ cs.toList = c
  else u = .pointer (some ⟨X, 0, none⟩)
theorem Bt.rS_stays {s0 X : Nat} {lv kv iv : Value} {p : V × List Nat} (j : Nat) (u : Value) (W W' : World) (h : Bt.rS s0 X lv kv iv p j u W) (hb : Below W.heap.size W W') : Bt.rS s0 X lv kv iv p j u W' := by
  have hs := hb.size
  have mv : ∀ g, s0 ≤ g ∧ g < W.heap.size → W'.heap[g]? = W.heap[g]? := fun g hg => hb.block g hg.2
  have up : ∀ g, s0 ≤ g ∧ g < W.heap.size → s0 ≤ g ∧ g < W'.heap.size := fun g hg => ⟨hg.1, Nat.lt_of_lt_of_le hg.2 hs⟩
  unfold Bt.rS at h ⊢
  by_cases q0 : j = 0
  · rw [if_pos q0] at h ⊢; exact h
  rw [if_neg q0] at h ⊢
  by_cases q2 : j = 2
  · rw [if_pos q2] at h ⊢; exact h
  rw [if_neg q2] at h ⊢
  by_cases q3 : j = 3
  · rw [if_pos q3] at h ⊢
    obtain ⟨q, b, m, s, a1, l1, e1, a2, l2, e2, h1, h2⟩ := h
    exact ⟨q, b, m, s, a1, l1, e1, a2, l2, e2, h1, repA_stays mv up _ _ h2⟩
  rw [if_neg q3] at h ⊢
  by_cases q4 : j = 4
  · rw [if_pos q4] at h ⊢; exact h
  rw [if_neg q4] at h ⊢
  by_cases q5 : j = 5
  · rw [if_pos q5] at h ⊢; exact h
  rw [if_neg q5] at h ⊢
  by_cases q6 : j = 6
  · rw [if_pos q6] at h ⊢; exact h
  rw [if_neg q6] at h ⊢
  by_cases q7 : j = 7
  · rw [if_pos q7] at h ⊢
    obtain ⟨i, cap, h1, h2⟩ := h
    exact ⟨i, cap, h1, h2.stays mv up⟩
  rw [if_neg q7] at h ⊢
  by_cases q8 : j = 8
  · rw [if_pos q8] at h ⊢
    obtain ⟨q, b, m, s, a1, l1, e1, a2, l2, e2, i, cap, h1, h2⟩ := h
    exact ⟨q, b, m, s, a1, l1, e1, a2, l2, e2, i, cap, h1, h2.stays mv up⟩
  rw [if_neg q8] at h ⊢
  by_cases q9 : j = 9
  · rw [if_pos q9] at h ⊢
    obtain ⟨g, c, h1, h2, cs, h3, h4⟩ := h
    exact ⟨g, c, h1, h2.stays mv up, cs, (hb.block g (lt_of_row h3)).trans h3, h4⟩
  rw [if_neg q9] at h ⊢
  exact h
theorem wp_append_grows' {o : Oper} {a : Act} {w : World} {K : Act → World → Prop} {Q : Exit → Act → World → Prop} (hg : o.guard = none) (s x : Operand) (hop : o.op = Op.call { callee := Callee.builtin Builtin.append, args := #[s, x], argTypes := #[38, 38] }) (g : Nat) (hs : a.eval s = .slice (some ⟨g, 0, none⟩) 0 0) (gp m c : Nat) (l : List Nat) (hx : a.eval x = .slice (some ⟨gp, 0, none⟩) m c) (hm : m = l.length) (h0 : 0 < m) (h1 : m ≤ 1000000) (hc : ∀ (j y : Nat), l[j]? = some y → w.cell? ⟨gp, j, none⟩ = some (.int .u64 (y : Int)))
    (hK : ∀ v' w', w'.ownsRow w.heap.size 51 1 v' m (Bt.nums l) → w.grownBy w' none → K (a.put o.dst v') w') : Oper.wp Tryz.prog o a w K Q := by
  obtain ⟨i1, hi1, hy0, hy1, hy2⟩ := info_parts insU_info
  have hw : Region.wanted o (yielded #[] a.tmps) = true := by simp [Region.wanted, hg]
  have h := step_append_grows (P := Tryz.prog) (ops := #[]) (o := o) (a := a) (w := w) (K := K) (Q := Q) (E := True) hg s x 38 hop 51 i1 _ 1 8 Tryz.underlying38 hi1 hy0 hy1 hy2 rfl (by decide) (some ⟨g, 0, none⟩) 0 0 [] hs (fun h => by cases h) rfl (fun b _ j u hu => by simp at hu) ⟨gp, 0, none⟩ m c (Bt.nums l) hx (by rw [Bt.nums, List.length_map, hm]; omega) (fun j u hu => by
    rw [Bt.nums, List.getElem?_map] at hu
    cases hq : l[j]? with
    | none => rw [hq] at hu; cases hu
    | some y =>
      rw [hq] at hu
      cases hu
      rw [Addr.add_mid, Nat.zero_add]
      exact hc j y hq) nums_one (by omega) (by unfold maxLen; omega) (by omega) (fun v' w' q1 q2 => hK v' w' (by rw [Nat.zero_add, List.nil_append] at q1; exact q1) q2)
  rw [if_pos hw] at h
  exact h

set_option maxHeartbeats 16000000 in
set_option maxRecDepth 100000 in
theorem rrange_c (L : Bt.KL) (a : Option Addr) (ca : Nat) (w : World) (hL : L.length ≤ 1000000) (hsm : ∀ p ∈ L, Vl.small p.1 ∧ 1 ≤ p.2.length) (ha : EntsAt w a L) (lo hi : Option (Bool × V)) (lv hv : Value) (hlo : Bnd w w.heap.size lo lv) (hhi : Bnd w w.heap.size hi hv) :
    Calls Tryz.prog 12 #[.slice a L.length ca, lv, hv] w (EntR w (fun _ => False) (if Bt.rerr lo hi = 0 then L.filter fun p => Bt.inR lo hi p.1 else []) (Bt.rerr lo hi)) := by
  obtain ⟨n, hn⟩ : ∃ n, n = L.length := ⟨_, rfl⟩
  rw [← hn] at hL ⊢
  have HN : Hid (n = L.length ∧ n ≤ 1000000 ∧ ∀ p ∈ L, Vl.small p.1 ∧ 1 ≤ p.2.length) := ⟨hn, hL, hsm⟩
  have hlo' := hlo
  have hhi' := hhi
  obtain ⟨ha', oa, l0, l1, l2, l3, l4, l5, x, rfl, rx, ea⟩ := hlo
  obtain ⟨hb, ob, r0, r1, r2, r3, r4, r5, y, rfl, ry, eb⟩ := hhi
  obtain ⟨xk, xb, xn, xs, xa, xl, xc, xf, xm, xd, rfl, rfl, rfl, rfl, rfl, rfl⟩ := rep_form rx
  obtain ⟨yk, yb, yn, ys, ya, yl, yc, yf, ym, yd, rfl, rfl, rfl, rfl, rfl, rfl⟩ := rep_form ry
  obtain ⟨ex, hex⟩ : ∃ ex, ex = Bt.kerr x := ⟨_, rfl⟩
  obtain ⟨ey, hey⟩ : ∃ ey, ey = Bt.kerr y := ⟨_, rfl⟩
  obtain ⟨er, her⟩ : ∃ er, er = Bt.rerr lo hi := ⟨_, rfl⟩
  obtain ⟨L2, hL2⟩ : ∃ L2, L2 = (if Bt.rerr lo hi = 0 then L.filter fun p => Bt.inR lo hi p.1 else []) := ⟨_, rfl⟩
  rw [← hL2, ← her]
  have HER : Hid (er = (if ha' = true ∧ ex ≠ 0 then ex else if hb = true ∧ ey ≠ 0 then ey else 0)) := by
    show _ = _
    rw [her, Bt.rerr, ea, eb, hex, hey]
    cases ha' <;> cases hb <;> simp [Bt.berr]
    split <;> simp_all
  have HBAD : Hid (∀ e, er ≠ 0 → er = e → ∀ W, Below w.heap.size w W → EntR w (fun _ => False) L2 er (.returned (.tuple #[.slice none 0 0, .int .i64 (e : Int)])) W) := fun e h0 he W hW => by
    rw [hL2, ← her, if_neg h0, ← he]
    exact ⟨none, 0, 0, rfl, rfl, EntsA.nil _ _ _, hW⟩
  have HL2 : Hid (er = 0 → L2 = L.filter fun p => Bt.inR lo hi p.1) := fun h0 => by rw [hL2, ← her, if_pos h0]
  obtain ⟨w2, hw2⟩ : ∃ w2, w2 = ((w.alloc (.cells #[.bool ha', .bool oa, .int .u8 (xk : Int), .bool xb, .int .i64 xn, .string xs, .slice xa xl xc, .slice xf xm xd] 29)).alloc (.cells #[.bool hb, .bool ob, .int .u8 (yk : Int), .bool yb, .int .i64 yn, .string ys, .slice ya yl yc, .slice yf ym yd] 29)).alloc (.cells #[.bool ha', .bool oa, .int .u8 (xk : Int), .bool xb, .int .i64 xn, .string xs, .slice xa xl xc, .slice xf xm xd, .bool hb, .bool ob, .int .u8 (yk : Int), .bool yb, .int .i64 yn, .string ys, .slice ya yl yc, .slice yf ym yd] 29) := ⟨_, rfl⟩
  obtain ⟨Bl, hBl⟩ : ∃ Bl, Bl = w.heap.size := ⟨_, rfl⟩
  obtain ⟨Bh, hBh⟩ : ∃ Bh, Bh = w.heap.size + 1 := ⟨_, rfl⟩
  obtain ⟨S, hS⟩ : ∃ S, S = w.heap.size + 1 + 1 := ⟨_, rfl⟩
  obtain ⟨b2, bl2, bh2, bs2⟩ : Below w.heap.size w w2 ∧ w2.heap[Bl]? = some (.cells #[.bool ha', .bool oa, .int .u8 (xk : Int), .bool xb, .int .i64 xn, .string xs, .slice xa xl xc, .slice xf xm xd] 29 (0, 0)) ∧ w2.heap[Bh]? = some (.cells #[.bool hb, .bool ob, .int .u8 (yk : Int), .bool yb, .int .i64 yn, .string ys, .slice ya yl yc, .slice yf ym yd] 29 (0, 0)) ∧ w2.heap[S]? = some (.cells #[.bool ha', .bool oa, .int .u8 (xk : Int), .bool xb, .int .i64 xn, .string xs, .slice xa xl xc, .slice xf xm xd, .bool hb, .bool ob, .int .u8 (yk : Int), .bool yb, .int .i64 yn, .string ys, .slice ya yl yc, .slice yf ym yd] 29 (0, 0)) := by
    rw [hw2, hBl, hBh, hS]
    exact three_new (Below.refl _ _) _ _ _ _ _ _
  have HD : Hid (∀ W, Below w2.heap.size w2 W → Below w.heap.size w W ∧ W.heap[Bl]? = some (.cells #[.bool ha', .bool oa, .int .u8 (xk : Int), .bool xb, .int .i64 xn, .string xs, .slice xa xl xc, .slice xf xm xd] 29 (0, 0)) ∧ W.heap[Bh]? = some (.cells #[.bool hb, .bool ob, .int .u8 (yk : Int), .bool yb, .int .i64 yn, .string ys, .slice ya yl yc, .slice yf ym yd] 29 (0, 0)) ∧ W.heap[S]? = some (.cells #[.bool ha', .bool oa, .int .u8 (xk : Int), .bool xb, .int .i64 xn, .string xs, .slice xa xl xc, .slice xf xm xd, .bool hb, .bool ob, .int .u8 (yk : Int), .bool yb, .int .i64 yn, .string ys, .slice ya yl yc, .slice yf ym yd] 29 (0, 0))) := fun W hW => ⟨b2.trans (hW.mono b2.size), (hW.block _ (lt_of_row bl2)).trans bl2, (hW.block _ (lt_of_row bh2)).trans bh2, (hW.block _ (lt_of_row bs2)).trans bs2⟩
  have CX : Hid (∀ W, Below w.heap.size w W → Calls Tryz.prog 14 #[.agg #[.int .u8 (xk : Int), .bool xb, .int .i64 xn, .string xs, .slice xa xl xc, .slice xf xm xd]] W fun e w' => e = .returned (.int .i64 (ex : Int)) ∧ Below W.heap.size W w') := fun W hW => by
    rw [hex]; exact rcheck19 x W w.heap.size _ hW.size (rep_stays hW (Nat.le_refl _) _ _ rx)
  have CY : Hid (∀ W, Below w.heap.size w W → Calls Tryz.prog 14 #[.agg #[.int .u8 (yk : Int), .bool yb, .int .i64 yn, .string ys, .slice ya yl yc, .slice yf ym yd]] W fun e w' => e = .returned (.int .i64 (ey : Int)) ∧ Below W.heap.size W w') := fun W hW => by
    rw [hey]; exact rcheck19 y W w.heap.size _ hW.size (rep_stays hW (Nat.le_refl _) _ _ ry)
  have CIN : Hid (∀ (p : V × List Nat) (va : Value) (W : World), Below w.heap.size w W → Rep w w.heap.size p.1 va → Calls Tryz.prog 22 #[va, .agg #[.bool ha', .bool oa, .int .u8 (xk : Int), .bool xb, .int .i64 xn, .string xs, .slice xa xl xc, .slice xf xm xd], .agg #[.bool hb, .bool ob, .int .u8 (yk : Int), .bool yb, .int .i64 yn, .string ys, .slice ya yl yc, .slice yf ym yd]] W fun e w' => e = .returned (.bool (Bt.inR lo hi p.1)) ∧ Below W.heap.size W w') := fun p va W hW hr => rin_c p.1 lo hi _ _ _ W (rep_stays hW hW.size _ _ hr) ((hlo'.stays hW).up hW.size) ((hhi'.stays hW).up hW.size)
  have HA : Hid (EntsAt w a L) := ha
  clear hlo' hhi' rx ry ea eb b2 bl2 bh2 bs2 hex hey her hL2 hn hL hsm ha
  go_enter Tryz.func12, Tryz.ntmps12
  go_upto_region 2 with fail
  go_wp2_with fail
  rw [← hw2, ← hS, ← hBh, ← hBl]
  clear hw2 hS hBh hBl
  go_loopw [17] (fun i wr => ∃ (j : Nat), i = .int .i64 (j : Int) ∧ j ≤ 2 ∧ (1 ≤ j → ¬ (ha' = true ∧ ex ≠ 0)) ∧ (2 ≤ j → ¬ (hb = true ∧ ey ≠ 0)) ∧ Below w2.heap.size w2 wr) (fun i _ => 2 - (intOf i).toNat)
  case atStart => exact ⟨0, rfl, by omega, fun h => by omega, fun h => by omega, Below.refl _ _⟩
  case round =>
    obtain ⟨j, rfl, hj, hp1, hp2, hbr⟩ := hrel
    have HBR : Hid (Below w2.heap.size w2 wr) := hbr
    have HP1 : Hid (1 ≤ j → ¬ (ha' = true ∧ ex ≠ 0)) := hp1
    have HP2 : Hid (2 ≤ j → ¬ (hb = true ∧ ey ≠ 0)) := hp2
    clear hbr hp1 hp2
    rcases (show j = 0 ∨ j = 1 ∨ j = 2 by omega) with rfl | rfl | rfl
    · obtain ⟨k1, kl, kh, ks⟩ := HD.out wr HBR.out
      have z0 := cells_at ks 0 _ rfl
      have z1 := cells_at ks 1 _ rfl
      have z2 := cells_at ks 2 _ rfl
      have z3 := cells_at ks 3 _ rfl
      have z4 := cells_at ks 4 _ rfl
      have z5 := cells_at ks 5 _ rfl
      have z6 := cells_at ks 6 _ rfl
      have z7 := cells_at ks 7 _ rfl
      clear k1 kl kh ks
      go_upto_region 4 with fail
      obtain ⟨w3, hw3⟩ : ∃ w3, w3 = wr.alloc (.cells #[.bool ha', .bool oa, .int .u8 (xk : Int), .bool xb, .int .i64 xn, .string xs, .slice xa xl xc, .slice xf xm xd] 29) := ⟨_, rfl⟩
      have n1 := by have := heap_alloc_new wr (.cells #[.bool ha', .bool oa, .int .u8 (xk : Int), .bool xb, .int .i64 xn, .string xs, .slice xa xl xc, .slice xf xm xd] 29); rw [← hw3] at this; exact this
      have n2 : Below wr.heap.size wr w3 := by rw [hw3]; exact below_new _ _
      rw [← hw3]
      obtain ⟨X, hX⟩ : ∃ X, X = wr.heap.size := ⟨_, rfl⟩
      rw [← hX] at n1 ⊢
      have HB3 : Hid (Below w2.heap.size w2 w3 ∧ w3.heap[X]? = some (.cells #[.bool ha', .bool oa, .int .u8 (xk : Int), .bool xb, .int .i64 xn, .string xs, .slice xa xl xc, .slice xf xm xd] 29 (0, 0))) := ⟨HBR.out.trans (n2.mono HBR.out.size), n1⟩
      have y0 := cells_at n1 0 _ rfl
      have y2 := cells_at n1 2 _ rfl
      have y3 := cells_at n1 3 _ rfl
      have y4 := cells_at n1 4 _ rfl
      have y5 := cells_at n1 5 _ rfl
      have y6 := cells_at n1 6 _ rfl
      have y7 := cells_at n1 7 _ rfl
      clear z0 z1 z2 z3 z4 z5 z6 z7 hw3 n1 n2 hX
      cases ha' with
      | false =>
        go_wp2
        go_roundw
        case rel => exact ⟨1, rfl, by omega, by simp, by simp, HB3.out.1⟩
        case measure => simp [intOf]
      | true =>
        go_wp2_with fail
        refine (CX.out _ (HD.out _ HB3.out.1).1).mono ?_
        rintro ex' w4 ⟨rfl, hb4⟩
        have HB4 : Hid (Below w2.heap.size w2 w4 ∧ w4.heap[X]? = some (.cells #[.bool true, .bool oa, .int .u8 (xk : Int), .bool xb, .int .i64 xn, .string xs, .slice xa xl xc, .slice xf xm xd] 29 (0, 0))) := ⟨HB3.out.1.trans (hb4.mono HB3.out.1.size), (hb4.block _ (lt_of_row HB3.out.2)).trans HB3.out.2⟩
        clear hb4 y0 y2 y3 y4 y5 y6 y7
        by_cases hz : ex = 0
        · have HZ : Hid (ex = 0) := hz
          have q1 : ((ex : Int) != 0) = false := by simp; omega
          have q2 : (ex : Int) = 0 := by omega
          clear hz
          go_wp2
          go_roundw
          case rel => exact ⟨1, rfl, by omega, fun _ q => q.2 HZ.out, by simp, HB4.out.1⟩
          case measure => simp [intOf]
        · have q1 : ((ex : Int) != 0) = true := by simp; omega
          have q2 : ¬ ((ex : Int) = 0) := by omega
          have HZ : Hid (er = ex ∧ er ≠ 0) := by
            have h1 : er = ex := by
              rw [HER.out]
              rw [if_pos ⟨by first | rfl | trivial, hz⟩]
            exact ⟨h1, by rw [h1]; exact hz⟩
          clear hz
          have y2 := cells_at HB4.out.2 2 _ rfl
          have y3 := cells_at HB4.out.2 3 _ rfl
          have y4 := cells_at HB4.out.2 4 _ rfl
          have y5 := cells_at HB4.out.2 5 _ rfl
          have y6 := cells_at HB4.out.2 6 _ rfl
          have y7 := cells_at HB4.out.2 7 _ rfl
          go_wp2_with fail
          refine (CX.out _ (HD.out _ HB4.out.1).1).mono ?_
          rintro ex' w5 ⟨rfl, hb5⟩
          have HB5 : Hid (Below w2.heap.size w2 w5) := HB4.out.1.trans (hb5.mono HB4.out.1.size)
          clear hb5 y2 y3 y4 y5 y6 y7
          go_wp2
          go_ret2
          exact HBAD.out _ HZ.out.2 HZ.out.1 _ (HD.out _ HB5.out).1
    · obtain ⟨k1, kl, kh, ks⟩ := HD.out wr HBR.out
      have z0 := cells_at ks 8 _ rfl
      have z1 := cells_at ks 9 _ rfl
      have z2 := cells_at ks 10 _ rfl
      have z3 := cells_at ks 11 _ rfl
      have z4 := cells_at ks 12 _ rfl
      have z5 := cells_at ks 13 _ rfl
      have z6 := cells_at ks 14 _ rfl
      have z7 := cells_at ks 15 _ rfl
      clear k1 kl kh ks
      go_upto_region 4 with fail
      obtain ⟨w3, hw3⟩ : ∃ w3, w3 = wr.alloc (.cells #[.bool hb, .bool ob, .int .u8 (yk : Int), .bool yb, .int .i64 yn, .string ys, .slice ya yl yc, .slice yf ym yd] 29) := ⟨_, rfl⟩
      have n1 := by have := heap_alloc_new wr (.cells #[.bool hb, .bool ob, .int .u8 (yk : Int), .bool yb, .int .i64 yn, .string ys, .slice ya yl yc, .slice yf ym yd] 29); rw [← hw3] at this; exact this
      have n2 : Below wr.heap.size wr w3 := by rw [hw3]; exact below_new _ _
      rw [← hw3]
      obtain ⟨X, hX⟩ : ∃ X, X = wr.heap.size := ⟨_, rfl⟩
      rw [← hX] at n1 ⊢
      have HB3 : Hid (Below w2.heap.size w2 w3 ∧ w3.heap[X]? = some (.cells #[.bool hb, .bool ob, .int .u8 (yk : Int), .bool yb, .int .i64 yn, .string ys, .slice ya yl yc, .slice yf ym yd] 29 (0, 0))) := ⟨HBR.out.trans (n2.mono HBR.out.size), n1⟩
      have y0 := cells_at n1 0 _ rfl
      have y2 := cells_at n1 2 _ rfl
      have y3 := cells_at n1 3 _ rfl
      have y4 := cells_at n1 4 _ rfl
      have y5 := cells_at n1 5 _ rfl
      have y6 := cells_at n1 6 _ rfl
      have y7 := cells_at n1 7 _ rfl
      clear z0 z1 z2 z3 z4 z5 z6 z7 hw3 n1 n2 hX
      cases hb with
      | false =>
        go_wp2
        go_roundw
        case rel => exact ⟨2, rfl, by omega, by first | exact fun _ => HP1.out (by omega) | simp, by simp, HB3.out.1⟩
        case measure => simp [intOf]
      | true =>
        go_wp2_with fail
        refine (CY.out _ (HD.out _ HB3.out.1).1).mono ?_
        rintro ex' w4 ⟨rfl, hb4⟩
        have HB4 : Hid (Below w2.heap.size w2 w4 ∧ w4.heap[X]? = some (.cells #[.bool true, .bool ob, .int .u8 (yk : Int), .bool yb, .int .i64 yn, .string ys, .slice ya yl yc, .slice yf ym yd] 29 (0, 0))) := ⟨HB3.out.1.trans (hb4.mono HB3.out.1.size), (hb4.block _ (lt_of_row HB3.out.2)).trans HB3.out.2⟩
        clear hb4 y0 y2 y3 y4 y5 y6 y7
        by_cases hz : ey = 0
        · have HZ : Hid (ey = 0) := hz
          have q1 : ((ey : Int) != 0) = false := by simp; omega
          have q2 : (ey : Int) = 0 := by omega
          clear hz
          go_wp2
          go_roundw
          case rel => exact ⟨2, rfl, by omega, fun _ => HP1.out (by omega), fun _ q => q.2 HZ.out, HB4.out.1⟩
          case measure => simp [intOf]
        · have q1 : ((ey : Int) != 0) = true := by simp; omega
          have q2 : ¬ ((ey : Int) = 0) := by omega
          have HZ : Hid (er = ey ∧ er ≠ 0) := by
            have h1 : er = ey := by
              rw [HER.out]
              rw [if_neg (HP1.out (by omega)), if_pos ⟨by first | rfl | trivial, hz⟩]
            exact ⟨h1, by rw [h1]; exact hz⟩
          clear hz
          have y2 := cells_at HB4.out.2 2 _ rfl
          have y3 := cells_at HB4.out.2 3 _ rfl
          have y4 := cells_at HB4.out.2 4 _ rfl
          have y5 := cells_at HB4.out.2 5 _ rfl
          have y6 := cells_at HB4.out.2 6 _ rfl
          have y7 := cells_at HB4.out.2 7 _ rfl
          go_wp2_with fail
          refine (CY.out _ (HD.out _ HB4.out.1).1).mono ?_
          rintro ex' w5 ⟨rfl, hb5⟩
          have HB5 : Hid (Below w2.heap.size w2 w5) := HB4.out.1.trans (hb5.mono HB4.out.1.size)
          clear hb5 y2 y3 y4 y5 y6 y7
          go_wp2
          go_ret2
          exact HBAD.out _ HZ.out.2 HZ.out.1 _ (HD.out _ HB5.out).1
    · have HZ : Hid (er = 0) := by
        show _ = _
        rw [HER.out, if_neg (HP1.out (by omega)), if_neg (HP2.out (by omega))]
      clear HER HBAD CX CY
      obtain ⟨wS, hwS⟩ : ∃ wS, wS = wr := ⟨_, rfl⟩
      subst hwS
      go_wp2_with fail
      have HST : Hid (EO wS (fun _ => False) ((L.take 0).filter fun p => Bt.inR lo hi p.1) (.slice none 0 0) wS) := EO.start wS fun _ h => h.elim
      have HDS : Hid (∀ W, Below wS.heap.size wS W → Below w.heap.size w W ∧ W.heap[Bl]? = some (.cells #[.bool ha', .bool oa, .int .u8 (xk : Int), .bool xb, .int .i64 xn, .string xs, .slice xa xl xc, .slice xf xm xd] 29 (0, 0)) ∧ W.heap[Bh]? = some (.cells #[.bool hb, .bool ob, .int .u8 (yk : Int), .bool yb, .int .i64 yn, .string ys, .slice ya yl yc, .slice yf ym yd] 29 (0, 0))) := fun W hW => by
        obtain ⟨h1, h2, h3, _⟩ := HD.out W (HBR.out.trans (hW.mono HBR.out.size))
        exact ⟨h1, h2, h3⟩
      have hl : n ≤ 1000000 := HN.out.2.1
      clear HD HBR HP1 HP2
      go_loopw [10, 35] (fun o i wr => ∃ (j : Nat) (lv : Value), lv = o ∧ i = .int .i64 (j : Int) ∧ j ≤ n ∧ EO wS (fun _ => False) ((L.take j).filter fun p => Bt.inR lo hi p.1) lv wr) (fun _ i _ => n - (intOf i).toNat)
      case atStart => exact ⟨0, _, rfl, rfl, by omega, HST.out⟩
      case round =>
        clear HST
        obtain ⟨j, lv, hlv, rfl, hj, hrn⟩ := hrel
        subst hlv
        obtain ⟨K, hK⟩ : ∃ K, K = (L.take j).filter fun p => Bt.inR lo hi p.1 := ⟨_, rfl⟩
        rw [← hK] at hrn
        obtain ⟨ll, hll⟩ : ∃ ll, ll = K.length := ⟨_, rfl⟩
        have HR : Hid (EO wS (fun _ => False) K lv wr ∧ ll = K.length ∧ ll ≤ j) := ⟨hrn, hll, by rw [hll, hK]; have h1 := List.length_filter_le (fun p : V × List Nat => Bt.inR lo hi p.1) (L.take j); rw [List.length_take] at h1; omega⟩
        have HKK : Hid (K = (L.take j).filter fun p => Bt.inR lo hi p.1) := hK
        clear hrn hll hK
        by_cases hjn : j = n
        · subst hjn
          have q0 : ¬ (j : Int) < (j : Int) := by omega
          have HFIN : Hid (∀ lv, EO wS (fun _ => False) K lv wr → EntR w (fun _ => False) L2 er (.returned (.tuple #[lv, .int .i64 0])) wr) := fun lv h => by
            obtain ⟨a', c', rfl⟩ := h.form
            obtain ⟨_, hE⟩ := h.done
            have hKL : K = L2 := by rw [HKK.out, HN.out.1, List.take_length, HL2.out HZ.out]
            rw [HZ.out, ← hKL]
            have b2 := (HDS.out _ (Below.refl _ _)).1
            refine ⟨a', _, c', rfl, rfl, hE.stays (fun _ _ => rfl) (fun g hg => ?_), (HDS.out _ h.below).1⟩
            rcases hg with q | q
            · exact .inl q
            · exact .inr ⟨Nat.le_trans b2.size q.1, q.2⟩
          go_wp2
          go_ret2
          exact HFIN.out _ HR.out.1
        · have hlt : j < n := by omega
          have q0 : (j : Int) < (n : Int) := by omega
          have q1 : (0 : Int) ≤ (j : Int) := by omega
          have HBL : Hid (Below w.heap.size w wr) := (HDS.out _ HR.out.1.below).1
          obtain ⟨p, hp⟩ : ∃ p, L[j]? = some p := ⟨_, List.getElem?_eq_getElem (by have := HN.out; omega)⟩
          obtain ⟨g, k0, k1, k2, k3, k4, k5, pi, cap, rfl, h2, ⟨c0, c1, c2, c3, c4, c5, c6⟩, h4, h5, h6⟩ := HA.out j p hp
          obtain ⟨ln, hln⟩ : ∃ ln, ln = p.2.length := ⟨_, rfl⟩
          obtain ⟨o, ho⟩ : ∃ o, o = j * 7 := ⟨_, rfl⟩
          rw [← ho] at c0 c1 c2 c3 c4 c5 c6
          rw [← hln] at c6
          have cl := fun o => (HBL.out).cell (p := ⟨g, o, none⟩) h2
          have a0 := (cl _).trans c0
          have a1 := (cl _).trans c1
          have a2 := (cl _).trans c2
          have a3 := (cl _).trans c3
          have a4 := (cl _).trans c4
          have a5 := (cl _).trans c5
          have a6 := (cl _).trans c6
          have ho' := ho.symm
          obtain ⟨kk0, kk1, kk2, kk3, kk4, kk5, ky0, ky1, kz0, kz1, f0, f1, f2, f3, f4, f5⟩ := rep_form h4
          subst f0 f1 f2 f3 f4 f5
          obtain ⟨j1, hj1⟩ : ∃ j1, j1 = j + 1 := ⟨_, rfl⟩
          have HVV : Hid (IntKind.i64.wrap ((j : Int) + 1) = (j1 : Int) ∧ wrap64 ((j : Int) + 1) = (j1 : Int)) := succs hj1 (by omega)
          have HJ : Hid (j1 = j + 1 ∧ j < n ∧ L[j]? = some p ∧ ln = p.2.length ∧ 1 ≤ ln ∧ ln ≤ 1000000 ∧ Vl.small p.1) := ⟨hj1, hlt, hp, hln, by rw [hln]; exact (HN.out.2.2 p (List.mem_of_getElem? hp)).2, by rw [hln]; exact h6, (HN.out.2.2 p (List.mem_of_getElem? hp)).1⟩
          have HTK : Hid ((L.take j1).filter (fun p => Bt.inR lo hi p.1) = K ++ if Bt.inR lo hi p.1 = true then [p] else []) := by
            show _ = _
            rw [hj1, List.take_add_one, hp, HKK.out, List.filter_append]
            congr 1
            cases h : Bt.inR lo hi p.1 <;> simp [h]
          have H4 : Hid (Rep w w.heap.size p.1 (.agg #[.int .u8 (kk0 : Int), .bool kk1, .int .i64 kk2, .string kk3, .slice kk4 kk5 ky0, .slice ky1 kz0 kz1]) ∧ NumsAt w pi p.2) := ⟨h4, h5⟩
          have CI1 : Hid (∀ W, Below w.heap.size w W → Calls Tryz.prog 22 #[.agg #[.int .u8 (kk0 : Int), .bool kk1, .int .i64 kk2, .string kk3, .slice kk4 kk5 ky0, .slice ky1 kz0 kz1], .agg #[.bool ha', .bool oa, .int .u8 (xk : Int), .bool xb, .int .i64 xn, .string xs, .slice xa xl xc, .slice xf xm xd], .agg #[.bool hb, .bool ob, .int .u8 (yk : Int), .bool yb, .int .i64 yn, .string ys, .slice ya yl yc, .slice yf ym yd]] W fun e w' => e = .returned (.bool (Bt.inR lo hi p.1)) ∧ Below W.heap.size W w') := fun W hW => CIN.out p _ W hW h4
          clear c0 c1 c2 c3 c4 c5 c6 cl h2 h4 h5 h6 hp hln ho hj1 hjn hj hlt
          go_upto_region 11 with fail
          obtain ⟨w3, hw3⟩ : ∃ w3, w3 = wr.alloc (.cells #[.int .u8 (kk0 : Int), .bool kk1, .int .i64 kk2, .string kk3, .slice kk4 kk5 ky0, .slice ky1 kz0 kz1, .slice pi ln cap] 49) := ⟨_, rfl⟩
          have n1 := by have := heap_alloc_new wr (.cells #[.int .u8 (kk0 : Int), .bool kk1, .int .i64 kk2, .string kk3, .slice kk4 kk5 ky0, .slice ky1 kz0 kz1, .slice pi ln cap] 49); rw [← hw3] at this; exact this
          have n2 : Below wr.heap.size wr w3 := by rw [hw3]; exact below_new _ _
          rw [← hw3]
          obtain ⟨X, hX⟩ : ∃ X, X = wr.heap.size := ⟨_, rfl⟩
          rw [← hX] at n1 ⊢
          have HB3 : Hid (Below wr.heap.size wr w3 ∧ w3.heap[X]? = some (.cells #[.int .u8 (kk0 : Int), .bool kk1, .int .i64 kk2, .string kk3, .slice kk4 kk5 ky0, .slice ky1 kz0 kz1, .slice pi ln cap] 49 (0, 0)) ∧ X = wr.heap.size) := ⟨n2, n1, hX⟩
          have hS3 := HR.out.1.below.trans (n2.mono HR.out.1.below.size)
          have HS3 : Hid (Below wS.heap.size wS w3) := hS3
          have y0 := cells_at n1 0 _ rfl
          have y1 := cells_at n1 1 _ rfl
          have y2 := cells_at n1 2 _ rfl
          have y3 := cells_at n1 3 _ rfl
          have y4 := cells_at n1 4 _ rfl
          have y5 := cells_at n1 5 _ rfl
          obtain ⟨_, kl, kh⟩ := HDS.out _ hS3
          have b0 := cells_at kl 0 _ rfl
          have b1 := cells_at kl 1 _ rfl
          have b2 := cells_at kl 2 _ rfl
          have b3 := cells_at kl 3 _ rfl
          have b4 := cells_at kl 4 _ rfl
          have b5 := cells_at kl 5 _ rfl
          have b6 := cells_at kl 6 _ rfl
          have b7 := cells_at kl 7 _ rfl
          have d0 := cells_at kh 0 _ rfl
          have d1 := cells_at kh 1 _ rfl
          have d2 := cells_at kh 2 _ rfl
          have d3 := cells_at kh 3 _ rfl
          have d4 := cells_at kh 4 _ rfl
          have d5 := cells_at kh 5 _ rfl
          have d6 := cells_at kh 6 _ rfl
          have d7 := cells_at kh 7 _ rfl
          clear n2 hw3 n1 hX hS3 kl kh a0 a1 a2 a3 a4 a5 a6
          go_wp2_with fail
          refine (CI1.out _ (HDS.out _ HS3.out).1).mono ?_
          rintro e w4 ⟨rfl, hb4⟩
          have HB4 : Hid (Below wr.heap.size wr w4 ∧ w4.heap[X]? = some (.cells #[.int .u8 (kk0 : Int), .bool kk1, .int .i64 kk2, .string kk3, .slice kk4 kk5 ky0, .slice ky1 kz0 kz1, .slice pi ln cap] 49 (0, 0)) ∧ X = wr.heap.size) := ⟨HB3.out.1.trans (hb4.mono HB3.out.1.size), (hb4.block _ (lt_of_row HB3.out.2.1)).trans HB3.out.2.1, HB3.out.2.2⟩
          clear hb4 y0 y1 y2 y3 y4 y5 b0 b1 b2 b3 b4 b5 b6 b7 d0 d1 d2 d3 d4 d5 d6 d7 CI1
          obtain ⟨bi, hbi⟩ : ∃ bi, bi = Bt.inR lo hi p.1 := ⟨_, rfl⟩
          rw [← hbi] at HTK ⊢
          clear hbi
          cases bi with
          | false =>
            have S5 : Hid (EO wS (fun _ => False) ((L.take j1).filter fun p => Bt.inR lo hi p.1) lv w4) := by
              rw [HTK.out]
              simp only [Bool.false_eq_true, if_false, List.append_nil]
              exact HR.out.1.call HB4.out.1
            obtain ⟨v1, v2⟩ := HVV.out
            go_wp2
            clear v1 v2
            go_roundw
            case rel => first | exact ⟨j1, _, rfl, rfl, by have := HJ.out; omega, S5.out⟩ | ((repeat apply Exists.intro); exact ⟨⟨j1, _, rfl, rfl, by have := HJ.out; omega, S5.out⟩, rfl⟩)
            case measure =>
              first | (simp only [intOf]; have := HJ.out; omega) | (simp [intOf]; have := HJ.out; omega)
          | true =>
            go_upto_region 12 with fail
            have HQ4 : Hid (∀ W, Below w4.heap.size w4 W → W.heap[X]? = some (.cells #[.int .u8 (kk0 : Int), .bool kk1, .int .i64 kk2, .string kk3, .slice kk4 kk5 ky0, .slice ky1 kz0 kz1, .slice pi ln cap] 49 (0, 0))) := fun W hW => (hW.block _ (lt_of_row HB4.out.2.1)).trans HB4.out.2.1
            have CPY : Hid (∀ W, Below w4.heap.size w4 W → Calls Tryz.prog 26 #[.agg #[.int .u8 (kk0 : Int), .bool kk1, .int .i64 kk2, .string kk3, .slice kk4 kk5 ky0, .slice ky1 kz0 kz1]] W fun e w' => ∃ (zk : Nat) (zb : Bool) (zn : Int) (zs : ByteArray) (za : Option Addr) (zl zc : Nat) (ta : Option Addr) (tl tc : Nat), e = .returned (.agg #[.int .u8 (zk : Int), .bool zb, .int .i64 zn, .string zs, .slice za zl zc, .slice ta tl tc]) ∧ Hid (Below W.heap.size W w' ∧ RepA w' (fun g => w4.heap.size ≤ g ∧ g < w'.heap.size) p.1 (.agg #[.int .u8 (zk : Int), .bool zb, .int .i64 zn, .string zs, .slice za zl zc, .slice ta tl tc]))) := fun W hW => by
              have hWw : Below w.heap.size w W := (HBL.out.trans (HB4.out.1.mono HBL.out.size)).trans (hW.mono (Nat.le_trans HBL.out.size HB4.out.1.size))
              refine (copy9 _ p.1 (Nat.le_refl _) HJ.out.2.2.2.2.2.2 W w.heap.size _ hWw.size (rep_stays hWw (Nat.le_refl _) _ _ H4.out.1)).mono ?_
              rintro e w' ⟨v', rfl, hb, hr⟩
              obtain ⟨zk, zb, zn, zs, za, zl, zc, ta, tl, tc, rfl⟩ := repA_form hr
              exact ⟨zk, zb, zn, zs, za, zl, zc, ta, tl, tc, rfl, hb, repA_stays (fun _ _ => rfl) (fun g hg => ⟨by have := hW.size; omega, hg.2⟩) _ _ hr⟩
            have HNP : Hid (∃ gp, pi = some ⟨gp, 0, none⟩ ∧ ∀ (j y : Nat), p.2[j]? = some y → ∀ W, Below w4.heap.size w4 W → W.cell? ⟨gp, j, none⟩ = some (.int .u64 (y : Int))) := by
              have hpl := HJ.out
              obtain ⟨gp, hgp, _, _⟩ := H4.out.2 0 (p.2[0]'(by omega)) (List.getElem?_eq_getElem _)
              refine ⟨gp, hgp, fun j y hy W hW => ?_⟩
              obtain ⟨g3, hg3, hl3, hc3⟩ := H4.out.2 j y hy
              rw [hgp] at hg3
              cases hg3
              have hWw : Below w.heap.size w W := (HBL.out.trans (HB4.out.1.mono HBL.out.size)).trans (hW.mono (Nat.le_trans HBL.out.size HB4.out.1.size))
              exact (hWw.cell (p := ⟨_, j, none⟩) hl3).trans hc3
            refine wp_region_ph (by kernel_rfl) (by kernel_rfl) Bt.rpre (by kernel_rfl) (fun f => { tmps := #[.slice (some ⟨g, 0, none⟩) n ca, .agg #[.bool ha', .bool oa, .int .u8 (xk : Int), .bool xb, .int .i64 xn, .string xs, .slice xa xl xc, .slice xf xm xd], .agg #[.bool hb, .bool ob, .int .u8 (yk : Int), .bool yb, .int .i64 yn, .string ys, .slice ya yl yc, .slice yf ym yd], undef, .pointer (some ⟨Bl, 0, none⟩), .pointer (some ⟨Bh, 0, none⟩), u6, u7, undef, u9, f 11, undef, .pointer (some ⟨X, 0, none⟩), .agg #[.bool ha', .bool oa, .int .u8 (xk : Int), .bool xb, .int .i64 xn, .string xs, .slice xa xl xc, .slice xf xm xd], .agg #[.bool hb, .bool ob, .int .u8 (yk : Int), .bool yb, .int .i64 yn, .string ys, .slice ya yl yc, .slice yf ym yd], .slice (some ⟨S, 0, none⟩) 2 2, .int .i64 2, .int .i64 2, .bool false, u19, u20, u21, u22, u23, u24, u25, u26, u27, u28, u29, u30, u31, u32, .slice (some ⟨g, 0, none⟩) n ca, .int .i64 (n : Int), .int .i64 (j : Int), .bool true, .pointer (some ⟨g, o, none⟩), .agg #[.int .u8 (kk0 : Int), .bool kk1, .int .i64 kk2, .string kk3, .slice kk4 kk5 ky0, .slice ky1 kz0 kz1, .slice pi ln cap], .pointer (some ⟨X, 0, none⟩), .agg #[.int .u8 (kk0 : Int), .bool kk1, .int .i64 kk2, .string kk3, .slice kk4 kk5 ky0, .slice ky1 kz0 kz1], .agg #[.bool ha', .bool oa, .int .u8 (xk : Int), .bool xb, .int .i64 xn, .string xs, .slice xa xl xc, .slice xf xm xd], .agg #[.bool hb, .bool ob, .int .u8 (yk : Int), .bool yb, .int .i64 yn, .string ys, .slice ya yl yc, .slice yf ym yd], .bool true, f 0, f 1, f 2, f 3, f 4, f 5, f 6, f 7, f 8, f 9, f 10, u55, undef], defers := [] }) (fun i => (#[u44, u45, u46, u47, u48, u49, u50, u51, u52, u53, u54, lv] : Array Value).getD i undef) rfl (RJ (Bt.rS w4.heap.size X lv (.agg #[.int .u8 (kk0 : Int), .bool kk1, .int .i64 kk2, .string kk3, .slice kk4 kk5 ky0, .slice ky1 kz0 kz1]) (.slice pi ln cap) p) lv (fun W => Below w4.heap.size w4 W) (fun v W => ∃ gg capn, v = .slice (some ⟨gg, 0, none⟩) (K.length + 1) capn ∧ EO wS (fun _ => False) (K ++ [p]) v W)) ?init ?step ?done
            case init => exact ⟨fun _ j _ h => (by cases h), fun _ => ⟨rfl, (Below.refl _ _).drew⟩, fun _ => rfl, fun h => (by cases h), fun h => (by cases h)⟩
            case done =>
              intro L' f W hL hI
              obtain ⟨gg, capn, h11, hE⟩ := hI.fin (hL 11 (by simp))
              have S5 : Hid (EO wS (fun _ => False) ((L.take j1).filter fun p => Bt.inR lo hi p.1) (.slice (some ⟨gg, 0, none⟩) (K.length + 1) capn) W) := by
                rw [HTK.out]
                simp only [if_true]
                rw [← h11]
                exact hE
              dsimp only
              rw [h11]
              clear hE hI hL h11 HNP CPY HQ4
              obtain ⟨v1, v2⟩ := HVV.out
              go_wp2
              clear v1 v2
              go_roundw
              case rel => first | exact ⟨j1, _, rfl, rfl, by have := HJ.out; omega, S5.out⟩ | ((repeat apply Exists.intro); exact ⟨⟨j1, _, rfl, rfl, by have := HJ.out; omega, S5.out⟩, rfl⟩)
              case measure =>
                first | (simp only [intOf]; have := HJ.out; omega) | (simp [intOf]; have := HJ.out; omega)
            case step =>
              intro i hi L' f W hLi hwt hno hI
              have HI : Hid (RJ _ _ _ _ L' f W) := hI
              have hi12 : i < 12 := hi
              clear hi hI
              rcases (show i = 0 ∨ i = 1 ∨ i = 2 ∨ i = 3 ∨ i = 4 ∨ i = 5 ∨ i = 6 ∨ i = 7 ∨ i = 8 ∨ i = 9 ∨ i = 10 ∨ i = 11 by omega) with rfl | rfl | rfl | rfl | rfl | rfl | rfl | rfl | rfl | rfl | rfl | rfl
              · -- 0
                have n10 : L' 10 = false := hno 10 (by decide)
                have HP : Hid (Below w4.heap.size w4 W) := (HI.out.ahead n10).2
                have g11 : f 11 = lv := HI.out.old (HI.out.ahead n10).1
                have HN10 : Hid (L' 10 = false) := n10
                clear n10
                clear hwt hno hLi
                refine wpOp_of rfl rfl ?_
                intro K' hK'
                have HK' : Hid _ := hK'
                clear hK'
                change Oper.wp _ ⟨_, _, _, _, _, _⟩ _ _ _ _
                dsimp only
                rw [g11]
                go_simp
                exact HK'.out _ _ ⟨lv, (by simp [upd, g11]), HI.out.step Bt.rS_stays (by omega) HN10.out (Below.refl _ _) HP.out rfl⟩
              · -- 1
                have n10 : L' 10 = false := hno 10 (by decide)
                have HP : Hid (Below w4.heap.size w4 W) := (HI.out.ahead n10).2
                have HN10 : Hid (L' 10 = false) := n10
                clear n10
                clear hwt hno hLi
                refine wpOp_of rfl rfl ?_
                intro K' hK'
                have HK' : Hid _ := hK'
                clear hK'
                change Oper.wp _ ⟨_, _, _, _, _, _⟩ _ _ _ _
                dsimp only
                go_simp
                exact HK'.out _ _ ⟨.pointer (some ⟨X, 0, none⟩), (by rfl), HI.out.step Bt.rS_stays (by omega) HN10.out (Below.refl _ _) HP.out rfl⟩
              · -- 2
                have n10 : L' 10 = false := hno 10 (by decide)
                have HP : Hid (Below w4.heap.size w4 W) := (HI.out.ahead n10).2
                have g1 : f 1 = .pointer (some ⟨X, 0, none⟩) := HI.out.vals n10 1 (by omega) (hwt 1 rfl)
                have tq := HQ4.out _ HP.out
                have y0 := cells_at tq 0 _ rfl
                have y1 := cells_at tq 1 _ rfl
                have y2 := cells_at tq 2 _ rfl
                have y3 := cells_at tq 3 _ rfl
                have y4 := cells_at tq 4 _ rfl
                have y5 := cells_at tq 5 _ rfl
                have y6 := cells_at tq 6 _ rfl
                clear tq
                have HN10 : Hid (L' 10 = false) := n10
                clear n10
                clear hwt hno hLi
                refine wpOp_of rfl rfl ?_
                intro K' hK'
                have HK' : Hid _ := hK'
                clear hK'
                change Oper.wp _ ⟨_, _, _, _, _, _⟩ _ _ _ _
                dsimp only
                rw [g1]
                go_simp
                exact HK'.out _ _ ⟨.agg #[.int .u8 (kk0 : Int), .bool kk1, .int .i64 kk2, .string kk3, .slice kk4 kk5 ky0, .slice ky1 kz0 kz1], (by simp [upd, g1]), HI.out.step Bt.rS_stays (by omega) HN10.out (Below.refl _ _) HP.out rfl⟩
              · -- 3
                have n10 : L' 10 = false := hno 10 (by decide)
                have HP : Hid (Below w4.heap.size w4 W) := (HI.out.ahead n10).2
                have g2 : f 2 = .agg #[.int .u8 (kk0 : Int), .bool kk1, .int .i64 kk2, .string kk3, .slice kk4 kk5 ky0, .slice ky1 kz0 kz1] := HI.out.vals n10 2 (by omega) (hwt 2 rfl)
                have HN10 : Hid (L' 10 = false) := n10
                clear n10
                clear hwt hno hLi
                refine wpOp_of rfl rfl ?_
                intro K' hK'
                have HK' : Hid _ := hK'
                clear hK'
                change Oper.wp _ ⟨_, _, _, _, _, _⟩ _ _ _ _
                dsimp only
                rw [g2]
                go_simp
                go_at_call 26
                refine (CPY.out _ HP.out).mono ?_
                rintro ex w5 ⟨q, b, m, s, a1, l1, e1, a2, l2, e2, rfl, HV⟩
                exact HK'.out _ _ ⟨_, (by simp [upd, g2]), HI.out.step Bt.rS_stays (by omega) HN10.out HV.out.1 (HP.out.trans (HV.out.1.mono HP.out.size)) ⟨q, b, m, s, a1, l1, e1, a2, l2, e2, rfl, HV.out.2⟩⟩
              · -- 4
                have n10 : L' 10 = false := hno 10 (by decide)
                have HP : Hid (Below w4.heap.size w4 W) := (HI.out.ahead n10).2
                have HN10 : Hid (L' 10 = false) := n10
                clear n10
                clear hwt hno hLi
                refine wpOp_of rfl rfl ?_
                intro K' hK'
                have HK' : Hid _ := hK'
                clear hK'
                change Oper.wp _ ⟨_, _, _, _, _, _⟩ _ _ _ _
                dsimp only
                go_simp
                exact HK'.out _ _ ⟨.slice (some ⟨W.heap.size, 0, none⟩) 0 0, (by rfl), HI.out.step Bt.rS_stays (by omega) HN10.out (below_new _ _) (HP.out.trans ((below_new _ _).mono HP.out.size)) ⟨_, rfl⟩⟩
              · -- 5
                have n10 : L' 10 = false := hno 10 (by decide)
                have HP : Hid (Below w4.heap.size w4 W) := (HI.out.ahead n10).2
                have HN10 : Hid (L' 10 = false) := n10
                clear n10
                clear hwt hno hLi
                refine wpOp_of rfl rfl ?_
                intro K' hK'
                have HK' : Hid _ := hK'
                clear hK'
                change Oper.wp _ ⟨_, _, _, _, _, _⟩ _ _ _ _
                dsimp only
                go_simp
                exact HK'.out _ _ ⟨.pointer (some ⟨X, 6, none⟩), (by rfl), HI.out.step Bt.rS_stays (by omega) HN10.out (Below.refl _ _) HP.out rfl⟩
              · -- 6
                have n10 : L' 10 = false := hno 10 (by decide)
                have HP : Hid (Below w4.heap.size w4 W) := (HI.out.ahead n10).2
                have g5 : f 5 = .pointer (some ⟨X, 6, none⟩) := HI.out.vals n10 5 (by omega) (hwt 5 rfl)
                have tq := HQ4.out _ HP.out
                have y0 := cells_at tq 0 _ rfl
                have y1 := cells_at tq 1 _ rfl
                have y2 := cells_at tq 2 _ rfl
                have y3 := cells_at tq 3 _ rfl
                have y4 := cells_at tq 4 _ rfl
                have y5 := cells_at tq 5 _ rfl
                have y6 := cells_at tq 6 _ rfl
                clear tq
                have HN10 : Hid (L' 10 = false) := n10
                clear n10
                clear hwt hno hLi
                refine wpOp_of rfl rfl ?_
                intro K' hK'
                have HK' : Hid _ := hK'
                clear hK'
                change Oper.wp _ ⟨_, _, _, _, _, _⟩ _ _ _ _
                dsimp only
                rw [g5]
                go_simp
                exact HK'.out _ _ ⟨.slice pi ln cap, (by simp [upd, g5]), HI.out.step Bt.rS_stays (by omega) HN10.out (Below.refl _ _) HP.out rfl⟩
              · -- 7
                have n10 : L' 10 = false := hno 10 (by decide)
                have HP : Hid (Below w4.heap.size w4 W) := (HI.out.ahead n10).2
                obtain ⟨g4, hg4⟩ : ∃ g : Nat, f 4 = .slice (some ⟨g, 0, none⟩) 0 0 := HI.out.vals n10 4 (by omega) (hwt 4 rfl)
                have g6 : f 6 = .slice pi ln cap := HI.out.vals n10 6 (by omega) (hwt 6 rfl)
                have HN10 : Hid (L' 10 = false) := n10
                clear n10
                clear hwt hno hLi
                refine wpOp_of rfl rfl ?_
                intro K' hK'
                have HK' : Hid _ := hK'
                clear hK'
                change Oper.wp _ ⟨_, _, _, _, _, _⟩ _ _ _ _
                dsimp only
                obtain ⟨gp, hgp, hcn⟩ := HNP.out
                refine wp_append_grows' rfl _ _ rfl g4 (by first | exact hg4 | simpa using hg4) gp ln cap p.2 (by first | (rw [← hgp]; exact g6) | (rw [← hgp]; simpa using g6)) HJ.out.2.2.2.1 (by have := HJ.out; omega) (by have := HJ.out; omega) (fun j y hy => (hcn j y hy W HP.out)) ?_
                intro v' w' hown hgr
                have hb5 : Below W.heap.size W w' := (Below.refl _ _).grown hgr (Nat.le_refl _) (fun k hk => by cases hk)
                refine HK'.out _ _ ⟨v', (by simp [Act.put, upd, hg4, g6]), HI.out.step Bt.rS_stays (by omega) HN10.out hb5 (HP.out.trans (hb5.mono HP.out.size)) ?_⟩
                rw [HJ.out.2.2.2.1] at hown
                have hNO : NO W p.2 v' w' := ⟨hb5, hown⟩
                rcases hown.2 with ⟨_, h0⟩ | ⟨gi, capi, cur, rfl, _⟩
                · have := HJ.out; omega
                · obtain ⟨a3, c3, e3, hN⟩ := hNO.done
                  cases e3
                  exact ⟨gi, capi, rfl, hN.stays (fun _ _ => rfl) fun g hg => ⟨by have := HP.out.size; omega, hg.2⟩⟩
              · -- 8
                have n10 : L' 10 = false := hno 10 (by decide)
                have HP : Hid (Below w4.heap.size w4 W) := (HI.out.ahead n10).2
                obtain ⟨q, b, m, s, a1, l1, e1, a2, l2, e2, h3, hr⟩ : Bt.rS w4.heap.size X lv (.agg #[.int .u8 (kk0 : Int), .bool kk1, .int .i64 kk2, .string kk3, .slice kk4 kk5 ky0, .slice ky1 kz0 kz1]) (.slice pi ln cap) p 3 (f 3) W := HI.out.vals n10 3 (by omega) (hwt 3 rfl)
                obtain ⟨i7, c7, h7, hn⟩ : Bt.rS w4.heap.size X lv (.agg #[.int .u8 (kk0 : Int), .bool kk1, .int .i64 kk2, .string kk3, .slice kk4 kk5 ky0, .slice ky1 kz0 kz1]) (.slice pi ln cap) p 7 (f 7) W := HI.out.vals n10 7 (by omega) (hwt 7 rfl)
                have HN10 : Hid (L' 10 = false) := n10
                clear n10
                clear hwt hno hLi
                refine wpOp_of rfl rfl ?_
                intro K' hK'
                have HK' : Hid _ := hK'
                clear hK'
                change Oper.wp _ ⟨_, _, _, _, _, _⟩ _ _ _ _
                dsimp only
                rw [h3, h7]
                rw [h3] at hr
                go_simp
                exact HK'.out _ _ ⟨.agg #[.int .u8 (q : Int), .bool b, .int .i64 m, .string s, .slice a1 l1 e1, .slice a2 l2 e2, .slice (some ⟨i7, 0, none⟩) p.2.length c7], (by simp [upd, h3, h7]), HI.out.step Bt.rS_stays (by omega) HN10.out (Below.refl _ _) HP.out ⟨q, b, m, s, a1, l1, e1, a2, l2, e2, i7, c7, rfl, ⟨_, _, _, _, _, _, _, _, rfl, hr, hn⟩⟩⟩
              · -- 9
                have n10 : L' 10 = false := hno 10 (by decide)
                have HP : Hid (Below w4.heap.size w4 W) := (HI.out.ahead n10).2
                obtain ⟨q, b, m, s, a1, l1, e1, a2, l2, e2, i7, c7, h8, hE⟩ : Bt.rS w4.heap.size X lv (.agg #[.int .u8 (kk0 : Int), .bool kk1, .int .i64 kk2, .string kk3, .slice kk4 kk5 ky0, .slice ky1 kz0 kz1]) (.slice pi ln cap) p 8 (f 8) W := HI.out.vals n10 8 (by omega) (hwt 8 rfl)
                have HN10 : Hid (L' 10 = false) := n10
                clear n10
                clear hwt hno hLi
                refine wpOp_of rfl rfl ?_
                intro K' hK'
                have HK' : Hid _ := hK'
                clear hK'
                change Oper.wp _ ⟨_, _, _, _, _, _⟩ _ _ _ _
                dsimp only
                rw [h8]
                go_simp
                refine HK'.out _ _ ⟨.slice (some ⟨W.heap.size, 0, none⟩) 1 1, (by simp [upd, h8]), HI.out.step Bt.rS_stays (by omega) HN10.out (below_new _ _) (HP.out.trans ((below_new _ _).mono HP.out.size)) ⟨W.heap.size, _, rfl, hE.stays (fun g hg => (below_new W _).block g hg.2) (fun g hg => ⟨hg.1, Nat.lt_of_lt_of_le hg.2 (below_new W _).size⟩), _, heap_alloc_new W _, rfl⟩⟩
              · -- 10
                have n10 : L' 10 = false := hLi
                have HP : Hid (Below w4.heap.size w4 W) := (HI.out.ahead n10).2
                have g0 : f 0 = lv := HI.out.vals n10 0 (by omega) (hwt 0 rfl)
                obtain ⟨g9, c9, h9, hE, cs9, hr9, hcs⟩ : Bt.rS w4.heap.size X lv (.agg #[.int .u8 (kk0 : Int), .bool kk1, .int .i64 kk2, .string kk3, .slice kk4 kk5 ky0, .slice ky1 kz0 kz1]) (.slice pi ln cap) p 9 (f 9) W := HI.out.vals n10 9 (by omega) (hwt 9 rfl)
                have HN10 : Hid (L' 10 = false) := n10
                clear n10
                clear hwt hno hLi
                refine wpOp_of rfl rfl ?_
                intro K' hK'
                have HK' : Hid _ := hK'
                clear hK'
                change Oper.wp _ ⟨_, _, _, _, _, _⟩ _ _ _ _
                dsimp only
                obtain ⟨i2, hi2, hx0, hx1, hx2⟩ := info_parts ent_info2
                obtain ⟨cs, r1, r2, r3⟩ := HR.out.1.row
                have hWr : Below wr.heap.size wr W := HB4.out.1.trans (HP.out.mono HB4.out.1.size)
                have hown := own_call r2 hWr
                have hlen := hE.len
                have hone := hE.one
                have hsz : wS.heap.size ≤ W.heap.size := Nat.le_trans HR.out.1.below.size hWr.size
                refine wp_append_lies W _ _ 22 rfl wS.heap.size 49 i2 _ 7 104 Tryz.underlying22 hi2 hx0 hx1 hx2 rfl (by decide) lv K.length cs.flatten (by first | exact g0 | simpa using g0) hown ⟨g9, 0, none⟩ 1 1 c9 (by first | exact h9 | simpa using h9) (by rw [hlen]) (by rw [← hcs]; exact World.news_of_block hr9) hone (by decide) (by have := HR.out; unfold maxLen; omega) (by have := HR.out; omega) hsz _ rfl ?_
                intro gg capn w5 hown5 hgr hat _
                have hs4 := HB4.out.1.size
                refine HK'.out _ _ ⟨_, (by simp [Act.put, upd, g0, h9]), HI.out.app HN10.out ⟨gg, capn, rfl, ?_⟩⟩
                exact HR.out.1.app rfl r1 r2 r3 (hE.stays (fun _ _ => rfl) fun g hg => .inr ⟨by omega, hg.2⟩) hWr hgr hat hown5
              · -- 11
                have n11 : L' 11 = false := hLi
                have h10 := hwt 10 rfl
                obtain ⟨gg, capn, h, hE⟩ := HI.out.mid h10 n11
                have HL10 : Hid (L' 10 = true ∧ EO wS (fun _ => False) (K ++ [p]) (.slice (some ⟨gg, 0, none⟩) (K.length + 1) capn) W) := ⟨h10, by rw [← h]; rw [h] at hE ⊢; exact hE⟩
                clear hwt hno hLi n11 h10 hE
                refine wpOp_of rfl rfl ?_
                intro K' hK'
                have HK' : Hid _ := hK'
                clear hK'
                change Oper.wp _ ⟨_, _, _, _, _, _⟩ _ _ _ _
                dsimp only
                rw [h]
                go_simp
                exact HK'.out _ _ ⟨.slice (some ⟨gg, 0, none⟩) (K.length + 1) capn, (by simp [upd, h]), RJ.last HL10.out.1 ⟨gg, capn, rfl, HL10.out.2⟩⟩
end Go.Proofs.YtkigenldiinioaaGreatDoor
