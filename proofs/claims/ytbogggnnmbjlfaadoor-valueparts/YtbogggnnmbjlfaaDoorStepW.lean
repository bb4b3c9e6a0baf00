/- step at structs and at what has no parts, walked. -/
import Derived.Test.YtbogggnnmbjlfaaDoorStep
namespace Go.Proofs.YtbogggnnmbjlfaaDoor
open Go.RowKit
open Vl (V)
/-- step's own variables: the value, the answer -/
structure SS (w W : World) (v0 v1 v2 v3 v4 v5 : Value) : Prop where
  below : Below w.heap.size w W
  box : Row6 W w.heap.size v0 v1 v2 v3 v4 v5
  res : Z6 W (w.heap.size + 1)
theorem SS.call {w W W' : World} {v0 v1 v2 v3 v4 v5 : Value} (h : SS w W v0 v1 v2 v3 v4 v5) (hb : Below W.heap.size W W') : SS w W' v0 v1 v2 v3 v4 v5 :=
  ⟨h.below.trans (hb.mono h.below.size), h.box.call hb, h.res.call hb⟩
set_option maxHeartbeats 4000000 in
set_option maxRecDepth 100000 in
theorem step40_six (m : ByteArray) (b : Bool) (n : Int) (s : ByteArray) (l : List V) (f : List (ByteArray × V)) (w : World) (H : Nat) (v : Value) (hH : H ≤ w.heap.size) (hR : Rep w H ⟨6, b, n, s, l, f⟩ v) :
    Calls Tryd.prog 30 #[v, .string m] w fun e w' => Stepped H (stepV ⟨6, b, n, s, l, f⟩ m) e w' ∧ Below w.heap.size w w' := by
  rw [Rep] at hR
  obtain ⟨ao, lc, fo, fc, rfl, h2, h3, h4, h5, h6, h7, h8⟩ := hR
  obtain ⟨j, hj⟩ : ∃ j, j = Vl.place (fun a => decide (a = m)) f := ⟨_, rfl⟩
  have hst : stepV ⟨6, b, n, s, l, f⟩ m = (f[j]?).map (·.2) := by rw [stepV, if_neg (by decide), if_pos rfl, hj]
  have hjl : j ≤ f.length := by rw [hj]; exact Vl.place_le _ f
  have C35 : Hid (∀ W P, Below w.heap.size w W → P < W.heap.size → W.cell? ⟨P, 0, none⟩ = some (.string m) → Calls Tryd.prog 33 #[.slice fo f.length fc, .func (.func 63) #[] #[.pointer (some ⟨P, 0, none⟩)]] W fun e w' => e = .returned (.int .i64 (j : Int)) ∧ Below W.heap.size W w') := fun W P hW hP hp => by
    rw [hj]; exact find35_53 m P f fo fc W H (by have := hW.size; omega) (LiesF.stays ⟨h6, h8⟩ (hW.mono hH) (Nat.le_refl _)) hP hp
  have h6' := maxLen_lt h6
  obtain ⟨ll, hll⟩ : ∃ ll, ll = l.length := ⟨_, rfl⟩
  obtain ⟨fl, hfl⟩ : ∃ fl, fl = f.length := ⟨_, rfl⟩
  rw [← hll]
  rw [← hfl] at h6' hjl C35 ⊢
  obtain ⟨w1, hw1, hb1, hr1, hz1⟩ := two_new w (.int .u8 6) (.bool b) (.int .i64 n) (.string s) (.slice ao ll lc) (.slice fo fl fc)
  have S1 : Hid (SS w w1 (.int .u8 6) (.bool b) (.int .i64 n) (.string s) (.slice ao ll lc) (.slice fo fl fc)) := ⟨hb1, hr1, hz1⟩
  have HW1 : Hid (w1 = _) := hw1
  have HST : Hid (stepV ⟨6, b, n, s, l, f⟩ m = (f[j]?).map (·.2)) := hst
  have H8 : Hid (0 < f.length → ∃ g o, fo = some ⟨g, o, none⟩ ∧ g < H ∧ RepF w H g o f) := h8
  have HFL : Hid (fl = f.length) := hfl
  obtain ⟨so, hso⟩ : ∃ so, so = stepV ⟨6, b, n, s, l, f⟩ m := ⟨_, rfl⟩
  have HSO : Hid (so = stepV ⟨6, b, n, s, l, f⟩ m) := hso
  rw [← hso]
  clear hj hst h4 h5 h6 h7 h8 hll hfl hb1 hr1 hz1 hw1 hso
  go_enter Tryd.func30, Tryd.ntmps30
  go_wp2
  rw [← HW1.out]
  have c5 := S1.out.box.cells.2.2.2.2.2
  go_cut [7] from 30 to 34 (fun s7 wx => s7 = .int .i64 (j : Int) ∧ SS w wx (.int .u8 6) (.bool b) (.int .i64 n) (.string s) (.slice ao ll lc) (.slice fo fl fc))
  case first =>
    go_region_with (first
      | (go_at_call 34; refine (named36 m _).mono ?_; rintro e w3 ⟨rfl, hw3⟩
         have S3 : Hid (SS w w3 (.int .u8 6) (.bool b) (.int .i64 n) (.string s) (.slice ao ll lc) (.slice fo fl fc)) := S1.out.call (by rw [hw3]; exact drew_new _ _)
         have HN3 : Hid (w1.heap.size < w3.heap.size ∧ w3.cell? ⟨w1.heap.size, 0, none⟩ = some (.string m)) := (by rw [hw3]; exact drew_name _ _)
         have c53 := S3.out.box.cells.2.2.2.2.2
         clear hw3)
      | (go_at_call 33; refine (C35.out _ w1.heap.size S3.out.below HN3.out.1 HN3.out.2).mono ?_; rintro e w4 ⟨rfl, hb4⟩
         have S4 : Hid (SS w w4 (.int .u8 6) (.bool b) (.int .i64 n) (.string s) (.slice ao ll lc) (.slice fo fl fc)) := S3.out.call (by exact hb4)
         clear hb4))
    all_goals
      go_wp2_with fail
      go_meet
      exact ⟨rfl, S4.out⟩
  case rest =>
    obtain ⟨rfl, hS⟩ := hcut
    clear S1 c5 HW1
    have q := hS.box.cells
    obtain ⟨p0, p1, p2, p3, p4, p5⟩ := q
    obtain ⟨q0, q1, q2, q3, q4, q5⟩ := Row6.cells hS.res
    have fz := Row6.free hS.res
    have lt2 := hS.res.1
    by_cases hlt : j < fl
    · obtain ⟨g, o, rfl, hg, hrl⟩ := H8.out (by have := HFL.out; omega)
      obtain ⟨⟨mx, x⟩, hx⟩ : ∃ x, f[j]? = some x := ⟨_, List.getElem?_eq_getElem (by have := HFL.out; omega)⟩
      have hso : so = some x := by rw [HSO.out, HST.out, hx]; rfl
      subst hso
      obtain ⟨dm, _, c0, c1, c2, c3, c4, c5, ⟨d0, d1, d2, d3, d4, d5⟩, hrx⟩ := repF_at f o (repF_stays (hS.below.mono hH) (Nat.le_refl _) hg f o hrl) j mx x hx
      obtain ⟨xk, xb, xn, xs, xa, xl, xc, ya, yl, yc, rfl, rfl, rfl, rfl, rfl, rfl⟩ := rep_form hrx
      have HA : Hid _ := answer hS.res (by omega) hS.below hH hrx
      clear hS hrx hrl hx H8 HST HSO
      go_wp2
      rw [sets6]
      exact bodyPost_ret (v := .tuple #[.agg #[.int .u8 (xk : Int), .bool xb, .int .i64 xn, .string xs, .slice xa xl xc, .slice ya yl yc], .bool true]) ((results_row_tmp (fn := Tryd.f30) (p := 4) (u := 5) (ty := 26) (by rfl) _ _ (w.heap.size + 1) 26 _ (0, 0) _ (by rfl) HA.out.1 Tryd.underlying26 rfl info26).trans (by rfl)) rfl ⟨⟨_, rfl, HA.out.2.2⟩, HA.out.2.1⟩
    · have hso : so = none := by
        rw [HSO.out, HST.out, List.getElem?_eq_none (by have := HFL.out; omega)]; rfl
      subst hso
      have HA : Hid (_ ∧ Below w.heap.size w (wc.setCells (w.heap.size + 1) 0 [.int .u8 0, .bool false, .int .i64 0, .string ⟨#[]⟩, .slice none 0 0, .slice none 0 0])) := ⟨hS.res.same, below_setCells (by omega) _ _ hS.below⟩
      clear hS H8 HST HSO
      go_wp2
      rw [sets6]
      exact bodyPost_ret (v := .tuple #[.agg #[.int .u8 0, .bool false, .int .i64 0, .string ⟨#[]⟩, .slice none 0 0, .slice none 0 0], .bool false]) ((results_row_tmp (fn := Tryd.f30) (p := 4) (u := 5) (ty := 26) (by rfl) _ _ (w.heap.size + 1) 26 _ (0, 0) _ (by rfl) HA.out.1 Tryd.underlying26 rfl info26).trans (by rfl)) rfl ⟨rfl, HA.out.2⟩
set_option maxHeartbeats 4000000 in
set_option maxRecDepth 100000 in
theorem step40_else (m : ByteArray) (k : Nat) (hk5 : k ≠ 5) (hk6 : k ≠ 6) (b : Bool) (n : Int) (s : ByteArray) (l : List V) (f : List (ByteArray × V)) (w : World) (H : Nat) (v : Value) (hR : Rep w H ⟨k, b, n, s, l, f⟩ v) :
    Calls Tryd.prog 30 #[v, .string m] w fun e w' => Stepped H (stepV ⟨k, b, n, s, l, f⟩ m) e w' ∧ Below w.heap.size w w' := by
  have e5 : ((k : Int) == 5) = false := by simp; omega
  have e6 : ((k : Int) == 6) = false := by simp; omega
  rw [Rep] at hR
  obtain ⟨ao, lc, fo, fc, rfl, h2, h3, h4, h5, h6, h7, h8⟩ := hR
  rw [stepV, if_neg hk5, if_neg hk6]
  clear h2 h3 h4 h5 h6 h7 h8 hk5 hk6
  obtain ⟨ll, hll⟩ : ∃ ll, ll = l.length := ⟨_, rfl⟩
  obtain ⟨fl, hfl⟩ : ∃ fl, fl = f.length := ⟨_, rfl⟩
  rw [← hll, ← hfl]
  obtain ⟨w1, hw1, hb1, hr1, hz1⟩ := two_new w (.int .u8 (k : Int)) (.bool b) (.int .i64 n) (.string s) (.slice ao ll lc) (.slice fo fl fc)
  have HA : Hid (Z6 w1 (w.heap.size + 1) ∧ Below w.heap.size w w1) := ⟨hz1, hb1⟩
  have HW1 : Hid (w1 = _) := hw1
  clear hll hfl hb1 hr1 hz1 hw1
  go_enter Tryd.func30, Tryd.ntmps30
  go_wp2
  rw [← HW1.out]
  exact bodyPost_ret (v := .tuple #[.agg #[.int .u8 0, .bool false, .int .i64 0, .string ⟨#[]⟩, .slice none 0 0, .slice none 0 0], .bool false]) ((results_row_tmp (fn := Tryd.f30) (p := 4) (u := 5) (ty := 26) (by rfl) _ _ (w.heap.size + 1) 26 _ (0, 0) _ (by rfl) HA.out.1.2 Tryd.underlying26 rfl info26).trans (by rfl)) rfl ⟨rfl, HA.out.2⟩
/-- step, whatever the value -/
theorem step40 (m : ByteArray) (hm : m.size ≤ 140737488351232) (t : V) (w : World) (hT : HasT w) (H : Nat) (v : Value) (hH : H ≤ w.heap.size) (hR : Rep w H t v) :
    Calls Tryd.prog 30 #[v, .string m] w fun e w' => Stepped H (stepV t m) e w' ∧ Below w.heap.size w w' := by
  obtain ⟨k, b, n, s, l, f⟩ := t
  by_cases h5 : k = 5
  · subst h5; exact step40_five m hm b n s l f w hT H v hH hR
  by_cases h6 : k = 6
  · subst h6; exact step40_six m b n s l f w H v hH hR
  · exact step40_else m k h5 h6 b n s l f w H v hR
end Go.Proofs.YtbogggnnmbjlfaaDoor
