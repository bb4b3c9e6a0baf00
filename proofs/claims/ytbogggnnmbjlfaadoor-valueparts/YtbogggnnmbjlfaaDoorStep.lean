/- place and step, walked: where one name of a path leads. -/
import Derived.Test.YtbogggnnmbjlfaaDoorPlace
import Derived.Test.YtbogggnnmbjlfaaDoorPut0
import Derived.Lib.AtoiAllCases
namespace Go.Proofs.YtbogggnnmbjlfaaDoor
open Go.RowKit
open Vl (V)
theorem below_atoi {w w' : World} (h : w' = w ∨ ∃ t, w' = Lib.bytesWorld w 5 t) : Below w.heap.size w w' := by
  rcases h with rfl | ⟨t, rfl⟩
  · exact Below.refl _ _
  · exact Go.Joins.below_bytesWorld _ _ _ _ (Nat.le_refl _)
set_option maxHeartbeats 4000000 in
set_option maxRecDepth 100000 in
theorem place56 (m : ByteArray) (hm : m.size ≤ 140737488351232) (w : World) (hT : HasT w) : Calls Tryd.prog 59 #[.string m] w fun e w' => e = .returned (.int .i64 (placeOf m)) ∧ Below w.heap.size w w' := by
  have HT : Hid (HasT w) := hT
  cases ha : Lib.atoiAll m.data.toList with
  | ok v =>
    have hv := Lib.atoiAll_bounds ha
    have C67 : Hid (Calls Tryd.prog 95 #[.string m] w fun e w' => e = .returned (.tuple #[.int .i64 v, .nilIface]) ∧ Below w.heap.size w w') :=
      (Tryd.strconv_Atoi_ok m (by omega) v ha w).mono fun e w' h => ⟨h.1, below_atoi h.2⟩
    obtain ⟨z, hz⟩ : ∃ z : ByteArray, z = ⟨(Lib.itoa v).toArray⟩ := ⟨_, rfl⟩
    have C68 : Hid (∀ W, Below w.heap.size w W → Calls Tryd.prog 96 #[.int .i64 v] W fun e w' => e = .returned (.string z) ∧ Below W.heap.size W w') := fun W hW => by
      rw [hz]
      refine (Tryd.strconv_Itoa v hv.1 hv.2 W (HT.out.stays hW).pow).mono fun e w' h => ⟨h.1, ?_⟩
      obtain ⟨k, os, rfl⟩ := h.2
      exact below_grow (below_drewN _ _) _
    have hpl : placeOf m = if z = m then v else -1 := by rw [placeOf, ha, hz]
    rw [hpl]
    by_cases hzm : z = m
    · rw [if_pos hzm]
      have hzl : z.toList = m.toList := by rw [hzm]
      clear hpl hz hT ha hzm
      go_enter Tryd.func59, Tryd.ntmps59
      go_wp2_with (first
        | (go_at_call 95; refine C67.out.mono ?_; rintro e w1 ⟨rfl, hb1⟩)
        | (go_at_call 96; refine (C68.out _ hb1).mono ?_; rintro e w2 ⟨rfl, hb2⟩))
      exact ⟨rfl, _, results_tmp (by rfl) _ _ _, rfl, hb1.trans (hb2.mono hb1.size)⟩
    · rw [if_neg hzm]
      have hzl : ¬ z.toList = m.toList := Vl.toList_ne hzm
      have hzb : (z.toList == m.toList) = false := by simpa using hzl
      clear hpl hz hT ha hzm
      go_enter Tryd.func59, Tryd.ntmps59
      go_wp2_with (first
        | (go_at_call 95; refine C67.out.mono ?_; rintro e w1 ⟨rfl, hb1⟩)
        | (go_at_call 96; refine (C68.out _ hb1).mono ?_; rintro e w2 ⟨rfl, hb2⟩))
      exact ⟨rfl, _, results_tmp (by rfl) _ _ _, rfl, hb1.trans (hb2.mono hb1.size)⟩
  | «syntax» =>
    obtain ⟨ev, h1, h2⟩ := hT.syn
    have C67 : Hid (Calls Tryd.prog 95 #[.string m] w fun e w' => ∃ N, e = .returned (.tuple #[.int .i64 0, .iface 132 (.pointer (some ⟨N, 0, none⟩))]) ∧ Below w.heap.size w w') :=
      (Tryd.strconv_Atoi_syntax m (by omega) ha ev w h1 h2).mono fun e w' h => by
        obtain ⟨N, h1, _, _, h4⟩ := h
        exact ⟨N, h1, h4⟩
    have hpl : placeOf m = -1 := by rw [placeOf, ha]
    rw [hpl]
    clear hT ha hpl
    go_enter Tryd.func59, Tryd.ntmps59
    go_wp2_with (first | (go_at_call 95; refine C67.out.mono ?_; rintro e w1 ⟨N, rfl, hb1⟩))
    exact ⟨rfl, _, results_tmp (by rfl) _ _ _, rfl, hb1⟩
  | range =>
    obtain ⟨ev, h1, h2⟩ := hT.rng
    have C67 : Hid (Calls Tryd.prog 95 #[.string m] w fun e w' => ∃ N, e = .returned (.tuple #[.int .i64 (Lib.atoiSat m.data.toList), .iface 132 (.pointer (some ⟨N, 0, none⟩))]) ∧ Below w.heap.size w w') :=
      (Tryd.strconv_Atoi_range m (by omega) ha ev w h1 h2).mono fun e w' h => by
        obtain ⟨N, h1, _, _, h4⟩ := h
        exact ⟨N, h1, h4⟩
    have hpl : placeOf m = -1 := by rw [placeOf, ha]
    rw [hpl]
    clear hT ha hpl
    go_enter Tryd.func59, Tryd.ntmps59
    go_wp2_with (first | (go_at_call 95; refine C67.out.mono ?_; rintro e w1 ⟨N, rfl, hb1⟩))
    exact ⟨rfl, _, results_tmp (by rfl) _ _ _, rfl, hb1⟩
/-- where one name leads -/
def stepV : V → ByteArray → Option V
  | ⟨k, _, _, _, l, f⟩, m => if k = 5 then (if 0 ≤ placeOf m then l[(placeOf m).toNat]? else none) else if k = 6 then (f[Vl.place (fun a => decide (a = m)) f]?).map (·.2) else none
def zeroV : Value := .agg #[.int .u8 0, .bool false, .int .i64 0, .string ⟨#[]⟩, .slice none 0 0, .slice none 0 0]
/-- what step answers -/
def Stepped (H : Nat) (o : Option V) (e : Ending) (w' : World) : Prop := match o with
  | some x => ∃ v', e = .returned (.tuple #[v', .bool true]) ∧ Rep w' H x v'
  | none => e = .returned (.tuple #[.agg #[.int .u8 0, .bool false, .int .i64 0, .string ⟨#[]⟩, .slice none 0 0, .slice none 0 0], .bool false])
theorem two_new (w : World) (v0 v1 v2 v3 v4 v5 : Value) : ∃ w1, w1 = (w.alloc (.cells #[v0, v1, v2, v3, v4, v5] 26)).alloc (.cells #[.int .u8 0, .bool false, .int .i64 0, .string ⟨#[]⟩, .slice none 0 0, .slice none 0 0] 26) ∧ Below w.heap.size w w1 ∧ Row6 w1 w.heap.size v0 v1 v2 v3 v4 v5 ∧ Z6 w1 (w.heap.size + 1) := by
  refine ⟨_, rfl, below_new2 _ _ _, ⟨by simp; omega, (Below.heap_alloc _ _ _ (by simp)).trans (heap_alloc_new w _)⟩, ⟨by simp, ?_⟩⟩
  have := heap_alloc_new (w.alloc (.cells #[v0, v1, v2, v3, v4, v5] 26)) (.cells #[.int .u8 0, .bool false, .int .i64 0, .string ⟨#[]⟩, .slice none 0 0, .slice none 0 0] 26)
  simpa using this
/-- an answer of six cells and a bool -/
theorem answer {w W : World} {B : Nat} (hZ : Z6 W B) (hB : w.heap.size ≤ B) (hb : Below w.heap.size w W) {H : Nat} (hH : H ≤ w.heap.size) {x : V} {z0 z1 z2 z3 z4 z5 : Value} (hr : Rep W H x (.agg #[z0, z1, z2, z3, z4, z5])) :
    (W.setCells B 0 [z0, z1, z2, z3, z4, z5]).heap[B]? = some (.cells #[z0, z1, z2, z3, z4, z5] 26 (0, 0)) ∧ Below w.heap.size w (W.setCells B 0 [z0, z1, z2, z3, z4, z5]) ∧ Rep (W.setCells B 0 [z0, z1, z2, z3, z4, z5]) H x (.agg #[z0, z1, z2, z3, z4, z5]) := by
  have hbb : Below w.heap.size W (W.setCells B 0 [z0, z1, z2, z3, z4, z5]) := below_setCells hB _ _ (Below.refl _ _)
  exact ⟨Z6.put hZ _ _ _ _ _ _, hb.trans hbb, rep_stays (hbb.mono hH) (Nat.le_refl _) x _ hr⟩
theorem Z6.same {w : World} {g : Nat} (h : Z6 w g) : (w.setCells g 0 [.int .u8 0, .bool false, .int .i64 0, .string ⟨#[]⟩, .slice none 0 0, .slice none 0 0]).heap[g]? = some (.cells #[.int .u8 0, .bool false, .int .i64 0, .string ⟨#[]⟩, .slice none 0 0, .slice none 0 0] 26 (0, 0)) := Z6.put h _ _ _ _ _ _
set_option maxHeartbeats 4000000 in
set_option maxRecDepth 100000 in
theorem step40_five (m : ByteArray) (hm : m.size ≤ 140737488351232) (b : Bool) (n : Int) (s : ByteArray) (l : List V) (f : List (ByteArray × V)) (w : World) (hT : HasT w) (H : Nat) (v : Value) (hH : H ≤ w.heap.size) (hR : Rep w H ⟨5, b, n, s, l, f⟩ v) :
    Calls Tryd.prog 30 #[v, .string m] w fun e w' => Stepped H (stepV ⟨5, b, n, s, l, f⟩ m) e w' ∧ Below w.heap.size w w' := by
  rw [Rep] at hR
  obtain ⟨ao, lc, fo, fc, rfl, h2, h3, h4, h5, h6, h7, h8⟩ := hR
  obtain ⟨p, hp⟩ : ∃ p, p = placeOf m := ⟨_, rfl⟩
  have hst : stepV ⟨5, b, n, s, l, f⟩ m = if 0 ≤ p then l[p.toNat]? else none := by rw [stepV, if_pos rfl, hp]
  have C56 : Hid (∀ W, Below w.heap.size w W → Calls Tryd.prog 59 #[.string m] W fun e w' => e = .returned (.int .i64 p) ∧ Below W.heap.size W w') := fun W hW => by rw [hp]; exact place56 m hm W (hT.stays hW)
  have h5' := maxLen_lt h5
  obtain ⟨ll, hll⟩ : ∃ ll, ll = l.length := ⟨_, rfl⟩
  obtain ⟨fl, hfl⟩ : ∃ fl, fl = f.length := ⟨_, rfl⟩
  rw [← hll] at h5' ⊢
  rw [← hfl]
  obtain ⟨w1, hw1, hb1, hr1, hz1⟩ := two_new w (.int .u8 5) (.bool b) (.int .i64 n) (.string s) (.slice ao ll lc) (.slice fo fl fc)
  by_cases hin : 0 ≤ p ∧ p < (ll : Int)
  · obtain ⟨j, rfl⟩ : ∃ j : Nat, p = (j : Int) := ⟨p.toNat, by omega⟩
    have hj : j < ll := by omega
    obtain ⟨g, o, rfl, hg, hrl⟩ := h7 (by omega)
    obtain ⟨x, hx⟩ : ∃ x, l[j]? = some x := ⟨_, List.getElem?_eq_getElem (by omega)⟩
    have hso : stepV ⟨5, b, n, s, l, f⟩ m = some x := by rw [hst, if_pos (by omega), show (j : Int).toNat = j by omega, hx]
    rw [hso]
    have HL : Hid (RepL w H g o l ∧ l[j]? = some x) := ⟨hrl, hx⟩
    have HP : Hid (Below w.heap.size w w1 ∧ Row6 w1 w.heap.size (.int .u8 5) (.bool b) (.int .i64 n) (.string s) (.slice (some ⟨g, o, none⟩) ll lc) (.slice fo fl fc) ∧ Z6 w1 (w.heap.size + 1)) := ⟨hb1, hr1, hz1⟩
    have HW1 : Hid (w1 = _) := hw1
    clear hp hst hT h4 h5 h6 h7 h8 hll hfl hrl hx hso hb1 hr1 hz1 hw1 hin
    go_enter Tryd.func30, Tryd.ntmps30
    go_wp2_with fail
    rw [← HW1.out]
    refine (C56.out _ HP.out.1).mono ?_
    rintro e w2 ⟨rfl, hb2⟩
    have R2 := HP.out.2.1.call hb2
    have Z2 := HP.out.2.2.call hb2
    have B2 : Below w.heap.size w w2 := HP.out.1.trans (hb2.mono HP.out.1.size)
    obtain ⟨c0, c1, c2, c3, c4, c5, ⟨d0, d1, d2, d3, d4, d5⟩, hrx⟩ := repL_at l o (repL_stays (B2.mono hH) (Nat.le_refl _) hg l o HL.out.1) j x HL.out.2
    obtain ⟨xk, xb, xn, xs, xa, xl, xc, ya, yl, yc, rfl, rfl, rfl, rfl, rfl, rfl⟩ := rep_form hrx
    obtain ⟨p0, p1, p2, p3, p4, p5⟩ := R2.cells
    obtain ⟨q0, q1, q2, q3, q4, q5⟩ := Row6.cells Z2
    have fz := Row6.free Z2
    have lt2 := Z2.1
    have HA : Hid _ := answer Z2 (by omega) B2 hH hrx
    clear hb2 R2 Z2 B2 hrx
    go_wp2
    rw [sets6]
    exact bodyPost_ret (v := .tuple #[.agg #[.int .u8 (xk : Int), .bool xb, .int .i64 xn, .string xs, .slice xa xl xc, .slice ya yl yc], .bool true]) ((results_row_tmp (fn := Tryd.f30) (p := 4) (u := 5) (ty := 26) (by rfl) _ _ (w.heap.size + 1) 26 _ (0, 0) _ (by rfl) HA.out.1 Tryd.underlying26 rfl info26).trans (by rfl)) rfl ⟨⟨_, rfl, HA.out.2.2⟩, HA.out.2.1⟩
  · have hso : stepV ⟨5, b, n, s, l, f⟩ m = none := by
      rw [hst]
      by_cases h0 : 0 ≤ p
      · rw [if_pos h0]; exact List.getElem?_eq_none (by omega)
      · rw [if_neg h0]
    rw [hso]
    have HP : Hid (Below w.heap.size w w1 ∧ Row6 w1 w.heap.size (.int .u8 5) (.bool b) (.int .i64 n) (.string s) (.slice ao ll lc) (.slice fo fl fc) ∧ Z6 w1 (w.heap.size + 1)) := ⟨hb1, hr1, hz1⟩
    have HW1 : Hid (w1 = _) := hw1
    clear hp hst hT h4 h5 h6 h7 h8 hll hfl hso hb1 hr1 hz1 hw1
    go_enter Tryd.func30, Tryd.ntmps30
    go_wp2_with fail
    rw [← HW1.out]
    refine (C56.out _ HP.out.1).mono ?_
    rintro e w2 ⟨rfl, hb2⟩
    have R2 := HP.out.2.1.call hb2
    have Z2 := HP.out.2.2.call hb2
    have B2 : Below w.heap.size w w2 := HP.out.1.trans (hb2.mono HP.out.1.size)
    obtain ⟨p0, p1, p2, p3, p4, p5⟩ := R2.cells
    obtain ⟨q0, q1, q2, q3, q4, q5⟩ := Row6.cells Z2
    have fz := Row6.free Z2
    have lt2 := Z2.1
    have HA : Hid (_ ∧ Below w.heap.size w (w2.setCells (w.heap.size + 1) 0 [.int .u8 0, .bool false, .int .i64 0, .string ⟨#[]⟩, .slice none 0 0, .slice none 0 0])) := ⟨Z2.same, below_setCells (by omega) _ _ B2⟩
    clear hb2 R2 Z2 B2
    by_cases h0 : 0 ≤ p
    · have h1 : ¬ p < (ll : Int) := fun h => hin ⟨h0, h⟩
      clear hin
      go_wp2
      rw [sets6]
      exact bodyPost_ret (v := .tuple #[.agg #[.int .u8 0, .bool false, .int .i64 0, .string ⟨#[]⟩, .slice none 0 0, .slice none 0 0], .bool false]) ((results_row_tmp (fn := Tryd.f30) (p := 4) (u := 5) (ty := 26) (by rfl) _ _ (w.heap.size + 1) 26 _ (0, 0) _ (by rfl) HA.out.1 Tryd.underlying26 rfl info26).trans (by rfl)) rfl ⟨rfl, HA.out.2⟩
    · clear hin
      go_wp2
      rw [sets6]
      exact bodyPost_ret (v := .tuple #[.agg #[.int .u8 0, .bool false, .int .i64 0, .string ⟨#[]⟩, .slice none 0 0, .slice none 0 0], .bool false]) ((results_row_tmp (fn := Tryd.f30) (p := 4) (u := 5) (ty := 26) (by rfl) _ _ (w.heap.size + 1) 26 _ (0, 0) _ (by rfl) HA.out.1 Tryd.underlying26 rfl info26).trans (by rfl)) rfl ⟨rfl, HA.out.2⟩
end Go.Proofs.YtbogggnnmbjlfaaDoor
