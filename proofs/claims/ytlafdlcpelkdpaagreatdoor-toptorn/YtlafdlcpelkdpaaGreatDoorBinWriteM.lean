/- Write, walked: a right value's bytes, or why not. -/
import Derived.Test.YtlafdlcpelkdpaaGreatDoorBinValM
import Derived.Test.YtlafdlcpelkdpaaGreatDoorBinUM
namespace Go.Proofs.YtlafdlcpelkdpaaGreatDoor
open Go.RowKit
open Vl (V)
namespace Bn
mutual
theorem rep_rng {w : World} {H : Nat} : ∀ (t : V) (v : Value), Rep w H t v → rng t
  | ⟨k, b, n, s, l, f⟩, v, h => by
    rw [Rep] at h
    rw [rng]
    obtain ⟨ao, lc, fo, fc, h1, h2, h3, h4, h5, h6, h7, h8⟩ := h
    refine ⟨⟨h3.1, by omega⟩, ?_, ?_⟩
    · by_cases hp : 0 < l.length
      · obtain ⟨g, o, e, hg, hr⟩ := h7 hp
        exact repL_rng l o hr
      · obtain rfl : l = [] := List.eq_nil_of_length_eq_zero (by omega)
        rw [rngL]; trivial
    · by_cases hp : 0 < f.length
      · obtain ⟨g, o, e, hg, hr⟩ := h8 hp
        exact repF_rng f o hr
      · obtain rfl : f = [] := List.eq_nil_of_length_eq_zero (by omega)
        rw [rngF]; trivial
theorem repL_rng {w : World} {H g : Nat} : ∀ (l : List V) (o : Nat), RepL w H g o l → rngL l
  | [], _, _ => by rw [rngL]; trivial
  | x :: r, o, h => by
    rw [RepL] at h
    rw [rngL]
    obtain ⟨⟨c0, c1, c2, c3, c4, c5, h1, h2⟩, h3⟩ := h
    exact ⟨rep_rng x _ h2, repL_rng r _ h3⟩
theorem repF_rng {w : World} {H g : Nat} : ∀ (l : List (ByteArray × V)) (o : Nat), RepF w H g o l → rngF l
  | [], _, _ => by rw [rngF]; trivial
  | (m, x) :: r, o, h => by
    rw [RepF] at h
    rw [rngF]
    obtain ⟨⟨h0, hm, c0, c1, c2, c3, c4, c5, h1, h2⟩, h3⟩ := h
    exact ⟨rep_rng x _ h2, repF_rng r _ h3⟩
end
/-- why a value is not written -/
def werr (t : V) : Nat := if Vl.check u8 0 t ≠ 0 then Vl.check u8 0 t else if 16384 < (bytes t).length then 4 else 0
/-- what is written -/
def wtext (t : V) : ByteArray := if werr t = 0 then ⟨(bytes t).toArray⟩ else ⟨#[]⟩
theorem werr_why {t : V} (h : Vl.check u8 0 t ≠ 0) : werr t = Vl.check u8 0 t ∧ wtext t = ⟨#[]⟩ := by
  have e : werr t = Vl.check u8 0 t := by rw [werr, if_pos h]
  exact ⟨e, by rw [wtext, if_neg (by rw [e]; exact h)]⟩
theorem werr_long {t : V} (h : Vl.check u8 0 t = 0) (h2 : 16384 < (bytes t).length) : werr t = 4 ∧ wtext t = ⟨#[]⟩ := by
  have e : werr t = 4 := by rw [werr, if_neg (by simp [h]), if_pos h2]
  exact ⟨e, by rw [wtext, if_neg (by omega)]⟩
theorem werr_ok {t : V} (h : Vl.check u8 0 t = 0) (h2 : ¬ 16384 < (bytes t).length) : werr t = 0 ∧ wtext t = ⟨(bytes t).toArray⟩ := by
  have e : werr t = 0 := by rw [werr, if_neg (by simp [h]), if_neg h2]
  exact ⟨e, by rw [wtext, if_pos e]⟩
end Bn
theorem out_new (w : World) : Out w.heap.size [] (.slice none 0 0) (w.alloc (.cells #[.slice none 0 0] 128)) := by
  refine ⟨by simp, block_cells (heap_alloc_new w _) 0 _ rfl, row_freeV (heap_alloc_new w _) 0, ⟨rfl, Or.inl ⟨rfl, rfl⟩⟩⟩
set_option maxHeartbeats 2000000 in
set_option maxRecDepth 10000 in
theorem write18 (t : V) (w : World) (hT : Bn.HasU w) (H : Nat) (v : Value) (hH : H ≤ w.heap.size) (hR : Rep w H t v) :
    Calls Tryz.prog 45 #[v] w fun e w' => e = .returned (.tuple #[.string (Bn.wtext t), .int .i64 ((Bn.werr t : Nat) : Int)]) ∧ Below w.heap.size w w' := by
  obtain ⟨xk, xb, xn, xs, xa, xl, xc, ya, yl, yc, hv⟩ := repV_form hR
  subst hv
  obtain ⟨c, hc⟩ : ∃ c, c = Vl.check Bn.u8 0 t := ⟨_, rfl⟩
  have C27 : Hid (∀ W, Below w.heap.size w W → Calls Tryz.prog 66 #[.agg #[.int .u8 (xk : Int), .bool xb, .int .i64 xn, .string xs, .slice xa xl xc, .slice ya yl yc]] W fun e w' => e = .returned (.int .i64 (c : Int)) ∧ Below W.heap.size W w') := fun W hW => by
    rw [hc]
    exact check27 t W (hT.stays hW) H _ (by have := hW.size; omega) (rep_stays (hW.mono hH) (Nat.le_refl _) t _ hR)
  have C42 : Hid (c = 0 → ∀ W g v0, Below w.heap.size w W → w.heap.size ≤ g → Out g [] v0 W → Calls Tryz.prog 68 #[.pointer (some ⟨g, 0, none⟩), .agg #[.int .u8 (xk : Int), .bool xb, .int .i64 xn, .string xs, .slice xa xl xc, .slice ya yl yc]] W fun e w' => e = .returned (.tuple #[]) ∧ ∃ v', Out g (Bn.wr t []) v' w' ∧ Wrote g v0 v' W w') := fun h0 W g v0 hW hg hO =>
    value42 _ t (Nat.le_refl _) (Bn.fit_of Bn.u8 0 t (by rw [← hc]; exact h0) (Bn.rep_rng t _ hR)) g H [] v0 W _ (by simp) (by omega) hO (rep_stays (hW.mono hH) (Nat.le_refl _) t _ hR)
  have HWE : Hid (c ≠ 0 → Bn.werr t = c ∧ Bn.wtext t = ⟨#[]⟩) := fun h => by rw [hc] at h ⊢; exact Bn.werr_why h
  have HWL : Hid (c = 0 → 16384 < (Bn.wr t []).length → Bn.werr t = 4 ∧ Bn.wtext t = ⟨#[]⟩) := fun h h2 => by
    refine Bn.werr_long (by rw [← hc]; exact h) (Nat.lt_of_not_le fun h3 => ?_)
    rw [Bn.wr_all t [] (by simpa using h3)] at h2
    simp at h2; omega
  have HWO : Hid (c = 0 → ¬ 16384 < (Bn.wr t []).length → Bn.werr t = 0 ∧ Bn.wtext t = ⟨(Bn.wr t []).toArray⟩ ∧ Bn.wr t [] ≠ []) := fun h h2 => by
    have h3 : ¬ 16384 < (Bn.bytes t).length := fun h3 => h2 (Bn.wr_over t [] (by simpa using h3))
    have e : Bn.wr t [] = Bn.bytes t := by rw [Bn.wr_all t [] (by simp; omega), List.nil_append]
    rw [e]
    have hft := Bn.fit_of Bn.u8 0 t (by rw [← hc]; exact h) (Bn.rep_rng t _ hR)
    exact ⟨(Bn.werr_ok (by rw [← hc]; exact h) h3).1, (Bn.werr_ok (by rw [← hc]; exact h) h3).2, by rw [Bn.bytes_hd t hft]; simp⟩
  obtain ⟨we, hwe⟩ : ∃ we, we = Bn.werr t := ⟨_, rfl⟩
  obtain ⟨wt, hwt⟩ : ∃ wt, wt = Bn.wtext t := ⟨_, rfl⟩
  rw [← hwe, ← hwt] at HWE HWL HWO ⊢
  clear hR hc hwe hwt
  go_enter Tryz.func45, Tryz.ntmps45
  by_cases h0 : c = 0
  · have D42 : Hid (∀ W g v0, Below w.heap.size w W → w.heap.size ≤ g → Out g [] v0 W → Calls Tryz.prog 68 #[.pointer (some ⟨g, 0, none⟩), .agg #[.int .u8 (xk : Int), .bool xb, .int .i64 xn, .string xs, .slice xa xl xc, .slice ya yl yc]] W fun e w' => e = .returned (.tuple #[]) ∧ ∃ v', Out g (Bn.wr t []) v' w' ∧ Wrote g v0 v' W w') := C42.out h0
    have DWL : Hid (16384 < (Bn.wr t []).length → we = 4 ∧ wt = ⟨#[]⟩) := HWL.out h0
    have DWO : Hid (¬ 16384 < (Bn.wr t []).length → we = 0 ∧ wt = ⟨(Bn.wr t []).toArray⟩ ∧ Bn.wr t [] ≠ []) := HWO.out h0
    subst h0
    clear C42 HWE HWL HWO
    obtain ⟨L, hL⟩ : ∃ L, L = Bn.wr t [] := ⟨_, rfl⟩
    rw [← hL] at D42 DWL DWO
    clear hL
    go_upto_region 1 with fail
    obtain ⟨w1, hw1⟩ : ∃ w1, w1 = w.alloc (.cells #[.int .u8 (xk : Int), .bool xb, .int .i64 xn, .string xs, .slice xa xl xc, .slice ya yl yc] 53) := ⟨_, rfl⟩
    have HB1 : Hid (Below w.heap.size w w1) := by show Below _ _ _; rw [hw1]; exact below_new _ _
    have HR1 : Hid (w1.heap[w.heap.size]? = some (.cells #[.int .u8 (xk : Int), .bool xb, .int .i64 xn, .string xs, .slice xa xl xc, .slice ya yl yc] 53 (0, 0))) := by show _ = _; rw [hw1]; exact heap_alloc_new w _
    have HS1 : Hid (w1.heap.size = w.heap.size + 1) := by show _ = _; rw [hw1]; simp
    rw [← hw1]
    clear hw1
    obtain ⟨G, hG⟩ : ∃ G, G = w.heap.size := ⟨_, rfl⟩
    rw [← hG] at HR1 HS1 ⊢
    have HG : Hid (G = w.heap.size) := hG
    clear hG
    have a0 := block_cells HR1.out 0 _ rfl
    have a1 := block_cells HR1.out 1 _ rfl
    have a2 := block_cells HR1.out 2 _ rfl
    have a3 := block_cells HR1.out 3 _ rfl
    have a4 := block_cells HR1.out 4 _ rfl
    have a5 := block_cells HR1.out 5 _ rfl
    by_cases hov : 16384 < L.length
    · obtain ⟨rfl, rfl⟩ := DWL.out hov
      have C43 : Hid (∀ g v W, Out g L v W → Calls Tryz.prog 69 #[.pointer (some ⟨g, 0, none⟩)] W fun e w' => e = .returned (.bool true) ∧ w' = W) := fun g v W h => (over43 g L v W h).mono (by rintro e w' ⟨rfl, rfl⟩; simp [hov])
      clear hov DWL DWO
      go_wp2_with (first
        | (go_at_call 66; refine (C27.out _ HB1.out).mono ?_; rintro e w2 ⟨rfl, hb2⟩
           have HB2 : Hid (Below w.heap.size w w2) := HB1.out.trans (hb2.mono HB1.out.size)
           have HR2 : Hid (w2.heap[G]? = some (.cells #[.int .u8 (xk : Int), .bool xb, .int .i64 xn, .string xs, .slice xa xl xc, .slice ya yl yc] 53 (0, 0))) := (hb2.block G (by have := HS1.out; omega)).trans HR1.out
           have lt2 : G < w2.heap.size := by have := HS1.out; have := hb2.size; omega
           clear hb2 a0 a1 a2 a3 a4 a5
           have a0 := block_cells HR2.out 0 _ rfl
           have a1 := block_cells HR2.out 1 _ rfl
           have a2 := block_cells HR2.out 2 _ rfl
           have a3 := block_cells HR2.out 3 _ rfl
           have a4 := block_cells HR2.out 4 _ rfl
           have a5 := block_cells HR2.out 5 _ rfl)
        | (go_at_call 68; refine (D42.out _ _ (.slice none 0 0) (HB2.out.trans ((below_new _ _).mono HB2.out.size)) HB2.out.size (out_new _)).mono ?_; rintro e w3 ⟨rfl, v3, h1, h2⟩
           have R3 : Hid (Out w2.heap.size L v3 w3) := h1
           have R4 : Hid (Below w.heap.size w w3) := (HB2.out.trans ((below_new _ _).mono HB2.out.size)).trans ((h2.below (out_new _)).mono HB2.out.size)
           clear h1 h2)
        | (go_at_call 69; refine (C43.out _ _ _ R3.out).mono ?_; rintro e w4 ⟨rfl, rfl⟩))
      go_ret2
      exact ⟨rfl, R4.out⟩
    · obtain ⟨rfl, HWT, HNE⟩ := DWO.out hov
      have DWT : Hid (wt = ⟨L.toArray⟩) := HWT
      have DNE : Hid (L ≠ []) := HNE
      have C43 : Hid (∀ g v W, Out g L v W → Calls Tryz.prog 69 #[.pointer (some ⟨g, 0, none⟩)] W fun e w' => e = .returned (.bool false) ∧ w' = W) := fun g v W h => (over43 g L v W h).mono (by rintro e w' ⟨rfl, rfl⟩; simp [hov])
      clear hov DWL DWO HWT HNE
      go_wp2_with (first
        | (go_at_call 66; refine (C27.out _ HB1.out).mono ?_; rintro e w2 ⟨rfl, hb2⟩
           have HB2 : Hid (Below w.heap.size w w2) := HB1.out.trans (hb2.mono HB1.out.size)
           have HR2 : Hid (w2.heap[G]? = some (.cells #[.int .u8 (xk : Int), .bool xb, .int .i64 xn, .string xs, .slice xa xl xc, .slice ya yl yc] 53 (0, 0))) := (hb2.block G (by have := HS1.out; omega)).trans HR1.out
           have lt2 : G < w2.heap.size := by have := HS1.out; have := hb2.size; omega
           clear hb2 a0 a1 a2 a3 a4 a5
           have a0 := block_cells HR2.out 0 _ rfl
           have a1 := block_cells HR2.out 1 _ rfl
           have a2 := block_cells HR2.out 2 _ rfl
           have a3 := block_cells HR2.out 3 _ rfl
           have a4 := block_cells HR2.out 4 _ rfl
           have a5 := block_cells HR2.out 5 _ rfl)
        | (go_at_call 68; refine (D42.out _ _ (.slice none 0 0) (HB2.out.trans ((below_new _ _).mono HB2.out.size)) HB2.out.size (out_new _)).mono ?_; rintro e w3 ⟨rfl, v3, h1, h2⟩
           have R3 : Hid (Out w2.heap.size L v3 w3) := h1
           have R4 : Hid (Below w.heap.size w w3) := (HB2.out.trans ((below_new _ _).mono HB2.out.size)).trans ((h2.below (out_new _)).mono HB2.out.size)
           obtain ⟨gg, k, cap, str, hv, hconv, hstr⟩ := Bn.own_string h1.own DNE.out
           subst hv
           have c3 := h1.cell
           clear h1 h2)
        | (go_at_call 69; refine (C43.out _ _ _ R3.out).mono ?_; rintro e w4 ⟨rfl, rfl⟩))
      go_ret2
      exact ⟨by rw [hstr.out, DWT.out]; rfl, R4.out⟩
  · obtain ⟨rfl, rfl⟩ := HWE.out h0
    have h0' : ¬ (we : Int) = 0 := by omega
    clear C42 HWE HWL HWO h0
    go_upto_region 1 with fail
    obtain ⟨w1, hw1⟩ : ∃ w1, w1 = w.alloc (.cells #[.int .u8 (xk : Int), .bool xb, .int .i64 xn, .string xs, .slice xa xl xc, .slice ya yl yc] 53) := ⟨_, rfl⟩
    have HB1 : Hid (Below w.heap.size w w1) := by show Below _ _ _; rw [hw1]; exact below_new _ _
    have HR1 : Hid (w1.heap[w.heap.size]? = some (.cells #[.int .u8 (xk : Int), .bool xb, .int .i64 xn, .string xs, .slice xa xl xc, .slice ya yl yc] 53 (0, 0))) := by show _ = _; rw [hw1]; exact heap_alloc_new w _
    rw [← hw1]
    clear hw1
    obtain ⟨G, hG⟩ : ∃ G, G = w.heap.size := ⟨_, rfl⟩
    rw [← hG] at HR1 ⊢
    have a0 := block_cells HR1.out 0 _ rfl
    have a1 := block_cells HR1.out 1 _ rfl
    have a2 := block_cells HR1.out 2 _ rfl
    have a3 := block_cells HR1.out 3 _ rfl
    have a4 := block_cells HR1.out 4 _ rfl
    have a5 := block_cells HR1.out 5 _ rfl
    clear hG
    go_wp2_with (first
      | (go_at_call 66; refine (C27.out _ HB1.out).mono ?_; rintro e w2 ⟨rfl, hb2⟩
         have HB2 : Hid (Below w.heap.size w w2) := HB1.out.trans (hb2.mono HB1.out.size)
         clear hb2 a0 a1 a2 a3 a4 a5))
    go_ret2
    exact ⟨rfl, HB2.out⟩
end Go.Proofs.YtlafdlcpelkdpaaGreatDoor
