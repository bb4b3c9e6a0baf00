/- slices.IndexFunc at fields and a name, walked: the place of the first field of that name, or -1. -/
import Derived.Test.YtcgkoogdgagddaaDoorFind
namespace Go.Proofs.YtcgkoogdgagddaaDoor
open Go.RowKit
open Vl (V)
set_option maxHeartbeats 4000000 in
set_option maxRecDepth 100000 in
theorem index57 (name : ByteArray) (P : Nat) (f : List (ByteArray × V)) (ao : Option Addr) (ac : Nat) (w : World) (H : Nat) (hH : H ≤ w.heap.size) (hA : LiesF w H ao f) (hP : P < w.heap.size) (hp : w.cell? ⟨P, 0, none⟩ = some (.string name)) :
    Calls Tryd.prog 57 #[.slice ao f.length ac, .func (.func 53) #[] #[.pointer (some ⟨P, 0, none⟩)]] w fun e w' => e = .returned (.int .i64 (if Vl.place (fun m => decide (m = name)) f < f.length then ((Vl.place (fun m => decide (m = name)) f : Nat) : Int) else -1)) ∧ Below w.heap.size w w' := by
  obtain ⟨na, hna⟩ : ∃ n, n = f.length := ⟨_, rfl⟩
  have h1 := maxLen_lt hA.1
  have HNA : Hid (na = f.length) := hna
  have HA : Hid (0 < f.length → ∃ g o, ao = some ⟨g, o, none⟩ ∧ g < H ∧ RepF w H g o f) := hA.2
  have HP : Hid (P < w.heap.size ∧ w.cell? ⟨P, 0, none⟩ = some (.string name)) := ⟨hP, hp⟩
  obtain ⟨r, hr⟩ : ∃ r : Int, r = if Vl.place (fun m => decide (m = name)) f < f.length then ((Vl.place (fun m => decide (m = name)) f : Nat) : Int) else -1 := ⟨_, rfl⟩
  have HR : Hid (r = if Vl.place (fun m => decide (m = name)) f < f.length then ((Vl.place (fun m => decide (m = name)) f : Nat) : Int) else -1) := hr
  rw [← hr]
  rw [← hna] at h1 ⊢
  clear hA hna hP hp hr
  go_enter Tryd.func57, Tryd.ntmps57
  go_wp2
  go_loopw [8] (fun i wr => ∃ j : Nat, j ≤ na ∧ i = .int .i64 j ∧ Below w.heap.size w wr ∧ ∀ (i : Nat) (m : ByteArray) (x : V), i < j → f[i]? = some (m, x) → (decide (m = name)) = false) (fun i _ => na - (intOf i).toNat)
  case atStart => exact ⟨0, Nat.zero_le _, rfl, Below.refl _ _, fun i m x h => by omega⟩
  case round =>
    obtain ⟨j, hj, rfl, hb, hz⟩ := hrel
    have HZ : Hid (∀ (i : Nat) (m : ByteArray) (x : V), i < j → f[i]? = some (m, x) → (decide (m = name)) = false) := hz
    have HBW : Hid (Below w.heap.size w wr) := hb
    by_cases hlt : j < na
    · have ha : j < f.length := by rw [← HNA.out]; omega
      obtain ⟨g, o, rfl, hg, hr⟩ := HA.out (by omega)
      obtain ⟨⟨m, x⟩, hx⟩ : ∃ x, f[j]? = some x := ⟨_, List.getElem?_eq_getElem ha⟩
      obtain ⟨dm, _, c0, c1, c2, c3, c4, c5, ⟨d0, d1, d2, d3, d4, d5⟩, hrx⟩ := repF_at f o (repF_stays (hb.mono hH) (Nat.le_refl _) hg f o hr) j m x hx
      rw [show o + j * 7 + 1 + 1 = o + j * 7 + 2 by omega] at d1
      rw [show o + j * 7 + 1 + 2 = o + j * 7 + 3 by omega] at d2
      rw [show o + j * 7 + 1 + 3 = o + j * 7 + 4 by omega] at d3
      rw [show o + j * 7 + 1 + 4 = o + j * 7 + 5 by omega] at d4
      rw [show o + j * 7 + 1 + 5 = o + j * 7 + 6 by omega] at d5
      obtain ⟨c, hc⟩ : ∃ c, c = (decide (m = name)) := ⟨_, rfl⟩
      have HC : Hid (c = (decide (m = name))) := hc
      have hform := rep_form hrx
      obtain ⟨xk, xb, xn, xs, xa, xl, xc, ya, yl, yc, rfl, rfl, rfl, rfl, rfl, rfl⟩ := hform
      have CP : Hid (∀ W, Below w.heap.size w W → Calls Tryd.prog 53 #[.agg #[.string m, .int .u8 (xk : Int), .bool xb, .int .i64 xn, .string xs, .slice xa xl xc, .slice ya yl yc], .pointer (some ⟨P, 0, none⟩)] W fun e w' => e = .returned (.bool c) ∧ Below W.heap.size W w') := fun W hW => by
        rw [hc]
        exact is53 m name _ _ _ _ _ _ ⟨xk, xb, xn, xs, xa, xl, xc, ya, yl, yc, rfl, rfl, rfl, rfl, rfl, rfl⟩ W P ((hW.cell (p := ⟨P, 0, none⟩) HP.out.1).trans HP.out.2) (Nat.lt_of_lt_of_le HP.out.1 hW.size)
      have HX : Hid (f[j]? = some (m, x)) := hx
      clear hrx hr HA hx hc hb hz ha
      go_wp2_with fail
      refine (CP.out _ HBW.out).mono ?_
      rintro e w3 ⟨rfl, hb3⟩
      have HB3 : Hid (Below w.heap.size w w3) := HBW.out.trans (hb3.mono HBW.out.size)
      clear hb3 dm d0 d1 d2 d3 d4 d5
      cases c
      · go_wp2
        go_roundw
        case rel =>
          refine ⟨j + 1, by omega, by go_num, HB3.out, fun i m' x' hi hx' => ?_⟩
          by_cases hij : i < j
          · exact HZ.out i m' x' hij hx'
          · have hij' : i = j := by omega
            subst hij'
            have h1 := HX.out
            rw [hx'] at h1
            cases h1
            exact HC.out.symm
        case measure => simp [intOf]; omega
      · go_wp2
        exact ⟨rfl, _, results_tmp (by rfl) _ _ _, by rw [HR.out, Vl.place_at _ f j m x HZ.out HX.out HC.out.symm, if_pos (by rw [← HNA.out]; exact hlt)]; rfl, HB3.out⟩
    · have hall : Vl.place (fun m => decide (m = name)) f = na := by
        rw [HNA.out]
        exact Vl.place_none _ f fun i m x hx => HZ.out i m x (by have h1 := (List.getElem?_eq_some_iff.1 hx).1; have h2 := HNA.out; omega) hx
      have HALL : Hid (Vl.place (fun m => decide (m = name)) f = na) := hall
      clear hall
      go_wp2
      exact ⟨rfl, _, results_tmp (by rfl) _ _ _, by rw [HR.out, HALL.out, if_neg (by rw [HNA.out]; omega)]; rfl, HBW.out⟩
end Go.Proofs.YtcgkoogdgagddaaDoor
