/- find, walked with both of its closures: the place of the first field whose name is meant. -/
import Derived.Test.YtbogggnnmbjlfaaDoorClone
namespace Go.Proofs.YtbogggnnmbjlfaaDoor
open Go.RowKit
open Vl (V)
namespace Vl
/-- the place of the first field whose name is meant; if there is none, how many there are -/
def place (p : ByteArray → Bool) (f : List (ByteArray × V)) : Nat := f.findIdx (fun a => p a.1)
theorem place_at (p : ByteArray → Bool) : ∀ (f : List (ByteArray × V)) (j : Nat) (m : ByteArray) (x : V), (∀ (i : Nat) (m : ByteArray) (x : V), i < j → f[i]? = some (m, x) → p m = false) → f[j]? = some (m, x) → p m = true → place p f = j
  | [], _, _, _, _, h, _ => by simp at h
  | a :: r, 0, m, x, _, h, hp => by
    simp only [List.getElem?_cons_zero, Option.some.injEq] at h
    subst h
    simp [place, List.findIdx_cons, hp]
  | a :: r, j + 1, m, x, h0, h, hp => by
    have h1 := h0 0 a.1 a.2 (by omega) rfl
    have := place_at p r j m x (fun i m x hi hx => h0 (i + 1) m x (by omega) (by simpa using hx)) (by simpa using h) hp
    simp only [place] at this ⊢
    simp [List.findIdx_cons, h1, this]
theorem place_none (p : ByteArray → Bool) : ∀ (f : List (ByteArray × V)), (∀ (i : Nat) (m : ByteArray) (x : V), f[i]? = some (m, x) → p m = false) → place p f = f.length
  | [], _ => rfl
  | a :: r, h => by
    have h1 := h 0 a.1 a.2 rfl
    have := place_none p r (fun i m x hx => h (i + 1) m x (by simpa using hx))
    simp only [place] at this ⊢
    simp [List.findIdx_cons, h1, this]
theorem place_le (p : ByteArray → Bool) (f : List (ByteArray × V)) : place p f ≤ f.length := List.findIdx_le_length
end Vl
set_option maxHeartbeats 1000000 in
theorem named36 (name : ByteArray) (w : World) : Calls Tryd.prog 34 #[.string name] w fun e w' => e = .returned (.func (.func 63) #[] #[.pointer (some ⟨w.heap.size, 0, none⟩)]) ∧ w' = w.alloc (.cells #[.string name] 9) := by
  go_enter Tryd.func34, Tryd.ntmps34
  go_wp2
  go_ret
  exact ⟨rfl, rfl⟩
set_option maxHeartbeats 1000000 in
theorem is53 (m name : ByteArray) (c0 c1 c2 c3 c4 c5 : Value) (hf : ∃ (k : Nat) (b : Bool) (n : Int) (s : ByteArray) (ao : Option Addr) (ll lc : Nat) (fo : Option Addr) (fl fc : Nat), c0 = .int .u8 (k : Int) ∧ c1 = .bool b ∧ c2 = .int .i64 n ∧ c3 = .string s ∧ c4 = .slice ao ll lc ∧ c5 = .slice fo fl fc) (w : World) (P : Nat) (hp : w.cell? ⟨P, 0, none⟩ = some (.string name)) (hP : P < w.heap.size) :
    Calls Tryd.prog 63 #[.agg #[.string m, c0, c1, c2, c3, c4, c5], .pointer (some ⟨P, 0, none⟩)] w fun e w' => e = .returned (.bool (decide (m = name))) ∧ Below w.heap.size w w' := by
  obtain ⟨k, b, n, s, ao, ll, lc, fo, fl, fc, rfl, rfl, rfl, rfl, rfl, rfl⟩ := hf
  have hp' : ∀ o : Obj, (w.alloc o).cell? ⟨P, 0, none⟩ = some (.string name) := fun o => ((below_new w o).cell (p := ⟨P, 0, none⟩) hP).trans hp
  by_cases hm : m = name
  · subst hm
    go_enter Tryd.func63, Tryd.ntmps63
    go_wp2
    exact ⟨rfl, _, results_tmp (by rfl) _ _ _, by simp, below_new _ _⟩
  · have hne := Vl.toList_ne hm
    go_enter Tryd.func63, Tryd.ntmps63
    go_wp2
    exact ⟨rfl, _, results_tmp (by rfl) _ _ _, by simp [hm, hne], below_new _ _⟩
set_option maxHeartbeats 1000000 in
theorem above37 (m name : ByteArray) (c0 c1 c2 c3 c4 c5 : Value) (hf : ∃ (k : Nat) (b : Bool) (n : Int) (s : ByteArray) (ao : Option Addr) (ll lc : Nat) (fo : Option Addr) (fl fc : Nat), c0 = .int .u8 (k : Int) ∧ c1 = .bool b ∧ c2 = .int .i64 n ∧ c3 = .string s ∧ c4 = .slice ao ll lc ∧ c5 = .slice fo fl fc) (w : World) (P : Nat) (hp : w.cell? ⟨P, 0, none⟩ = some (.string name)) (hP : P < w.heap.size) :
    Calls Tryd.prog 35 #[.agg #[.string m, c0, c1, c2, c3, c4, c5], .pointer (some ⟨P, 0, none⟩)] w fun e w' => e = .returned (.bool (decide (0 < Vl.cmpS m name))) ∧ Below w.heap.size w w' := by
  obtain ⟨k, b, n, s, ao, ll, lc, fo, fl, fc, rfl, rfl, rfl, rfl, rfl, rfl⟩ := hf
  have hp' : ∀ o : Obj, (w.alloc o).cell? ⟨P, 0, none⟩ = some (.string name) := fun o => ((below_new w o).cell (p := ⟨P, 0, none⟩) hP).trans hp
  have hle := Vl.str_le m name
  have HLE : Hid ((Op.bytesLess m.toList name.toList || m.toList == name.toList) = decide (Vl.cmpS m name ≤ 0)) := hle
  clear hle
  go_enter Tryd.func35, Tryd.ntmps35
  go_wp2
  all_goals
    refine ⟨rfl, _, results_tmp (by rfl) _ _ _, ?_, below_new _ _⟩
    refine congrArg (fun z => Ending.returned (Value.bool z)) ?_
    have h := HLE.out
    show _ = decide (0 < Vl.cmpS m name)
    by_cases hc : Vl.cmpS m name ≤ 0
    · rw [decide_eq_true hc] at h
      rw [decide_eq_false (by omega)]
      show (!Op.bytesLess m.toList name.toList && !(m.toList == name.toList)) = false
      rw [← Bool.not_or, h]; rfl
    · rw [decide_eq_false hc] at h
      rw [decide_eq_true (by omega)]
      show (!Op.bytesLess m.toList name.toList && !(m.toList == name.toList)) = true
      rw [← Bool.not_or, h]; rfl
set_option maxHeartbeats 4000000 in
set_option maxRecDepth 100000 in
theorem find35_53 (name : ByteArray) (P : Nat) (f : List (ByteArray × V)) (ao : Option Addr) (ac : Nat) (w : World) (H : Nat) (hH : H ≤ w.heap.size) (hA : LiesF w H ao f) (hP : P < w.heap.size) (hp : w.cell? ⟨P, 0, none⟩ = some (.string name)) :
    Calls Tryd.prog 33 #[.slice ao f.length ac, .func (.func 63) #[] #[.pointer (some ⟨P, 0, none⟩)]] w fun e w' => e = .returned (.int .i64 ((Vl.place (fun m => decide (m = name)) f : Nat) : Int)) ∧ Below w.heap.size w w' := by
  obtain ⟨na, hna⟩ : ∃ n, n = f.length := ⟨_, rfl⟩
  have h1 := maxLen_lt hA.1
  have HNA : Hid (na = f.length) := hna
  have HA : Hid (0 < f.length → ∃ g o, ao = some ⟨g, o, none⟩ ∧ g < H ∧ RepF w H g o f) := hA.2
  have HP : Hid (P < w.heap.size ∧ w.cell? ⟨P, 0, none⟩ = some (.string name)) := ⟨hP, hp⟩
  obtain ⟨r, hr⟩ : ∃ r, r = Vl.place (fun m => decide (m = name)) f := ⟨_, rfl⟩
  have HR : Hid (r = Vl.place (fun m => decide (m = name)) f) := hr
  rw [← hna] at h1 ⊢
  rw [← hr]
  clear hA hna hP hp hr
  go_enter Tryd.func33, Tryd.ntmps33
  go_wp2
  go_loopw [9] (fun i wr => ∃ j : Nat, j ≤ na ∧ i = .int .i64 j ∧ Below w.heap.size w wr ∧ ∀ (i : Nat) (m : ByteArray) (x : V), i < j → f[i]? = some (m, x) → (decide (m = name)) = false) (fun i _ => na - (intOf i).toNat)
  case atStart => exact ⟨0, Nat.zero_le _, rfl, Below.refl _ _, fun i m x h => by omega⟩
  case round =>
    obtain ⟨j, hj, rfl, hb, hz⟩ := hrel
    have HZ : Hid (∀ (i : Nat) (m : ByteArray) (x : V), i < j → f[i]? = some (m, x) → (decide (m = name)) = false) := hz
    have HBW : Hid (Below w.heap.size w wr) := hb
    by_cases hlt : j < na
    · have ha : j < f.length := by rw [← HNA.out]; omega
      obtain ⟨g, o, rfl, hg, hr⟩ := HA.out (by omega)
      obtain ⟨⟨m, x⟩, hx⟩ : ∃ x, f[j]? = some x := ⟨_, List.getElem?_eq_getElem ha⟩
      obtain ⟨dm, _, c0, c1, c2, c3, c4, c5, ⟨d0, d1, d2, d3, d4, d5⟩, hrx⟩ := repF_at f o (repF_stays (hb.mono hH) (Nat.le_refl _) hg f o hr) j m x hx
      rw [show o + j * 7 + 1 + 1 = o + j * 7 + 2 by omega] at d1
      rw [show o + j * 7 + 1 + 2 = o + j * 7 + 3 by omega] at d2
      rw [show o + j * 7 + 1 + 3 = o + j * 7 + 4 by omega] at d3
      rw [show o + j * 7 + 1 + 4 = o + j * 7 + 5 by omega] at d4
      rw [show o + j * 7 + 1 + 5 = o + j * 7 + 6 by omega] at d5
      obtain ⟨c, hc⟩ : ∃ c, c = (decide (m = name)) := ⟨_, rfl⟩
      have HC : Hid (c = (decide (m = name))) := hc
      have hform := rep_form hrx
      obtain ⟨xk, xb, xn, xs, xa, xl, xc, ya, yl, yc, rfl, rfl, rfl, rfl, rfl, rfl⟩ := hform
      have CP : Hid (∀ W, Below w.heap.size w W → Calls Tryd.prog 63 #[.agg #[.string m, .int .u8 (xk : Int), .bool xb, .int .i64 xn, .string xs, .slice xa xl xc, .slice ya yl yc], .pointer (some ⟨P, 0, none⟩)] W fun e w' => e = .returned (.bool c) ∧ Below W.heap.size W w') := fun W hW => by
        rw [hc]
        exact is53 m name _ _ _ _ _ _ ⟨xk, xb, xn, xs, xa, xl, xc, ya, yl, yc, rfl, rfl, rfl, rfl, rfl, rfl⟩ W P ((hW.cell (p := ⟨P, 0, none⟩) HP.out.1).trans HP.out.2) (Nat.lt_of_lt_of_le HP.out.1 hW.size)
      have HX : Hid (f[j]? = some (m, x)) := hx
      clear hrx hr HA hx hc hb hz ha
      go_wp2_with fail
      refine (CP.out _ (HBW.out.alloc HBW.out.size _)).mono ?_
      rintro e w3 ⟨rfl, hb3⟩
      have HB3 : Hid (Below w.heap.size w w3) := HBW.out.trans (((below_new _ _).trans (hb3.mono (below_new _ _).size)).mono HBW.out.size)
      clear hb3 dm d0 d1 d2 d3 d4 d5
      cases c
      · go_wp2
        go_roundw
        case rel =>
          refine ⟨j + 1, by omega, by go_num, HB3.out, fun i m' x' hi hx' => ?_⟩
          by_cases hij : i < j
          · exact HZ.out i m' x' hij hx'
          · have hij' : i = j := by omega
            subst hij'
            have h1 := HX.out
            rw [hx'] at h1
            cases h1
            exact HC.out.symm
        case measure => simp [intOf]; omega
      · go_wp2
        exact ⟨rfl, _, results_tmp (by rfl) _ _ _, by rw [HR.out, Vl.place_at _ f j m x HZ.out HX.out HC.out.symm]; rfl, HB3.out⟩
    · have hall : Vl.place (fun m => decide (m = name)) f = na := by
        rw [HNA.out]
        exact Vl.place_none _ f fun i m x hx => HZ.out i m x (by have h1 := (List.getElem?_eq_some_iff.1 hx).1; have h2 := HNA.out; omega) hx
      have HALL : Hid (Vl.place (fun m => decide (m = name)) f = na) := hall
      clear hall
      go_wp2
      exact ⟨rfl, _, results_tmp (by rfl) _ _ _, by rw [HR.out, HALL.out]; rfl, HBW.out⟩
set_option maxHeartbeats 4000000 in
set_option maxRecDepth 100000 in
theorem find35_37 (name : ByteArray) (P : Nat) (f : List (ByteArray × V)) (ao : Option Addr) (ac : Nat) (w : World) (H : Nat) (hH : H ≤ w.heap.size) (hA : LiesF w H ao f) (hP : P < w.heap.size) (hp : w.cell? ⟨P, 0, none⟩ = some (.string name)) :
    Calls Tryd.prog 33 #[.slice ao f.length ac, .func (.func 35) #[] #[.pointer (some ⟨P, 0, none⟩)]] w fun e w' => e = .returned (.int .i64 ((Vl.place (fun m => decide (0 < Vl.cmpS m name)) f : Nat) : Int)) ∧ Below w.heap.size w w' := by
  obtain ⟨na, hna⟩ : ∃ n, n = f.length := ⟨_, rfl⟩
  have h1 := maxLen_lt hA.1
  have HNA : Hid (na = f.length) := hna
  have HA : Hid (0 < f.length → ∃ g o, ao = some ⟨g, o, none⟩ ∧ g < H ∧ RepF w H g o f) := hA.2
  have HP : Hid (P < w.heap.size ∧ w.cell? ⟨P, 0, none⟩ = some (.string name)) := ⟨hP, hp⟩
  obtain ⟨r, hr⟩ : ∃ r, r = Vl.place (fun m => decide (0 < Vl.cmpS m name)) f := ⟨_, rfl⟩
  have HR : Hid (r = Vl.place (fun m => decide (0 < Vl.cmpS m name)) f) := hr
  rw [← hna] at h1 ⊢
  rw [← hr]
  clear hA hna hP hp hr
  go_enter Tryd.func33, Tryd.ntmps33
  go_wp2
  go_loopw [9] (fun i wr => ∃ j : Nat, j ≤ na ∧ i = .int .i64 j ∧ Below w.heap.size w wr ∧ ∀ (i : Nat) (m : ByteArray) (x : V), i < j → f[i]? = some (m, x) → (decide (0 < Vl.cmpS m name)) = false) (fun i _ => na - (intOf i).toNat)
  case atStart => exact ⟨0, Nat.zero_le _, rfl, Below.refl _ _, fun i m x h => by omega⟩
  case round =>
    obtain ⟨j, hj, rfl, hb, hz⟩ := hrel
    have HZ : Hid (∀ (i : Nat) (m : ByteArray) (x : V), i < j → f[i]? = some (m, x) → (decide (0 < Vl.cmpS m name)) = false) := hz
    have HBW : Hid (Below w.heap.size w wr) := hb
    by_cases hlt : j < na
    · have ha : j < f.length := by rw [← HNA.out]; omega
      obtain ⟨g, o, rfl, hg, hr⟩ := HA.out (by omega)
      obtain ⟨⟨m, x⟩, hx⟩ : ∃ x, f[j]? = some x := ⟨_, List.getElem?_eq_getElem ha⟩
      obtain ⟨dm, _, c0, c1, c2, c3, c4, c5, ⟨d0, d1, d2, d3, d4, d5⟩, hrx⟩ := repF_at f o (repF_stays (hb.mono hH) (Nat.le_refl _) hg f o hr) j m x hx
      rw [show o + j * 7 + 1 + 1 = o + j * 7 + 2 by omega] at d1
      rw [show o + j * 7 + 1 + 2 = o + j * 7 + 3 by omega] at d2
      rw [show o + j * 7 + 1 + 3 = o + j * 7 + 4 by omega] at d3
      rw [show o + j * 7 + 1 + 4 = o + j * 7 + 5 by omega] at d4
      rw [show o + j * 7 + 1 + 5 = o + j * 7 + 6 by omega] at d5
      obtain ⟨c, hc⟩ : ∃ c, c = (decide (0 < Vl.cmpS m name)) := ⟨_, rfl⟩
      have HC : Hid (c = (decide (0 < Vl.cmpS m name))) := hc
      have hform := rep_form hrx
      obtain ⟨xk, xb, xn, xs, xa, xl, xc, ya, yl, yc, rfl, rfl, rfl, rfl, rfl, rfl⟩ := hform
      have CP : Hid (∀ W, Below w.heap.size w W → Calls Tryd.prog 35 #[.agg #[.string m, .int .u8 (xk : Int), .bool xb, .int .i64 xn, .string xs, .slice xa xl xc, .slice ya yl yc], .pointer (some ⟨P, 0, none⟩)] W fun e w' => e = .returned (.bool c) ∧ Below W.heap.size W w') := fun W hW => by
        rw [hc]
        exact above37 m name _ _ _ _ _ _ ⟨xk, xb, xn, xs, xa, xl, xc, ya, yl, yc, rfl, rfl, rfl, rfl, rfl, rfl⟩ W P ((hW.cell (p := ⟨P, 0, none⟩) HP.out.1).trans HP.out.2) (Nat.lt_of_lt_of_le HP.out.1 hW.size)
      have HX : Hid (f[j]? = some (m, x)) := hx
      clear hrx hr HA hx hc hb hz ha
      go_wp2_with fail
      refine (CP.out _ (HBW.out.alloc HBW.out.size _)).mono ?_
      rintro e w3 ⟨rfl, hb3⟩
      have HB3 : Hid (Below w.heap.size w w3) := HBW.out.trans (((below_new _ _).trans (hb3.mono (below_new _ _).size)).mono HBW.out.size)
      clear hb3 dm d0 d1 d2 d3 d4 d5
      cases c
      · go_wp2
        go_roundw
        case rel =>
          refine ⟨j + 1, by omega, by go_num, HB3.out, fun i m' x' hi hx' => ?_⟩
          by_cases hij : i < j
          · exact HZ.out i m' x' hij hx'
          · have hij' : i = j := by omega
            subst hij'
            have h1 := HX.out
            rw [hx'] at h1
            cases h1
            exact HC.out.symm
        case measure => simp [intOf]; omega
      · go_wp2
        exact ⟨rfl, _, results_tmp (by rfl) _ _ _, by rw [HR.out, Vl.place_at _ f j m x HZ.out HX.out HC.out.symm]; rfl, HB3.out⟩
    · have hall : Vl.place (fun m => decide (0 < Vl.cmpS m name)) f = na := by
        rw [HNA.out]
        exact Vl.place_none _ f fun i m x hx => HZ.out i m x (by have h1 := (List.getElem?_eq_some_iff.1 hx).1; have h2 := HNA.out; omega) hx
      have HALL : Hid (Vl.place (fun m => decide (0 < Vl.cmpS m name)) f = na) := hall
      clear hall
      go_wp2
      exact ⟨rfl, _, results_tmp (by rfl) _ _ _, by rw [HR.out, HALL.out]; rfl, HBW.out⟩
end Go.Proofs.YtbogggnnmbjlfaaDoor
