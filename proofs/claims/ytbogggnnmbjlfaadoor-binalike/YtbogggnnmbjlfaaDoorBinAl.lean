/- BinAlike, walked. -/
import Derived.Test.YtbogggnnmbjlfaaDoorBinBk
namespace Go.Proofs.YtbogggnnmbjlfaaDoor
open Go.RowKit
open Vl (V)
/-- the law's own variables -/
structure OC (w0 W : World) (B C : Nat) (t u : V) (a0 a1 a2 a3 a4 a5 b0 b1 b2 b3 b4 b5 : Value) : Prop where
  below : Below w0.heap.size w0 W
  row : Row6 W B a0 a1 a2 a3 a4 a5
  row2 : Row6 W C b0 b1 b2 b3 b4 b5
  rep : Rep W w0.heap.size t (.agg #[a0, a1, a2, a3, a4, a5])
  rep2 : Rep W w0.heap.size u (.agg #[b0, b1, b2, b3, b4, b5])
theorem OC.call {w0 W W' : World} {B C : Nat} {t u : V} {a0 a1 a2 a3 a4 a5 b0 b1 b2 b3 b4 b5 : Value} (h : OC w0 W B C t u a0 a1 a2 a3 a4 a5 b0 b1 b2 b3 b4 b5) (b : Below W.heap.size W W') : OC w0 W' B C t u a0 a1 a2 a3 a4 a5 b0 b1 b2 b3 b4 b5 :=
  ⟨h.below.trans (b.mono h.below.size), h.row.call b, h.row2.call b, rep_stays (b.mono h.below.size) (Nat.le_refl _) t _ h.rep, rep_stays (b.mono h.below.size) (Nat.le_refl _) u _ h.rep2⟩
theorem OC.start (w : World) (t u : V) (a0 a1 a2 a3 a4 a5 b0 b1 b2 b3 b4 b5 : Value) (hr : Rep w w.heap.size t (.agg #[a0, a1, a2, a3, a4, a5])) (hr2 : Rep w w.heap.size u (.agg #[b0, b1, b2, b3, b4, b5])) :
    OC w ((w.alloc (.cells #[a0, a1, a2, a3, a4, a5] 26)).alloc (.cells #[b0, b1, b2, b3, b4, b5] 26)) w.heap.size (w.heap.size + 1) t u a0 a1 a2 a3 a4 a5 b0 b1 b2 b3 b4 b5 := by
  have hb : Below w.heap.size w ((w.alloc (.cells #[a0, a1, a2, a3, a4, a5] 26)).alloc (.cells #[b0, b1, b2, b3, b4, b5] 26)) := (below_new _ _).trans ((below_new _ _).mono (by simp))
  refine ⟨hb, ⟨by simp; omega, (Below.heap_alloc _ _ _ (by simp)).trans (heap_alloc_new w _)⟩, ⟨by simp, ?_⟩, rep_stays hb (Nat.le_refl _) t _ hr, rep_stays hb (Nat.le_refl _) u _ hr2⟩
  have := heap_alloc_new (w.alloc (.cells #[a0, a1, a2, a3, a4, a5] 26)) (.cells #[b0, b1, b2, b3, b4, b5] 26)
  simpa using this
theorem Bn.same_text {s r : ByteArray} {t u : V} (h : Bn.Is s t) (k : Bn.Is r u) : (s = r) ↔ t = u := by
  constructor
  · intro e; subst e; exact h.one k
  · intro e; subst e; exact Bn.data_ext (by rw [h.2.2.1, k.2.2.1])
theorem Bn.same_dec (t u : V) : Vl.same t u = true ↔ t = u := ⟨Vl.same_eq t u, fun e => by rw [e]; exact Vl.same_refl u⟩
theorem Bn.cmp_dec {s r : ByteArray} {t u : V} (h : Bn.Is s t) (k : Bn.Is r u) : Vl.cmp t u = 0 ↔ t = u := ⟨fun e => Vl.cmp_same Bn.u8 t u 0 0 h.2.2.2 k.2.2.2 e, fun e => by rw [e]; exact Vl.cmp_refl u⟩
/-- no text of a right value begins with another one's -/
theorem Bn.no_prefix {s r : ByteArray} {t u : V} (h : Bn.Is s t) (k : Bn.Is r u) (hne : t ≠ u) : ¬ r.extract 0 s.size = s := fun e => by
  have e1 : r.data.toList.take s.size = s.data.toList := by rw [← Bn.extract_take, e]
  have e2 : Bn.bytes u ++ [] = Bn.bytes t ++ (r.data.toList.drop s.size) := by
    rw [List.append_nil, ← k.2.2.1, ← h.2.2.1, ← e1, List.take_append_drop]
  exact hne ((Bn.bytes_app u t [] _ k.2.1 h.2.1 e2).1.symm)
set_option maxHeartbeats 8000000 in
set_option maxRecDepth 10000 in
theorem alike8 (t u : V) (w : World) (hT : Bn.HasU w) (v1 v2 : Value) (hR : Rep w w.heap.size t v1) (hR2 : Rep w w.heap.size u v2) :
    Calls Tryd.prog 8 #[v1, v2] w fun e w' => e = .returned (.bool true) ∧ Below w.heap.size w w' := by
  obtain ⟨xk, xb, xn, xs, xa, xl, xc, va, vl, vc, hv⟩ := repA_form (rep_repA t v1 hR)
  subst hv
  obtain ⟨yk, yb, yn, ys, ya, yl, yc, ua, ul, uc, hv⟩ := repA_form (rep_repA u v2 hR2)
  subst hv
  have HT : Hid (Bn.HasU w) := hT
  obtain ⟨B, hB⟩ : ∃ B, B = w.heap.size := ⟨_, rfl⟩
  obtain ⟨C, hC⟩ : ∃ C, C = B + 1 := ⟨_, rfl⟩
  obtain ⟨w1, hw1⟩ : ∃ w1, w1 = (w.alloc (.cells #[.int .u8 (xk : Int), .bool xb, .int .i64 xn, .string xs, .slice xa xl xc, .slice va vl vc] 26)).alloc (.cells #[.int .u8 (yk : Int), .bool yb, .int .i64 yn, .string ys, .slice ya yl yc, .slice ua ul uc] 26) := ⟨_, rfl⟩
  have O1 : Hid (OC w w1 B C t u (.int .u8 (xk : Int)) (.bool xb) (.int .i64 xn) (.string xs) (.slice xa xl xc) (.slice va vl vc) (.int .u8 (yk : Int)) (.bool yb) (.int .i64 yn) (.string ys) (.slice ya yl yc) (.slice ua ul uc)) := by
    show OC _ _ _ _ _ _ _ _ _ _ _ _ _ _ _ _ _ _
    rw [hw1, hC, hB]; exact OC.start w t u _ _ _ _ _ _ _ _ _ _ _ _ hR hR2
  have C22 : Hid (∀ W, Below w.heap.size w W → Calls Tryd.prog 22 #[] W fun e w' => e = .returned (.bool true) ∧ Below W.heap.size W w') := fun W hW => lives22 W (hT.stays hW)
  obtain ⟨we, hwe⟩ : ∃ we, we = Bn.werr t := ⟨_, rfl⟩
  obtain ⟨wt, hwt⟩ : ∃ wt, wt = Bn.wtext t := ⟨_, rfl⟩
  obtain ⟨xe, hxe⟩ : ∃ xe, xe = Bn.werr u := ⟨_, rfl⟩
  obtain ⟨xt, hxt⟩ : ∃ xt, xt = Bn.wtext u := ⟨_, rfl⟩
  have C18 : Hid (∀ W, OC w W B C t u (.int .u8 (xk : Int)) (.bool xb) (.int .i64 xn) (.string xs) (.slice xa xl xc) (.slice va vl vc) (.int .u8 (yk : Int)) (.bool yb) (.int .i64 yn) (.string ys) (.slice ya yl yc) (.slice ua ul uc) → Calls Tryd.prog 18 #[.agg #[.int .u8 (xk : Int), .bool xb, .int .i64 xn, .string xs, .slice xa xl xc, .slice va vl vc]] W fun e w' => e = .returned (.tuple #[.string wt, .int .i64 (we : Int)]) ∧ Below W.heap.size W w') := fun W hW => by
    rw [hwe, hwt]
    exact write18 t W (hT.stays hW.below) w.heap.size _ hW.below.size hW.rep
  have D18 : Hid (∀ W, OC w W B C t u (.int .u8 (xk : Int)) (.bool xb) (.int .i64 xn) (.string xs) (.slice xa xl xc) (.slice va vl vc) (.int .u8 (yk : Int)) (.bool yb) (.int .i64 yn) (.string ys) (.slice ya yl yc) (.slice ua ul uc) → Calls Tryd.prog 18 #[.agg #[.int .u8 (yk : Int), .bool yb, .int .i64 yn, .string ys, .slice ya yl yc, .slice ua ul uc]] W fun e w' => e = .returned (.tuple #[.string xt, .int .i64 (xe : Int)]) ∧ Below W.heap.size W w') := fun W hW => by
    rw [hxe, hxt]
    exact write18 u W (hT.stays hW.below) w.heap.size _ hW.below.size hW.rep2
  have HIS : Hid (we = 0 → Bn.Is wt t) := fun h => by rw [hwt]; exact Bn.is_wrote (Bn.rep_rng t _ hR) (by rw [← hwe]; exact h)
  have HIX : Hid (xe = 0 → Bn.Is xt u) := fun h => by rw [hxt]; exact Bn.is_wrote (Bn.rep_rng u _ hR2) (by rw [← hxe]; exact h)
  have C28 : Hid (∀ W, OC w W B C t u (.int .u8 (xk : Int)) (.bool xb) (.int .i64 xn) (.string xs) (.slice xa xl xc) (.slice va vl vc) (.int .u8 (yk : Int)) (.bool yb) (.int .i64 yn) (.string ys) (.slice ya yl yc) (.slice ua ul uc) → Calls Tryd.prog 28 #[.agg #[.int .u8 (xk : Int), .bool xb, .int .i64 xn, .string xs, .slice xa xl xc, .slice va vl vc], .agg #[.int .u8 (yk : Int), .bool yb, .int .i64 yn, .string ys, .slice ya yl yc, .slice ua ul uc]] W fun e w' => e = .returned (.bool (Vl.same t u)) ∧ Below W.heap.size W w') := fun W hW =>
    same12 _ t (Nat.le_refl _) u W w.heap.size _ _ hW.below.size hW.rep hW.rep2
  have C29 : Hid (∀ W, OC w W B C t u (.int .u8 (xk : Int)) (.bool xb) (.int .i64 xn) (.string xs) (.slice xa xl xc) (.slice va vl vc) (.int .u8 (yk : Int)) (.bool yb) (.int .i64 yn) (.string ys) (.slice ya yl yc) (.slice ua ul uc) → Calls Tryd.prog 29 #[.agg #[.int .u8 (xk : Int), .bool xb, .int .i64 xn, .string xs, .slice xa xl xc, .slice va vl vc], .agg #[.int .u8 (yk : Int), .bool yb, .int .i64 yn, .string ys, .slice ya yl yc, .slice ua ul uc]] W fun e w' => e = .returned (.int .i64 (Vl.cmp t u)) ∧ Below W.heap.size W w') := fun W hW =>
    compare10 _ t (Nat.le_refl _) u W w.heap.size _ _ hW.below.size hW.rep hW.rep2
  clear hR hR2 hT hwe hwt hxe hxt
  go_enter Tryd.func8, Tryd.ntmps8
  go_upto_region 1 with fail
  rw [← hB, ← hC, ← hw1]
  clear hB hC hw1
  obtain ⟨p0, p1, p2, p3, p4, p5⟩ := O1.out.row.cells
  go_upto_region 4 with (first
    | (go_at_call 22; refine (C22.out _ O1.out.below).mono ?_; rintro e w2 ⟨rfl, hb2⟩
       have O2 : Hid (OC w w2 B C t u (.int .u8 (xk : Int)) (.bool xb) (.int .i64 xn) (.string xs) (.slice xa xl xc) (.slice va vl vc) (.int .u8 (yk : Int)) (.bool yb) (.int .i64 yn) (.string ys) (.slice ya yl yc) (.slice ua ul uc)) := O1.out.call hb2
       obtain ⟨p0, p1, p2, p3, p4, p5⟩ := O2.out.row.cells
       clear hb2)
    | (go_at_call 18; refine (C18.out _ O2.out).mono ?_; rintro e w3 ⟨rfl, hb3⟩
       have O3 : Hid (OC w w3 B C t u (.int .u8 (xk : Int)) (.bool xb) (.int .i64 xn) (.string xs) (.slice xa xl xc) (.slice va vl vc) (.int .u8 (yk : Int)) (.bool yb) (.int .i64 yn) (.string ys) (.slice ya yl yc) (.slice ua ul uc)) := O2.out.call hb3
       clear hb3))
  clear p0 p1 p2 p3 p4 p5 O1 O2
  obtain ⟨p0, p1, p2, p3, p4, p5⟩ := O3.out.row2.cells
  go_upto_region 5 with (first
    | (go_at_call 18; refine (D18.out _ O3.out).mono ?_; rintro e w4 ⟨rfl, hb4⟩
       have O4 : Hid (OC w w4 B C t u (.int .u8 (xk : Int)) (.bool xb) (.int .i64 xn) (.string xs) (.slice xa xl xc) (.slice va vl vc) (.int .u8 (yk : Int)) (.bool yb) (.int .i64 yn) (.string ys) (.slice ya yl yc) (.slice ua ul uc)) := O3.out.call hb4
       clear hb4))
  clear p0 p1 p2 p3 p4 p5 O3
  by_cases h1 : we = 0
  · by_cases h2 : xe = 0
    · have I1 := HIS.out h1
      have I2 := HIX.out h2
      subst h1 h2
      obtain ⟨p0, p1, p2, p3, p4, p5⟩ := O4.out.row.cells
      obtain ⟨q0, q1, q2, q3, q4, q5⟩ := O4.out.row2.cells
      by_cases htu : t = u
      · subst htu
        obtain rfl := (Bn.same_text I1 I2).2 rfl
        have D28 : Hid (∀ W, OC w W B C t t (.int .u8 (xk : Int)) (.bool xb) (.int .i64 xn) (.string xs) (.slice xa xl xc) (.slice va vl vc) (.int .u8 (yk : Int)) (.bool yb) (.int .i64 yn) (.string ys) (.slice ya yl yc) (.slice ua ul uc) → Calls Tryd.prog 28 #[.agg #[.int .u8 (xk : Int), .bool xb, .int .i64 xn, .string xs, .slice xa xl xc, .slice va vl vc], .agg #[.int .u8 (yk : Int), .bool yb, .int .i64 yn, .string ys, .slice ya yl yc, .slice ua ul uc]] W fun e w' => e = .returned (.bool true) ∧ Below W.heap.size W w') := fun W hW => by
          have h := C28.out W hW
          rw [Vl.same_refl] at h
          exact h
        have D29 : Hid (∀ W, OC w W B C t t (.int .u8 (xk : Int)) (.bool xb) (.int .i64 xn) (.string xs) (.slice xa xl xc) (.slice va vl vc) (.int .u8 (yk : Int)) (.bool yb) (.int .i64 yn) (.string ys) (.slice ya yl yc) (.slice ua ul uc) → Calls Tryd.prog 29 #[.agg #[.int .u8 (xk : Int), .bool xb, .int .i64 xn, .string xs, .slice xa xl xc, .slice va vl vc], .agg #[.int .u8 (yk : Int), .bool yb, .int .i64 yn, .string ys, .slice ya yl yc, .slice ua ul uc]] W fun e w' => e = .returned (.int .i64 0) ∧ Below W.heap.size W w') := fun W hW => by
          have h := C29.out W hW
          rw [Vl.cmp_refl] at h
          exact h
        clear I1 I2 C28 C29 HIS HIX
        go_wp2_with (first
          | (go_at_call 28; refine (D28.out _ O4.out).mono ?_; rintro e w5 ⟨rfl, hb5⟩
             have O5 : Hid (OC w w5 B C t t (.int .u8 (xk : Int)) (.bool xb) (.int .i64 xn) (.string xs) (.slice xa xl xc) (.slice va vl vc) (.int .u8 (yk : Int)) (.bool yb) (.int .i64 yn) (.string ys) (.slice ya yl yc) (.slice ua ul uc)) := O4.out.call hb5
             obtain ⟨p0, p1, p2, p3, p4, p5⟩ := O5.out.row.cells
             obtain ⟨q0, q1, q2, q3, q4, q5⟩ := O5.out.row2.cells
             clear hb5)
          | (go_at_call 29; refine (D29.out _ O5.out).mono ?_; rintro e w6 ⟨rfl, hb6⟩
             have O6 : Hid (OC w w6 B C t t (.int .u8 (xk : Int)) (.bool xb) (.int .i64 xn) (.string xs) (.slice xa xl xc) (.slice va vl vc) (.int .u8 (yk : Int)) (.bool yb) (.int .i64 yn) (.string ys) (.slice ya yl yc) (.slice ua ul uc)) := O5.out.call hb6
             clear hb6))
        go_ret
        exact ⟨rfl, O6.out.below⟩
      · have D28 : Hid (∀ W, OC w W B C t u (.int .u8 (xk : Int)) (.bool xb) (.int .i64 xn) (.string xs) (.slice xa xl xc) (.slice va vl vc) (.int .u8 (yk : Int)) (.bool yb) (.int .i64 yn) (.string ys) (.slice ya yl yc) (.slice ua ul uc) → Calls Tryd.prog 28 #[.agg #[.int .u8 (xk : Int), .bool xb, .int .i64 xn, .string xs, .slice xa xl xc, .slice va vl vc], .agg #[.int .u8 (yk : Int), .bool yb, .int .i64 yn, .string ys, .slice ya yl yc, .slice ua ul uc]] W fun e w' => e = .returned (.bool false) ∧ Below W.heap.size W w') := fun W hW => by
          have h := C28.out W hW
          rw [show Vl.same t u = false from Bool.eq_false_iff.2 (fun e => htu (Vl.same_eq t u e))] at h
          exact h
        have hcmp : ¬ Vl.cmp t u = 0 := fun e => htu ((Bn.cmp_dec I1 I2).1 e)
        have hne : ¬ wt = xt := fun e => htu ((Bn.same_text I1 I2).1 e)
        have hn1 := Bn.neq hne
        have D29 : Hid (∀ W, OC w W B C t u (.int .u8 (xk : Int)) (.bool xb) (.int .i64 xn) (.string xs) (.slice xa xl xc) (.slice va vl vc) (.int .u8 (yk : Int)) (.bool yb) (.int .i64 yn) (.string ys) (.slice ya yl yc) (.slice ua ul uc) → Calls Tryd.prog 29 #[.agg #[.int .u8 (xk : Int), .bool xb, .int .i64 xn, .string xs, .slice xa xl xc, .slice va vl vc], .agg #[.int .u8 (yk : Int), .bool yb, .int .i64 yn, .string ys, .slice ya yl yc, .slice ua ul uc]] W fun e w' => ∃ z : Int, z ≠ 0 ∧ e = .returned (.int .i64 z) ∧ Below W.heap.size W w') := fun W hW => (C29.out W hW).mono (fun e w' ⟨h1, h2⟩ => ⟨_, hcmp, h1, h2⟩)
        by_cases hl : xt.size < wt.size
        · have hl' : (xt.size : Int) < (wt.size : Int) := by omega
          clear I1 I2 C28 C29 HIS HIX hcmp hne hl
          go_wp2_with (first
            | (go_at_call 28; refine (D28.out _ O4.out).mono ?_; rintro e w5 ⟨rfl, hb5⟩
               have O5 : Hid (OC w w5 B C t u (.int .u8 (xk : Int)) (.bool xb) (.int .i64 xn) (.string xs) (.slice xa xl xc) (.slice va vl vc) (.int .u8 (yk : Int)) (.bool yb) (.int .i64 yn) (.string ys) (.slice ya yl yc) (.slice ua ul uc)) := O4.out.call hb5
               obtain ⟨p0, p1, p2, p3, p4, p5⟩ := O5.out.row.cells
               obtain ⟨q0, q1, q2, q3, q4, q5⟩ := O5.out.row2.cells
               clear hb5)
            | (go_at_call 29; refine (D29.out _ O5.out).mono ?_; rintro e w6 ⟨z, hz, rfl, hb6⟩
               have O6 : Hid (OC w w6 B C t u (.int .u8 (xk : Int)) (.bool xb) (.int .i64 xn) (.string xs) (.slice xa xl xc) (.slice va vl vc) (.int .u8 (yk : Int)) (.bool yb) (.int .i64 yn) (.string ys) (.slice ya yl yc) (.slice ua ul uc)) := O5.out.call hb6
               clear hb6))
          go_ret
          exact ⟨rfl, O6.out.below⟩
        · have hl' : ¬ (xt.size : Int) < (wt.size : Int) := by omega
          have S1 := Bn.slice_to xt (wt.size : Int) (by omega) (by omega)
          have hn2 := Bn.neq (Bn.no_prefix I1 I2 htu)
          rw [Int.toNat_natCast] at S1
          clear I1 I2 C28 C29 HIS HIX hcmp hne hl
          go_wp2_with (first
            | (go_at_call 28; refine (D28.out _ O4.out).mono ?_; rintro e w5 ⟨rfl, hb5⟩
               have O5 : Hid (OC w w5 B C t u (.int .u8 (xk : Int)) (.bool xb) (.int .i64 xn) (.string xs) (.slice xa xl xc) (.slice va vl vc) (.int .u8 (yk : Int)) (.bool yb) (.int .i64 yn) (.string ys) (.slice ya yl yc) (.slice ua ul uc)) := O4.out.call hb5
               obtain ⟨p0, p1, p2, p3, p4, p5⟩ := O5.out.row.cells
               obtain ⟨q0, q1, q2, q3, q4, q5⟩ := O5.out.row2.cells
               clear hb5)
            | (go_at_call 29; refine (D29.out _ O5.out).mono ?_; rintro e w6 ⟨z, hz, rfl, hb6⟩
               have O6 : Hid (OC w w6 B C t u (.int .u8 (xk : Int)) (.bool xb) (.int .i64 xn) (.string xs) (.slice xa xl xc) (.slice va vl vc) (.int .u8 (yk : Int)) (.bool yb) (.int .i64 yn) (.string ys) (.slice ya yl yc) (.slice ua ul uc)) := O5.out.call hb6
               clear hb6))
          go_ret
          exact ⟨rfl, O6.out.below⟩
    · have h2' : ¬ (xe : Int) = 0 := by omega
      subst h1
      clear C28 C29 HIS HIX
      go_wp2
      go_ret
      exact ⟨rfl, O4.out.below⟩
  · have h1' : ¬ (we : Int) = 0 := by omega
    clear C28 C29 HIS HIX
    go_wp2
    go_ret
    exact ⟨rfl, O4.out.below⟩
end Go.Proofs.YtbogggnnmbjlfaaDoor
