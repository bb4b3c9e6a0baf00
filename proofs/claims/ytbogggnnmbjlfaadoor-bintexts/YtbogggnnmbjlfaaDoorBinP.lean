/- The writer's parts, whatever a part writes. -/
import Derived.Test.YtbogggnnmbjlfaaDoorBinV
namespace Go.Proofs.YtbogggnnmbjlfaaDoor
open Go.RowKit
open Vl (V)
theorem Out.call {g : Nat} {l : List UInt8} {v : Value} {w w' : World} (h : Out g l v w) (b : Below w.heap.size w w') : Out g l v w' :=
  ⟨Nat.lt_of_lt_of_le h.lt b.size, (b.cell (p := ⟨g, 0, none⟩) h.lt).trans h.cell, (b.frozen (p := ⟨g, 0, none⟩) h.lt).trans h.free, own_below h.own b⟩
theorem Wrote.after {g : Nat} {v v' : Value} {w w1 w' : World} (b : Below w.heap.size w w1) (h : Wrote g v v' w1 w') : Wrote g v v' w w' := by
  have hs := b.size
  refine ⟨h.os.trans b.os, h.tape.trans b.tape, h.output.trans b.output, Nat.le_trans b.size h.size, fun k hk hg hv => (h.block k (by omega) hg hv).trans (b.block k hk), ?_⟩
  rcases h.own with e | ⟨j, e, hj⟩
  · exact Or.inl e
  · exact Or.inr ⟨j, e, by omega⟩
/-- a block that is neither the writer's nor its slice's stays neither -/
theorem Wrote.keeps {g k : Nat} {v v' : Value} {w w' : World} (h : Wrote g v v' w w') (hk : k < w.heap.size) (hv : v.ownBlock ≠ some k) : v'.ownBlock ≠ some k := by
  rcases h.own with e | ⟨j, e, hj⟩
  · rw [e]; exact hv
  · rw [e]; intro e2; cases e2; omega
namespace Bn
/-- what is held behind so many parts -/
def runs (step : Nat → List UInt8 → List UInt8) : Nat → Nat → List UInt8 → List UInt8
  | 0, _, o => o
  | m + 1, j, o => if 16384 < o.length then o else runs step m (j + 1) (step j o)
theorem runs_over (step : Nat → List UInt8 → List UInt8) (m j : Nat) (o : List UInt8) (h : 16384 < o.length) : runs step m j o = o := by
  cases m with
  | zero => rfl
  | succ m => rw [runs, if_pos h]
end Bn
set_option maxHeartbeats 2000000 in
set_option maxRecDepth 10000 in
theorem parts72L (g B : Nat) (o : List UInt8) (ho : o.length ≤ 200000) (many : Nat) (hm : many ≤ 64) (step : Nat → List UInt8 → List UInt8) (v : Value) (w : World) (h : Out g o v w)
    (HC : ∀ (j : Nat) (o1 : List UInt8) (v1 : Value) (W : World), j < many → o1.length ≤ 16384 → Out g o1 v1 W → Wrote g v v1 w W → Calls Tryd.prog 73 #[.int .i64 (j : Int), .pointer (some ⟨B, 0, none⟩), .pointer (some ⟨B + 1, 0, none⟩)] W fun e w' => e = .returned (.tuple #[]) ∧ ∃ v2, Out g (step j o1) v2 w' ∧ Wrote g v1 v2 W w') :
    Calls Tryd.prog 72 #[.pointer (some ⟨g, 0, none⟩), .int .i64 (many : Int), .func (.func 73) #[] #[.pointer (some ⟨B, 0, none⟩), .pointer (some ⟨B + 1, 0, none⟩)]] w fun e w' => e = .returned (.tuple #[]) ∧ ∃ v', Out g (Bn.runs step many 0 (o ++ Bn.num many)) v' w' ∧ Wrote g v v' w w' := by
  have C69 : Hid (Calls Tryd.prog 69 #[.pointer (some ⟨g, 0, none⟩), .int .u64 (many : Int)] w fun e w' => e = .returned (.tuple #[]) ∧ ∃ v', Out g (o ++ Bn.num many) v' w' ∧ Wrote g v v' w w') := number69 g o (by omega) many (by omega) v w h
  have q1 : (many : Int) < 18446744073709551616 := by omega
  have HCC : Hid (∀ (j : Nat) (o1 : List UInt8) (v1 : Value) (W : World), j < many → o1.length ≤ 16384 → Out g o1 v1 W → Wrote g v v1 w W → Calls Tryd.prog 73 #[.int .i64 (j : Int), .pointer (some ⟨B, 0, none⟩), .pointer (some ⟨B + 1, 0, none⟩)] W fun e w' => e = .returned (.tuple #[]) ∧ ∃ v2, Out g (step j o1) v2 w' ∧ Wrote g v1 v2 W w') := HC
  obtain ⟨o0, ho0⟩ : ∃ o0, o0 = o ++ Bn.num many := ⟨_, rfl⟩
  rw [← ho0] at C69 ⊢
  clear h HC ho ho0
  go_enter Tryd.func72, Tryd.ntmps72
  go_wp2_with (first
    | (go_at_call 69; refine C69.out.mono ?_; rintro e w1 ⟨rfl, v1, h1, h2⟩
       have H1 : Hid (Out g o0 v1 w1) := h1
       have H2 : Hid (Wrote g v v1 w w1) := h2
       clear h1 h2 C69))
  go_loopw [12] (fun i wr => ∃ (j : Nat) (o1 : List UInt8) (v1 : Value), j ≤ many ∧ i = .int .i64 j ∧ Out g o1 v1 wr ∧ Wrote g v v1 w wr ∧ Bn.runs step (many - j) j o1 = Bn.runs step many 0 o0) (fun i _ => many - (intOf i).toNat)
  case atStart => exact ⟨0, o0, v1, Nat.zero_le _, rfl, H1.out, H2.out, rfl⟩
  case round =>
    obtain ⟨j, o1, v1, hj, rfl, h1, h2, h3⟩ := hrel
    have R1 : Hid (Out g o1 v1 wr) := h1
    have R2 : Hid (Wrote g v v1 w wr) := h2
    have R3 : Hid (Bn.runs step (many - j) j o1 = Bn.runs step many 0 o0) := h3
    clear h1 h2 h3
    by_cases hlt : j < many
    · by_cases hov : 16384 < o1.length
      · have C43 : Hid (Calls Tryd.prog 43 #[.pointer (some ⟨g, 0, none⟩)] wr fun e w' => e = .returned (.bool true) ∧ w' = wr) := (over43 g o1 v1 wr R1.out).mono (by rintro e w' ⟨rfl, rfl⟩; simp [hov])
        have HE : Hid (o1 = Bn.runs step many 0 o0) := by show _ = _; rw [← R3.out, Bn.runs_over _ _ _ _ hov]
        clear hov
        go_wp2_with (first
          | (go_at_call 43; refine C43.out.mono ?_; rintro e w3 ⟨rfl, rfl⟩))
        exact bodyPost_ret (v := .tuple #[]) (results_none (by rfl) _ _ _) rfl ⟨rfl, v1, by rw [← HE.out]; exact R1.out, R2.out⟩
      · have C43 : Hid (Calls Tryd.prog 43 #[.pointer (some ⟨g, 0, none⟩)] wr fun e w' => e = .returned (.bool false) ∧ w' = wr) := (over43 g o1 v1 wr R1.out).mono (by rintro e w' ⟨rfl, rfl⟩; simp [hov])
        have C73 : Hid (Calls Tryd.prog 73 #[.int .i64 (j : Int), .pointer (some ⟨B, 0, none⟩), .pointer (some ⟨B + 1, 0, none⟩)] wr fun e w' => e = .returned (.tuple #[]) ∧ ∃ v2, Out g (step j o1) v2 w' ∧ Wrote g v1 v2 wr w') := HCC.out j o1 v1 wr hlt (by omega) R1.out R2.out
        have HE : Hid (Bn.runs step (many - (j + 1)) (j + 1) (step j o1) = Bn.runs step many 0 o0) := by
          show _ = _
          rw [← R3.out, show many - j = (many - (j + 1)) + 1 by omega, Bn.runs, if_neg hov]
        clear hov
        go_wp2_with (first
          | (go_at_call 43; refine C43.out.mono ?_; rintro e w3 ⟨rfl, rfl⟩)
          | (go_at_call 73; refine C73.out.mono ?_; rintro e w4 ⟨rfl, v2, h4, h5⟩
             have R4 : Hid (Out g (step j o1) v2 w4) := h4
             have R5 : Hid (Wrote g v v2 w w4) := R2.out.trans h5
             clear h4 h5))
        go_roundw
        case rel => exact ⟨j + 1, _, v2, by omega, by go_num, R4.out, R5.out, HE.out⟩
        case measure => simp [intOf]; omega
    · have hjn : j = many := by omega
      subst hjn
      have HE : Hid (o1 = Bn.runs step j 0 o0) := by
        have := R3.out
        rw [Nat.sub_self] at this
        exact this
      clear R3
      go_wp2
      go_end0
      exact ⟨rfl, v1, by rw [← HE.out]; exact R1.out, R2.out⟩
set_option maxHeartbeats 2000000 in
set_option maxRecDepth 10000 in
theorem parts72F (g B : Nat) (o : List UInt8) (ho : o.length ≤ 200000) (many : Nat) (hm : many ≤ 64) (step : Nat → List UInt8 → List UInt8) (v : Value) (w : World) (h : Out g o v w)
    (HC : ∀ (j : Nat) (o1 : List UInt8) (v1 : Value) (W : World), j < many → o1.length ≤ 16384 → Out g o1 v1 W → Wrote g v v1 w W → Calls Tryd.prog 74 #[.int .i64 (j : Int), .pointer (some ⟨B, 0, none⟩), .pointer (some ⟨B + 1, 0, none⟩)] W fun e w' => e = .returned (.tuple #[]) ∧ ∃ v2, Out g (step j o1) v2 w' ∧ Wrote g v1 v2 W w') :
    Calls Tryd.prog 72 #[.pointer (some ⟨g, 0, none⟩), .int .i64 (many : Int), .func (.func 74) #[] #[.pointer (some ⟨B, 0, none⟩), .pointer (some ⟨B + 1, 0, none⟩)]] w fun e w' => e = .returned (.tuple #[]) ∧ ∃ v', Out g (Bn.runs step many 0 (o ++ Bn.num many)) v' w' ∧ Wrote g v v' w w' := by
  have C69 : Hid (Calls Tryd.prog 69 #[.pointer (some ⟨g, 0, none⟩), .int .u64 (many : Int)] w fun e w' => e = .returned (.tuple #[]) ∧ ∃ v', Out g (o ++ Bn.num many) v' w' ∧ Wrote g v v' w w') := number69 g o (by omega) many (by omega) v w h
  have q1 : (many : Int) < 18446744073709551616 := by omega
  have HCC : Hid (∀ (j : Nat) (o1 : List UInt8) (v1 : Value) (W : World), j < many → o1.length ≤ 16384 → Out g o1 v1 W → Wrote g v v1 w W → Calls Tryd.prog 74 #[.int .i64 (j : Int), .pointer (some ⟨B, 0, none⟩), .pointer (some ⟨B + 1, 0, none⟩)] W fun e w' => e = .returned (.tuple #[]) ∧ ∃ v2, Out g (step j o1) v2 w' ∧ Wrote g v1 v2 W w') := HC
  obtain ⟨o0, ho0⟩ : ∃ o0, o0 = o ++ Bn.num many := ⟨_, rfl⟩
  rw [← ho0] at C69 ⊢
  clear h HC ho ho0
  go_enter Tryd.func72, Tryd.ntmps72
  go_wp2_with (first
    | (go_at_call 69; refine C69.out.mono ?_; rintro e w1 ⟨rfl, v1, h1, h2⟩
       have H1 : Hid (Out g o0 v1 w1) := h1
       have H2 : Hid (Wrote g v v1 w w1) := h2
       clear h1 h2 C69))
  go_loopw [12] (fun i wr => ∃ (j : Nat) (o1 : List UInt8) (v1 : Value), j ≤ many ∧ i = .int .i64 j ∧ Out g o1 v1 wr ∧ Wrote g v v1 w wr ∧ Bn.runs step (many - j) j o1 = Bn.runs step many 0 o0) (fun i _ => many - (intOf i).toNat)
  case atStart => exact ⟨0, o0, v1, Nat.zero_le _, rfl, H1.out, H2.out, rfl⟩
  case round =>
    obtain ⟨j, o1, v1, hj, rfl, h1, h2, h3⟩ := hrel
    have R1 : Hid (Out g o1 v1 wr) := h1
    have R2 : Hid (Wrote g v v1 w wr) := h2
    have R3 : Hid (Bn.runs step (many - j) j o1 = Bn.runs step many 0 o0) := h3
    clear h1 h2 h3
    by_cases hlt : j < many
    · by_cases hov : 16384 < o1.length
      · have C43 : Hid (Calls Tryd.prog 43 #[.pointer (some ⟨g, 0, none⟩)] wr fun e w' => e = .returned (.bool true) ∧ w' = wr) := (over43 g o1 v1 wr R1.out).mono (by rintro e w' ⟨rfl, rfl⟩; simp [hov])
        have HE : Hid (o1 = Bn.runs step many 0 o0) := by show _ = _; rw [← R3.out, Bn.runs_over _ _ _ _ hov]
        clear hov
        go_wp2_with (first
          | (go_at_call 43; refine C43.out.mono ?_; rintro e w3 ⟨rfl, rfl⟩))
        exact bodyPost_ret (v := .tuple #[]) (results_none (by rfl) _ _ _) rfl ⟨rfl, v1, by rw [← HE.out]; exact R1.out, R2.out⟩
      · have C43 : Hid (Calls Tryd.prog 43 #[.pointer (some ⟨g, 0, none⟩)] wr fun e w' => e = .returned (.bool false) ∧ w' = wr) := (over43 g o1 v1 wr R1.out).mono (by rintro e w' ⟨rfl, rfl⟩; simp [hov])
        have C74 : Hid (Calls Tryd.prog 74 #[.int .i64 (j : Int), .pointer (some ⟨B, 0, none⟩), .pointer (some ⟨B + 1, 0, none⟩)] wr fun e w' => e = .returned (.tuple #[]) ∧ ∃ v2, Out g (step j o1) v2 w' ∧ Wrote g v1 v2 wr w') := HCC.out j o1 v1 wr hlt (by omega) R1.out R2.out
        have HE : Hid (Bn.runs step (many - (j + 1)) (j + 1) (step j o1) = Bn.runs step many 0 o0) := by
          show _ = _
          rw [← R3.out, show many - j = (many - (j + 1)) + 1 by omega, Bn.runs, if_neg hov]
        clear hov
        go_wp2_with (first
          | (go_at_call 43; refine C43.out.mono ?_; rintro e w3 ⟨rfl, rfl⟩)
          | (go_at_call 74; refine C74.out.mono ?_; rintro e w4 ⟨rfl, v2, h4, h5⟩
             have R4 : Hid (Out g (step j o1) v2 w4) := h4
             have R5 : Hid (Wrote g v v2 w w4) := R2.out.trans h5
             clear h4 h5))
        go_roundw
        case rel => exact ⟨j + 1, _, v2, by omega, by go_num, R4.out, R5.out, HE.out⟩
        case measure => simp [intOf]; omega
    · have hjn : j = many := by omega
      subst hjn
      have HE : Hid (o1 = Bn.runs step j 0 o0) := by
        have := R3.out
        rw [Nat.sub_self] at this
        exact this
      clear R3
      go_wp2
      go_end0
      exact ⟨rfl, v1, by rw [← HE.out]; exact R1.out, R2.out⟩
end Go.Proofs.YtbogggnnmbjlfaaDoor
