/- The law MerklePeaks, walked: any peaks grow by any text, and have the top, that the document says. -/
import Derived.Test.YthheebnmdfggnaaDoorMkPc
namespace Go.Proofs.YthheebnmdfggnaaDoor
open Go.RowKit
attribute [local go_sem ↓] Go.wp_at_zero Go.wp_at_succ
theorem own_formP {w : World} {base : Nat} {v : Value} {P : List (List UInt8)} (h : w.ownsRow base 9 1 v P.length (scs P)) : ∃ a c, v = .slice a P.length c := by
  rcases h.2 with ⟨e, e0⟩ | ⟨g, cap, cur, e, _⟩
  · exact ⟨_, _, by rw [e0]; exact e⟩
  · exact ⟨_, _, e⟩
theorem own_nil (w : World) (base : Nat) : w.ownsRow base 9 1 (.slice none 0 0) 0 (scs []) := ⟨rfl, .inl ⟨rfl, rfl⟩⟩
/-- the same comes of both -/
theorem add_pair (c : Int) (s : ByteArray) (hs : s.size ≤ 140737488355328) (ta : Option Addr) (tn tc : Nat) (l : List (List UInt8)) (hl : l.length ≤ 9223372036854775807) (w : World) (hK : HasK w) (hS : Sl w w.heap.size (.slice ta tn tc) l) :
    ∃ (A : Int) (R : List (List UInt8)) (E : Int), R.length ≤ 1024 ∧
      (∀ W, Below w.heap.size w W → Calls Tryd.prog 8 #[.agg #[.int .i64 c, .slice ta tn tc], .string s] W fun e w' => ∃ va vc, e = .returned (.tuple #[.agg #[.int .i64 A, .slice va R.length vc], .int .i64 E]) ∧ w'.ownsRow W.heap.size 9 1 (.slice va R.length vc) R.length (scs R) ∧ Below W.heap.size W w') ∧
      (∀ W, Below w.heap.size w W → Calls Tryd.prog 9 #[.agg #[.int .i64 c, .slice ta tn tc], .string s] W fun e w' => ∃ va vc, e = .returned (.tuple #[.agg #[.int .i64 A, .slice va R.length vc], .int .i64 E]) ∧ w'.ownsRow W.heap.size 9 1 (.slice va R.length vc) R.length (scs R) ∧ Below W.heap.size W w') := by
  cases hr : Mk.rightP c l
  · refine ⟨0, [], 6, by simp, fun W hW => ?_, fun W hW => ?_⟩
    · refine (add_no c s ta tn tc l hl w.heap.size W hW.size (hS.stays hW (Nat.le_refl _)) hr).mono ?_
      rintro e w' ⟨rfl, hb⟩
      exact ⟨_, _, rfl, own_nil _ _, hb⟩
    · refine (rAdd_no c s ta tn tc l hl w.heap.size W hW.size (hS.stays hW (Nat.le_refl _)) hr).mono ?_
      rintro e w' ⟨rfl, hb⟩
      exact ⟨_, _, rfl, own_nil _ _, hb⟩
  · obtain ⟨n, rfl, hn, ho, h32⟩ := Mk.rightP_of hr
    by_cases h24 : n = 1024
    · subst h24
      refine ⟨0, [], 3, by simp, fun W hW => ?_, fun W hW => ?_⟩
      · refine (add_full s ta tn tc l hl w.heap.size W hW.size (hS.stays hW (Nat.le_refl _)) hr).mono ?_
        rintro e w' ⟨rfl, hb⟩
        exact ⟨_, _, rfl, own_nil _ _, hb⟩
      · refine (rAdd_full s ta tn tc l hl w.heap.size W hW.size (hS.stays hW (Nat.le_refl _)) hr).mono ?_
        rintro e w' ⟨rfl, hb⟩
        exact ⟨_, _, rfl, own_nil _ _, hb⟩
    · have hl2 : l.length ≤ 1024 := by rw [ho]; exact ones_few ⟨n, by omega⟩
      refine ⟨(n : Int) + 1, Mk.addM n l (Mk.leaf s.data.toList), 0, by rw [Mk.addM_length n l _ ho]; exact ones_few ⟨n + 1, by omega⟩, fun W hW => ?_, fun W hW => ?_⟩
      · refine (add_yes n (by omega) s hs ta tn tc l ho hl2 h32 w.heap.size W (hK.below hK.1 hW) hW.size (hS.stays hW (Nat.le_refl _))).mono ?_
        rintro e w' ⟨v, rfl, hO, hb⟩
        obtain ⟨a1, c1, rfl⟩ := own_formP hO
        exact ⟨_, _, rfl, hO, hb⟩
      · refine (rAdd_yes n (by omega) s hs ta tn tc l ho hl2 h32 w.heap.size W hW.size (hS.stays hW (Nat.le_refl _))).mono ?_
        rintro e w' ⟨v, rfl, hO, hb⟩
        obtain ⟨a1, c1, rfl⟩ := own_formP hO
        exact ⟨_, _, rfl, hO, hb⟩
theorem top_pair (c : Int) (ta : Option Addr) (tn tc : Nat) (l : List (List UInt8)) (hl : l.length ≤ 9223372036854775807) (w : World) (hK : HasK w) (hS : Sl w w.heap.size (.slice ta tn tc) l) :
    ∃ (T : ByteArray) (F : Int),
      (∀ W, Below w.heap.size w W → Calls Tryd.prog 10 #[.agg #[.int .i64 c, .slice ta tn tc]] W fun e w' => e = .returned (.tuple #[.string T, .int .i64 F]) ∧ Below W.heap.size W w') ∧
      (∀ W, Below w.heap.size w W → Calls Tryd.prog 11 #[.agg #[.int .i64 c, .slice ta tn tc]] W fun e w' => e = .returned (.tuple #[.string T, .int .i64 F]) ∧ Below W.heap.size W w') := by
  cases hr : Mk.rightP c l
  · exact ⟨⟨#[]⟩, 6, fun W hW => top_no c ta tn tc l hl w.heap.size W hW.size (hS.stays hW (Nat.le_refl _)) hr, fun W hW => rTop_no c ta tn tc l hl w.heap.size W hW.size (hS.stays hW (Nat.le_refl _)) hr⟩
  · obtain ⟨n, rfl, hn, ho, h32⟩ := Mk.rightP_of hr
    have hl2 : l.length ≤ 1024 := by rw [ho]; exact ones_few ⟨n, by omega⟩
    exact ⟨bs (Mk.topM l), 0, fun W hW => top_yes n hn ta tn tc l ho hl2 h32 w.heap.size W (hK.below hK.1 hW) hW.size (hS.stays hW (Nat.le_refl _)), fun W hW => rTop_yes n hn ta tn tc l ho hl2 h32 w.heap.size W hW.size (hS.stays hW (Nat.le_refl _))⟩
set_option maxHeartbeats 16000000 in
set_option maxRecDepth 10000 in
theorem peaks_c (c : Int) (ta : Option Addr) (tn tc : Nat) (l : List (List UInt8)) (hl : l.length ≤ 9223372036854775807) (s : ByteArray) (hs : s.size ≤ 140737488355328) (w : World) (hK : HasK w) (hS : Sl w w.heap.size (.slice ta tn tc) l) :
    Calls Tryd.prog 3 #[.agg #[.int .i64 c, .slice ta tn tc], .string s] w fun e w' => e = .returned (.bool true) ∧ Below w.heap.size w w' := by
  obtain ⟨A, R, E, hR, hA1, hA2⟩ := add_pair c s hs ta tn tc l hl w hK hS
  obtain ⟨T, F, hT1, hT2⟩ := top_pair c ta tn tc l hl w hK hS
  obtain ⟨k, hk⟩ : ∃ k, k = R.length := ⟨_, rfl⟩
  rw [← hk] at hA1 hA2 hR
  have HKR : Hid (k = R.length) := hk
  have CA : Hid (∀ W, Below w.heap.size w W → Calls Tryd.prog 8 #[.agg #[.int .i64 c, .slice ta tn tc], .string s] W fun e w' => ∃ va vc, e = .returned (.tuple #[.agg #[.int .i64 A, .slice va k vc], .int .i64 E]) ∧ w'.ownsRow W.heap.size 9 1 (.slice va k vc) k (scs R) ∧ Below W.heap.size W w') := hA1
  have CB : Hid (∀ W, Below w.heap.size w W → Calls Tryd.prog 9 #[.agg #[.int .i64 c, .slice ta tn tc], .string s] W fun e w' => ∃ va vc, e = .returned (.tuple #[.agg #[.int .i64 A, .slice va k vc], .int .i64 E]) ∧ w'.ownsRow W.heap.size 9 1 (.slice va k vc) k (scs R) ∧ Below W.heap.size W w') := hA2
  have CT : Hid (∀ W, Below w.heap.size w W → Calls Tryd.prog 10 #[.agg #[.int .i64 c, .slice ta tn tc]] W fun e w' => e = .returned (.tuple #[.string T, .int .i64 F]) ∧ Below W.heap.size W w') := hT1
  have CU : Hid (∀ W, Below w.heap.size w W → Calls Tryd.prog 11 #[.agg #[.int .i64 c, .slice ta tn tc]] W fun e w' => e = .returned (.tuple #[.string T, .int .i64 F]) ∧ Below W.heap.size W w') := hT2
  have CL : Hid (∀ W, Below w.heap.size w W → Calls Tryd.prog 12 #[] W fun e w' => e = .returned (.bool true) ∧ Below W.heap.size W w') := fun W hW => lives_c W (hK.below hK.1 hW)
  have CS : Hid (∀ W base base' va vc ua uc, W.ownsRow base 9 1 (.slice va k vc) k (scs R) → W.ownsRow base' 9 1 (.slice ua k uc) k (scs R) → Calls Tryd.prog 13 #[.slice va k vc, .slice ua k uc] W fun e w' => e = .returned (.bool true) ∧ Below W.heap.size W w') := fun W base base' va vc ua uc h1 h2 => by
    have := same_c va k vc ua k uc R R (by omega) (by omega) W.heap.size W (Nat.le_refl _) (own_sl (by rw [← hk]; exact h1)) (own_sl (by rw [← hk]; exact h2))
    simpa using this
  have qT : (T.toList == T.toList) = true := beq_self_eq_true _
  have qA : (A == A) = true := beq_self_eq_true _
  have qE : (E == E) = true := beq_self_eq_true _
  have qF : (F == F) = true := beq_self_eq_true _
  clear hS hK hl hs hA1 hA2 hT1 hT2 hk
  go_enter Tryd.func3, Tryd.ntmps3
  have X0 : Hid (Bx2 w w.heap.size 24 (.int .i64 c) (.slice ta tn tc) (w.alloc (.cells #[.int .i64 c, .slice ta tn tc] 24))) := Bx2.start w _ _ _
  go_wp2_with fail
  refine (CA.out _ X0.out.2.2.2).mono ?_
  rintro e w1 ⟨va, vc, rfl, ho1, hb1⟩
  have X1 : Hid (Bx2 w w.heap.size 24 (.int .i64 c) (.slice ta tn tc) w1) := X0.out.call hb1
  have O1 : Hid (w1.ownsRow w.heap.size 9 1 (.slice va k vc) k (scs R)) := own_mono ho1 (by simp)
  have Y1 : Hid (∀ y0 y1, Bx2 w1 w1.heap.size 24 y0 y1 (w1.alloc (.cells #[y0, y1] 24))) := fun y0 y1 => Bx2.start w1 24 y0 y1
  clear ho1 hb1 X0 CA
  have c01 := fun y0 y1 => (X1.out.call (Y1.out y0 y1).2.2.2).cells.1
  have c11 := fun y0 y1 => (X1.out.call (Y1.out y0 y1).2.2.2).cells.2
  go_wp2_with fail
  refine (CB.out _ (X1.out.call (Y1.out (.int .i64 A) (.slice va k vc)).2.2.2).2.2.2).mono ?_
  rintro e w2 ⟨ua, uc, rfl, ho2, hb2⟩
  have X2 : Hid (Bx2 w w.heap.size 24 (.int .i64 c) (.slice ta tn tc) w2) := (X1.out.call (Y1.out _ _).2.2.2).call hb2
  have Y2 : Hid (Bx2 w1 w1.heap.size 24 (.int .i64 A) (.slice va k vc) w2) := (Y1.out _ _).call hb2
  have O2 : Hid (w2.ownsRow w.heap.size 9 1 (.slice va k vc) k (scs R)) := own_stays (own_stays O1.out (Y1.out (.int .i64 A) (.slice va k vc)).2.2.2) hb2
  have P2 : Hid (w2.ownsRow 0 9 1 (.slice ua k uc) k (scs R)) := own_mono ho2 (Nat.zero_le _)
  have Z2 : Hid (∀ y0 y1, Bx2 w2 w2.heap.size 24 y0 y1 (w2.alloc (.cells #[y0, y1] 24))) := fun y0 y1 => Bx2.start w2 24 y0 y1
  clear ho2 hb2 X1 Y1 O1 CB c01 c11
  have c02 := fun y0 y1 => (X2.out.call (Z2.out y0 y1).2.2.2).cells.1
  have c12 := fun y0 y1 => (X2.out.call (Z2.out y0 y1).2.2.2).cells.2
  go_wp2_with fail
  refine (CT.out _ (X2.out.call (Z2.out (.int .i64 A) (.slice ua k uc)).2.2.2).2.2.2).mono ?_
  rintro e w3 ⟨rfl, hb3⟩
  have hz := (Z2.out (.int .i64 A) (.slice ua k uc)).2.2.2
  have X3 : Hid (Bx2 w w.heap.size 24 (.int .i64 c) (.slice ta tn tc) w3) := (X2.out.call hz).call hb3
  have Y3 : Hid (Bx2 w1 w1.heap.size 24 (.int .i64 A) (.slice va k vc) w3) := (Y2.out.call hz).call hb3
  have Z3 : Hid (Bx2 w2 w2.heap.size 24 (.int .i64 A) (.slice ua k uc) w3) := (Z2.out _ _).call hb3
  have O3 : Hid (w3.ownsRow w.heap.size 9 1 (.slice va k vc) k (scs R)) := own_stays (own_stays O2.out hz) hb3
  have P3 : Hid (w3.ownsRow 0 9 1 (.slice ua k uc) k (scs R)) := own_stays (own_stays P2.out hz) hb3
  obtain ⟨c0, c1⟩ := X3.out.cells
  clear hb3 hz X2 Y2 Z2 O2 P2 CT c02 c12
  go_wp2_with fail
  refine (CU.out _ X3.out.2.2.2).mono ?_
  rintro e w4 ⟨rfl, hb4⟩
  have X4 : Hid (Bx2 w w.heap.size 24 (.int .i64 c) (.slice ta tn tc) w4) := X3.out.call hb4
  have Y4 : Hid (Bx2 w1 w1.heap.size 24 (.int .i64 A) (.slice va k vc) w4) := Y3.out.call hb4
  have Z4 : Hid (Bx2 w2 w2.heap.size 24 (.int .i64 A) (.slice ua k uc) w4) := Z3.out.call hb4
  have O4 : Hid (w4.ownsRow w.heap.size 9 1 (.slice va k vc) k (scs R)) := own_stays O3.out hb4
  have P4 : Hid (w4.ownsRow 0 9 1 (.slice ua k uc) k (scs R)) := own_stays P3.out hb4
  clear hb4 X3 Y3 Z3 O3 P3 CU c0 c1
  go_wp2_with fail
  refine (CL.out _ X4.out.2.2.2).mono ?_
  rintro e w5 ⟨rfl, hb5⟩
  have X5 : Hid (Below w.heap.size w w5) := (X4.out.call hb5).2.2.2
  have O5 : Hid (w5.ownsRow w.heap.size 9 1 (.slice va k vc) k (scs R)) := own_stays O4.out hb5
  have P5 : Hid (w5.ownsRow 0 9 1 (.slice ua k uc) k (scs R)) := own_stays P4.out hb5
  obtain ⟨y0, y1⟩ := (Y4.out.call hb5).cells
  obtain ⟨z0, z1⟩ := (Z4.out.call hb5).cells
  clear hb5 X4 Y4 Z4 O4 P4 CL
  go_wp2_with fail
  refine (CS.out _ _ _ _ _ _ _ O5.out P5.out).mono ?_
  rintro e w6 ⟨rfl, hb6⟩
  have B6 : Hid (Below w.heap.size w w6) := X5.out.trans (hb6.mono X5.out.size)
  clear hb6 y0 y1 z0 z1 CS
  go_wp2
  go_ret
  exact ⟨rfl, B6.out⟩
end Go.Proofs.YthheebnmdfggnaaDoor
