/- Steps behind steps: the law ParseSteps, walked. -/
import Derived.Test.YtocnjmndiogdmaaGreatDoorPzAM
import Derived.Test.YtocnjmndiogdmaaGreatDoorQ47M
namespace Go.Proofs.YtocnjmndiogdmaaGreatDoor
open Go.RowKit
namespace Ps
/-- how many values there are behind steps -/
def stk : List Sp → Nat → Option Nat
  | [], v => some v
  | p :: r, v => if rightSp p = true ∧ takesSp p ≤ v then stk r (v + 1 - takesSp p) else none
theorem right_stk : ∀ (l : List Sp) (v : Nat), rightL l v = decide (stk l v = some 1)
  | [], v => by
    rw [rightL, stk]
    by_cases h : v = 1
    · rw [h]; rfl
    · rw [decide_eq_false h, decide_eq_false (fun e => h (Option.some.inj e))]
  | p :: r, v => by
    rw [rightL, stk, right_stk r]
    by_cases h1 : rightSp p = true
    · by_cases h2 : takesSp p ≤ v
      · rw [if_pos ⟨h1, h2⟩, h1, decide_eq_true h2]; rfl
      · rw [if_neg (fun q => h2 q.2), h1, decide_eq_false h2]; rfl
    · rw [if_neg (fun q => h1 q.1), eq_false_of_ne_true h1]; rfl
theorem stk_app : ∀ (l m : List Sp) (v : Nat), stk (l ++ m) v = (stk l v).bind (stk m)
  | [], m, v => rfl
  | p :: r, m, v => by
    rw [List.cons_append, stk, stk]
    split
    · exact stk_app r m _
    · rfl
theorem stk_shift (d : Nat) : ∀ (l : List Sp) (v u : Nat), stk l v = some u → stk l (v + d) = some (u + d)
  | [], v, u, h => by
    rw [stk] at h ⊢
    rw [Option.some.inj h]
  | p :: r, v, u, h => by
    rw [stk] at h ⊢
    by_cases q : rightSp p = true ∧ takesSp p ≤ v
    · rw [if_pos q] at h
      rw [if_pos ⟨q.1, by omega⟩, show v + d + 1 - takesSp p = v + 1 - takesSp p + d by omega]
      exact stk_shift d r _ _ h
    · rw [if_neg q] at h; cases h
def kp (k : Nat) : Sp := ⟨k, [], 0⟩
theorem kp_takes (k : Nat) : takesSp (kp k) = 0 ∨ takesSp (kp k) = 1 ∨ takesSp (kp k) = 2 := by
  rw [takesSp]
  split
  · exact .inl rfl
  · split
    · exact .inr (.inr rfl)
    · split
      · exact .inr (.inl rfl)
      · exact .inl rfl
theorem right_of {l : List Sp} (h : rightE l = true) : l.length ≤ 128 ∧ stk l 0 = some 1 := by
  rw [rightE, right_stk, Bool.and_eq_true, decide_eq_true_iff, decide_eq_true_iff] at h
  exact h
theorem steps_right {la lb : List Sp} {k : Nat} (ha : rightE la = true) (hb : rightE lb = true) (hk : rightSp (kp k) = true) : rightE (la ++ lb) = false ∧ rightE (la ++ lb ++ [kp k]) = (decide (la.length + lb.length + 1 ≤ 128) && decide (takesSp (kp k) = 2)) ∧ rightE (la ++ [kp k]) = (decide (la.length + 1 ≤ 128) && decide (takesSp (kp k) = 1)) := by
  obtain ⟨_, a2⟩ := right_of ha
  obtain ⟨_, b2⟩ := right_of hb
  have ab : stk (la ++ lb) 0 = some 2 := by
    rw [stk_app, a2]
    exact stk_shift 1 lb 0 1 b2
  refine ⟨?_, ?_, ?_⟩
  · rw [rightE, right_stk, ab, decide_eq_false (by decide : ¬ some 2 = some 1), Bool.and_false]
  · rw [rightE, right_stk, stk_app, ab, List.length_append, List.length_append, List.length_singleton]
    congr 1
    show decide (stk [kp k] 2 = some 1) = _
    rw [stk, stk, hk]
    rcases kp_takes k with q | q | q <;> rw [q] <;> rfl
  · rw [rightE, right_stk, stk_app, a2, List.length_append, List.length_singleton]
    congr 1
    show decide (stk [kp k] 1 = some 1) = _
    rw [stk, stk, hk]
    rcases kp_takes k with q | q | q <;> rw [q] <;> rfl
theorem own_nil (W : World) : (W.alloc (.cells #[] 29)).ownsRow W.heap.size 29 3 (.slice (some ⟨W.heap.size, 0, none⟩) 0 0) 0 [] := own_none W _ (Nat.le_refl _) _ _
set_option maxHeartbeats 3000000 in
set_option maxRecDepth 100000 in
theorem steps_w (la lb : List Sp) (k : Nat) (aa ab : Option Addr) (ca cb2 na nb : Nat) (w : World) (hna : na = la.length) (hnb : nb = lb.length) (hO : HasO w) (hL : HasL w) (ha : Sts w aa la) (hb : Sts w ab lb) (fa : fitE la) (fb : fitE lb) : Calls Tryz.prog 3 #[.slice aa na ca, .slice ab nb cb2, .int .u8 (k : Int)] w fun e w' => e = .returned (.bool true) ∧ Below w.heap.size w w' := by
  have LV : Hid (Calls Tryz.prog 6 #[] w fun e w' => e = .returned (.bool true) ∧ Below w.heap.size w w') := lives_c w hO hL
  have HA : Hid (∀ W, Below w.heap.size w W → Sts W aa la ∧ Sts W ab lb) := fun W hW => ⟨ha.call hW, hb.call hW⟩
  have HN : Hid (na = la.length ∧ nb = lb.length ∧ fitE la ∧ fitE lb) := ⟨hna, hnb, fa, fb⟩
  have CR : Hid (∀ W, Below w.heap.size w W → ∀ (l : List Sp) (a : Option Addr) (c n : Nat), Sts W a l → n = l.length → fitE l → Calls Tryz.prog 7 #[.slice a n c] W fun e w' => e = .returned (.bool (rightE l)) ∧ Below W.heap.size W w') := fun W hW l a c n hs hn hf => right_c l a n c W hn (by rw [hn]; exact hf.1) hs hf.2 (hL.stays hW)
  have CCL : Hid (∀ W, Below w.heap.size w W → ∀ (l : List Sp) (a : Option Addr) (c n : Nat), Sts W a l → n = l.length → n ≤ 9223372036854775807 → Calls Tryz.prog 9 #[.slice a n c] W fun e w' => e = .returned (.bool (closedE l)) ∧ Below W.heap.size W w') := fun W _ l a c n hs hn hb => closedL_c l a n c W hn hb hs
  have CT : Hid (∀ W, Below w.heap.size w W → Calls Tryz.prog 8 #[.agg #[.int .u8 (k : Int), .string ⟨#[]⟩, .int .i64 0]] W fun e w' => e = .returned (.tuple #[.int .i64 ((if rightSp (kp k) = true then takesSp (kp k) else 0 : Nat) : Int), .bool (rightSp (kp k))]) ∧ Below W.heap.size W w') := fun W hW => takesP_c (kp k) (by show 0 ≤ 4611686018427387904; decide) W (hL.stays hW)
  obtain ⟨i0, hi, hz0, hz1, hz2⟩ := info_partsP infoStep
  clear hna hnb hO hL ha hb fa fb
  go_enter Tryz.func3, Tryz.ntmps3
  go_wp2_with fail
  refine (LV.out).mono ?_
  rintro e w1 ⟨rfl, hb1⟩
  have X1 := hidp hb1
  clear hb1 LV
  go_wp2_with fail
  refine (CR.out w1 X1.out la aa ca _ (HA.out w1 X1.out).1 HN.out.1 HN.out.2.2.1).mono ?_
  rintro e w2 ⟨rfl, hb2⟩
  have X2 : Hid (Below w.heap.size w w2) := X1.out.trans (hb2.mono X1.out.size)
  clear hb2
  cases hra : rightE la with
  | false =>
    clear hra
    go_wp2
    go_ret
    exact ⟨rfl, X2.out⟩
  | true =>
  have HRA := hidp hra
  clear hra
  go_wp2_with fail
  refine (CR.out w2 X2.out lb ab cb2 _ (HA.out w2 X2.out).2 HN.out.2.1 HN.out.2.2.2).mono ?_
  rintro e w3 ⟨rfl, hb3⟩
  have X3 : Hid (Below w.heap.size w w3) := X2.out.trans (hb3.mono X2.out.size)
  clear hb3
  cases hrb : rightE lb with
  | false =>
    clear hrb
    go_wp2
    go_ret
    exact ⟨rfl, X3.out⟩
  | true =>
  have HRB0 := hidp hrb
  clear hrb
  go_wp2_with fail
  refine (CT.out w3 X3.out).mono ?_
  rintro e w4 ⟨rfl, hb4⟩
  have X4 : Hid (Below w.heap.size w w4) := X3.out.trans (hb4.mono X3.out.size)
  clear hb4 CT
  cases hrk : rightSp (kp k) with
  | false =>
    clear hrk
    go_wp2
    go_ret
    exact ⟨rfl, X4.out⟩
  | true =>
  rw [if_pos rfl]
  obtain ⟨h128, _⟩ := right_of HRA.out
  obtain ⟨h128b, _⟩ := right_of HRB0.out
  have HRX := hidp (steps_right HRA.out HRB0.out hrk)
  have HL8 : Hid (na ≤ 128 ∧ nb ≤ 128) := ⟨by rw [HN.out.1]; exact h128, by rw [HN.out.2.1]; exact h128b⟩
  have HCL : Hid (closedE (la ++ lb) = (closedE la && closedE lb)) := by show _ = _; rw [closedE, List.all_append]; rfl
  have fit0 : Hid (fitE (la ++ lb) ∧ fitE (la ++ lb ++ [kp k]) ∧ fitE (la ++ [kp k])) := by
    have fk : fitS (kp k) := ⟨by show 0 ≤ 4611686018427387904; decide, by show -9223372036854775808 ≤ (0 : Int) ∧ (0 : Int) ≤ 9223372036854775807; decide⟩
    have f1 : ∀ l m : List Sp, fitE l → fitE m → l.length ≤ 1000 → m.length ≤ 1000 → fitE (l ++ m) := fun l m h1 h2 h3 h4 => ⟨by rw [List.length_append]; omega, fun p hp => (List.mem_append.1 hp).elim (h1.2 p) (h2.2 p)⟩
    have fK : fitE [kp k] := ⟨by show 1 ≤ 9223372036854775807; decide, fun p hp => by
      rcases List.mem_cons.1 hp with rfl | hp
      · exact fk
      · cases hp⟩
    have g1 := f1 la lb HN.out.2.2.1 HN.out.2.2.2 (by omega) (by omega)
    exact ⟨g1, f1 _ _ g1 fK (by rw [List.length_append]; omega) (by show 1 ≤ 1000; decide), f1 _ _ HN.out.2.2.1 fK (by omega) (by show 1 ≤ 1000; decide)⟩
  obtain ⟨T, hT⟩ : ∃ T, T = takesSp (kp k) := ⟨_, rfl⟩
  have HT : Hid (T = takesSp (kp k)) := hT
  have hT3 : T = 0 ∨ T = 1 ∨ T = 2 := by rw [hT]; exact kp_takes k
  rw [← hT]
  clear h128 h128b hrk hT
  have m63 : ∀ x : Nat, x ≤ 1000 → x ≤ maxLen := fun x h => Nat.le_trans h (by decide)
  have SZ : Hid ((0 + na ≤ maxLen ∧ (0 + na) * 32 ≤ 140737488355328) ∧ (na + nb ≤ maxLen ∧ (na + nb) * 32 ≤ 140737488355328) ∧ (0 + (na + nb) ≤ maxLen ∧ (0 + (na + nb)) * 32 ≤ 140737488355328) ∧ (na + nb + 1 ≤ maxLen ∧ (na + nb + 1) * 32 ≤ 140737488355328) ∧ (na + 1 ≤ maxLen ∧ (na + 1) * 32 ≤ 140737488355328)) := by
    have := HL8.out
    refine ⟨⟨m63 _ ?_, ?_⟩, ⟨m63 _ ?_, ?_⟩, ⟨m63 _ ?_, ?_⟩, ⟨m63 _ ?_, ?_⟩, m63 _ ?_, ?_⟩ <;> omega
  clear m63
  -- both
  have HNl : Hid ((scs la).length = na * 3 ∧ (scs lb).length = nb * 3 ∧ (scs (la ++ lb)).length = (na + nb) * 3) := ⟨by rw [scs_len, HN.out.1], by rw [scs_len, HN.out.2.1], by rw [scs_len, List.length_append, HN.out.1, HN.out.2.1]⟩
  have n1 := hidp (by simp [Value.oneCell'] : ∀ u ∈ [Value.int .u8 (k : Int), .string ⟨#[]⟩, .int .i64 0], u.oneCell' = true)
  have E4 : Hid (Below w.heap.size w (w4.alloc (.cells #[] 29))) := X4.out.alloc X4.out.size _
  go_wp2_with (at_builtin; refine wpList_append_any rfl _ _ 22 rfl w4.heap.size 29 i0 _ 3 32 Tryz.underlying22 hi hz0 hz1 hz2 rfl (by decide) _ _ _ rfl (own_nil w4) aa na ca (scs la) rfl (HNl.out.1) ((HA.out _ E4.out).1.src) (scs_one la) (SZ.out.1).1 (SZ.out.1).2 ((bnew w4 _).size) ?_)
  intro b5 c5 w5 hown hbel _
  try rw [Nat.zero_add] at hown
  try rw [List.nil_append] at hown
  try rw [Nat.zero_add]
  have X5 : Hid (Below w4.heap.size w4 w5 ∧ w5.ownsRow w4.heap.size 29 3 (.slice b5 na c5) na (scs la)) := ⟨(bnew w4 _).trans hbel, hown⟩
  have X5w : Hid (Below w.heap.size w w5) := X4.out.trans (X5.out.1.mono X4.out.size)
  clear hown hbel
  go_wp2_with (at_builtin; refine wpList_append_any rfl _ _ 22 rfl w4.heap.size 29 i0 _ 3 32 Tryz.underlying22 hi hz0 hz1 hz2 rfl (by decide) _ _ _ rfl (X5.out.2) ab nb cb2 (scs lb) rfl (HNl.out.2.1) ((HA.out w5 X5w.out).2.src) (scs_one lb) (SZ.out.2.1).1 (SZ.out.2.1).2 (X5.out.1.size) ?_)
  intro bb cb w6 hown hbel _
  have X6 : Hid (Below w.heap.size w w6 ∧ Sts w6 bb (la ++ lb) ∧ na + nb = (la ++ lb).length ∧ na + nb ≤ cb) := by
    have h : w6.ownsRow w4.heap.size 29 3 (.slice bb (na + nb) cb) (na + nb) (scs (la ++ lb)) := by
      rw [show scs (la ++ lb) = scs la ++ scs lb from List.flatMap_append]
      exact hown
    obtain ⟨q1, q2, q3, _⟩ := own_sts h
    exact ⟨X5w.out.trans (hbel.mono X4.out.size), q1, q2, q3⟩
  clear hown hbel X5 X5w E4
  obtain ⟨nab, hnab⟩ : ∃ nab, nab = na + nb := ⟨_, rfl⟩
  rw [← hnab] at SZ HNl X6 ⊢
  have HAB : Hid (nab = na + nb) := hnab
  clear hnab
  have HBn : Hid (nab ≤ 9223372036854775807 ∧ na ≤ 9223372036854775807 ∧ nb ≤ 9223372036854775807) := by
    have := HL8.out
    have := HAB.out
    refine ⟨?_, ?_, ?_⟩ <;> omega
  go_wp2_with (at_builtin; refine wpList_append_any rfl _ _ 22 rfl w6.heap.size 29 i0 _ 3 32 Tryz.underlying22 hi hz0 hz1 hz2 rfl (by decide) _ _ _ rfl (own_nil w6) bb nab cb (scs (la ++ lb)) rfl (HNl.out.2.2) ((X6.out.2.1.call (bnew w6 _)).src) (scs_one _) (SZ.out.2.2.1).1 (SZ.out.2.2.1).2 ((bnew w6 _).size) ?_)
  intro b7 c7 w7 hown hbel _
  try rw [Nat.zero_add] at hown
  try rw [List.nil_append] at hown
  try rw [Nat.zero_add]
  have X7 : Hid (Below w6.heap.size w6 w7 ∧ w7.ownsRow w6.heap.size 29 3 (.slice b7 nab c7) nab (scs (la ++ lb))) := ⟨(bnew w6 _).trans hbel, hown⟩
  clear hown hbel
  go_wp2_with (at_builtin; refine wpList_append_any rfl _ _ 22 rfl w6.heap.size 29 i0 _ 3 32 Tryz.underlying22 hi hz0 hz1 hz2 rfl (by decide) _ _ _ rfl (own_callL X7.out.2 (bnew _ _)) (some ⟨w7.heap.size, 0, none⟩) 1 1 ([.int .u8 (k : Int), .string ⟨#[]⟩, .int .i64 0]) rfl (rfl) (src_new w7 #[.int .u8 (k : Int), .string ⟨#[]⟩, .int .i64 0] 29) (n1.out) (SZ.out.2.2.2.1).1 (SZ.out.2.2.2.1).2 ((X7.out.1.alloc X7.out.1.size _).size) ?_)
  intro b2 c2 w8 hown hbel _
  have X7Y : Hid (Below w6.heap.size w6 w8 ∧ Sts w8 b2 ((la ++ lb) ++ [kp k]) ∧ nab + 1 = ((la ++ lb) ++ [kp k]).length) := by
    have h : w8.ownsRow w6.heap.size 29 3 (.slice b2 (nab + 1) c2) (nab + 1) (scs ((la ++ lb) ++ [kp k])) := by
      rw [show scs ((la ++ lb) ++ [kp k]) = scs (la ++ lb) ++ [.int .u8 (k : Int), .string ⟨#[]⟩, .int .i64 0] from List.flatMap_append]
      exact hown
    obtain ⟨q1, q2, _, _⟩ := own_sts h
    exact ⟨(X7.out.1.alloc X7.out.1.size _).trans hbel, q1, q2⟩
  clear hown hbel X7
  have X8w : Hid (Below w.heap.size w w8) := X6.out.1.trans (X7Y.out.1.mono X6.out.1.size)
  have E8 : Hid (Below w.heap.size w (w8.alloc (.cells #[] 29))) := X8w.out.alloc X8w.out.size _
  go_wp2_with (at_builtin; refine wpList_append_any rfl _ _ 22 rfl w8.heap.size 29 i0 _ 3 32 Tryz.underlying22 hi hz0 hz1 hz2 rfl (by decide) _ _ _ rfl (own_nil w8) aa na ca (scs la) rfl (HNl.out.1) ((HA.out _ E8.out).1.src) (scs_one _) (SZ.out.1).1 (SZ.out.1).2 ((bnew w8 _).size) ?_)
  intro b9 c9 w9 hown hbel _
  try rw [Nat.zero_add] at hown
  try rw [List.nil_append] at hown
  try rw [Nat.zero_add]
  have X9 : Hid (Below w8.heap.size w8 w9 ∧ w9.ownsRow w8.heap.size 29 3 (.slice b9 na c9) na (scs la)) := ⟨(bnew w8 _).trans hbel, hown⟩
  clear hown hbel
  go_wp2_with (at_builtin; refine wpList_append_any rfl _ _ 22 rfl w8.heap.size 29 i0 _ 3 32 Tryz.underlying22 hi hz0 hz1 hz2 rfl (by decide) _ _ _ rfl (own_callL X9.out.2 (bnew _ _)) (some ⟨w9.heap.size, 0, none⟩) 1 1 ([.int .u8 (k : Int), .string ⟨#[]⟩, .int .i64 0]) rfl (rfl) (src_new w9 #[.int .u8 (k : Int), .string ⟨#[]⟩, .int .i64 0] 29) (n1.out) (SZ.out.2.2.2.2).1 (SZ.out.2.2.2.2).2 ((X9.out.1.alloc X9.out.1.size _).size) ?_)
  intro b1 c1 w11 hown hbel _
  have X9Y : Hid (Below w8.heap.size w8 w11 ∧ Sts w11 b1 (la ++ [kp k]) ∧ na + 1 = (la ++ [kp k]).length) := by
    have h : w11.ownsRow w8.heap.size 29 3 (.slice b1 (na + 1) c1) (na + 1) (scs (la ++ [kp k])) := by
      rw [show scs (la ++ [kp k]) = scs la ++ [.int .u8 (k : Int), .string ⟨#[]⟩, .int .i64 0] from List.flatMap_append]
      exact hown
    obtain ⟨q1, q2, _, _⟩ := own_sts h
    exact ⟨(X9.out.1.alloc X9.out.1.size _).trans hbel, q1, q2⟩
  clear hown hbel X9
  have X11 : Hid (Below w.heap.size w w11 ∧ True ∧ (Sts w11 bb (la ++ lb) ∧ nab = (la ++ lb).length ∧ fitE (la ++ lb)) ∧ (Sts w11 b2 (la ++ lb ++ [kp k]) ∧ nab + 1 = (la ++ lb ++ [kp k]).length ∧ fitE (la ++ lb ++ [kp k])) ∧ (Sts w11 b1 (la ++ [kp k]) ∧ na + 1 = (la ++ [kp k]).length ∧ fitE (la ++ [kp k]))) :=
    ⟨X8w.out.trans (X9Y.out.1.mono X8w.out.size), trivial, ⟨(X6.out.2.1.call X7Y.out.1).call X9Y.out.1, X6.out.2.2.1, fit0.out.1⟩, ⟨X7Y.out.2.1.call X9Y.out.1, X7Y.out.2.2, fit0.out.2.1⟩, X9Y.out.2.1, X9Y.out.2.2, fit0.out.2.2⟩
  clear X6 X7Y X8w X9Y E8 SZ HNl fit0 n1 i0 hi hz0 hz1 hz2
  rcases hT3 with rfl | rfl | rfl
  · have HV : Hid (rightE (la ++ lb ++ [kp k]) = false ∧ rightE (la ++ [kp k]) = false) := ⟨by rw [HRX.out.2.1, ← HT.out]; exact Bool.and_false _, by rw [HRX.out.2.2, ← HT.out]; exact Bool.and_false _⟩

    go_wp2_with fail
    refine (CR.out w11 X11.out.1 (la ++ lb) bb cb _ X11.out.2.2.1.1 X11.out.2.2.1.2.1 X11.out.2.2.1.2.2).mono ?_
    rintro e w12 ⟨rfl, hb12⟩
    have X12 : Hid (Below w11.heap.size w11 w12 ∧ Below w.heap.size w w12) := ⟨hb12, X11.out.1.trans (hb12.mono X11.out.1.size)⟩
    clear hb12
    rw [HRX.out.1]
    go_wp2_with fail
    refine (CR.out w12 X12.out.2 (la ++ lb ++ [kp k]) b2 c2 _ (X11.out.2.2.2.1.1.call X12.out.1) X11.out.2.2.2.1.2.1 X11.out.2.2.2.1.2.2).mono ?_
    rintro e w13 ⟨rfl, hb13⟩
    have X13 : Hid (Below w11.heap.size w11 w13 ∧ Below w.heap.size w w13) := ⟨X12.out.1.trans (hb13.mono X12.out.1.size), X12.out.2.trans (hb13.mono X12.out.2.size)⟩
    clear hb13
    rw [show rightE (la ++ lb ++ [kp k]) = false from HV.out.1]
    go_wp2_with fail
    refine (CR.out w13 X13.out.2 (la ++ [kp k]) b1 c1 _ (X11.out.2.2.2.2.1.call X13.out.1) X11.out.2.2.2.2.2.1 X11.out.2.2.2.2.2.2).mono ?_
    rintro e wZ ⟨rfl, hbZ⟩
    have XZ : Hid (Below w.heap.size w wZ ∧ Below w11.heap.size w11 wZ ∧ Sts wZ bb (la ++ lb) ∧ nab = (la ++ lb).length) := by
      have h := X13.out.1.trans (hbZ.mono X13.out.1.size)
      exact ⟨X13.out.2.trans (hbZ.mono X13.out.2.size), h, X11.out.2.2.1.1.call h, X11.out.2.2.1.2.1⟩
    clear hbZ
    rw [show rightE (la ++ [kp k]) = false from HV.out.2]
    go_wp2_with fail
    refine (CCL.out wZ XZ.out.1 (la ++ lb) bb cb _ XZ.out.2.2.1 XZ.out.2.2.2 HBn.out.1).mono ?_
    rintro e wp ⟨rfl, hbp⟩
    have Xp : Hid (Below w.heap.size w wp) := XZ.out.1.trans (hbp.mono XZ.out.1.size)
    clear hbp
    go_wp2_with fail
    refine (CCL.out wp Xp.out la aa ca _ (HA.out wp Xp.out).1 HN.out.1 HBn.out.2.1).mono ?_
    rintro e wq ⟨rfl, hbq⟩
    have Xq : Hid (Below w.heap.size w wq) := Xp.out.trans (hbq.mono Xp.out.size)
    clear hbq
    rw [HCL.out]
    cases closedE la
    · go_wp2
      go_ret
      exact ⟨rfl, Xq.out⟩
    · go_wp2_with fail
      refine (CCL.out wq Xq.out lb ab cb2 _ (HA.out wq Xq.out).2 HN.out.2.1 HBn.out.2.2).mono ?_
      rintro e wr ⟨rfl, hbr⟩
      have Xr : Hid (Below w.heap.size w wr) := Xq.out.trans (hbr.mono Xq.out.size)
      clear hbr
      cases closedE lb
      · go_wp2
        go_ret
        exact ⟨rfl, Xr.out⟩
      · go_wp2
        go_ret
        exact ⟨rfl, Xr.out⟩
  · have q3 : ((na : Int) + 1 ≤ 128) ∨ ¬ ((na : Int) + 1 ≤ 128) := by omega
    rcases q3 with q3 | q3
    · have HV : Hid (rightE (la ++ lb ++ [kp k]) = false ∧ rightE (la ++ [kp k]) = true) := ⟨by rw [HRX.out.2.1, ← HT.out]; exact Bool.and_false _, by rw [HRX.out.2.2, ← HT.out]; rw [decide_eq_true (by have := HN.out.1; have := HN.out.2.1; have := HAB.out; omega)]; rfl⟩

      go_wp2_with fail
      refine (CR.out w11 X11.out.1 (la ++ lb) bb cb _ X11.out.2.2.1.1 X11.out.2.2.1.2.1 X11.out.2.2.1.2.2).mono ?_
      rintro e w12 ⟨rfl, hb12⟩
      have X12 : Hid (Below w11.heap.size w11 w12 ∧ Below w.heap.size w w12) := ⟨hb12, X11.out.1.trans (hb12.mono X11.out.1.size)⟩
      clear hb12
      rw [HRX.out.1]
      go_wp2_with fail
      refine (CR.out w12 X12.out.2 (la ++ lb ++ [kp k]) b2 c2 _ (X11.out.2.2.2.1.1.call X12.out.1) X11.out.2.2.2.1.2.1 X11.out.2.2.2.1.2.2).mono ?_
      rintro e w13 ⟨rfl, hb13⟩
      have X13 : Hid (Below w11.heap.size w11 w13 ∧ Below w.heap.size w w13) := ⟨X12.out.1.trans (hb13.mono X12.out.1.size), X12.out.2.trans (hb13.mono X12.out.2.size)⟩
      clear hb13
      rw [show rightE (la ++ lb ++ [kp k]) = false from HV.out.1]
      go_wp2_with fail
      refine (CR.out w13 X13.out.2 (la ++ [kp k]) b1 c1 _ (X11.out.2.2.2.2.1.call X13.out.1) X11.out.2.2.2.2.2.1 X11.out.2.2.2.2.2.2).mono ?_
      rintro e wZ ⟨rfl, hbZ⟩
      have XZ : Hid (Below w.heap.size w wZ ∧ Below w11.heap.size w11 wZ ∧ Sts wZ bb (la ++ lb) ∧ nab = (la ++ lb).length) := by
        have h := X13.out.1.trans (hbZ.mono X13.out.1.size)
        exact ⟨X13.out.2.trans (hbZ.mono X13.out.2.size), h, X11.out.2.2.1.1.call h, X11.out.2.2.1.2.1⟩
      clear hbZ
      rw [show rightE (la ++ [kp k]) = true from HV.out.2]
      go_wp2_with fail
      refine (CCL.out wZ XZ.out.1 (la ++ lb) bb cb _ XZ.out.2.2.1 XZ.out.2.2.2 HBn.out.1).mono ?_
      rintro e wp ⟨rfl, hbp⟩
      have Xp : Hid (Below w.heap.size w wp) := XZ.out.1.trans (hbp.mono XZ.out.1.size)
      clear hbp
      go_wp2_with fail
      refine (CCL.out wp Xp.out la aa ca _ (HA.out wp Xp.out).1 HN.out.1 HBn.out.2.1).mono ?_
      rintro e wq ⟨rfl, hbq⟩
      have Xq : Hid (Below w.heap.size w wq) := Xp.out.trans (hbq.mono Xp.out.size)
      clear hbq
      rw [HCL.out]
      cases closedE la
      · go_wp2
        go_ret
        exact ⟨rfl, Xq.out⟩
      · go_wp2_with fail
        refine (CCL.out wq Xq.out lb ab cb2 _ (HA.out wq Xq.out).2 HN.out.2.1 HBn.out.2.2).mono ?_
        rintro e wr ⟨rfl, hbr⟩
        have Xr : Hid (Below w.heap.size w wr) := Xq.out.trans (hbr.mono Xq.out.size)
        clear hbr
        cases closedE lb
        · go_wp2
          go_ret
          exact ⟨rfl, Xr.out⟩
        · go_wp2
          go_ret
          exact ⟨rfl, Xr.out⟩
    · have HV : Hid (rightE (la ++ lb ++ [kp k]) = false ∧ rightE (la ++ [kp k]) = false) := ⟨by rw [HRX.out.2.1, ← HT.out]; exact Bool.and_false _, by rw [HRX.out.2.2, ← HT.out]; rw [decide_eq_false (by have := HN.out.1; have := HN.out.2.1; have := HAB.out; omega)]; rfl⟩

      go_wp2_with fail
      refine (CR.out w11 X11.out.1 (la ++ lb) bb cb _ X11.out.2.2.1.1 X11.out.2.2.1.2.1 X11.out.2.2.1.2.2).mono ?_
      rintro e w12 ⟨rfl, hb12⟩
      have X12 : Hid (Below w11.heap.size w11 w12 ∧ Below w.heap.size w w12) := ⟨hb12, X11.out.1.trans (hb12.mono X11.out.1.size)⟩
      clear hb12
      rw [HRX.out.1]
      go_wp2_with fail
      refine (CR.out w12 X12.out.2 (la ++ lb ++ [kp k]) b2 c2 _ (X11.out.2.2.2.1.1.call X12.out.1) X11.out.2.2.2.1.2.1 X11.out.2.2.2.1.2.2).mono ?_
      rintro e w13 ⟨rfl, hb13⟩
      have X13 : Hid (Below w11.heap.size w11 w13 ∧ Below w.heap.size w w13) := ⟨X12.out.1.trans (hb13.mono X12.out.1.size), X12.out.2.trans (hb13.mono X12.out.2.size)⟩
      clear hb13
      rw [show rightE (la ++ lb ++ [kp k]) = false from HV.out.1]
      go_wp2_with fail
      refine (CR.out w13 X13.out.2 (la ++ [kp k]) b1 c1 _ (X11.out.2.2.2.2.1.call X13.out.1) X11.out.2.2.2.2.2.1 X11.out.2.2.2.2.2.2).mono ?_
      rintro e wZ ⟨rfl, hbZ⟩
      have XZ : Hid (Below w.heap.size w wZ ∧ Below w11.heap.size w11 wZ ∧ Sts wZ bb (la ++ lb) ∧ nab = (la ++ lb).length) := by
        have h := X13.out.1.trans (hbZ.mono X13.out.1.size)
        exact ⟨X13.out.2.trans (hbZ.mono X13.out.2.size), h, X11.out.2.2.1.1.call h, X11.out.2.2.1.2.1⟩
      clear hbZ
      rw [show rightE (la ++ [kp k]) = false from HV.out.2]
      go_wp2_with fail
      refine (CCL.out wZ XZ.out.1 (la ++ lb) bb cb _ XZ.out.2.2.1 XZ.out.2.2.2 HBn.out.1).mono ?_
      rintro e wp ⟨rfl, hbp⟩
      have Xp : Hid (Below w.heap.size w wp) := XZ.out.1.trans (hbp.mono XZ.out.1.size)
      clear hbp
      go_wp2_with fail
      refine (CCL.out wp Xp.out la aa ca _ (HA.out wp Xp.out).1 HN.out.1 HBn.out.2.1).mono ?_
      rintro e wq ⟨rfl, hbq⟩
      have Xq : Hid (Below w.heap.size w wq) := Xp.out.trans (hbq.mono Xp.out.size)
      clear hbq
      rw [HCL.out]
      cases closedE la
      · go_wp2
        go_ret
        exact ⟨rfl, Xq.out⟩
      · go_wp2_with fail
        refine (CCL.out wq Xq.out lb ab cb2 _ (HA.out wq Xq.out).2 HN.out.2.1 HBn.out.2.2).mono ?_
        rintro e wr ⟨rfl, hbr⟩
        have Xr : Hid (Below w.heap.size w wr) := Xq.out.trans (hbr.mono Xq.out.size)
        clear hbr
        cases closedE lb
        · go_wp2
          go_ret
          exact ⟨rfl, Xr.out⟩
        · go_wp2
          go_ret
          exact ⟨rfl, Xr.out⟩
  · have q3 : ((nab : Int) + 1 ≤ 128) ∨ ¬ ((nab : Int) + 1 ≤ 128) := by omega
    rcases q3 with q3 | q3
    · have HV : Hid (rightE (la ++ lb ++ [kp k]) = true ∧ rightE (la ++ [kp k]) = false) := ⟨by rw [HRX.out.2.1, ← HT.out]; rw [decide_eq_true (by have := HN.out.1; have := HN.out.2.1; have := HAB.out; omega)]; rfl, by rw [HRX.out.2.2, ← HT.out]; exact Bool.and_false _⟩

      go_wp2_with fail
      refine (CR.out w11 X11.out.1 (la ++ lb) bb cb _ X11.out.2.2.1.1 X11.out.2.2.1.2.1 X11.out.2.2.1.2.2).mono ?_
      rintro e w12 ⟨rfl, hb12⟩
      have X12 : Hid (Below w11.heap.size w11 w12 ∧ Below w.heap.size w w12) := ⟨hb12, X11.out.1.trans (hb12.mono X11.out.1.size)⟩
      clear hb12
      rw [HRX.out.1]
      go_wp2_with fail
      refine (CR.out w12 X12.out.2 (la ++ lb ++ [kp k]) b2 c2 _ (X11.out.2.2.2.1.1.call X12.out.1) X11.out.2.2.2.1.2.1 X11.out.2.2.2.1.2.2).mono ?_
      rintro e w13 ⟨rfl, hb13⟩
      have X13 : Hid (Below w11.heap.size w11 w13 ∧ Below w.heap.size w w13) := ⟨X12.out.1.trans (hb13.mono X12.out.1.size), X12.out.2.trans (hb13.mono X12.out.2.size)⟩
      clear hb13
      rw [show rightE (la ++ lb ++ [kp k]) = true from HV.out.1]
      go_wp2_with fail
      refine (CR.out w13 X13.out.2 (la ++ [kp k]) b1 c1 _ (X11.out.2.2.2.2.1.call X13.out.1) X11.out.2.2.2.2.2.1 X11.out.2.2.2.2.2.2).mono ?_
      rintro e wZ ⟨rfl, hbZ⟩
      have XZ : Hid (Below w.heap.size w wZ ∧ Below w11.heap.size w11 wZ ∧ Sts wZ bb (la ++ lb) ∧ nab = (la ++ lb).length) := by
        have h := X13.out.1.trans (hbZ.mono X13.out.1.size)
        exact ⟨X13.out.2.trans (hbZ.mono X13.out.2.size), h, X11.out.2.2.1.1.call h, X11.out.2.2.1.2.1⟩
      clear hbZ
      rw [show rightE (la ++ [kp k]) = false from HV.out.2]
      go_wp2_with fail
      refine (CCL.out wZ XZ.out.1 (la ++ lb) bb cb _ XZ.out.2.2.1 XZ.out.2.2.2 HBn.out.1).mono ?_
      rintro e wp ⟨rfl, hbp⟩
      have Xp : Hid (Below w.heap.size w wp) := XZ.out.1.trans (hbp.mono XZ.out.1.size)
      clear hbp
      go_wp2_with fail
      refine (CCL.out wp Xp.out la aa ca _ (HA.out wp Xp.out).1 HN.out.1 HBn.out.2.1).mono ?_
      rintro e wq ⟨rfl, hbq⟩
      have Xq : Hid (Below w.heap.size w wq) := Xp.out.trans (hbq.mono Xp.out.size)
      clear hbq
      rw [HCL.out]
      cases closedE la
      · go_wp2
        go_ret
        exact ⟨rfl, Xq.out⟩
      · go_wp2_with fail
        refine (CCL.out wq Xq.out lb ab cb2 _ (HA.out wq Xq.out).2 HN.out.2.1 HBn.out.2.2).mono ?_
        rintro e wr ⟨rfl, hbr⟩
        have Xr : Hid (Below w.heap.size w wr) := Xq.out.trans (hbr.mono Xq.out.size)
        clear hbr
        cases closedE lb
        · go_wp2
          go_ret
          exact ⟨rfl, Xr.out⟩
        · go_wp2
          go_ret
          exact ⟨rfl, Xr.out⟩
    · have HV : Hid (rightE (la ++ lb ++ [kp k]) = false ∧ rightE (la ++ [kp k]) = false) := ⟨by rw [HRX.out.2.1, ← HT.out]; rw [decide_eq_false (by have := HN.out.1; have := HN.out.2.1; have := HAB.out; omega)]; rfl, by rw [HRX.out.2.2, ← HT.out]; exact Bool.and_false _⟩

      go_wp2_with fail
      refine (CR.out w11 X11.out.1 (la ++ lb) bb cb _ X11.out.2.2.1.1 X11.out.2.2.1.2.1 X11.out.2.2.1.2.2).mono ?_
      rintro e w12 ⟨rfl, hb12⟩
      have X12 : Hid (Below w11.heap.size w11 w12 ∧ Below w.heap.size w w12) := ⟨hb12, X11.out.1.trans (hb12.mono X11.out.1.size)⟩
      clear hb12
      rw [HRX.out.1]
      go_wp2_with fail
      refine (CR.out w12 X12.out.2 (la ++ lb ++ [kp k]) b2 c2 _ (X11.out.2.2.2.1.1.call X12.out.1) X11.out.2.2.2.1.2.1 X11.out.2.2.2.1.2.2).mono ?_
      rintro e w13 ⟨rfl, hb13⟩
      have X13 : Hid (Below w11.heap.size w11 w13 ∧ Below w.heap.size w w13) := ⟨X12.out.1.trans (hb13.mono X12.out.1.size), X12.out.2.trans (hb13.mono X12.out.2.size)⟩
      clear hb13
      rw [show rightE (la ++ lb ++ [kp k]) = false from HV.out.1]
      go_wp2_with fail
      refine (CR.out w13 X13.out.2 (la ++ [kp k]) b1 c1 _ (X11.out.2.2.2.2.1.call X13.out.1) X11.out.2.2.2.2.2.1 X11.out.2.2.2.2.2.2).mono ?_
      rintro e wZ ⟨rfl, hbZ⟩
      have XZ : Hid (Below w.heap.size w wZ ∧ Below w11.heap.size w11 wZ ∧ Sts wZ bb (la ++ lb) ∧ nab = (la ++ lb).length) := by
        have h := X13.out.1.trans (hbZ.mono X13.out.1.size)
        exact ⟨X13.out.2.trans (hbZ.mono X13.out.2.size), h, X11.out.2.2.1.1.call h, X11.out.2.2.1.2.1⟩
      clear hbZ
      rw [show rightE (la ++ [kp k]) = false from HV.out.2]
      go_wp2_with fail
      refine (CCL.out wZ XZ.out.1 (la ++ lb) bb cb _ XZ.out.2.2.1 XZ.out.2.2.2 HBn.out.1).mono ?_
      rintro e wp ⟨rfl, hbp⟩
      have Xp : Hid (Below w.heap.size w wp) := XZ.out.1.trans (hbp.mono XZ.out.1.size)
      clear hbp
      go_wp2_with fail
      refine (CCL.out wp Xp.out la aa ca _ (HA.out wp Xp.out).1 HN.out.1 HBn.out.2.1).mono ?_
      rintro e wq ⟨rfl, hbq⟩
      have Xq : Hid (Below w.heap.size w wq) := Xp.out.trans (hbq.mono Xp.out.size)
      clear hbq
      rw [HCL.out]
      cases closedE la
      · go_wp2
        go_ret
        exact ⟨rfl, Xq.out⟩
      · go_wp2_with fail
        refine (CCL.out wq Xq.out lb ab cb2 _ (HA.out wq Xq.out).2 HN.out.2.1 HBn.out.2.2).mono ?_
        rintro e wr ⟨rfl, hbr⟩
        have Xr : Hid (Below w.heap.size w wr) := Xq.out.trans (hbr.mono Xq.out.size)
        clear hbr
        cases closedE lb
        · go_wp2
          go_ret
          exact ⟨rfl, Xr.out⟩
        · go_wp2
          go_ret
          exact ⟨rfl, Xr.out⟩
end Ps
end Go.Proofs.YtocnjmndiogdmaaGreatDoor
