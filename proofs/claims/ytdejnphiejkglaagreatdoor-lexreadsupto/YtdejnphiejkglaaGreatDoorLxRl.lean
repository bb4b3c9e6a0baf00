/- LexReads, walked. -/
import Derived.Test.YtdejnphiejkglaaGreatDoorLxRk
import Derived.Test.YtdejnphiejkglaaGreatDoorLxQ
namespace Go.Proofs.YtdejnphiejkglaaGreatDoor
open Go.RowKit
theorem Lx.shown_form (o : Option Lx.Bs) : ∃ (sv : ByteArray) (ev : Int), Lx.shown o = .returned (.tuple #[.string sv, .int .i64 ev]) := by
  cases o with
  | none => exact ⟨_, _, rfl⟩
  | some s => exact ⟨_, _, rfl⟩
theorem Lx.toks_le (l : Lx.Bs) : (Lx.lex l).toks.length ≤ 16384 := by
  have key : ∀ (n : Nat) (l : Lx.Bs) (a : Nat), (Lx.lx n l a).toks.length ≤ l.length := by
    intro n
    induction n with
    | zero => intro l a; exact Nat.zero_le _
    | succ n ih =>
      intro l a
      rw [Lx.lx]
      split
      · exact Nat.zero_le _
      · rename_i x r hx
        split
        · exact Nat.zero_le _
        · rename_i he
          rw [Lx.join]
          split
          · exact Nat.zero_le _
          · have h1 := ih ((x :: r).drop (Lx.frst (x :: r)).size) (a + Lx.bl l + (Lx.frst (x :: r)).size)
            have h2 := Lx.frst_size (x := x) (r := r) (by simpa using he)
            rw [List.length_drop] at h1
            have h3 := congrArg List.length hx
            rw [List.length_drop] at h3
            simp only [List.cons_append, List.nil_append, List.length_cons] at h1 h2 h3 ⊢
            omega
  rw [Lx.lex]
  split
  · exact Nat.zero_le _
  · rename_i h
    have := key (l.length + 1) l 0
    omega
set_option maxHeartbeats 8000000 in
set_option maxRecDepth 100000 in
theorem lexReads_c (l t : Lx.Bs) (k : Nat) (n a : Int) (hl : l.length ≤ 1048576) (ht : t.length ≤ 1048576) (hn : -9223372036854775808 ≤ n ∧ n ≤ 9223372036854775807) (w : World) (hL : HasL w) : Calls Tryz.prog 3 #[.string (Lx.bs l), .agg #[.int .u8 (k : Int), .string (Lx.bs t), .int .i64 n, .int .i64 a]] w fun e w' => e = .returned (.bool true) ∧ Below w.heap.size w w' := by
  obtain ⟨w1, hw1⟩ : ∃ w1, w1 = w.alloc (.cells #[.int .u8 (k : Int), .string (Lx.bs t), .int .i64 n, .int .i64 a] 24) := ⟨_, rfl⟩
  have hb1 : Below w.heap.size w w1 := by rw [hw1]; exact (Below.refl _ _).alloc (Nat.le_refl _) _
  have X1 : Hid (TB w1 w.heap.size k t n a ∧ Below w.heap.size w w1) := ⟨by rw [hw1]; exact heap_alloc_new w _, hb1⟩
  have HL : Hid (∀ W, Below w.heap.size w W → HasL W) := fun W hW => hL.stays hW
  obtain ⟨tb, htb⟩ : ∃ tb, tb = Lx.bs t := ⟨_, rfl⟩
  obtain ⟨s, hs⟩ : ∃ s, s = Lx.bs l := ⟨_, rfl⟩
  obtain ⟨o, ho⟩ : ∃ o, o = Lx.lex l := ⟨_, rfl⟩
  obtain ⟨sv, ev, hse⟩ := Lx.shown_form (Lx.shw k t n)
  obtain ⟨kb, hkb⟩ : ∃ kb, kb = Lx.isKey l := ⟨_, rfl⟩
  have CA : Hid (∀ W, Below w.heap.size w W → Calls Tryz.prog 4 #[.string s] W (Lx.LexGave o W)) := fun W hW => by rw [hs, ho]; exact lex_c l (by omega) W (HL.out W hW)
  have CB : Hid (∀ W, Calls Tryz.prog 5 #[.string s] W (Lx.LexGave o W)) := fun W => by rw [hs, ho]; exact rlex_c l W
  have CC : Hid (∀ W, Below w.heap.size w W → Calls Tryz.prog 6 #[.agg #[.int .u8 (k : Int), .string tb, .int .i64 n, .int .i64 a]] W fun e w' => e = .returned (.tuple #[.string sv, .int .i64 ev]) ∧ Below W.heap.size W w') := fun W hW => by rw [← hse, htb]; exact show_c k t n a hn W (HL.out W hW)
  have CD : Hid (∀ W, Calls Tryz.prog 7 #[.agg #[.int .u8 (k : Int), .string tb, .int .i64 n, .int .i64 a]] W fun e w' => e = .returned (.tuple #[.string sv, .int .i64 ev]) ∧ Below W.heap.size W w') := fun W => by rw [← hse, htb]; exact rshow_c k t n a ht hn W
  have CE : Hid (∀ W, Below w.heap.size w W → Calls Tryz.prog 8 #[] W fun e w' => e = .returned (.bool true) ∧ Below W.heap.size W w') := fun W hW => livesL_c W (HL.out W hW)
  have CF : Hid (∀ W, Calls Tryz.prog 10 #[.string s] W fun e w' => e = .returned (.bool kb) ∧ Below W.heap.size W w') := fun W => by
    have h := keyword_c s W
    rw [hs, Lx.bs_data, ← hkb] at h
    rw [hs]; exact h
  have CG : Hid (∀ W, Calls Tryz.prog 11 #[.string s] W fun e w' => e = .returned (.bool kb) ∧ Below W.heap.size W w') := fun W => by
    have h := rkeyword_c s (by rw [hs, Lx.bs_size]; omega) W
    rw [hs, Lx.bs_data, ← hkb] at h
    rw [hs]; exact h
  have HTK : Hid (o.toks.length ≤ 16384) := by rw [ho]; exact Lx.toks_le l
  have HTB : Hid (tb = Lx.bs t) := htb
  rw [← hs, ← htb]
  rw [← htb] at hw1
  clear hs htb ho hse hkb hb1 hL hn hl ht
  obtain ⟨toks, er, ps⟩ := o
  go_enter Tryz.func3, Tryz.ntmps3
  go_upto_region 1 with fail
  rw [← hw1]
  clear hw1
  go_wp2_with fail
  refine Calls.mono (CA.out _ X1.out.2) ?_
  rintro e w2 ⟨hb2, lv1, rfl, hr1⟩
  have X2 : Hid (TB w2 w.heap.size k t n a ∧ Below w.heap.size w w2) := ⟨X1.out.1.call hb2, X1.out.2.trans (hb2.mono X1.out.2.size)⟩
  have T1 : Hid (TR w2 lv1 toks) := TR.of hr1
  clear hb2 X1 CA hr1
  go_wp2_with fail
  refine Calls.mono (CB.out _) ?_
  rintro e w3 ⟨hb3, lv2, rfl, hr2⟩
  have X3 : Hid (TB w3 w.heap.size k t n a ∧ Below w.heap.size w w3) := ⟨X2.out.1.call hb3, X2.out.2.trans (hb3.mono X2.out.2.size)⟩
  have T2 : Hid (TR w3 lv1 toks ∧ TR w3 lv2 toks) := ⟨T1.out.call hb3, TR.of hr2⟩
  clear hb3 X2 T1 CB hr2
  obtain ⟨p0, p1, p2, p3⟩ := X3.out.1.cells
  rw [← HTB.out] at p1
  go_wp2_with fail
  refine Calls.mono (CC.out _ X3.out.2) ?_
  rintro e w4 ⟨rfl, hb4⟩
  have X4 : Hid (TB w4 w.heap.size k t n a ∧ Below w.heap.size w w4) := ⟨X3.out.1.call hb4, X3.out.2.trans (hb4.mono X3.out.2.size)⟩
  have T4' : Hid (TR w4 lv1 toks ∧ TR w4 lv2 toks) := ⟨T2.out.1.call hb4, T2.out.2.call hb4⟩
  clear hb4 X3 T2 CC p0 p1 p2 p3
  obtain ⟨p0, p1, p2, p3⟩ := X4.out.1.cells
  rw [← HTB.out] at p1
  go_wp2_with fail
  refine Calls.mono (CD.out _) ?_
  rintro e w5 ⟨rfl, hb5⟩
  have X5 : Hid (Below w.heap.size w w5) := X4.out.2.trans (hb5.mono X4.out.2.size)
  have T5 : Hid (TR w5 lv1 toks ∧ TR w5 lv2 toks) := ⟨T4'.out.1.call hb5, T4'.out.2.call hb5⟩
  clear hb5 X4 T4' CD p0 p1 p2 p3
  go_wp2_with fail
  refine Calls.mono (CE.out _ X5.out) ?_
  rintro e w6 ⟨rfl, hb6⟩
  have X6 : Hid (Below w.heap.size w w6) := X5.out.trans (hb6.mono X5.out.size)
  have T6 : Hid (TR w6 lv1 toks ∧ TR w6 lv2 toks) := ⟨T5.out.1.call hb6, T5.out.2.call hb6⟩
  clear hb6 X5 T5 CE
  go_wp2_with fail
  refine Calls.mono (sameT_c toks (by have h : toks.length ≤ 16384 := HTK.out; omega) lv1 lv2 _ T6.out.1 T6.out.2) ?_
  rintro e w7 ⟨rfl, hb7⟩
  have X7 : Hid (Below w.heap.size w w7) := X6.out.trans (hb7.mono X6.out.size)
  clear hb7 X6 T6
  go_wp2_with fail
  refine Calls.mono (CF.out _) ?_
  rintro e w8 ⟨rfl, hb8⟩
  have X8 : Hid (Below w.heap.size w w8) := X7.out.trans (hb8.mono X7.out.size)
  clear hb8 X7
  go_wp2_with fail
  refine Calls.mono (CG.out _) ?_
  rintro e w9 ⟨rfl, hb9⟩
  have X9 := X8.out.trans (hb9.mono X8.out.size)
  clear hb9 X8
  go_wp2
  go_ret
  exact ⟨rfl, X9⟩
end Go.Proofs.YtdejnphiejkglaaGreatDoor
