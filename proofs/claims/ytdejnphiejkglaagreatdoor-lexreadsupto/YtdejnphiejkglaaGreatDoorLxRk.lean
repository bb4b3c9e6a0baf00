/- The document's Show, walked. -/
import Derived.Test.YtdejnphiejkglaaGreatDoorLxRj
import Derived.Test.YtdejnphiejkglaaGreatDoorLxX
namespace Go.Proofs.YtdejnphiejkglaaGreatDoor
open Go.RowKit
namespace Lx
/-- a token's text has 1024 bytes at most -/
theorem frst_text (x : UInt8) (r : Bs) : (frst (x :: r)).text.length ≤ 1024 := by
  rw [frst]
  by_cases h1 : isL x.toNat = true
  · rw [if_pos h1, word]
    by_cases h2 : isKey ((x :: r).take (wsz (x :: r))) = true
    · rw [if_pos h2]
      show (great _).length ≤ _
      rw [great, List.length_map]
      rw [isKey, Bool.and_eq_true, decide_eq_true_iff] at h2
      exact Nat.le_trans h2.1 (by decide)
    · rw [if_neg h2]
      by_cases h3 : 64 < wsz (x :: r)
      · rw [if_pos h3]; exact Nat.zero_le _
      · rw [if_neg h3]
        show (List.take _ _).length ≤ _
        rw [List.length_take]
        omega
  · rw [if_neg h1]
    by_cases h2 : isD x.toNat = true
    · rw [if_pos h2, numb]
      split <;> exact Nat.zero_le _
    · rw [if_neg h2]
      by_cases h3 : x = 39
      · rw [if_pos h3, text]
        split
        · rw [tok]
          split
          · exact Nat.zero_le _
          · rename_i h4
            split
            · exact Nat.zero_le _
            · exact Nat.not_lt.1 h4
        · exact Nat.zero_le _
      · rw [if_neg h3]
        split
        · show (List.take _ _).length ≤ _
          rw [List.length_take, sgn]
          split
          · omega
          · split <;> omega
        · exact Nat.zero_le _
theorem lx_texts : ∀ (n : Nat) (l : Bs) (a : Nat) (t : Tk), t ∈ (lx n l a).toks → t.text.length ≤ 1024
  | 0, l, a, t, h => by cases h
  | n + 1, l, a, t, h => by
    rw [lx] at h
    split at h
    · cases h
    · rename_i x r _
      split at h
      · cases h
      · rw [join] at h
        split at h
        · cases h
        · simp only [List.cons_append, List.nil_append, List.mem_cons] at h
          rcases h with rfl | h
          · exact frst_text x r
          · exact lx_texts n _ _ t h
theorem lex_texts {l : Bs} {t : Tk} (h : t ∈ (lex l).toks) : t.text.length ≤ 1024 := by
  rw [lex] at h
  split at h
  · cases h
  · exact lx_texts _ _ _ t h
/-- what begins with a minus is no number -/
theorem lex_minus (r : Bs) (t : Bs) (n : Int) : lex (45 :: r) ≠ ⟨[⟨3, t, n, 0⟩], 0, 0⟩ := by
  intro h
  rw [lex] at h
  split at h
  · cases h
  · rw [lx] at h
    have hb : bl (45 :: r) = 0 := by rw [bl, if_neg (by decide)]
    rw [hb, List.drop_zero] at h
    simp only at h
    have hf : frst (45 :: r) = sign (45 :: r) := by
      have hs : sgn (45 :: r) = 1 := by
        rw [sgn]
        have h1 : ∀ a b : UInt8, a ≠ 45 → pre2 a b (45 :: r) = false := fun a b hab => by
          cases r with
          | nil => rfl
          | cons y r => rw [pre2]; simp; intro e; exact absurd e.symm hab
        rw [h1 60 62 (by decide), h1 60 61 (by decide), h1 62 61 (by decide)]
        rfl
      rw [frst, if_neg (by decide), if_neg (by decide), if_neg (by decide), if_pos (by rw [hs]; decide)]
    rw [hf] at h
    split at h
    · cases h
    · rw [join] at h
      split at h
      · cases h
      · simp only [Out.mk.injEq, List.cons_append, List.nil_append, List.cons.injEq] at h
        have := congrArg Tk.kind h.1.1
        cases this
theorem shw_of (k : Nat) (t : Bs) (n : Int) : shw k t n = if lex (wr k t n) = ⟨[⟨k, t, n, 0⟩], 0, 0⟩ then some (wr k t n) else none := by
  rw [shw]
  by_cases h : 1024 < t.length
  · rw [if_pos h, if_neg]
    intro e
    have := lex_texts (l := wr k t n) (t := ⟨k, t, n, 0⟩) (by rw [e]; simp)
    simp at this
    omega
  · rw [if_neg h]
theorem shw_minus (t : Bs) (n : Int) (hn : n < 0) : shw 3 t n = none := by
  rw [shw_of, if_neg]
  have e : wr 3 t n = 45 :: Lib.decDigits n.natAbs := by rw [wr, if_pos rfl, Lib.itoa, if_pos hn]
  rw [e]
  exact lex_minus _ _ _
end Lx
set_option maxHeartbeats 8000000 in
set_option maxRecDepth 100000 in
theorem rshow_c (k : Nat) (t : Lx.Bs) (n a : Int) (ht : t.length ≤ 1048576) (hn : -9223372036854775808 ≤ n ∧ n ≤ 9223372036854775807) (w : World) : Calls Tryz.prog 7 #[.agg #[.int .u8 (k : Int), .string (Lx.bs t), .int .i64 n, .int .i64 a]] w fun e w' => e = Lx.shown (Lx.shw k t n) ∧ Below w.heap.size w w' := by
  obtain ⟨w1, hw1⟩ : ∃ w1, w1 = w.alloc (.cells #[.int .u8 (k : Int), .string (Lx.bs t), .int .i64 n, .int .i64 a] 24) := ⟨_, rfl⟩
  have hb1 : Below w.heap.size w w1 := by rw [hw1]; exact (Below.refl _ _).alloc (Nat.le_refl _) _
  have X1 : Hid (TB w1 w.heap.size k t n a ∧ Below w.heap.size w w1) := ⟨by rw [hw1]; exact heap_alloc_new w _, hb1⟩
  obtain ⟨tb, htb⟩ : ∃ tb, tb = Lx.bs t := ⟨_, rfl⟩
  have HTB : Hid (tb = Lx.bs t) := htb
  obtain ⟨s, hs⟩ : ∃ s, s = Lx.wr k t n := ⟨_, rfl⟩
  obtain ⟨sb, hsb⟩ : ∃ sb, sb = Lx.bs s := ⟨_, rfl⟩
  have HSB : Hid (sb = Lx.bs s ∧ s = Lx.wr k t n) := ⟨hsb, hs⟩
  have CX : Hid (∀ W, Calls Tryz.prog 5 #[.string sb] W (Lx.LexGave (Lx.lex s) W)) := fun W => by rw [hsb]; exact rlex_c s W
  have HR : Hid (Lx.shw k t n = if Lx.lex s = ⟨[⟨k, t, n, 0⟩], 0, 0⟩ then some s else none) := by show _ = _; rw [Lx.shw_of, hs]
  obtain ⟨p0, p1, p2, p3⟩ := X1.out.1.cells
  rw [← htb] at p1 hw1 ⊢
  clear htb hb1 hs hsb
  by_cases h3 : k = 3
  · have q3 : ((k : Int) == 3) = true := by rw [h3]; rfl
    by_cases h0 : n < 0
    · have HF : Hid (Lx.shw k t n = none) := by show _ = _; rw [h3]; exact Lx.shw_minus t n h0
      have HB := X1.out.2
      clear h3
      go_enter Tryz.func7, Tryz.ntmps7
      go_upto_region 1 with fail
      rw [← hw1]
      clear hw1
      go_wp2
      refine bodyPost_ret (results_tmp2L rfl _ _) rfl ?_
      rw [HF.out]
      exact ⟨rfl, HB⟩
    · obtain ⟨N, hN⟩ : ∃ N : Nat, n = (N : Int) := ⟨n.toNat, by omega⟩
      have C1 : Hid (∀ W : World, Calls Tryz.prog 19 #[.int .i64 n] W fun e w' => e = .returned (.string sb) ∧ Below W.heap.size W w') := fun W => by
        have e : sb = Lx.bs (Lib.decDigits N) := by rw [HSB.out.1, HSB.out.2, Lx.wr, if_pos h3, hN, Lib.itoa_nonneg]
        rw [e, hN]
        refine Calls.mono (rnumber2_c N (by omega) W) ?_
        rintro e w' ⟨rfl, rfl⟩
        exact ⟨rfl, Below.refl _ _⟩
      clear h3 hN
      go_enter Tryz.func7, Tryz.ntmps7
      go_upto_region 1 with fail
      rw [← hw1]
      clear hw1
      go_wp2_with fail
      refine Calls.mono (C1.out _) ?_
      rintro e w2 ⟨rfl, hb2⟩
      have X2 : Hid (TB w2 w.heap.size k t n a ∧ Below w.heap.size w w2) := ⟨X1.out.1.call hb2, X1.out.2.trans (hb2.mono X1.out.2.size)⟩
      clear hb2 X1 C1 p0 p1 p2 p3
      go_wp2_with fail
      refine Calls.mono (CX.out _) ?_
      rintro e w4 ⟨hb4, lv, rfl, hrow⟩
      have X4 : Hid (TB w4 w.heap.size k t n a ∧ Below w.heap.size w w4) := ⟨X2.out.1.call hb4, X2.out.2.trans (hb4.mono X2.out.2.size)⟩
      clear hb4 X2 CX
      obtain ⟨o, ho⟩ : ∃ o, o = Lx.lex s := ⟨_, rfl⟩
      rw [← ho] at hrow HR
      rw [← ho]
      have hps : o.err = 0 → o.pos = 0 := fun h => by rw [ho] at h ⊢; exact Lx.lex_pos h
      clear ho
      obtain ⟨toks, er, ps⟩ := o
      have HPS : Hid (er = 0 → ps = 0) := hps
      clear hps
      obtain ⟨la, lc, rfl⟩ := own_slcL hrow
      obtain ⟨ln, hln⟩ : ∃ ln, ln = toks.length := ⟨_, rfl⟩
      obtain ⟨BB, hBB⟩ : ∃ BB : Nat, w4.ownsRow BB 24 4 (.slice la ln lc) ln (Lx.tcs toks) := ⟨_, by rw [hln]; exact hrow⟩
      have HROW : Hid (w4.ownsRow BB 24 4 (.slice la ln lc) ln (Lx.tcs toks)) := hBB
      have HLN : Hid (ln = toks.length) := hln
      rw [← hln]
      clear hrow hln hBB
      go_upto_region 10 with fail
      by_cases he : er = 0
      · subst he
        by_cases h1 : ln = 1
        · subst h1
          obtain ⟨⟨k2, t2, n2, a2⟩, rfl⟩ : ∃ x, toks = [x] := by
            match toks, HLN.out with
            | [x], _ => exact ⟨x, rfl⟩
          obtain ⟨g, cap, e1, hg, hc⟩ := own_cellsL (by omega) HROW.out
          cases e1
          have c0 : ∀ p : BelowOf w4.heap.size w4, p.W.cell? ⟨g, 0, none⟩ = some (.int .u8 (k2 : Int)) := fun p => (p.h.cell (p := ⟨g, 0, none⟩) hg).trans (hc 0 _ rfl)
          have c1 : ∀ p : BelowOf w4.heap.size w4, p.W.cell? ⟨g, 1, none⟩ = some (.string (Lx.bs t2)) := fun p => (p.h.cell (p := ⟨g, 1, none⟩) hg).trans (hc 1 _ rfl)
          have c2 : ∀ p : BelowOf w4.heap.size w4, p.W.cell? ⟨g, 2, none⟩ = some (.int .i64 n2) := fun p => (p.h.cell (p := ⟨g, 2, none⟩) hg).trans (hc 2 _ rfl)
          have c3 : ∀ p : BelowOf w4.heap.size w4, p.W.cell? ⟨g, 3, none⟩ = some (.int .i64 (a2 : Int)) := fun p => (p.h.cell (p := ⟨g, 3, none⟩) hg).trans (hc 3 _ rfl)
          have d0 : ∀ p : BelowOf w4.heap.size w4, p.W.cell? ⟨w.heap.size, 0, none⟩ = some (.int .u8 (k : Int)) := fun p => (X4.out.1.call p.h).cells.1
          have d1 : ∀ p : BelowOf w4.heap.size w4, p.W.cell? ⟨w.heap.size, 1, none⟩ = some (.string tb) := fun p => by rw [HTB.out]; exact (X4.out.1.call p.h).cells.2.1
          have d2 : ∀ p : BelowOf w4.heap.size w4, p.W.cell? ⟨w.heap.size, 2, none⟩ = some (.int .i64 n) := fun p => (X4.out.1.call p.h).cells.2.2.1
          clear hc hg
          obtain ⟨tb2, htb2⟩ : ∃ tb2, tb2 = Lx.bs t2 := ⟨_, rfl⟩
          rw [← htb2] at c1
          have HB2 : Hid (tb2.toList = t2 ∧ tb.toList = t) := ⟨by rw [htb2, Lx.bs_toList], by rw [HTB.out, Lx.bs_toList]⟩
          clear htb2
          by_cases hk : k2 = k
          · have qk : ((k2 : Int) != (k : Int)) = false := by rw [hk]; simp
            by_cases htt : t2 = t
            · have qt : (tb2.toList != tb.toList) = false := by rw [HB2.out.1, HB2.out.2, htt]; simp
              have qt2 : (tb2.toList == tb.toList) = true := by rw [HB2.out.1, HB2.out.2, htt]; simp
              by_cases hnn : n2 = n
              · have qn : (n2 != n) = false := by rw [hnn]; simp
                by_cases haa : a2 = 0
                · have qa : ((a2 : Int) != 0) = false := by rw [haa]; rfl
                  have HY : Hid ((⟨[⟨k2, t2, n2, a2⟩], 0, ps⟩ : Lx.Out) = ⟨[⟨k, t, n, 0⟩], 0, 0⟩) := by
                    have hps := HPS.out rfl
                    show _ = _
                    rw [hk, htt, hnn, haa, hps]
                  clear hk htt hnn haa
                  refine wp_region_below w4.heap.size w4 (Below.refl _ _) (by kernel_rfl) (by kernel_rfl) ?_
                  repeat (go_big_quiet_step (fail))
                  refine wpQuiet_nil ?_
                  intro _ hw'
                  obtain ⟨pq, hw''⟩ := hw'
                  subst hw''
                  have HF := X4.out.2.trans (pq.h.mono X4.out.2.size)
                  go_wp2
                  refine bodyPost_ret (results_tmp2L rfl _ _) rfl ?_
                  rw [HR.out, if_pos HY.out]
                  exact ⟨by simp only [Lx.shown, ← HSB.out.1]; rfl, HF⟩
                · have qa : ((a2 : Int) != 0) = true := by simp; omega
                  have HNE : Hid (¬ (⟨[⟨k2, t2, n2, a2⟩], 0, ps⟩ : Lx.Out) = ⟨[⟨k, t, n, 0⟩], 0, 0⟩) := fun e => by cases e; exact haa rfl
                  clear haa
                  refine wp_region_below w4.heap.size w4 (Below.refl _ _) (by kernel_rfl) (by kernel_rfl) ?_
                  repeat (go_big_quiet_step (fail))
                  refine wpQuiet_nil ?_
                  intro _ hw'
                  obtain ⟨pq, hw''⟩ := hw'
                  subst hw''
                  have HF := X4.out.2.trans (pq.h.mono X4.out.2.size)
                  go_wp2
                  refine bodyPost_ret (results_tmp2L rfl _ _) rfl ?_
                  rw [HR.out, if_neg HNE.out]
                  exact ⟨rfl, HF⟩
              · have qn : (n2 != n) = true := by simpa using hnn
                have HNE : Hid (¬ (⟨[⟨k2, t2, n2, a2⟩], 0, ps⟩ : Lx.Out) = ⟨[⟨k, t, n, 0⟩], 0, 0⟩) := fun e => by cases e; exact hnn rfl
                clear hnn
                refine wp_region_below w4.heap.size w4 (Below.refl _ _) (by kernel_rfl) (by kernel_rfl) ?_
                repeat (go_big_quiet_step (fail))
                refine wpQuiet_nil ?_
                intro _ hw'
                obtain ⟨pq, hw''⟩ := hw'
                subst hw''
                have HF := X4.out.2.trans (pq.h.mono X4.out.2.size)
                go_wp2
                refine bodyPost_ret (results_tmp2L rfl _ _) rfl ?_
                rw [HR.out, if_neg HNE.out]
                exact ⟨rfl, HF⟩
            · have qt : (tb2.toList != tb.toList) = true := by rw [HB2.out.1, HB2.out.2]; simpa using htt
              have qt2 : (tb2.toList == tb.toList) = false := by rw [HB2.out.1, HB2.out.2]; simpa using htt
              have HNE : Hid (¬ (⟨[⟨k2, t2, n2, a2⟩], 0, ps⟩ : Lx.Out) = ⟨[⟨k, t, n, 0⟩], 0, 0⟩) := fun e => by cases e; exact htt rfl
              clear htt
              refine wp_region_below w4.heap.size w4 (Below.refl _ _) (by kernel_rfl) (by kernel_rfl) ?_
              repeat (go_big_quiet_step (fail))
              refine wpQuiet_nil ?_
              intro _ hw'
              obtain ⟨pq, hw''⟩ := hw'
              subst hw''
              have HF := X4.out.2.trans (pq.h.mono X4.out.2.size)
              go_wp2
              refine bodyPost_ret (results_tmp2L rfl _ _) rfl ?_
              rw [HR.out, if_neg HNE.out]
              exact ⟨rfl, HF⟩
          · have qk : ((k2 : Int) != (k : Int)) = true := by simp; omega
            have HNE : Hid (¬ (⟨[⟨k2, t2, n2, a2⟩], 0, ps⟩ : Lx.Out) = ⟨[⟨k, t, n, 0⟩], 0, 0⟩) := fun e => by cases e; exact hk rfl
            clear hk
            refine wp_region_below w4.heap.size w4 (Below.refl _ _) (by kernel_rfl) (by kernel_rfl) ?_
            repeat (go_big_quiet_step (fail))
            refine wpQuiet_nil ?_
            intro _ hw'
            obtain ⟨pq, hw''⟩ := hw'
            subst hw''
            have HF := X4.out.2.trans (pq.h.mono X4.out.2.size)
            go_wp2
            refine bodyPost_ret (results_tmp2L rfl _ _) rfl ?_
            rw [HR.out, if_neg HNE.out]
            exact ⟨rfl, HF⟩
        · have q1 : ((ln : Int) == 1) = false := by rw [beq_eq_false_iff_ne]; omega
          have q2 : ((ln : Int) != 1) = true := by rw [bne, q1]; rfl
          have HNE : Hid (¬ (⟨toks, 0, ps⟩ : Lx.Out) = ⟨[⟨k, t, n, 0⟩], 0, 0⟩) := fun e => by
            cases e
            exact h1 HLN.out
          clear h1
          refine wp_region_below w4.heap.size w4 (Below.refl _ _) (by kernel_rfl) (by kernel_rfl) ?_
          repeat (go_big_quiet_step (fail))
          refine wpQuiet_nil ?_
          intro _ hw'
          obtain ⟨pq, hw''⟩ := hw'
          subst hw''
          have HF := X4.out.2.trans (pq.h.mono X4.out.2.size)
          go_wp2
          refine bodyPost_ret (results_tmp2L rfl _ _) rfl ?_
          rw [HR.out, if_neg HNE.out]
          exact ⟨rfl, HF⟩
      · have q1 : ((er : Int) == 0) = false := by rw [beq_eq_false_iff_ne]; omega
        have q2 : ((er : Int) != 0) = true := by rw [bne, q1]; rfl
        have HNE : Hid (¬ (⟨toks, er, ps⟩ : Lx.Out) = ⟨[⟨k, t, n, 0⟩], 0, 0⟩) := fun e => by
          cases e
          exact he rfl
        clear he
        refine wp_region_below w4.heap.size w4 (Below.refl _ _) (by kernel_rfl) (by kernel_rfl) ?_
        repeat (go_big_quiet_step (fail))
        refine wpQuiet_nil ?_
        intro _ hw'
        obtain ⟨pq, hw''⟩ := hw'
        subst hw''
        have HF := X4.out.2.trans (pq.h.mono X4.out.2.size)
        go_wp2
        refine bodyPost_ret (results_tmp2L rfl _ _) rfl ?_
        rw [HR.out, if_neg HNE.out]
        exact ⟨rfl, HF⟩
  · have q3 : ((k : Int) == 3) = false := by rw [beq_eq_false_iff_ne]; omega
    by_cases h4 : k = 4
    · have q4 : ((k : Int) == 4) = true := by rw [h4]; rfl
      have C1 : Hid (∀ W : World, Calls Tryz.prog 20 #[.string tb] W fun e w' => e = .returned (.string sb) ∧ Below W.heap.size W w') := fun W => by
        have e : sb = Lx.bs ([39] ++ Lx.dbl t ++ [39]) := by rw [HSB.out.1, HSB.out.2, Lx.wr, if_neg h3, if_pos h4]
        rw [e, HTB.out]
        exact rquoted_c t ht W
      clear h3 h4
      go_enter Tryz.func7, Tryz.ntmps7
      go_upto_region 1 with fail
      rw [← hw1]
      clear hw1
      go_wp2_with fail
      refine Calls.mono (C1.out _) ?_
      rintro e w2 ⟨rfl, hb2⟩
      have X2 : Hid (TB w2 w.heap.size k t n a ∧ Below w.heap.size w w2) := ⟨X1.out.1.call hb2, X1.out.2.trans (hb2.mono X1.out.2.size)⟩
      clear hb2 X1 C1 p0 p1 p2 p3
      go_wp2_with fail
      refine Calls.mono (CX.out _) ?_
      rintro e w4 ⟨hb4, lv, rfl, hrow⟩
      have X4 : Hid (TB w4 w.heap.size k t n a ∧ Below w.heap.size w w4) := ⟨X2.out.1.call hb4, X2.out.2.trans (hb4.mono X2.out.2.size)⟩
      clear hb4 X2 CX
      obtain ⟨o, ho⟩ : ∃ o, o = Lx.lex s := ⟨_, rfl⟩
      rw [← ho] at hrow HR
      rw [← ho]
      have hps : o.err = 0 → o.pos = 0 := fun h => by rw [ho] at h ⊢; exact Lx.lex_pos h
      clear ho
      obtain ⟨toks, er, ps⟩ := o
      have HPS : Hid (er = 0 → ps = 0) := hps
      clear hps
      obtain ⟨la, lc, rfl⟩ := own_slcL hrow
      obtain ⟨ln, hln⟩ : ∃ ln, ln = toks.length := ⟨_, rfl⟩
      obtain ⟨BB, hBB⟩ : ∃ BB : Nat, w4.ownsRow BB 24 4 (.slice la ln lc) ln (Lx.tcs toks) := ⟨_, by rw [hln]; exact hrow⟩
      have HROW : Hid (w4.ownsRow BB 24 4 (.slice la ln lc) ln (Lx.tcs toks)) := hBB
      have HLN : Hid (ln = toks.length) := hln
      rw [← hln]
      clear hrow hln hBB
      go_upto_region 10 with fail
      by_cases he : er = 0
      · subst he
        by_cases h1 : ln = 1
        · subst h1
          obtain ⟨⟨k2, t2, n2, a2⟩, rfl⟩ : ∃ x, toks = [x] := by
            match toks, HLN.out with
            | [x], _ => exact ⟨x, rfl⟩
          obtain ⟨g, cap, e1, hg, hc⟩ := own_cellsL (by omega) HROW.out
          cases e1
          have c0 : ∀ p : BelowOf w4.heap.size w4, p.W.cell? ⟨g, 0, none⟩ = some (.int .u8 (k2 : Int)) := fun p => (p.h.cell (p := ⟨g, 0, none⟩) hg).trans (hc 0 _ rfl)
          have c1 : ∀ p : BelowOf w4.heap.size w4, p.W.cell? ⟨g, 1, none⟩ = some (.string (Lx.bs t2)) := fun p => (p.h.cell (p := ⟨g, 1, none⟩) hg).trans (hc 1 _ rfl)
          have c2 : ∀ p : BelowOf w4.heap.size w4, p.W.cell? ⟨g, 2, none⟩ = some (.int .i64 n2) := fun p => (p.h.cell (p := ⟨g, 2, none⟩) hg).trans (hc 2 _ rfl)
          have c3 : ∀ p : BelowOf w4.heap.size w4, p.W.cell? ⟨g, 3, none⟩ = some (.int .i64 (a2 : Int)) := fun p => (p.h.cell (p := ⟨g, 3, none⟩) hg).trans (hc 3 _ rfl)
          have d0 : ∀ p : BelowOf w4.heap.size w4, p.W.cell? ⟨w.heap.size, 0, none⟩ = some (.int .u8 (k : Int)) := fun p => (X4.out.1.call p.h).cells.1
          have d1 : ∀ p : BelowOf w4.heap.size w4, p.W.cell? ⟨w.heap.size, 1, none⟩ = some (.string tb) := fun p => by rw [HTB.out]; exact (X4.out.1.call p.h).cells.2.1
          have d2 : ∀ p : BelowOf w4.heap.size w4, p.W.cell? ⟨w.heap.size, 2, none⟩ = some (.int .i64 n) := fun p => (X4.out.1.call p.h).cells.2.2.1
          clear hc hg
          obtain ⟨tb2, htb2⟩ : ∃ tb2, tb2 = Lx.bs t2 := ⟨_, rfl⟩
          rw [← htb2] at c1
          have HB2 : Hid (tb2.toList = t2 ∧ tb.toList = t) := ⟨by rw [htb2, Lx.bs_toList], by rw [HTB.out, Lx.bs_toList]⟩
          clear htb2
          by_cases hk : k2 = k
          · have qk : ((k2 : Int) != (k : Int)) = false := by rw [hk]; simp
            by_cases htt : t2 = t
            · have qt : (tb2.toList != tb.toList) = false := by rw [HB2.out.1, HB2.out.2, htt]; simp
              have qt2 : (tb2.toList == tb.toList) = true := by rw [HB2.out.1, HB2.out.2, htt]; simp
              by_cases hnn : n2 = n
              · have qn : (n2 != n) = false := by rw [hnn]; simp
                by_cases haa : a2 = 0
                · have qa : ((a2 : Int) != 0) = false := by rw [haa]; rfl
                  have HY : Hid ((⟨[⟨k2, t2, n2, a2⟩], 0, ps⟩ : Lx.Out) = ⟨[⟨k, t, n, 0⟩], 0, 0⟩) := by
                    have hps := HPS.out rfl
                    show _ = _
                    rw [hk, htt, hnn, haa, hps]
                  clear hk htt hnn haa
                  refine wp_region_below w4.heap.size w4 (Below.refl _ _) (by kernel_rfl) (by kernel_rfl) ?_
                  repeat (go_big_quiet_step (fail))
                  refine wpQuiet_nil ?_
                  intro _ hw'
                  obtain ⟨pq, hw''⟩ := hw'
                  subst hw''
                  have HF := X4.out.2.trans (pq.h.mono X4.out.2.size)
                  go_wp2
                  refine bodyPost_ret (results_tmp2L rfl _ _) rfl ?_
                  rw [HR.out, if_pos HY.out]
                  exact ⟨by simp only [Lx.shown, ← HSB.out.1]; rfl, HF⟩
                · have qa : ((a2 : Int) != 0) = true := by simp; omega
                  have HNE : Hid (¬ (⟨[⟨k2, t2, n2, a2⟩], 0, ps⟩ : Lx.Out) = ⟨[⟨k, t, n, 0⟩], 0, 0⟩) := fun e => by cases e; exact haa rfl
                  clear haa
                  refine wp_region_below w4.heap.size w4 (Below.refl _ _) (by kernel_rfl) (by kernel_rfl) ?_
                  repeat (go_big_quiet_step (fail))
                  refine wpQuiet_nil ?_
                  intro _ hw'
                  obtain ⟨pq, hw''⟩ := hw'
                  subst hw''
                  have HF := X4.out.2.trans (pq.h.mono X4.out.2.size)
                  go_wp2
                  refine bodyPost_ret (results_tmp2L rfl _ _) rfl ?_
                  rw [HR.out, if_neg HNE.out]
                  exact ⟨rfl, HF⟩
              · have qn : (n2 != n) = true := by simpa using hnn
                have HNE : Hid (¬ (⟨[⟨k2, t2, n2, a2⟩], 0, ps⟩ : Lx.Out) = ⟨[⟨k, t, n, 0⟩], 0, 0⟩) := fun e => by cases e; exact hnn rfl
                clear hnn
                refine wp_region_below w4.heap.size w4 (Below.refl _ _) (by kernel_rfl) (by kernel_rfl) ?_
                repeat (go_big_quiet_step (fail))
                refine wpQuiet_nil ?_
                intro _ hw'
                obtain ⟨pq, hw''⟩ := hw'
                subst hw''
                have HF := X4.out.2.trans (pq.h.mono X4.out.2.size)
                go_wp2
                refine bodyPost_ret (results_tmp2L rfl _ _) rfl ?_
                rw [HR.out, if_neg HNE.out]
                exact ⟨rfl, HF⟩
            · have qt : (tb2.toList != tb.toList) = true := by rw [HB2.out.1, HB2.out.2]; simpa using htt
              have qt2 : (tb2.toList == tb.toList) = false := by rw [HB2.out.1, HB2.out.2]; simpa using htt
              have HNE : Hid (¬ (⟨[⟨k2, t2, n2, a2⟩], 0, ps⟩ : Lx.Out) = ⟨[⟨k, t, n, 0⟩], 0, 0⟩) := fun e => by cases e; exact htt rfl
              clear htt
              refine wp_region_below w4.heap.size w4 (Below.refl _ _) (by kernel_rfl) (by kernel_rfl) ?_
              repeat (go_big_quiet_step (fail))
              refine wpQuiet_nil ?_
              intro _ hw'
              obtain ⟨pq, hw''⟩ := hw'
              subst hw''
              have HF := X4.out.2.trans (pq.h.mono X4.out.2.size)
              go_wp2
              refine bodyPost_ret (results_tmp2L rfl _ _) rfl ?_
              rw [HR.out, if_neg HNE.out]
              exact ⟨rfl, HF⟩
          · have qk : ((k2 : Int) != (k : Int)) = true := by simp; omega
            have HNE : Hid (¬ (⟨[⟨k2, t2, n2, a2⟩], 0, ps⟩ : Lx.Out) = ⟨[⟨k, t, n, 0⟩], 0, 0⟩) := fun e => by cases e; exact hk rfl
            clear hk
            refine wp_region_below w4.heap.size w4 (Below.refl _ _) (by kernel_rfl) (by kernel_rfl) ?_
            repeat (go_big_quiet_step (fail))
            refine wpQuiet_nil ?_
            intro _ hw'
            obtain ⟨pq, hw''⟩ := hw'
            subst hw''
            have HF := X4.out.2.trans (pq.h.mono X4.out.2.size)
            go_wp2
            refine bodyPost_ret (results_tmp2L rfl _ _) rfl ?_
            rw [HR.out, if_neg HNE.out]
            exact ⟨rfl, HF⟩
        · have q1 : ((ln : Int) == 1) = false := by rw [beq_eq_false_iff_ne]; omega
          have q2 : ((ln : Int) != 1) = true := by rw [bne, q1]; rfl
          have HNE : Hid (¬ (⟨toks, 0, ps⟩ : Lx.Out) = ⟨[⟨k, t, n, 0⟩], 0, 0⟩) := fun e => by
            cases e
            exact h1 HLN.out
          clear h1
          refine wp_region_below w4.heap.size w4 (Below.refl _ _) (by kernel_rfl) (by kernel_rfl) ?_
          repeat (go_big_quiet_step (fail))
          refine wpQuiet_nil ?_
          intro _ hw'
          obtain ⟨pq, hw''⟩ := hw'
          subst hw''
          have HF := X4.out.2.trans (pq.h.mono X4.out.2.size)
          go_wp2
          refine bodyPost_ret (results_tmp2L rfl _ _) rfl ?_
          rw [HR.out, if_neg HNE.out]
          exact ⟨rfl, HF⟩
      · have q1 : ((er : Int) == 0) = false := by rw [beq_eq_false_iff_ne]; omega
        have q2 : ((er : Int) != 0) = true := by rw [bne, q1]; rfl
        have HNE : Hid (¬ (⟨toks, er, ps⟩ : Lx.Out) = ⟨[⟨k, t, n, 0⟩], 0, 0⟩) := fun e => by
          cases e
          exact he rfl
        clear he
        refine wp_region_below w4.heap.size w4 (Below.refl _ _) (by kernel_rfl) (by kernel_rfl) ?_
        repeat (go_big_quiet_step (fail))
        refine wpQuiet_nil ?_
        intro _ hw'
        obtain ⟨pq, hw''⟩ := hw'
        subst hw''
        have HF := X4.out.2.trans (pq.h.mono X4.out.2.size)
        go_wp2
        refine bodyPost_ret (results_tmp2L rfl _ _) rfl ?_
        rw [HR.out, if_neg HNE.out]
        exact ⟨rfl, HF⟩
    · have q4 : ((k : Int) == 4) = false := by rw [beq_eq_false_iff_ne]; omega
      have hsb : sb = tb := by rw [HSB.out.1, HSB.out.2, Lx.wr, if_neg h3, if_neg h4, HTB.out]
      rw [hsb] at CX HSB
      have X2 : Hid (TB w1 w.heap.size k t n a ∧ Below w.heap.size w w1) := X1.out
      clear h3 h4 hsb X1
      go_enter Tryz.func7, Tryz.ntmps7
      go_upto_region 1 with fail
      rw [← hw1]
      clear hw1
      go_wp2_with fail
      refine Calls.mono (CX.out _) ?_
      rintro e w4 ⟨hb4, lv, rfl, hrow⟩
      have X4 : Hid (TB w4 w.heap.size k t n a ∧ Below w.heap.size w w4) := ⟨X2.out.1.call hb4, X2.out.2.trans (hb4.mono X2.out.2.size)⟩
      clear hb4 X2 CX
      obtain ⟨o, ho⟩ : ∃ o, o = Lx.lex s := ⟨_, rfl⟩
      rw [← ho] at hrow HR
      rw [← ho]
      have hps : o.err = 0 → o.pos = 0 := fun h => by rw [ho] at h ⊢; exact Lx.lex_pos h
      clear ho
      obtain ⟨toks, er, ps⟩ := o
      have HPS : Hid (er = 0 → ps = 0) := hps
      clear hps
      obtain ⟨la, lc, rfl⟩ := own_slcL hrow
      obtain ⟨ln, hln⟩ : ∃ ln, ln = toks.length := ⟨_, rfl⟩
      obtain ⟨BB, hBB⟩ : ∃ BB : Nat, w4.ownsRow BB 24 4 (.slice la ln lc) ln (Lx.tcs toks) := ⟨_, by rw [hln]; exact hrow⟩
      have HROW : Hid (w4.ownsRow BB 24 4 (.slice la ln lc) ln (Lx.tcs toks)) := hBB
      have HLN : Hid (ln = toks.length) := hln
      rw [← hln]
      clear hrow hln hBB
      go_upto_region 10 with fail
      by_cases he : er = 0
      · subst he
        by_cases h1 : ln = 1
        · subst h1
          obtain ⟨⟨k2, t2, n2, a2⟩, rfl⟩ : ∃ x, toks = [x] := by
            match toks, HLN.out with
            | [x], _ => exact ⟨x, rfl⟩
          obtain ⟨g, cap, e1, hg, hc⟩ := own_cellsL (by omega) HROW.out
          cases e1
          have c0 : ∀ p : BelowOf w4.heap.size w4, p.W.cell? ⟨g, 0, none⟩ = some (.int .u8 (k2 : Int)) := fun p => (p.h.cell (p := ⟨g, 0, none⟩) hg).trans (hc 0 _ rfl)
          have c1 : ∀ p : BelowOf w4.heap.size w4, p.W.cell? ⟨g, 1, none⟩ = some (.string (Lx.bs t2)) := fun p => (p.h.cell (p := ⟨g, 1, none⟩) hg).trans (hc 1 _ rfl)
          have c2 : ∀ p : BelowOf w4.heap.size w4, p.W.cell? ⟨g, 2, none⟩ = some (.int .i64 n2) := fun p => (p.h.cell (p := ⟨g, 2, none⟩) hg).trans (hc 2 _ rfl)
          have c3 : ∀ p : BelowOf w4.heap.size w4, p.W.cell? ⟨g, 3, none⟩ = some (.int .i64 (a2 : Int)) := fun p => (p.h.cell (p := ⟨g, 3, none⟩) hg).trans (hc 3 _ rfl)
          have d0 : ∀ p : BelowOf w4.heap.size w4, p.W.cell? ⟨w.heap.size, 0, none⟩ = some (.int .u8 (k : Int)) := fun p => (X4.out.1.call p.h).cells.1
          have d1 : ∀ p : BelowOf w4.heap.size w4, p.W.cell? ⟨w.heap.size, 1, none⟩ = some (.string tb) := fun p => by rw [HTB.out]; exact (X4.out.1.call p.h).cells.2.1
          have d2 : ∀ p : BelowOf w4.heap.size w4, p.W.cell? ⟨w.heap.size, 2, none⟩ = some (.int .i64 n) := fun p => (X4.out.1.call p.h).cells.2.2.1
          clear hc hg
          obtain ⟨tb2, htb2⟩ : ∃ tb2, tb2 = Lx.bs t2 := ⟨_, rfl⟩
          rw [← htb2] at c1
          have HB2 : Hid (tb2.toList = t2 ∧ tb.toList = t) := ⟨by rw [htb2, Lx.bs_toList], by rw [HTB.out, Lx.bs_toList]⟩
          clear htb2
          by_cases hk : k2 = k
          · have qk : ((k2 : Int) != (k : Int)) = false := by rw [hk]; simp
            by_cases htt : t2 = t
            · have qt : (tb2.toList != tb.toList) = false := by rw [HB2.out.1, HB2.out.2, htt]; simp
              have qt2 : (tb2.toList == tb.toList) = true := by rw [HB2.out.1, HB2.out.2, htt]; simp
              by_cases hnn : n2 = n
              · have qn : (n2 != n) = false := by rw [hnn]; simp
                by_cases haa : a2 = 0
                · have qa : ((a2 : Int) != 0) = false := by rw [haa]; rfl
                  have HY : Hid ((⟨[⟨k2, t2, n2, a2⟩], 0, ps⟩ : Lx.Out) = ⟨[⟨k, t, n, 0⟩], 0, 0⟩) := by
                    have hps := HPS.out rfl
                    show _ = _
                    rw [hk, htt, hnn, haa, hps]
                  clear hk htt hnn haa
                  refine wp_region_below w4.heap.size w4 (Below.refl _ _) (by kernel_rfl) (by kernel_rfl) ?_
                  repeat (go_big_quiet_step (fail))
                  refine wpQuiet_nil ?_
                  intro _ hw'
                  obtain ⟨pq, hw''⟩ := hw'
                  subst hw''
                  have HF := X4.out.2.trans (pq.h.mono X4.out.2.size)
                  go_wp2
                  refine bodyPost_ret (results_tmp2L rfl _ _) rfl ?_
                  rw [HR.out, if_pos HY.out]
                  exact ⟨by simp only [Lx.shown, ← HSB.out.1]; rfl, HF⟩
                · have qa : ((a2 : Int) != 0) = true := by simp; omega
                  have HNE : Hid (¬ (⟨[⟨k2, t2, n2, a2⟩], 0, ps⟩ : Lx.Out) = ⟨[⟨k, t, n, 0⟩], 0, 0⟩) := fun e => by cases e; exact haa rfl
                  clear haa
                  refine wp_region_below w4.heap.size w4 (Below.refl _ _) (by kernel_rfl) (by kernel_rfl) ?_
                  repeat (go_big_quiet_step (fail))
                  refine wpQuiet_nil ?_
                  intro _ hw'
                  obtain ⟨pq, hw''⟩ := hw'
                  subst hw''
                  have HF := X4.out.2.trans (pq.h.mono X4.out.2.size)
                  go_wp2
                  refine bodyPost_ret (results_tmp2L rfl _ _) rfl ?_
                  rw [HR.out, if_neg HNE.out]
                  exact ⟨rfl, HF⟩
              · have qn : (n2 != n) = true := by simpa using hnn
                have HNE : Hid (¬ (⟨[⟨k2, t2, n2, a2⟩], 0, ps⟩ : Lx.Out) = ⟨[⟨k, t, n, 0⟩], 0, 0⟩) := fun e => by cases e; exact hnn rfl
                clear hnn
                refine wp_region_below w4.heap.size w4 (Below.refl _ _) (by kernel_rfl) (by kernel_rfl) ?_
                repeat (go_big_quiet_step (fail))
                refine wpQuiet_nil ?_
                intro _ hw'
                obtain ⟨pq, hw''⟩ := hw'
                subst hw''
                have HF := X4.out.2.trans (pq.h.mono X4.out.2.size)
                go_wp2
                refine bodyPost_ret (results_tmp2L rfl _ _) rfl ?_
                rw [HR.out, if_neg HNE.out]
                exact ⟨rfl, HF⟩
            · have qt : (tb2.toList != tb.toList) = true := by rw [HB2.out.1, HB2.out.2]; simpa using htt
              have qt2 : (tb2.toList == tb.toList) = false := by rw [HB2.out.1, HB2.out.2]; simpa using htt
              have HNE : Hid (¬ (⟨[⟨k2, t2, n2, a2⟩], 0, ps⟩ : Lx.Out) = ⟨[⟨k, t, n, 0⟩], 0, 0⟩) := fun e => by cases e; exact htt rfl
              clear htt
              refine wp_region_below w4.heap.size w4 (Below.refl _ _) (by kernel_rfl) (by kernel_rfl) ?_
              repeat (go_big_quiet_step (fail))
              refine wpQuiet_nil ?_
              intro _ hw'
              obtain ⟨pq, hw''⟩ := hw'
              subst hw''
              have HF := X4.out.2.trans (pq.h.mono X4.out.2.size)
              go_wp2
              refine bodyPost_ret (results_tmp2L rfl _ _) rfl ?_
              rw [HR.out, if_neg HNE.out]
              exact ⟨rfl, HF⟩
          · have qk : ((k2 : Int) != (k : Int)) = true := by simp; omega
            have HNE : Hid (¬ (⟨[⟨k2, t2, n2, a2⟩], 0, ps⟩ : Lx.Out) = ⟨[⟨k, t, n, 0⟩], 0, 0⟩) := fun e => by cases e; exact hk rfl
            clear hk
            refine wp_region_below w4.heap.size w4 (Below.refl _ _) (by kernel_rfl) (by kernel_rfl) ?_
            repeat (go_big_quiet_step (fail))
            refine wpQuiet_nil ?_
            intro _ hw'
            obtain ⟨pq, hw''⟩ := hw'
            subst hw''
            have HF := X4.out.2.trans (pq.h.mono X4.out.2.size)
            go_wp2
            refine bodyPost_ret (results_tmp2L rfl _ _) rfl ?_
            rw [HR.out, if_neg HNE.out]
            exact ⟨rfl, HF⟩
        · have q1 : ((ln : Int) == 1) = false := by rw [beq_eq_false_iff_ne]; omega
          have q2 : ((ln : Int) != 1) = true := by rw [bne, q1]; rfl
          have HNE : Hid (¬ (⟨toks, 0, ps⟩ : Lx.Out) = ⟨[⟨k, t, n, 0⟩], 0, 0⟩) := fun e => by
            cases e
            exact h1 HLN.out
          clear h1
          refine wp_region_below w4.heap.size w4 (Below.refl _ _) (by kernel_rfl) (by kernel_rfl) ?_
          repeat (go_big_quiet_step (fail))
          refine wpQuiet_nil ?_
          intro _ hw'
          obtain ⟨pq, hw''⟩ := hw'
          subst hw''
          have HF := X4.out.2.trans (pq.h.mono X4.out.2.size)
          go_wp2
          refine bodyPost_ret (results_tmp2L rfl _ _) rfl ?_
          rw [HR.out, if_neg HNE.out]
          exact ⟨rfl, HF⟩
      · have q1 : ((er : Int) == 0) = false := by rw [beq_eq_false_iff_ne]; omega
        have q2 : ((er : Int) != 0) = true := by rw [bne, q1]; rfl
        have HNE : Hid (¬ (⟨toks, er, ps⟩ : Lx.Out) = ⟨[⟨k, t, n, 0⟩], 0, 0⟩) := fun e => by
          cases e
          exact he rfl
        clear he
        refine wp_region_below w4.heap.size w4 (Below.refl _ _) (by kernel_rfl) (by kernel_rfl) ?_
        repeat (go_big_quiet_step (fail))
        refine wpQuiet_nil ?_
        intro _ hw'
        obtain ⟨pq, hw''⟩ := hw'
        subst hw''
        have HF := X4.out.2.trans (pq.h.mono X4.out.2.size)
        go_wp2
        refine bodyPost_ret (results_tmp2L rfl _ _) rfl ?_
        rw [HR.out, if_neg HNE.out]
        exact ⟨rfl, HF⟩
end Go.Proofs.YtdejnphiejkglaaGreatDoor
