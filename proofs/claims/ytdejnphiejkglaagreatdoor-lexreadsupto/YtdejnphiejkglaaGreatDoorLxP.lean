/- Show, walked: a token's text, if it is one that is read so. -/
import Derived.Test.YtdejnphiejkglaaGreatDoorLxO
import Derived.Lib.ItoaLen
namespace Go.Proofs.YtdejnphiejkglaaGreatDoor
open Go.RowKit
namespace Lx
/-- the text of a token, if there is one -/
def shw (k : Nat) (t : Bs) (n : Int) : Option Bs := if 1024 < t.length then none else if lex (wr k t n) = ⟨[⟨k, t, n, 0⟩], 0, 0⟩ then some (wr k t n) else none
def shown : Option Bs → Ending
  | none => .returned (.tuple #[.string ⟨#[]⟩, .int .i64 13])
  | some s => .returned (.tuple #[.string (bs s), .int .i64 0])
theorem lex_pos {l : Bs} (h : (lex l).err = 0) : (lex l).pos = 0 := by
  rw [lex] at h ⊢
  split
  · rfl
  · rename_i h1
    rw [if_neg h1, ← lx_form, join] at h
    rw [← lx_form, join]
    split
    · rename_i h2; rw [if_pos h2] at h; exact absurd h h2
    · rfl
theorem wr_len {k : Nat} {t : Bs} {n : Int} (ht : t.length ≤ 1024) (hn : -9223372036854775808 ≤ n ∧ n ≤ 9223372036854775807) : (wr k t n).length ≤ 4096 := by
  rw [wr]
  split
  · have := Lib.itoa_length_le n hn.1 hn.2; omega
  · split
    · have := dbl_len t; simp; omega
    · omega
end Lx
theorem own_slcL {W : World} {base e sz n : Nat} {v : Value} {xs : List Value} (h : W.ownsRow base e sz v n xs) : ∃ a c, v = .slice a n c := by
  rcases h.2 with ⟨e1, e2⟩ | ⟨g, cap, cur, e1, _⟩
  · exact ⟨none, 0, by rw [e1, e2]⟩
  · exact ⟨_, _, e1⟩
theorem own_cellsL {W : World} {B n size : Nat} {t : TypeId} {v : Value} {L : List Value} (hn : 0 < n) (h : W.ownsRow B t size v n L) : ∃ g cap, v = .slice (some ⟨g, 0, none⟩) n cap ∧ g < W.heap.size ∧ ∀ (j : Nat) (u : Value), L[j]? = some u → W.cell? ⟨g, j, none⟩ = some u := by
  have hL := h.1
  rcases h.2 with ⟨_, h1⟩ | ⟨g, cap, cur, rfl, hb, hrow, _, _, _, htk⟩
  · omega
  · refine ⟨g, cap, rfl, (Array.getElem?_eq_some_iff.1 hrow).1, fun j u hu => ?_⟩
    rw [cell_of_row _ _ _ _ _ _ hrow]
    have hj : j < n * size := by have := (List.getElem?_eq_some_iff.1 hu).1; omega
    rw [← htk, List.getElem?_take_of_lt (by omega), Array.getElem?_toList] at hu
    exact hu
theorem results_tmp2L {P : Program} {fn : Func} {a b : Tmp} (h : fn.results = #[.tmp a, .tmp b]) (tmps : Array Value) (w : World) : (results fn tmps).run P w = .ok (.tuple #[tmps.getD a undef, tmps.getD b undef]) w := by
  simp only [results, h]
  simp
theorem neqTok (k2 k : Int) (s2 s : ByteArray) (n2 n a2 a : Int) (w : World) : (binOp .neq 24 (.agg #[.int .u8 k2, .string s2, .int .i64 n2, .int .i64 a2]) (.agg #[.int .u8 k, .string s, .int .i64 n, .int .i64 a])).run Tryz.prog w = .ok (.bool (!((k2 == k) && (s2.toList == s.toList) && (n2 == n) && (a2 == a)))) w := by
  rw [run_neq_struct, run_equalIn_agg (P := Tryz.prog) w 9999 24 _ _ (by kernel_rfl) (by kernel_rfl)]
  simp [go_sem]
  by_cases h1 : k2 = k
  · by_cases h2 : s2.toList = s.toList
    · by_cases h3 : n2 = n
      · by_cases h4 : a2 = a
        · simp [h1, h2, h3, h4]
        · simp [h1, h2, h3, h4]
      · simp [h1, h2, h3]
    · simp [h1, h2]
  · simp [h1]
set_option maxHeartbeats 4000000 in
set_option maxRecDepth 100000 in
theorem show_c (k : Nat) (t : Lx.Bs) (n a : Int) (hn : -9223372036854775808 ≤ n ∧ n ≤ 9223372036854775807) (w : World) (hL : HasL w) : Calls Tryz.prog 6 #[.agg #[.int .u8 (k : Int), .string (Lx.bs t), .int .i64 n, .int .i64 a]] w fun e w' => e = Lx.shown (Lx.shw k t n) ∧ Below w.heap.size w w' := by
  obtain ⟨w1, hw1⟩ : ∃ w1, w1 = w.alloc (.cells #[.int .u8 (k : Int), .string (Lx.bs t), .int .i64 n, .int .i64 a] 24) := ⟨_, rfl⟩
  have hb1 : Below w.heap.size w w1 := by rw [hw1]; exact (Below.refl _ _).alloc (Nat.le_refl _) _
  have X1 : Hid (TB w1 w.heap.size k t n a ∧ Below w.heap.size w w1) := ⟨by rw [hw1]; exact heap_alloc_new w _, hb1⟩
  have HL : Hid (∀ W, Below w.heap.size w W → HasL W) := fun W hW => hL.stays hW
  obtain ⟨tb, htb⟩ : ∃ tb, tb = Lx.bs t := ⟨_, rfl⟩
  have hts : (tb.size : Int) = (t.length : Int) := by rw [htb, Lx.bs_size]
  by_cases hbig : 1024 < t.length
  · have q0 : (1024 : Int) < (tb.size : Int) := by omega
    have HR : Hid (Lx.shw k t n = none) := by show _ = _; rw [Lx.shw, if_pos hbig]
    obtain ⟨p0, p1, p2, p3⟩ := X1.out.1.cells
    rw [← htb] at p1 hw1 ⊢
    have HF := X1.out.2
    clear htb hb1 hL p0 p2 p3
    go_enter Tryz.func6, Tryz.ntmps6
    go_upto_region 1 with fail
    rw [← hw1]
    clear hw1
    go_wp2
    refine bodyPost_ret (results_tmp2L rfl _ _) rfl ?_
    rw [HR.out]
    exact ⟨rfl, HF⟩
  · have q0 : ¬ (1024 : Int) < (tb.size : Int) := by omega
    obtain ⟨s, hs⟩ : ∃ s, s = Lx.wr k t n := ⟨_, rfl⟩
    have hsl : s.length ≤ 4096 := by rw [hs]; exact Lx.wr_len (by omega) hn
    have CW : Hid (∀ W, Below w.heap.size w W → Calls Tryz.prog 17 #[.agg #[.int .u8 (k : Int), .string tb, .int .i64 n, .int .i64 0]] W fun e w' => e = .returned (.string (Lx.bs s)) ∧ Below W.heap.size W w') := fun W hW => by
      rw [hs, htb]; exact written_c k t n 0 (by omega) hn W (HL.out W hW)
    have CX : Hid (∀ W, Below w.heap.size w W → Calls Tryz.prog 4 #[.string (Lx.bs s)] W (Lx.LexGave (Lx.lex s) W)) := fun W hW => lex_c s (by omega) W (HL.out W hW)
    have CC : Hid (∀ W, Calls Tryz.prog 18 #[.string (Lx.bs s)] W fun e w' => e = .returned (.string (Lx.bs s)) ∧ Below W.heap.size W w') := fun W => sclone_c (Lx.bs s) (by rw [Lx.bs_size]; omega) W
    have HR : Hid (Lx.shw k t n = if Lx.lex s = ⟨[⟨k, t, n, 0⟩], 0, 0⟩ then some s else none) := by show _ = _; rw [Lx.shw, if_neg hbig, hs]
    have HTB : Hid (tb = Lx.bs t) := htb
    obtain ⟨p0, p1, p2, p3⟩ := X1.out.1.cells
    have fz := Lib.frozen_of_heap X1.out.1
    rw [← htb] at p1 hw1 ⊢
    clear htb hb1 hL hs hn hbig hsl
    go_enter Tryz.func6, Tryz.ntmps6
    go_upto_region 1 with fail
    rw [← hw1]
    clear hw1
    go_upto_region 4 with fail
    obtain ⟨w2, hw2⟩ : ∃ w2, w2 = w1.setCell ⟨w.heap.size, 3, none⟩ (.int .i64 0) := ⟨_, rfl⟩
    have X2 : Hid (TB w2 w.heap.size k t n 0 ∧ Below w.heap.size w w2) := by
      rw [hw2]
      exact ⟨heap_setCell_same w1 _ 3 _ 24 _ X1.out.1, X1.out.2.setCell (Nat.le_refl _) _⟩
    rw [← hw2]
    clear hw2 X1 p0 p1 p2 p3 fz
    obtain ⟨p0, p1, p2, p3⟩ := X2.out.1.cells
    rw [← HTB.out] at p1
    go_wp2_with fail
    refine Calls.mono (CW.out _ X2.out.2) ?_
    rintro e w3 ⟨rfl, hb3⟩
    have X3 : Hid (TB w3 w.heap.size k t n 0 ∧ Below w.heap.size w w3) := ⟨X2.out.1.call hb3, X2.out.2.trans (hb3.mono X2.out.2.size)⟩
    clear hb3 X2 CW p0 p1 p2 p3
    go_wp2_with fail
    refine Calls.mono (CX.out _ X3.out.2) ?_
    rintro e w4 ⟨hb4, lv, rfl, hrow⟩
    have X4 : Hid (TB w4 w.heap.size k t n 0 ∧ Below w.heap.size w w4) := ⟨X3.out.1.call hb4, X3.out.2.trans (hb4.mono X3.out.2.size)⟩
    clear hb4 X3 CX
    obtain ⟨o, ho⟩ : ∃ o, o = Lx.lex s := ⟨_, rfl⟩
    rw [← ho] at hrow HR
    rw [← ho]
    have hps : o.err = 0 → o.pos = 0 := fun h => by rw [ho] at h ⊢; exact Lx.lex_pos h
    clear ho
    obtain ⟨toks, er, ps⟩ := o
    have HPS : Hid (er = 0 → ps = 0) := hps
    clear hps
    obtain ⟨la, lc, rfl⟩ := own_slcL hrow
    obtain ⟨ln, hln⟩ : ∃ ln, ln = toks.length := ⟨_, rfl⟩
    have HROW : Hid (w4.ownsRow w3.heap.size 24 4 (.slice la ln lc) ln (Lx.tcs toks)) := by rw [hln]; exact hrow
    have HLN : Hid (ln = toks.length) := hln
    rw [← hln]
    clear hrow hln
    go_upto_region 6 with fail
    by_cases he : er = 0
    · subst he
      by_cases h1 : ln = 1
      · subst h1
        obtain ⟨⟨k2, t2, n2, a2⟩, rfl⟩ : ∃ x, toks = [x] := by
          match toks, HLN.out with
          | [x], _ => exact ⟨x, rfl⟩
        obtain ⟨g, cap, e1, hg, hc⟩ := own_cellsL (by omega) HROW.out
        cases e1
        have c0 : ∀ p : BelowOf w4.heap.size w4, p.W.cell? ⟨g, 0, none⟩ = some (.int .u8 (k2 : Int)) := fun p => (p.h.cell (p := ⟨g, 0, none⟩) hg).trans (hc 0 _ rfl)
        have c1 : ∀ p : BelowOf w4.heap.size w4, p.W.cell? ⟨g, 1, none⟩ = some (.string (Lx.bs t2)) := fun p => (p.h.cell (p := ⟨g, 1, none⟩) hg).trans (hc 1 _ rfl)
        have c2 : ∀ p : BelowOf w4.heap.size w4, p.W.cell? ⟨g, 2, none⟩ = some (.int .i64 n2) := fun p => (p.h.cell (p := ⟨g, 2, none⟩) hg).trans (hc 2 _ rfl)
        have c3 : ∀ p : BelowOf w4.heap.size w4, p.W.cell? ⟨g, 3, none⟩ = some (.int .i64 (a2 : Int)) := fun p => (p.h.cell (p := ⟨g, 3, none⟩) hg).trans (hc 3 _ rfl)
        have d0 : ∀ p : BelowOf w4.heap.size w4, p.W.cell? ⟨w.heap.size, 0, none⟩ = some (.int .u8 (k : Int)) := fun p => (X4.out.1.call p.h).cells.1
        have d1 : ∀ p : BelowOf w4.heap.size w4, p.W.cell? ⟨w.heap.size, 1, none⟩ = some (.string tb) := fun p => by rw [HTB.out]; exact (X4.out.1.call p.h).cells.2.1
        have d2 : ∀ p : BelowOf w4.heap.size w4, p.W.cell? ⟨w.heap.size, 2, none⟩ = some (.int .i64 n) := fun p => (X4.out.1.call p.h).cells.2.2.1
        have d3 : ∀ p : BelowOf w4.heap.size w4, p.W.cell? ⟨w.heap.size, 3, none⟩ = some (.int .i64 0) := fun p => (X4.out.1.call p.h).cells.2.2.2
        clear hc hg
        obtain ⟨tb2, htb2⟩ : ∃ tb2, tb2 = Lx.bs t2 := ⟨_, rfl⟩
        rw [← htb2] at c1
        obtain ⟨nb, hnb⟩ : ∃ b, b = !(((k2 : Int) == (k : Int)) && (tb2.toList == tb.toList) && (n2 == n) && ((a2 : Int) == 0)) := ⟨_, rfl⟩
        have hneq : ∀ wx, (binOp .neq 24 (.agg #[.int .u8 (k2 : Int), .string tb2, .int .i64 n2, .int .i64 (a2 : Int)]) (.agg #[.int .u8 (k : Int), .string tb, .int .i64 n, .int .i64 0])).run Tryz.prog wx = .ok (.bool nb) wx := fun wx => by rw [hnb]; exact neqTok _ _ _ _ _ _ _ _ wx
        have HEQ : Hid ((nb = false → (⟨[⟨k2, t2, n2, a2⟩], 0, ps⟩ : Lx.Out) = ⟨[⟨k, t, n, 0⟩], 0, 0⟩) ∧ (nb = true → ¬ (⟨[⟨k2, t2, n2, a2⟩], 0, ps⟩ : Lx.Out) = ⟨[⟨k, t, n, 0⟩], 0, 0⟩)) := by
          rw [htb2, HTB.out, Lx.bs_toList, Lx.bs_toList] at hnb
          refine ⟨fun h => ?_, fun h e => ?_⟩
          · rw [h] at hnb
            have h4 : (((k2 : Int) == (k : Int)) && (t2 == t) && (n2 == n) && ((a2 : Int) == 0)) = true := by
              cases hq : (((k2 : Int) == (k : Int)) && (t2 == t) && (n2 == n) && ((a2 : Int) == 0)) with
              | true => rfl
              | false => rw [hq] at hnb; cases hnb
            simp only [Bool.and_eq_true, beq_iff_eq] at h4
            obtain ⟨⟨⟨e1, e2⟩, e3⟩, e4⟩ := h4
            have hps := HPS.out rfl
            have e1' : k2 = k := by omega
            have e4' : a2 = 0 := by omega
            rw [e1', e2, e3, e4', hps]
          · cases e
            rw [h] at hnb
            simp at hnb
        clear hnb htb2
        cases nb with
        | true =>
          have HNE : Hid (¬ (⟨[⟨k2, t2, n2, a2⟩], 0, ps⟩ : Lx.Out) = ⟨[⟨k, t, n, 0⟩], 0, 0⟩) := HEQ.out.2 rfl
          refine wp_region_below w4.heap.size w4 (Below.refl _ _) (by kernel_rfl) (by kernel_rfl) ?_
          repeat (go_big_quiet_step (fail))
          refine wpQuiet_nil ?_
          intro _ hw'
          obtain ⟨pq, hw''⟩ := hw'
          subst hw''
          have HF := X4.out.2.trans (pq.h.mono X4.out.2.size)
          go_wp2
          refine bodyPost_ret (results_tmp2L rfl _ _) rfl ?_
          rw [HR.out, if_neg HNE.out]
          exact ⟨rfl, HF⟩
        | false =>
          have HY : Hid ((⟨[⟨k2, t2, n2, a2⟩], 0, ps⟩ : Lx.Out) = ⟨[⟨k, t, n, 0⟩], 0, 0⟩) := HEQ.out.1 rfl
          refine wp_region_below w4.heap.size w4 (Below.refl _ _) (by kernel_rfl) (by kernel_rfl) ?_
          repeat (go_big_quiet_step (fail))
          refine wpQuiet_nil ?_
          intro _ hw'
          obtain ⟨pq, hw''⟩ := hw'
          subst hw''
          have HBW : Hid (Below w.heap.size w pq.W) := X4.out.2.trans (pq.h.mono X4.out.2.size)
          go_wp2_with fail
          refine Calls.mono (CC.out _) ?_
          rintro e w5 ⟨rfl, hb5⟩
          have HF := HBW.out.trans (hb5.mono HBW.out.size)
          clear hb5
          go_wp2
          refine bodyPost_ret (results_tmp2L rfl _ _) rfl ?_
          rw [HR.out, if_pos HY.out]
          exact ⟨rfl, HF⟩
      · have q1 : ((ln : Int) == 1) = false := by rw [beq_eq_false_iff_ne]; omega
        have q2 : ((ln : Int) != 1) = true := by rw [bne, q1]; rfl
        have HNE : Hid (¬ (⟨toks, 0, ps⟩ : Lx.Out) = ⟨[⟨k, t, n, 0⟩], 0, 0⟩) := fun e => by
          cases e
          exact h1 HLN.out
        clear h1
        refine wp_region_below w4.heap.size w4 (Below.refl _ _) (by kernel_rfl) (by kernel_rfl) ?_
        repeat (go_big_quiet_step (fail))
        refine wpQuiet_nil ?_
        intro _ hw'
        obtain ⟨pq, hw''⟩ := hw'
        subst hw''
        have HF := X4.out.2.trans (pq.h.mono X4.out.2.size)
        go_wp2
        refine bodyPost_ret (results_tmp2L rfl _ _) rfl ?_
        rw [HR.out, if_neg HNE.out]
        exact ⟨rfl, HF⟩
    · have q1 : ((er : Int) == 0) = false := by rw [beq_eq_false_iff_ne]; omega
      have q2 : ((er : Int) != 0) = true := by rw [bne, q1]; rfl
      have HNE : Hid (¬ (⟨toks, er, ps⟩ : Lx.Out) = ⟨[⟨k, t, n, 0⟩], 0, 0⟩) := fun e => by
        cases e
        exact he rfl
      clear he
      refine wp_region_below w4.heap.size w4 (Below.refl _ _) (by kernel_rfl) (by kernel_rfl) ?_
      repeat (go_big_quiet_step (fail))
      refine wpQuiet_nil ?_
      intro _ hw'
      obtain ⟨pq, hw''⟩ := hw'
      subst hw''
      have HF := X4.out.2.trans (pq.h.mono X4.out.2.size)
      go_wp2
      refine bodyPost_ret (results_tmp2L rfl _ _) rfl ?_
      rw [HR.out, if_neg HNE.out]
      exact ⟨rfl, HF⟩
end Go.Proofs.YtdejnphiejkglaaGreatDoor
