/- LexPlaces, walked. -/
import Derived.Test.YtdejnphiejkglaaDoorLxT
namespace Go.Proofs.YtdejnphiejkglaaDoor
open Go.RowKit
namespace Lx
theorem n_bounds (x : UInt8) (r : Bs) : -9223372036854775808 ≤ (frst (x :: r)).n ∧ (frst (x :: r)).n ≤ 9223372036854775807 := by
  have z0 : -9223372036854775808 ≤ (0 : Int) ∧ (0 : Int) ≤ 9223372036854775807 := by decide
  have h0 : ∀ e, -9223372036854775808 ≤ (no e).n ∧ (no e).n ≤ 9223372036854775807 := fun e => z0
  rw [frst]
  split
  · rw [word]
    split
    · exact z0
    · split
      · exact h0 _
      · exact z0
  · split
    · rw [numb]
      cases hn : numOf ((x :: r).take (wsz (x :: r))) with
      | none => exact h0 _
      | some v =>
        rw [numOf] at hn
        split at hn
        · rename_i u hu
          have hb := Lib.parseIntB_bounds hu
          simp at hb
          split at hn
          · cases hn
            show -9223372036854775808 ≤ v ∧ v ≤ 9223372036854775807
            omega
          · cases hn
        · cases hn
    · split
      · rw [text]
        split
        · rw [tok]
          split
          · exact h0 _
          · split
            · exact h0 _
            · exact z0
        · exact h0 _
      · split
        · exact z0
        · exact h0 _
theorem arD {j m : Nat} (h : j < m) : m - ((j : Int) + 1).toNat < m - ((j : Int)).toNat := by omega
theorem toks_len {l : Bs} {a : Nat} {ts : List Tk} (h : Toks l a ts) : ts.length ≤ l.length := by
  induction h with
  | nil h => simp
  | cons h he _ ih => have := drop_lt h he; rw [List.length_cons]; omega
/-- all that the law asks of a token -/
structure TokOk (l : Bs) (ts : List Tk) (j : Nat) (t : Tk) : Prop where
  lt : t.at' < l.length
  shw : shw t.kind t.text t.n = some (wr t.kind t.text t.n)
  n : -9223372036854775808 ≤ t.n ∧ t.n ≤ 9223372036854775807
  rest : lex (l.drop t.at') = ⟨(ts.drop j).map (un t.at'), 0, 0⟩
  prev : ∀ i u, j = i + 1 → ts[i]? = some u → u.at' < t.at'
theorem tok_ok {l : Bs} {ts : List Tk} (hl : l.length ≤ 16384) (h : Toks l 0 ts) (j : Nat) (t : Tk) (ht : ts[j]? = some t) : TokOk l ts j t := by
  obtain ⟨h1, h2, h3, ⟨x, r, he, e1, e2, e3, e4⟩, _⟩ := toks_at h j t ht
  rw [Nat.sub_zero] at h3
  have hb := back he
  refine ⟨by omega, ?_, by rw [e3]; exact n_bounds x r, ?_, fun i u hi hu => ?_⟩
  · rw [e1, e2, e3, shw, if_neg (by omega), if_pos hb.2]
  · exact toks_lex (by rw [List.length_drop]; omega) (toks_unshift h3 0 t.at' (by omega))
  · subst hi
    exact (toks_at h i u hu).2.2.2.2 t ht
theorem tcs_at (ts : List Tk) (j : Nat) (t : Tk) (h : ts[j]? = some t) (i : Nat) (v : Value) (hv : (tc t.kind t.text t.n t.at')[i]? = some v) : (tcs ts)[j * 4 + i]? = some v := by
  induction ts generalizing j with
  | nil => simp at h
  | cons u ts ih =>
    have hc : tcs (u :: ts) = [.int .u8 (u.kind : Int), .string (bs u.text), .int .i64 u.n, .int .i64 (u.at' : Int)] ++ tcs ts := by simp [tcs, tc]
    rw [hc]
    have hi : i < 4 := by have := (Array.getElem?_eq_some_iff.1 hv).1; simpa [tc] using this
    cases j with
    | zero =>
      simp at h
      subst h
      rw [List.getElem?_append_left (by simp; omega)]
      simp [tc] at hv
      rw [Nat.zero_mul, Nat.zero_add]
      simpa using hv
    | succ j =>
      rw [List.getElem?_append_right (by simp; omega)]
      have := ih j (by simpa using h)
      rw [← this]
      congr 1
      simp
      omega
end Lx
set_option maxHeartbeats 8000000 in
set_option maxRecDepth 100000 in
theorem places_c (l : Lx.Bs) (hl : l.length ≤ 140737488351232) (w : World) (hL : HasL w) : Calls Tryd.prog 4 #[.string (Lx.bs l)] w fun e w' => e = .returned (.bool true) ∧ Below w.heap.size w w' := by
  have HL : Hid (∀ W, Below w.heap.size w W → HasL W) := fun W hW => hL.stays hW
  have CL : Hid (Calls Tryd.prog 7 #[] w fun e w' => e = .returned (.bool true) ∧ Below w.heap.size w w') := livesL_c w hL
  have CX : Hid (∀ W, Below w.heap.size w W → Calls Tryd.prog 9 #[.string (Lx.bs l)] W (Lx.LexGave (Lx.lex l) W)) := fun W hW => lex_c l hl W (HL.out W hW)
  obtain ⟨s, hs⟩ : ∃ s, s = Lx.bs l := ⟨_, rfl⟩
  obtain ⟨n, hn⟩ : ∃ n : Int, n = (l.length : Int) := ⟨_, rfl⟩
  have hsz : (s.size : Int) = n := by rw [hs, Lx.bs_size, hn]
  have HN : Hid (n = (l.length : Int)) := hn
  have HSL : Hid (∀ (k : Nat), k ≤ l.length → ∀ wx, (Instr.slice 9 (.string s) (some (.int .i64 (k : Int))) none none).run Tryd.prog wx = .ok (.string (Lx.bs (l.drop k))) wx) := fun k hk wx => by rw [hs]; exact Lx.slice_from l (k : Int) k rfl hk wx
  have HLN : Hid (l.length ≤ 140737488351232) := hl
  rw [← hs] at CX
  rw [← hs]
  clear hs hn hL hl
  go_enter Tryd.func4, Tryd.ntmps4
  go_wp2_with fail
  refine Calls.mono CL.out ?_
  rintro e w1 ⟨rfl, hb1⟩
  have HB1 : Hid (Below w.heap.size w w1) := hb1
  clear hb1 CL
  go_wp2_with fail
  refine Calls.mono (CX.out _ HB1.out) ?_
  rintro e w2 ⟨hb2, lv, rfl, hrow⟩
  have HB2 : Hid (Below w.heap.size w w2) := HB1.out.trans (hb2.mono HB1.out.size)
  obtain ⟨o, ho⟩ : ∃ o, o = Lx.lex l := ⟨_, rfl⟩
  have HBAD : Hid (o.err ≠ 0 → o.toks = [] ∧ o.pos ≤ l.length) := by rw [ho]; exact Lx.lex_bad
  have HOK : Hid (o.err = 0 → ∀ j t, o.toks[j]? = some t → Lx.TokOk l o.toks j t) := by
    rw [ho]
    intro h
    have := Lx.lex_toks h
    exact fun j t ht => Lx.tok_ok this.1 this.2 j t ht
  have HLEN : Hid (o.err = 0 → o.toks.length ≤ 16384) := by
    rw [ho]
    intro h
    have h1 := Lx.lex_toks h
    have h2 := Lx.toks_len h1.2
    omega
  rw [← ho] at hrow
  rw [← ho]
  clear hb2 HB1 CX ho
  obtain ⟨ts, er, ps⟩ := o
  obtain ⟨la, lc, rfl⟩ := own_slcL hrow
  obtain ⟨m, hm⟩ : ∃ m, m = ts.length := ⟨_, rfl⟩
  have HM : Hid (m = ts.length) := hm
  have HROW : Hid (w2.ownsRow w1.heap.size 26 4 (.slice la m lc) m (Lx.tcs ts)) := by rw [hm]; exact hrow
  simp only at hrow ⊢
  rw [← hm]
  clear hrow hm
  by_cases he : er = 0
  · subst he
    have HTO : Hid (∀ j t, ts[j]? = some t → Lx.TokOk l ts j t) := HOK.out rfl
    clear HOK HBAD
    have HCL : Hid (0 < m → ∃ g, la = some ⟨g, 0, none⟩ ∧ g < w2.heap.size ∧ ∀ (j : Nat) (u : Value), (Lx.tcs ts)[j]? = some u → w2.cell? ⟨g, j, none⟩ = some u) := fun hp => by
      obtain ⟨g, cap, e1, hg, hc⟩ := own_cellsL hp HROW.out
      cases e1
      exact ⟨g, rfl, hg, hc⟩
    have hmb : m ≤ 16384 := by rw [HM.out]; exact HLEN.out rfl
    clear HLEN
    go_wp2
    go_loopw [39] (fun i wr => ∃ j : Nat, j ≤ m ∧ i = .int .i64 (j : Int) ∧ Below w2.heap.size w2 wr) (fun i _ => m - (intOf i).toNat)
    case atStart => exact ⟨0, Nat.zero_le _, rfl, Below.refl _ _⟩
    case round =>
      obtain ⟨j, hj, rfl, hbr⟩ := hrel
      have HBR : Hid (Below w2.heap.size w2 wr) := hbr
      clear hbr
      have HBW : Hid (Below w.heap.size w wr) := HB2.out.trans (HBR.out.mono HB2.out.size)
      by_cases hlt : j < m
      · have q0 : (j : Int) < (m : Int) := by omega
        obtain ⟨g, rfl, hg, hc⟩ := HCL.out (by omega)
        obtain ⟨⟨tk, tt, tn, ta⟩, ht⟩ : ∃ t, ts[j]? = some t := ⟨_, List.getElem?_eq_getElem (by rw [← HM.out]; exact hlt)⟩
        obtain ⟨k1, k2, k3, k4, k5⟩ := HTO.out j _ ht
        simp only at k1 k2 k3 k4
        obtain ⟨tb, htb⟩ : ∃ tb, tb = Lx.bs tt := ⟨_, rfl⟩
        have HC : Hid (∀ W, Below w2.heap.size w2 W → ∀ (i : Nat) (u : Value), (Lx.tcs ts)[i]? = some u → W.cell? ⟨g, i, none⟩ = some u) := fun W hW i u hu => (hW.cell (p := ⟨g, i, none⟩) hg).trans (hc i u hu)
        obtain ⟨d0, d1, d2, d3⟩ : wr.cell? ⟨g, j * 4, none⟩ = some (.int .u8 (tk : Int)) ∧ wr.cell? ⟨g, j * 4 + 1, none⟩ = some (.string tb) ∧ wr.cell? ⟨g, j * 4 + 2, none⟩ = some (.int .i64 tn) ∧ wr.cell? ⟨g, j * 4 + 3, none⟩ = some (.int .i64 (ta : Int)) := by
          rw [htb]
          exact ⟨HC.out _ HBR.out _ _ (Lx.tcs_at ts j _ ht 0 _ rfl), HC.out _ HBR.out _ _ (Lx.tcs_at ts j _ ht 1 _ rfl), HC.out _ HBR.out _ _ (Lx.tcs_at ts j _ ht 2 _ rfl), HC.out _ HBR.out _ _ (Lx.tcs_at ts j _ ht 3 _ rfl)⟩
        obtain ⟨sh, hsh⟩ : ∃ sh, sh = Lx.bs (Lx.wr tk tt tn) := ⟨_, rfl⟩
        have CS : Hid (∀ W, Below w.heap.size w W → Calls Tryd.prog 8 #[.agg #[.int .u8 (tk : Int), .string tb, .int .i64 tn, .int .i64 (ta : Int)]] W fun e w' => e = .returned (.tuple #[.string sh, .int .i64 0]) ∧ Below W.heap.size W w') := fun W hW => by
          have h := show_c tk tt tn (ta : Int) k3 W (HL.out W hW)
          rw [k2] at h
          rw [htb, hsh]
          exact h
        obtain ⟨sx, hsx⟩ : ∃ sx, sx = Lx.bs (l.drop ta) := ⟨_, rfl⟩
        have hsl : ∀ wx, (Instr.slice 9 (.string s) (some (.int .i64 (ta : Int))) none none).run Tryd.prog wx = .ok (.string sx) wx := fun wx => by rw [hsx]; exact HSL.out ta (by omega) wx
        have CX : Hid (∀ W, Below w.heap.size w W → Calls Tryd.prog 9 #[.string sx] W fun e w' => Below W.heap.size W w' ∧ ∃ g2 c2, e = .returned (.tuple #[.slice (some ⟨g2, 0, none⟩) (m - j) c2, .int .i64 0, .int .i64 0]) ∧ g2 < w'.heap.size ∧ w'.cell? ⟨g2, 0, none⟩ = some (.int .u8 (tk : Int)) ∧ w'.cell? ⟨g2, 1, none⟩ = some (.string tb) ∧ w'.cell? ⟨g2, 2, none⟩ = some (.int .i64 tn) ∧ w'.cell? ⟨g2, 3, none⟩ = some (.int .i64 0)) := fun W hW => by
          have h := lex_c (l.drop ta) (by have := HLN.out; rw [List.length_drop]; omega) W (HL.out W hW)
          rw [k4] at h
          rw [hsx]
          refine Calls.mono h ?_
          rintro e w' ⟨hb, lv2, rfl, hrow2⟩
          simp only at hrow2
          rw [List.length_map, List.length_drop, ← HM.out] at hrow2
          obtain ⟨g2, c2, rfl, hg2, hc2⟩ := own_cellsL (by omega) hrow2
          have ht2 : ((ts.drop j).map (Lx.un ta))[0]? = some ⟨tk, tt, tn, 0⟩ := by
            rw [List.getElem?_map, List.getElem?_drop, Nat.add_zero, ht]
            simp [Lx.un]
          rw [htb]
          exact ⟨hb, g2, c2, rfl, hg2, hc2 _ _ (Lx.tcs_at _ 0 _ ht2 0 _ rfl), hc2 _ _ (Lx.tcs_at _ 0 _ ht2 1 _ rfl), hc2 _ _ (Lx.tcs_at _ 0 _ ht2 2 _ rfl), hc2 _ _ (Lx.tcs_at _ 0 _ ht2 3 _ rfl)⟩
        have HPR : Hid (∀ i, j = i + 1 → ∃ pa : Nat, pa < ta ∧ ∀ W, Below w2.heap.size w2 W → W.cell? ⟨g, i * 4 + 3, none⟩ = some (.int .i64 (pa : Int))) := fun i hi => by
          obtain ⟨u, hu⟩ : ∃ u, ts[i]? = some u := ⟨_, List.getElem?_eq_getElem (by rw [← HM.out]; omega)⟩
          exact ⟨u.at', k5 i u hi hu, fun W hW => HC.out W hW _ _ (Lx.tcs_at ts i u hu 3 _ rfl)⟩
        have HTA : Hid ((ta : Int) < n) := by rw [HN.out]; show _ < _; omega
        clear hc hg ht k1 k2 k3 k4 k5 htb hsh hsx
        go_upto_region 9 with fail
        obtain ⟨w3, hw3⟩ : ∃ w3, w3 = wr.alloc (.cells #[.int .u8 (tk : Int), .string tb, .int .i64 tn, .int .i64 (ta : Int)] 26) := ⟨_, rfl⟩
        obtain ⟨Q, hQ⟩ : ∃ Q, Q = wr.heap.size := ⟨_, rfl⟩
        have X3 : Hid (w3.heap[Q]? = some (.cells #[.int .u8 (tk : Int), .string tb, .int .i64 tn, .int .i64 (ta : Int)] 26 (0, 0)) ∧ Below wr.heap.size wr w3) := by rw [hw3, hQ]; exact ⟨heap_alloc_new wr _, (Below.refl _ _).alloc (Nat.le_refl _) _⟩
        rw [← hw3, ← hQ]
        clear hw3 hQ d0 d1 d2 d3
        have cells : Hid (∀ W, Below w3.heap.size w3 W → W.heap[Q]? = some (.cells #[.int .u8 (tk : Int), .string tb, .int .i64 tn, .int .i64 (ta : Int)] 26 (0, 0))) := fun W hW => (hW.block _ (Array.getElem?_eq_some_iff.1 X3.out.1).1).trans X3.out.1
        have B3 : Hid (Below w.heap.size w w3) := HBW.out.trans (X3.out.2.mono HBW.out.size)
        have B23 : Hid (Below w2.heap.size w2 w3) := HBR.out.trans (X3.out.2.mono HBR.out.size)
        obtain ⟨c0, c1, c2, c3⟩ : w3.cell? ⟨Q, 0, none⟩ = some (.int .u8 (tk : Int)) ∧ w3.cell? ⟨Q, 1, none⟩ = some (.string tb) ∧ w3.cell? ⟨Q, 2, none⟩ = some (.int .i64 tn) ∧ w3.cell? ⟨Q, 3, none⟩ = some (.int .i64 (ta : Int)) := by
          refine ⟨?_, ?_, ?_, ?_⟩ <;> (rw [cell_of_row _ _ _ _ _ _ X3.out.1]; rfl)
        go_wp2_with fail
        refine Calls.mono (CS.out _ B3.out) ?_
        rintro e w4 ⟨rfl, hb4⟩
        have HB4 : Hid (Below w3.heap.size w3 w4) := hb4
        clear hb4 CS c0 c1 c2 c3
        have b3 : ∀ p : BelowOf w4.heap.size w4, p.W.cell? ⟨Q, 3, none⟩ = some (.int .i64 (ta : Int)) := fun p => by
          rw [cell_of_row _ _ _ _ _ _ (cells.out _ (HB4.out.trans (p.h.mono HB4.out.size)))]; rfl
        have q5 : ¬ (ta : Int) < 0 := by omega
        have q5b : decide ((ta : Int) < 0) = false := by rw [decide_eq_false_iff_not]; omega
        have q6 : ¬ n ≤ (ta : Int) := by have := HTA.out; omega
        go_upto_region 10 with fail
        have hwj : wrap64 ((j : Int) + 1) = ((j + 1 : Nat) : Int) := by unfold wrap64; omega
        have hwm : wrap64 ((m : Int) - (j : Int)) = ((m - j : Nat) : Int) := by unfold wrap64; omega
        have hq9 : (0 : Int) < ((m - j : Nat) : Int) := by omega
        have hneq : ∀ wx, (binOp .neq 26 (.agg #[.int .u8 (tk : Int), .string tb, .int .i64 tn, .int .i64 (ta : Int)]) (.agg #[.int .u8 (tk : Int), .string tb, .int .i64 tn, .int .i64 (ta : Int)])).run Tryd.prog wx = .ok (.bool false) wx := fun wx => by
          have h := neqTok (tk : Int) (tk : Int) tb tb tn tn (ta : Int) (ta : Int) wx
          rw [beq_self_eq_true, beq_self_eq_true, beq_self_eq_true, beq_self_eq_true] at h
          exact h
        by_cases hj0 : 0 < j
        · obtain ⟨i, hi⟩ : ∃ i, j = i + 1 := ⟨j - 1, by omega⟩
          obtain ⟨pa, hpa, hpc⟩ := HPR.out i hi
          have b4 : ∀ p : BelowOf w4.heap.size w4, p.W.cell? ⟨g, i * 4 + 3, none⟩ = some (.int .i64 (pa : Int)) := fun p => hpc _ (B23.out.trans ((HB4.out.trans (p.h.mono HB4.out.size)).mono B23.out.size))
          have q7 : ¬ (ta : Int) ≤ (pa : Int) := by omega
          have hw5 : wrap64 ((j : Int) - 1) = (i : Int) := by unfold wrap64; omega
          have q8 : (0 : Int) < (j : Int) := by omega
          have q8b : decide ((0 : Int) < (j : Int)) = true := decide_eq_true q8
          have q8c : 0 < j := hj0
          have q8d : decide (0 < j) = true := decide_eq_true hj0
          have q7b : decide ((ta : Int) ≤ (pa : Int)) = false := decide_eq_false q7
          have q7c : decide (ta ≤ pa) = false := decide_eq_false (by omega)
          have q10 : (i : Int) < (m : Int) := by omega
          have q11 : (0 : Int) ≤ (i : Int) := by omega
          have ei : i = j - 1 := by omega
          rw [ei] at b4
          clear hpc hpa hi hj0 ei
          refine wp_region_below w4.heap.size w4 (Below.refl _ _) (by kernel_rfl) (by kernel_rfl) ?_
          repeat (go_big_quiet_step (fail))
          refine wpQuiet_nil ?_
          intro _ hw'
          obtain ⟨pq, hw''⟩ := hw'
          subst hw''
          clear b4
          have HPQ : Hid (Below w3.heap.size w3 pq.W) := HB4.out.trans (pq.h.mono HB4.out.size)
          obtain ⟨w5, hw5e⟩ : ∃ w5, w5 = pq.W := ⟨_, rfl⟩
          rw [← hw5e] at HPQ
          rw [← hw5e]
          clear hw5e HB4 b3
          have v5 := cells.out _ HPQ.out
          have c3 : w5.cell? ⟨Q, 3, none⟩ = some (.int .i64 (ta : Int)) := by rw [cell_of_row _ _ _ _ _ _ v5]; rfl
          clear v5
          go_wp2_with fail
          refine Calls.mono (CX.out _ (B3.out.trans (HPQ.out.mono B3.out.size))) ?_
          rintro e w6 ⟨hb6, g2, c2, rfl, hg2, r0, r1, r2, r3⟩
          have HB6 : Hid (Below w3.heap.size w3 w6) := HPQ.out.trans (hb6.mono HPQ.out.size)
          clear hb6 c3 HPQ CX
          go_upto_region 16 with fail
          obtain ⟨w7, hw7⟩ : ∃ w7, w7 = w6.alloc (.cells #[.int .u8 (tk : Int), .string tb, .int .i64 tn, .int .i64 0] 26) := ⟨_, rfl⟩
          obtain ⟨F, hF⟩ : ∃ F, F = w6.heap.size := ⟨_, rfl⟩
          have X7 : Hid (w7.heap[F]? = some (.cells #[.int .u8 (tk : Int), .string tb, .int .i64 tn, .int .i64 0] 26 (0, 0)) ∧ Below w3.heap.size w3 w7 ∧ Q < F ∧ w3.heap.size ≤ F) := by
            have hQ : Q < w3.heap.size := (Array.getElem?_eq_some_iff.1 X3.out.1).1
            have h6 := HB6.out.size
            rw [hw7, hF]
            exact ⟨heap_alloc_new w6 _, HB6.out.alloc HB6.out.size _, Nat.lt_of_lt_of_le hQ h6, h6⟩
          rw [← hw7, ← hF]
          clear hw7 hF r0 r1 r2 r3 hg2 HB6
          have c3 : w7.cell? ⟨Q, 3, none⟩ = some (.int .i64 (ta : Int)) := by rw [cell_of_row _ _ _ _ _ _ (cells.out _ X7.out.2.1)]; rfl
          have f3 : w7.cell? ⟨F, 3, none⟩ = some (.int .i64 0) := by rw [cell_of_row _ _ _ _ _ _ X7.out.1]; rfl
          have fz := Lib.frozen_of_heap X7.out.1
          go_upto_region 17 with fail
          obtain ⟨w8, hw8⟩ : ∃ w8, w8 = w7.setCell ⟨F, 3, none⟩ (.int .i64 (ta : Int)) := ⟨_, rfl⟩
          have X8 : Hid (w8.heap[F]? = some (.cells #[.int .u8 (tk : Int), .string tb, .int .i64 tn, .int .i64 (ta : Int)] 26 (0, 0)) ∧ Below w3.heap.size w3 w8) := by
            rw [hw8]
            exact ⟨heap_setCell_same w7 _ 3 _ 26 _ X7.out.1, X7.out.2.1.setCell X7.out.2.2.2 _⟩
          rw [← hw8]
          clear hw8 c3 f3 fz X7
          obtain ⟨c0, c1, c2', c3⟩ : w8.cell? ⟨Q, 0, none⟩ = some (.int .u8 (tk : Int)) ∧ w8.cell? ⟨Q, 1, none⟩ = some (.string tb) ∧ w8.cell? ⟨Q, 2, none⟩ = some (.int .i64 tn) ∧ w8.cell? ⟨Q, 3, none⟩ = some (.int .i64 (ta : Int)) := by
            refine ⟨?_, ?_, ?_, ?_⟩ <;> (rw [cell_of_row _ _ _ _ _ _ (cells.out _ X8.out.2)]; rfl)
          obtain ⟨f0, f1, f2, f3⟩ : w8.cell? ⟨F, 0, none⟩ = some (.int .u8 (tk : Int)) ∧ w8.cell? ⟨F, 1, none⟩ = some (.string tb) ∧ w8.cell? ⟨F, 2, none⟩ = some (.int .i64 tn) ∧ w8.cell? ⟨F, 3, none⟩ = some (.int .i64 (ta : Int)) := by
            refine ⟨?_, ?_, ?_, ?_⟩ <;> (rw [cell_of_row _ _ _ _ _ _ X8.out.1]; rfl)
          have B8 : Hid (Below w2.heap.size w2 w8) := B23.out.trans (X8.out.2.mono B23.out.size)
          by_cases h20 : 20 < j
          · have q20 : (20 : Int) < (j : Int) := by omega
            have HF := HB2.out.trans (B8.out.mono HB2.out.size)
            go_wp2
            go_ret
            exact ⟨rfl, HF⟩
          · have q20 : ¬ (20 : Int) < (j : Int) := by omega
            go_wp2
            go_roundw
            case rel => first | exact ⟨j + 1, Nat.succ_le_of_lt hlt, by go_num, B8.out⟩ | ((repeat apply Exists.intro); exact ⟨⟨j + 1, Nat.succ_le_of_lt hlt, by go_num, B8.out⟩, rfl⟩)
            case measure =>
              simp only [intOf]
              exact Lx.arD hlt
        · have q8 : ¬ (0 : Int) < (j : Int) := by omega
          have q8b : decide ((0 : Int) < (j : Int)) = false := decide_eq_false q8
          have q8d : decide (0 < j) = false := decide_eq_false hj0
          clear hj0
          refine wp_region_below w4.heap.size w4 (Below.refl _ _) (by kernel_rfl) (by kernel_rfl) ?_
          repeat (go_big_quiet_step (fail))
          refine wpQuiet_nil ?_
          intro _ hw'
          obtain ⟨pq, hw''⟩ := hw'
          subst hw''
          have HPQ : Hid (Below w3.heap.size w3 pq.W) := HB4.out.trans (pq.h.mono HB4.out.size)
          obtain ⟨w5, hw5e⟩ : ∃ w5, w5 = pq.W := ⟨_, rfl⟩
          rw [← hw5e] at HPQ
          rw [← hw5e]
          clear hw5e HB4 b3
          have v5 := cells.out _ HPQ.out
          have c3 : w5.cell? ⟨Q, 3, none⟩ = some (.int .i64 (ta : Int)) := by rw [cell_of_row _ _ _ _ _ _ v5]; rfl
          clear v5
          go_wp2_with fail
          refine Calls.mono (CX.out _ (B3.out.trans (HPQ.out.mono B3.out.size))) ?_
          rintro e w6 ⟨hb6, g2, c2, rfl, hg2, r0, r1, r2, r3⟩
          have HB6 : Hid (Below w3.heap.size w3 w6) := HPQ.out.trans (hb6.mono HPQ.out.size)
          clear hb6 c3 HPQ CX
          go_upto_region 16 with fail
          obtain ⟨w7, hw7⟩ : ∃ w7, w7 = w6.alloc (.cells #[.int .u8 (tk : Int), .string tb, .int .i64 tn, .int .i64 0] 26) := ⟨_, rfl⟩
          obtain ⟨F, hF⟩ : ∃ F, F = w6.heap.size := ⟨_, rfl⟩
          have X7 : Hid (w7.heap[F]? = some (.cells #[.int .u8 (tk : Int), .string tb, .int .i64 tn, .int .i64 0] 26 (0, 0)) ∧ Below w3.heap.size w3 w7 ∧ Q < F ∧ w3.heap.size ≤ F) := by
            have hQ : Q < w3.heap.size := (Array.getElem?_eq_some_iff.1 X3.out.1).1
            have h6 := HB6.out.size
            rw [hw7, hF]
            exact ⟨heap_alloc_new w6 _, HB6.out.alloc HB6.out.size _, Nat.lt_of_lt_of_le hQ h6, h6⟩
          rw [← hw7, ← hF]
          clear hw7 hF r0 r1 r2 r3 hg2 HB6
          have c3 : w7.cell? ⟨Q, 3, none⟩ = some (.int .i64 (ta : Int)) := by rw [cell_of_row _ _ _ _ _ _ (cells.out _ X7.out.2.1)]; rfl
          have f3 : w7.cell? ⟨F, 3, none⟩ = some (.int .i64 0) := by rw [cell_of_row _ _ _ _ _ _ X7.out.1]; rfl
          have fz := Lib.frozen_of_heap X7.out.1
          go_upto_region 17 with fail
          obtain ⟨w8, hw8⟩ : ∃ w8, w8 = w7.setCell ⟨F, 3, none⟩ (.int .i64 (ta : Int)) := ⟨_, rfl⟩
          have X8 : Hid (w8.heap[F]? = some (.cells #[.int .u8 (tk : Int), .string tb, .int .i64 tn, .int .i64 (ta : Int)] 26 (0, 0)) ∧ Below w3.heap.size w3 w8) := by
            rw [hw8]
            exact ⟨heap_setCell_same w7 _ 3 _ 26 _ X7.out.1, X7.out.2.1.setCell X7.out.2.2.2 _⟩
          rw [← hw8]
          clear hw8 c3 f3 fz X7
          obtain ⟨c0, c1, c2', c3⟩ : w8.cell? ⟨Q, 0, none⟩ = some (.int .u8 (tk : Int)) ∧ w8.cell? ⟨Q, 1, none⟩ = some (.string tb) ∧ w8.cell? ⟨Q, 2, none⟩ = some (.int .i64 tn) ∧ w8.cell? ⟨Q, 3, none⟩ = some (.int .i64 (ta : Int)) := by
            refine ⟨?_, ?_, ?_, ?_⟩ <;> (rw [cell_of_row _ _ _ _ _ _ (cells.out _ X8.out.2)]; rfl)
          obtain ⟨f0, f1, f2, f3⟩ : w8.cell? ⟨F, 0, none⟩ = some (.int .u8 (tk : Int)) ∧ w8.cell? ⟨F, 1, none⟩ = some (.string tb) ∧ w8.cell? ⟨F, 2, none⟩ = some (.int .i64 tn) ∧ w8.cell? ⟨F, 3, none⟩ = some (.int .i64 (ta : Int)) := by
            refine ⟨?_, ?_, ?_, ?_⟩ <;> (rw [cell_of_row _ _ _ _ _ _ X8.out.1]; rfl)
          have B8 : Hid (Below w2.heap.size w2 w8) := B23.out.trans (X8.out.2.mono B23.out.size)
          by_cases h20 : 20 < j
          · have q20 : (20 : Int) < (j : Int) := by omega
            have HF := HB2.out.trans (B8.out.mono HB2.out.size)
            go_wp2
            go_ret
            exact ⟨rfl, HF⟩
          · have q20 : ¬ (20 : Int) < (j : Int) := by omega
            go_wp2
            go_roundw
            case rel => first | exact ⟨j + 1, Nat.succ_le_of_lt hlt, by go_num, B8.out⟩ | ((repeat apply Exists.intro); exact ⟨⟨j + 1, Nat.succ_le_of_lt hlt, by go_num, B8.out⟩, rfl⟩)
            case measure =>
              simp only [intOf]
              exact Lx.arD hlt
      · have q0 : ¬ (j : Int) < (m : Int) := by omega
        have HF := HBW.out
        go_wp2
        go_ret
        exact ⟨rfl, HF⟩
  · have q1 : ((er : Int) == 0) = false := by rw [beq_eq_false_iff_ne]; omega
    have q2 : ((er : Int) != 0) = true := by rw [bne, q1]; rfl
    obtain ⟨h1, h2⟩ := HBAD.out he
    have hm0 : m = 0 := by
      have := HM.out
      simp only at h1
      rw [h1] at this
      exact this
    subst hm0
    have q3 : (ps : Int) ≤ n := by rw [HN.out]; simp only at h2; omega
    have q4 : (0 : Int) ≤ (ps : Int) := by omega
    have HF := HB2.out
    clear h1 h2 he
    go_wp2
    go_ret
    exact ⟨rfl, HF⟩
end Go.Proofs.YtdejnphiejkglaaDoor
