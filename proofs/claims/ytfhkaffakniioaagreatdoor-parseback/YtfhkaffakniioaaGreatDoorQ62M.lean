/- Several texts, joined: PyC, PyD -/
import Derived.Test.YtfhkaffakniioaaGreatDoorQ61M
import Derived.Deep.AppendLies
/- An expression's text: walked. -/
namespace Go.Proofs.YtfhkaffakniioaaGreatDoor
open Go.RowKit
namespace Ps
theorem own_cut {W : World} {B g n c : Nat} {l : List Bs} (h : OwnT W B (.slice (some ⟨g, 0, none⟩) n c) l) (f : Nat) (hf : f ≤ n) : OwnT W B (.slice (some ⟨g, 0, none⟩) f c) (l.take f) ∧ SR W (some ⟨g, f, none⟩) (l.drop f) ∧ n ≤ c := by
  have hsr := h.sr
  obtain ⟨h1, h2, h3, h4⟩ := hsr
  rcases h.2 with ⟨e, _⟩ | ⟨g', cap, cur, e, q1, q2, q3, q4, q5, q6⟩
  · cases e
  · injection e with e1 e2 e3
    injection e1 with e1
    injection e1 with e1
    subst e1 e3
    refine ⟨⟨by rw [List.length_map, Nat.mul_one], .inr ⟨g, c, cur, by rw [List.length_take, Nat.min_eq_left (by omega)], q1, q2, by rw [List.length_take]; omega, q4, q5, ?_⟩⟩, fun j x hx => ?_, h2⟩
    · rw [List.length_take, Nat.min_eq_left (by omega), Nat.mul_one, List.map_take, ← q6, List.take_take, Nat.min_eq_left (by omega)]
    · rw [List.getElem?_drop] at hx
      obtain ⟨g2, o2, e4, hc⟩ := h3 (f + j) x hx
      cases e4
      exact ⟨g, f, rfl, by rw [Nat.zero_add] at hc; exact hc⟩
theorem wsubN {a b : Nat} (h : b ≤ a) (ha : a ≤ 100000) : IntKind.i64.wrap ((a : Int) - (b : Int)) = ((a - b : Nat) : Int) ∧ wrap64 ((a : Int) - (b : Int)) = ((a - b : Nat) : Int) := wrp (by omega) (by omega)
theorem tot_take (l : List Bs) (f : Nat) : tot (l.take f) + tot (l.drop f) = tot l := by rw [← tot_app, List.take_append_drop]
/-- the loop's round -/
structure SH (l : List Sp) (w : World) (j : Nat) (st : List Bs) (v : Value) (wr : World) : Prop where
  stack : stackL l [] = stackL (l.drop j) st
  right : rightL (l.drop j) st.length = true
  tot : Ps.tot st ≤ j * 4500
  below : Below w.heap.size w wr
  own : OwnT wr w.heap.size v st
  few : st.length ≤ j
set_option maxHeartbeats 8000000 in
set_option maxRecDepth 100000 in
theorem shown_c (l : List Sp) (a : Option Addr) (n c : Nat) (w : World) (hr : rightE l = true) (hn : n = l.length) (hs : Sts w a l) (hf : ∀ p ∈ l, fitS p) (hL : HasL w) (hO : HasO w) : Calls Tryz.prog 27 #[.slice a n c] w fun e w' => e = .returned (.string (Lx.bs (shownE l))) ∧ Below w.heap.size w w' := by
  obtain ⟨i0, hi, hz0, hz1, hz2⟩ := info_partsP infoStr
  have hrr : l.length ≤ 128 ∧ rightL l 0 = true := by
    rw [rightE, Bool.and_eq_true, decide_eq_true_iff] at hr
    exact hr
  have HS : Hid (Sts w a l ∧ n = l.length ∧ n ≤ 128 ∧ (∀ p ∈ l, fitS p) ∧ HasL w ∧ HasO w ∧ rightL l 0 = true) := ⟨hs, hn, by omega, hf, hL, hO, hrr.2⟩
  clear hr hn hs hf hL hO hrr
  go_enter Tryz.func27, Tryz.ntmps27
  go_wp2
  go_loopw [3, 9] (fun v i wr => ∃ (j : Nat) (st : List Bs), j ≤ n ∧ i = .int .i64 j ∧ Hid (SH l w j st v wr)) (fun _ i _ => n - (intOf i).toNat)
  case atStart => exact ⟨0, [], Nat.zero_le _, rfl, rfl, HS.out.2.2.2.2.2.2, Nat.zero_le _, Below.refl _ _, ⟨rfl, .inl ⟨rfl, rfl⟩⟩, Nat.le_refl _⟩
  case round =>
    obtain ⟨j, st, hj, rfl, HI⟩ := hrel
    obtain ⟨m, hm⟩ : ∃ m, m = st.length := ⟨_, rfl⟩
    have HM : Hid (m = st.length ∧ m ≤ 128) := ⟨hm, by have := HI.out.few; have := HS.out; omega⟩
    by_cases hlt : j < n
    · have q0 : (j : Int) < (n : Int) := by omega
      have q1 : (0 : Int) ≤ (j : Int) := by omega
      obtain ⟨p, hp⟩ : ∃ p, l[j]? = some p := ⟨_, List.getElem?_eq_getElem (by have := HS.out; omega)⟩
      obtain ⟨g0, o0, rfl, c0, c1, c2⟩ := (HS.out.1.call HI.out.below) j p hp
      have hrl := HI.out.right
      rw [rightL_step hp, Bool.and_eq_true, Bool.and_eq_true, decide_eq_true_iff] at hrl
      obtain ⟨tk, htk⟩ : ∃ tk, tk = takesSp p := ⟨_, rfl⟩
      obtain ⟨f, hfm⟩ : ∃ f, f = m - tk := ⟨_, rfl⟩
      have HP : Hid (rightSp p = true ∧ tk = takesSp p ∧ tk ≤ m ∧ f = m - tk ∧ f + tk = m ∧ rightL (l.drop (j + 1)) (m + 1 - tk) = true ∧ fitS p ∧ j < n ∧ stackL (l.drop j) st = stackL (l.drop (j + 1)) (st.take f ++ [stepTx p (st.drop f)])) := by
        refine ⟨hrl.1.1, htk, by rw [htk, hm]; exact hrl.1.2, hfm, by have := hrl.1.2; omega, by rw [hm, htk]; exact hrl.2, HS.out.2.2.2.1 p (List.mem_of_getElem? hp), hlt, ?_⟩
        rw [stack_step hp, hfm, hm, htk]
      obtain ⟨w1, hw1⟩ : ∃ w1, w1 = wr.alloc (.cells #[.int .u8 (p.kind : Int), .string (Lx.bs p.text), .int .i64 p.n] 29) := ⟨_, rfl⟩
      obtain ⟨T, hT⟩ : ∃ T, T = wr.heap.size := ⟨_, rfl⟩
      have X1 : Hid (w1.heap[T]? = some (.cells #[.int .u8 (p.kind : Int), .string (Lx.bs p.text), .int .i64 p.n] 29 (0, 0)) ∧ Below w.heap.size w w1 ∧ Below wr.heap.size wr w1) := ⟨by rw [hw1, hT]; exact heap_alloc_new wr _, by rw [hw1]; exact HI.out.below.alloc HI.out.below.size _, by rw [hw1]; exact bnew _ _⟩
      have y0 : w1.cell? ⟨T, 0, none⟩ = some (.int .u8 (p.kind : Int)) := by rw [cell_of_row _ _ _ _ _ _ X1.out.1]; rfl
      have y1 : w1.cell? ⟨T, 1, none⟩ = some (.string (Lx.bs p.text)) := by rw [cell_of_row _ _ _ _ _ _ X1.out.1]; rfl
      have y2 : w1.cell? ⟨T, 2, none⟩ = some (.int .i64 p.n) := by rw [cell_of_row _ _ _ _ _ _ X1.out.1]; rfl
      have CT : Hid (Calls Tryz.prog 30 #[.agg #[.int .u8 (p.kind : Int), .string (Lx.bs p.text), .int .i64 p.n]] w1 fun e w' => e = .returned (.int .i64 (tk : Int)) ∧ Below w1.heap.size w1 w') := by
        rw [htk]
        exact takes_c p (right_nonneg HP.out.1) w1
      obtain ⟨x, hx⟩ : ∃ x, x = stepTx p (st.drop f) := ⟨_, rfl⟩
      have HX : Hid (x = stepTx p (st.drop f) ∧ x.length ≤ tot (st.drop f) + 4500 ∧ ∀ y ∈ st.drop f, y.length ≤ 1000000) := by
        have ht64 := takes_small HP.out.1
        have hl2 : (st.drop f).length = tk := by rw [List.length_drop]; have := HP.out; have := HM.out.1; omega
        refine ⟨hx, by rw [hx]; exact step_cost HP.out.1 (by rw [hl2, htk]; exact ht64) HP.out.2.2.2.2.2.2.1.2, fun y hy => ?_⟩
        have e1 := tot_mem (List.mem_of_mem_drop hy)
        have e2 := HI.out.tot
        have e3 : j * 4500 ≤ 128 * 4500 := Nat.mul_le_mul_right _ (by have := HS.out; omega)
        omega
      have CS : Hid (∀ W pa pc, Below w.heap.size w W → tk ≤ pc → pc ≤ 9223372036854775807 → SR W pa (st.drop f) → Calls Tryz.prog 52 #[.agg #[.int .u8 (p.kind : Int), .string (Lx.bs p.text), .int .i64 p.n], .slice pa tk pc] W fun e w' => e = .returned (.string (Lx.bs x)) ∧ Below W.heap.size W w') := fun W pa pc hW h1 h2 h3 => by
        rw [hx]
        exact stepText_c p (st.drop f) pa tk pc W HP.out.1 HP.out.2.2.2.2.2.2.1.2 HP.out.2.2.2.2.2.2.1.1 (by rw [List.length_drop]; have := HP.out; have := HM.out.1; omega) HP.out.2.1 ⟨h1, h2⟩ HX.out.2.2 h3 (HS.out.2.2.2.2.1.stays hW) (HS.out.2.2.2.2.2.1.stays hW)
      obtain ⟨j1, hj1⟩ : ∃ j1, j1 = j + 1 := ⟨_, rfl⟩
      have HJ1 : Hid (j1 = j + 1) := hj1
      have HV : Hid (IntKind.i64.wrap ((j : Int) + 1) = (j1 : Int) ∧ wrap64 ((j : Int) + 1) = (j1 : Int)) := wrp (by omega) (by have := HS.out; omega)
      have HVF : Hid (IntKind.i64.wrap ((m : Int) - (tk : Int)) = (f : Int) ∧ wrap64 ((m : Int) - (tk : Int)) = (f : Int)) := by rw [hfm]; exact wsubN HP.out.2.2.1 (by have := HM.out; omega)
      have FIN : Hid (∀ (W5 : World) (v' : Value) (W4 : World) (sv : Value), OwnT W4 w.heap.size sv (st.take f) → Below w.heap.size w W4 → (W4.alloc (.cells #[.string (Lx.bs x)] 9)).grownBy W5 sv.ownBlock → W5.ownsRow w.heap.size 9 1 v' (f + 1) (((st.take f).map fun x => Value.string (Lx.bs x)) ++ [.string (Lx.bs x)]) → SH l w j1 (st.take f ++ [x]) v' W5) := fun W5 v' W4 sv ho hb hg hn => by
        have hfl : (st.take f).length = f := by rw [List.length_take, Nat.min_eq_left (by have := HP.out; have := HM.out.1; omega)]
        obtain ⟨r1, r2⟩ := ho.push hb (bnew W4 _) hg (by rw [hfl]; exact hn)
        refine ⟨?_, ?_, ?_, r1, r2, ?_⟩
        · rw [HI.out.stack, HP.out.2.2.2.2.2.2.2.2, HX.out.1, HJ1.out]
        · rw [List.length_append, hfl, List.length_singleton, HJ1.out, show f + 1 = m + 1 - tk by have := HP.out; omega]
          exact HP.out.2.2.2.2.2.1
        · rw [tot_app]
          have e1 := tot_take st f
          have e2 := HI.out.tot
          have e3 := HX.out.2.1
          have e4 : (j + 1) * 4500 = j * 4500 + 4500 := Nat.succ_mul _ _
          rw [HJ1.out, e4]
          show tot (st.take f) + (x.length + 0) ≤ _
          omega
        · rw [List.length_append, hfl, List.length_singleton]
          have := HI.out.few
          have := HP.out
          have := HM.out.1
          have := HJ1.out
          omega
      have fit63 : Hid (f + 1 ≤ maxLen) := by show _ ≤ _; have := HM.out; have := HP.out; unfold maxLen; omega
      have fit47 : Hid ((f + 1) * 16 ≤ 140737488355328) := by show _ ≤ _; have := HM.out; have := HP.out; omega
      clear hrl hp hlt hj hm htk hx hj1 hfm
      rcases HI.out.own.2 with ⟨hnv, hnl⟩ | ⟨gg, cap, cur, hnv, hgB, hgrow, hg1, hg2, hg3, hg4⟩
      · obtain rfl := hnv
        have hm0 : m = 0 := by rw [HM.out.1]; exact hnl
        subst hm0
        have hf0 : f = 0 := by have := HP.out; omega
        have ht0 : tk = 0 := by have := HP.out; omega
        subst hf0 ht0
        have HST : Hid (st.take 0 = [] ∧ st.drop 0 = []) := by
          have : st = [] := List.length_eq_zero_iff.1 hnl
          rw [this]
          exact ⟨rfl, rfl⟩
        obtain ⟨vf1, vf2⟩ := HVF.out
        clear hnl
        go_upto_region 5 with fail
        rw [← hw1, ← hT]
        clear hw1 hT c0 c1 c2
        go_wp2_with fail
        refine (CT.out).mono ?_
        rintro e w2 ⟨rfl, hb2⟩
        have X2 : Hid (w2.heap[T]? = some (.cells #[.int .u8 (p.kind : Int), .string (Lx.bs p.text), .int .i64 p.n] 29 (0, 0)) ∧ Below w.heap.size w w2) := ⟨(hb2.block T (row_lt X1.out.1)).trans X1.out.1, X1.out.2.1.trans (hb2.mono X1.out.2.1.size)⟩
        clear hb2 CT y0 y1 y2
        have y0 : w2.cell? ⟨T, 0, none⟩ = some (.int .u8 (p.kind : Int)) := by rw [cell_of_row _ _ _ _ _ _ X2.out.1]; rfl
        have y1 : w2.cell? ⟨T, 1, none⟩ = some (.string (Lx.bs p.text)) := by rw [cell_of_row _ _ _ _ _ _ X2.out.1]; rfl
        have y2 : w2.cell? ⟨T, 2, none⟩ = some (.int .i64 p.n) := by rw [cell_of_row _ _ _ _ _ _ X2.out.1]; rfl
        have tl := row_lt X2.out.1
        have CS2 : Hid (∀ W, Below w2.heap.size w2 W → Calls Tryz.prog 52 #[.agg #[.int .u8 (p.kind : Int), .string (Lx.bs p.text), .int .i64 p.n], .slice none 0 0] W fun e w' => e = .returned (.string (Lx.bs x)) ∧ Below W.heap.size W w') := fun W hW => CS.out W none 0 (X2.out.2.trans (hW.mono X2.out.2.size)) (Nat.le_refl _) (by decide) (by rw [HST.out.2]; exact SR.nil _ _)
        clear vf1 vf2
        go_upto_region 6 with fail
        go_region_law (first
          | (go_simp; go_at_call 52; refine (CS2.out _ ?_).mono ?_; (first | exact Below.refl _ _ | exact (Below.refl _ _).drew); rintro e w3 ⟨rfl, hb3⟩
             have X3 : Hid (Below w.heap.size w w3) := (X2.out.2.drew.trans (hb3.mono X2.out.2.drew.size))
             have O3 : Hid (w3.ownsRow w.heap.size 9 1 (.slice none 0 0) 0 []) := ⟨rfl, .inl ⟨rfl, rfl⟩⟩)
          | (refine step_append_lies _ (by rfl) _ _ _ (by rfl) w.heap.size 9 i0 _ 1 16 Tryz.underlying50 hi hz0 hz1 hz2 rfl (by omega) _ _ _ (by rfl) (O3.out.alloc _) ⟨w3.heap.size, 0, none⟩ 1 1 [.string (Lx.bs x)] (by rfl) (by rfl) (World.news_of_block (heap_alloc_new w3 _)) (by simp [Value.oneCell']) (by omega) fit63.out fit47.out (by have := X3.out.size; simp; omega) (w3.heap.size + 1) (by simp) ?_; intro gg cap w5 hown5 hgrow5 hat5 hglt5
             have I5 : Hid (SH l w j1 (st.take 0 ++ [x]) (.slice (some ⟨gg, 0, none⟩) 1 cap) w5) := (FIN.out w5 _ w3 (.slice none 0 0) (by rw [HST.out.1]; exact ⟨rfl, .inl ⟨rfl, rfl⟩⟩) X3.out hgrow5 (by rw [HST.out.1]; exact hown5))
             clear hown5 hgrow5 hat5 hglt5)
          | fail "no arm")
        all_goals
          obtain ⟨v1, v2⟩ := HV.out
          go_wp2
          clear v1 v2
          go_roundw
        all_goals first
          | (simp only [intOf]; have := HJ1.out; have := HP.out; omega)
          | exact ⟨j1, _, by have := HJ1.out; have := HP.out; omega, rfl, I5.out⟩
          | ((repeat apply Exists.intro); exact ⟨⟨j1, _, by have := HJ1.out; have := HP.out; omega, rfl, I5.out⟩, rfl⟩)
      · obtain rfl := hnv
        rw [← HM.out.1]
        have hm1 : m ≤ cap := by rw [HM.out.1]; exact hg1
        have e9 : maxLen = 9223372036854775807 := by decide
        have OC := HI.out.own
        rw [← HM.out.1] at OC
        obtain ⟨oc1, oc2, oc3⟩ := own_cut OC f (by have := HP.out; omega)
        have HOC : Hid (OwnT wr w.heap.size (.slice (some ⟨gg, 0, none⟩) f cap) (st.take f) ∧ SR wr (some ⟨gg, f, none⟩) (st.drop f) ∧ f ≤ m ∧ m ≤ cap ∧ cap ≤ 9223372036854775807 ∧ tk = m - f ∧ (st.take f).length = f) := ⟨oc1, oc2, by have := HP.out; omega, hm1, by omega, by have := HP.out; omega, by rw [List.length_take, Nat.min_eq_left (by have := HP.out; have := HM.out.1; omega)]⟩
        have s0 : (0 : Int) ≤ (f : Int) := by omega
        have s1 : (f : Int) ≤ (cap : Int) := by have := HOC.out; omega
        have s2 : (f : Int) ≤ (m : Int) := by have := HOC.out; omega
        have s3 : (m : Int) ≤ (cap : Int) := by omega
        have s4 : m - f = tk := by have := HOC.out; omega
        obtain ⟨vf1, vf2⟩ := HVF.out
        clear hgB hgrow hg1 hg2 hg3 hg4 OC oc1 oc2 oc3 hm1 e9
        go_upto_region 5 with fail
        rw [← hw1, ← hT]
        clear hw1 hT c0 c1 c2
        go_wp2_with fail
        refine (CT.out).mono ?_
        rintro e w2 ⟨rfl, hb2⟩
        have X2 : Hid (w2.heap[T]? = some (.cells #[.int .u8 (p.kind : Int), .string (Lx.bs p.text), .int .i64 p.n] 29 (0, 0)) ∧ Below w.heap.size w w2 ∧ Below wr.heap.size wr w2) := ⟨(hb2.block T (row_lt X1.out.1)).trans X1.out.1, X1.out.2.1.trans (hb2.mono X1.out.2.1.size), X1.out.2.2.trans (hb2.mono X1.out.2.2.size)⟩
        clear hb2 CT y0 y1 y2
        have y0 : w2.cell? ⟨T, 0, none⟩ = some (.int .u8 (p.kind : Int)) := by rw [cell_of_row _ _ _ _ _ _ X2.out.1]; rfl
        have y1 : w2.cell? ⟨T, 1, none⟩ = some (.string (Lx.bs p.text)) := by rw [cell_of_row _ _ _ _ _ _ X2.out.1]; rfl
        have y2 : w2.cell? ⟨T, 2, none⟩ = some (.int .i64 p.n) := by rw [cell_of_row _ _ _ _ _ _ X2.out.1]; rfl
        have tl := row_lt X2.out.1
        have CS2 : Hid (∀ W, Below w2.heap.size w2 W → Calls Tryz.prog 52 #[.agg #[.int .u8 (p.kind : Int), .string (Lx.bs p.text), .int .i64 p.n], .slice (some ⟨gg, f, none⟩) tk (cap - f)] W fun e w' => e = .returned (.string (Lx.bs x)) ∧ Below W.heap.size W w') := fun W hW => CS.out W _ _ (X2.out.2.1.trans (hW.mono X2.out.2.1.size)) (by have := HOC.out; omega) (by have := HOC.out; omega) ((HOC.out.2.1.call X2.out.2.2).call hW)
        have CS3 : Hid (cap = f → ∀ W, Below w2.heap.size w2 W → Calls Tryz.prog 52 #[.agg #[.int .u8 (p.kind : Int), .string (Lx.bs p.text), .int .i64 p.n], .slice (some ⟨gg, 0, none⟩) tk 0] W fun e w' => e = .returned (.string (Lx.bs x)) ∧ Below W.heap.size W w') := fun hcf W hW => CS.out W _ _ (X2.out.2.1.trans (hW.mono X2.out.2.1.size)) (by have := HOC.out; omega) (by decide) (by
          have : st.drop f = [] := List.drop_eq_nil_of_le (by have := HOC.out; have := HM.out.1; omega)
          rw [this]
          exact SR.nil _ _)
        by_cases hcf : cap = f
        · have CS4 := hidp (CS3.out hcf)
          subst hcf
          go_upto_region 6 with fail
          clear vf1 vf2
          go_region_law (first
            | (go_simp; go_at_call 52; refine (CS4.out _ ?_).mono ?_; (first | exact Below.refl _ _ | exact (Below.refl _ _).drew); rintro e w3 ⟨rfl, hb3⟩
               have X3 : Hid (Below w.heap.size w w3 ∧ Below wr.heap.size wr w3) := ⟨X2.out.2.1.drew.trans (hb3.mono X2.out.2.1.drew.size), X2.out.2.2.drew.trans (hb3.mono X2.out.2.2.drew.size)⟩
               have O3 : Hid (OwnT w3 w.heap.size (.slice (some ⟨gg, 0, none⟩) cap cap) (st.take cap) ∧ w3.ownsRow w.heap.size 9 1 (.slice (some ⟨gg, 0, none⟩) cap cap) cap ((st.take cap).map fun x => Value.string (Lx.bs x))) := (by
                 have h1 := HOC.out.1.call X3.out.2
                 have h2 := h1
                 unfold OwnT at h2
                 rw [HOC.out.2.2.2.2.2.2] at h2
                 exact ⟨h1, h2⟩))
            | (refine step_append_lies _ (by rfl) _ _ _ (by rfl) w.heap.size 9 i0 _ 1 16 Tryz.underlying50 hi hz0 hz1 hz2 rfl (by omega) _ _ _ (by rfl) (O3.out.2.alloc _) ⟨w3.heap.size, 0, none⟩ 1 1 [.string (Lx.bs x)] (by rfl) (by rfl) (World.news_of_block (heap_alloc_new w3 _)) (by simp [Value.oneCell']) (by omega) fit63.out fit47.out (by have := X3.out.1.size; simp; omega) (w3.heap.size + 1) (by simp) ?_; intro gg' cap' w5 hown5 hgrow5 hat5 hglt5
               have I5 : Hid (SH l w j1 (st.take cap ++ [x]) (.slice (some ⟨gg', 0, none⟩) (cap + 1) cap') w5) := (FIN.out w5 _ w3 _ O3.out.1 X3.out.1 hgrow5 hown5)
               clear hown5 hgrow5 hat5 hglt5)
            | fail "no arm")
          all_goals
            obtain ⟨v1, v2⟩ := HV.out
            go_wp2
            clear v1 v2
            go_roundw
          all_goals first
            | (simp only [intOf]; have := HJ1.out; have := HP.out; omega)
            | exact ⟨j1, _, by have := HJ1.out; have := HP.out; omega, rfl, I5.out⟩
            | ((repeat apply Exists.intro); exact ⟨⟨j1, _, by have := HJ1.out; have := HP.out; omega, rfl, I5.out⟩, rfl⟩)
        · have z0 : ¬ cap = f := hcf
          go_upto_region 6 with fail
          clear vf1 vf2
          go_region_law (first
            | (go_simp; go_at_call 52; refine (CS2.out _ ?_).mono ?_; (first | exact Below.refl _ _ | exact (Below.refl _ _).drew); rintro e w3 ⟨rfl, hb3⟩
               have X3 : Hid (Below w.heap.size w w3 ∧ Below wr.heap.size wr w3) := ⟨X2.out.2.1.drew.trans (hb3.mono X2.out.2.1.drew.size), X2.out.2.2.drew.trans (hb3.mono X2.out.2.2.drew.size)⟩
               have O3 : Hid (OwnT w3 w.heap.size (.slice (some ⟨gg, 0, none⟩) f cap) (st.take f) ∧ w3.ownsRow w.heap.size 9 1 (.slice (some ⟨gg, 0, none⟩) f cap) f ((st.take f).map fun x => Value.string (Lx.bs x))) := (by
                 have h1 := HOC.out.1.call X3.out.2
                 have h2 := h1
                 unfold OwnT at h2
                 rw [HOC.out.2.2.2.2.2.2] at h2
                 exact ⟨h1, h2⟩))
            | (refine step_append_lies _ (by rfl) _ _ _ (by rfl) w.heap.size 9 i0 _ 1 16 Tryz.underlying50 hi hz0 hz1 hz2 rfl (by omega) _ _ _ (by rfl) (O3.out.2.alloc _) ⟨w3.heap.size, 0, none⟩ 1 1 [.string (Lx.bs x)] (by rfl) (by rfl) (World.news_of_block (heap_alloc_new w3 _)) (by simp [Value.oneCell']) (by omega) fit63.out fit47.out (by have := X3.out.1.size; simp; omega) (w3.heap.size + 1) (by simp) ?_; intro gg' cap' w5 hown5 hgrow5 hat5 hglt5
               have I5 : Hid (SH l w j1 (st.take f ++ [x]) (.slice (some ⟨gg', 0, none⟩) (f + 1) cap') w5) := (FIN.out w5 _ w3 _ O3.out.1 X3.out.1 hgrow5 hown5)
               clear hown5 hgrow5 hat5 hglt5)
            | fail "no arm")
          all_goals
            obtain ⟨v1, v2⟩ := HV.out
            go_wp2
            clear v1 v2
            go_roundw
          all_goals first
            | (simp only [intOf]; have := HJ1.out; have := HP.out; omega)
            | exact ⟨j1, _, by have := HJ1.out; have := HP.out; omega, rfl, I5.out⟩
            | ((repeat apply Exists.intro); exact ⟨⟨j1, _, by have := HJ1.out; have := HP.out; omega, rfl, I5.out⟩, rfl⟩)
    · have q0 : ¬ (j : Int) < (n : Int) := by omega
      have HE : Hid (∃ x, st = [x] ∧ shownE l = x) := by
        have h1 := HI.out.right
        have h2 := HI.out.stack
        rw [List.drop_eq_nil_of_le (by have := HS.out; omega)] at h1 h2
        rw [rightL, decide_eq_true_iff] at h1
        match st, h1, h2 with
        | [x], _, h2 => exact ⟨x, rfl, by rw [shownE, h2, stackL]; rfl⟩
      obtain ⟨x, hst, hsh⟩ := HE.out
      obtain ⟨ga, gc, hv⟩ := HI.out.own.form
      have ho := HI.out.own
      rw [hv] at ho
      obtain ⟨o1, o2, o3, o4⟩ := ho.sr
      subst hst
      obtain ⟨g1, o1', e1, cx⟩ := o3 0 x rfl
      rw [Nat.add_zero] at cx
      subst hv e1
      have HF : Hid (shownE l = x ∧ Below w.heap.size w wr) := ⟨hsh, HI.out.below⟩
      clear hsh ho o1 o2 o3 o4 hlt hj hm HM HI HE
      go_wp2
      go_ret
      exact ⟨by rw [HF.out.1]; rfl, HF.out.2⟩
end Ps
end Go.Proofs.YtfhkaffakniioaaGreatDoor
/- Items' texts, a condition's, an order's: walked. -/
namespace Go.Proofs.YtfhkaffakniioaaGreatDoor
open Go.RowKit
namespace Ps
theorem stack_len : ∀ (l : List Sp) (st : List Bs), rightL l st.length = true → (∀ p ∈ l, fitS p) → tot (stackL l st) ≤ tot st + l.length * 4500
  | [], st, _, _ => Nat.le_add_right _ _
  | p :: r, st, h, hf => by
    rw [rightL, Bool.and_eq_true, Bool.and_eq_true, decide_eq_true_iff] at h
    have h64 := takes_small h.1.1
    have hl : (st.drop (st.length - takesSp p)).length = takesSp p := by rw [List.length_drop]; omega
    have hc := step_cost (ps := st.drop (st.length - takesSp p)) h.1.1 (by rw [hl]; exact h64) (hf p (List.mem_cons_self ..)).2
    have ht := tot_take st (st.length - takesSp p)
    have ih := stack_len r (st.take (st.length - takesSp p) ++ [stepTx p (st.drop (st.length - takesSp p))]) (by
      rw [List.length_append, List.length_take, List.length_singleton, Nat.min_eq_left (by omega), show st.length - takesSp p + 1 = st.length + 1 - takesSp p by omega]
      exact h.2) (fun q hq => hf q (List.mem_cons_of_mem _ hq))
    rw [tot_app] at ih
    have e1 : tot [stepTx p (st.drop (st.length - takesSp p))] = (stepTx p (st.drop (st.length - takesSp p))).length := rfl
    have e2 : (p :: r).length * 4500 = r.length * 4500 + 4500 := Nat.succ_mul _ _
    rw [e1] at ih
    rw [stackL, e2]
    omega
theorem shown_len {l : List Sp} (h : rightE l = true) (hf : ∀ p ∈ l, fitS p) : (shownE l).length ≤ 576000 := by
  rw [rightE, Bool.and_eq_true, decide_eq_true_iff] at h
  have h1 := stack_len l [] h.2 hf
  have h2 := tot_getD (stackL l []) 0
  have h3 : l.length * 4500 ≤ 128 * 4500 := Nat.mul_le_mul_right _ h.1
  have e : tot ([] : List Bs) = 0 := rfl
  rw [e] at h1
  show ((stackL l []).getD 0 []).length ≤ _
  omega
/-- what items must be to be shown -/
structure ItOK (l : List It) : Prop where
  few : l.length ≤ 64
  right : ∀ i ∈ l, rightE i.expr = true
  fit : ∀ i ∈ l, ∀ p ∈ i.expr, fitS p
  nm : ∀ i ∈ l, i.name.length ≤ 64
theorem items_len {l : List It} (h : ItOK l) (b : Bool) : ∀ x ∈ itemsTx b l, x.length ≤ 600000 := fun x hx => by
  rw [itemsTx] at hx
  obtain ⟨i, hi, rfl⟩ := List.mem_map.1 hx
  have h1 := shown_len (h.right i hi) (h.fit i hi)
  have h2 := h.nm i hi
  cases b
  · show (shownE i.expr ++ [32, 65, 83, 32] ++ i.name).length ≤ _
    rw [List.length_append, List.length_append, show [(32 : UInt8), 65, 83, 32].length = 4 from rfl]
    omega
  · show (i.name ++ [32, 61, 32] ++ shownE i.expr).length ≤ _
    rw [List.length_append, List.length_append, show [(32 : UInt8), 61, 32].length = 3 from rfl]
    omega
theorem items_step {l : List It} {j : Nat} {i : It} (b : Bool) (h : l[j]? = some i) : itemsTx b (l.take (j + 1)) = itemsTx b (l.take j) ++ itemsTx b [i] := by
  rw [List.take_add_one, h, itemsTx, itemsTx, itemsTx, List.map_append]
  rfl
set_option maxHeartbeats 8000000 in
set_option maxRecDepth 100000 in
theorem sets_c (l : List It) (a : Option Addr) (n c : Nat) (w : World) (hn : n = l.length) (hk : ItOK l) (hs : Itm w a l) (hL : HasL w) (hO : HasO w) : Calls Tryz.prog 46 #[.slice a n c] w fun e w' => e = .returned (.string (Lx.bs (join [44, 32] (itemsTx true l)))) ∧ Below w.heap.size w w' := by
  obtain ⟨i0, hi, hz0, hz1, hz2⟩ := info_partsP infoStr
  have HS : Hid (Itm w a l ∧ n = l.length ∧ ItOK l ∧ HasL w ∧ HasO w ∧ n ≤ 64) := ⟨hs, hn, hk, hL, hO, by have := hk.few; omega⟩
  obtain ⟨J, hJ⟩ : ∃ J, J = join [44, 32] (itemsTx true l) := ⟨_, rfl⟩
  have CJ : Hid (∀ W x cc, Below w.heap.size w W → OwnT W w.heap.size (.slice x n cc) (itemsTx true l) → Calls Tryz.prog 23 #[.slice x n cc, .string ⟨#[44, 32]⟩] W fun e w' => e = .returned (.string (Lx.bs J)) ∧ Below W.heap.size W w') := fun W x cc hW ho => by
    rw [hJ]
    obtain ⟨o1, o2, o3, o4⟩ := ho.sr
    have e9 : maxLen = 9223372036854775807 := by decide
    exact join_g 600000 [44, 32] _ x n cc W o1 (by have := HS.out; omega) o2 (by omega) o3 (by decide) (items_len hk _) (Nat.le_trans (Nat.mul_le_mul_right _ (show n + 1 ≤ 65 by have := HS.out; omega)) (by decide))
  rw [← hJ]
  skip
  clear hn hk hs hL hO hJ
  go_enter Tryz.func46, Tryz.ntmps46
  go_wp2
  go_loopw [3, 8] (fun v i wr => ∃ j : Nat, j ≤ n ∧ i = .int .i64 j ∧ Hid (Below w.heap.size w wr ∧ OwnT wr w.heap.size v (itemsTx true (l.take j)))) (fun _ i _ => n - (intOf i).toNat)
  case atStart => exact ⟨0, Nat.zero_le _, rfl, Below.refl _ _, rfl, .inl ⟨rfl, rfl⟩⟩
  case round =>
    obtain ⟨j, hj, rfl, HI⟩ := hrel
    obtain ⟨nl, hnl⟩ : ∃ nl, nl = itemsTx true (l.take j) := ⟨_, rfl⟩
    rw [← hnl] at HI
    obtain ⟨na, nc, hnv⟩ := HI.out.2.form
    obtain ⟨k, hk⟩ : ∃ k, k = nl.length := ⟨_, rfl⟩
    rw [← hk] at hnv
    have HK : Hid (k = nl.length ∧ k = j ∧ nl = itemsTx true (l.take j)) := ⟨hk, by rw [hk, hnl, itemsTx, List.length_map, List.length_take]; have := HS.out; omega, hnl⟩
    subst hnv
    clear hk hnl
    by_cases hlt : j < n
    · have q0 : (j : Int) < (n : Int) := by omega
      have q1 : (0 : Int) ≤ (j : Int) := by omega
      obtain ⟨i, hi2⟩ : ∃ i, l[j]? = some i := ⟨_, List.getElem?_eq_getElem (by have := HS.out; omega)⟩
      obtain ⟨g, o, ea, ec, rfl, c0, c1, hsts⟩ := (HS.out.1.call HI.out.1) j i hi2
      have him := List.mem_of_getElem? hi2
      obtain ⟨tx, htx⟩ : ∃ tx, tx = shownE i.expr := ⟨_, rfl⟩
      have hnl := HS.out.2.2.1.nm i him
      have htl : tx.length ≤ 576000 := by rw [htx]; exact shown_len (HS.out.2.2.1.right i him) (HS.out.2.2.1.fit i him)
      have a1 := add_s (a := Lx.bs i.name) (b := ⟨#[32, 61, 32]⟩) (x := i.name) (y := [32, 61, 32]) rfl rfl (by show i.name.length + 3 ≤ _; omega)
      have a2 := add_s (a := Lx.bs (i.name ++ [32, 61, 32])) (b := Lx.bs tx) (x := i.name ++ [32, 61, 32]) (y := tx) rfl rfl (by rw [List.length_append]; show i.name.length + 3 + tx.length ≤ _; omega)
      obtain ⟨z1, hz1'⟩ : ∃ z, z = Lx.bs (i.name ++ [32, 61, 32]) := ⟨_, rfl⟩
      obtain ⟨y, hy⟩ : ∃ y, y = i.name ++ [32, 61, 32] ++ tx := ⟨_, rfl⟩
      rw [← hz1', ← hy] at a2
      rw [← hz1'] at a1
      have HP : Hid (itemsTx true (l.take (j + 1)) = nl ++ [y] ∧ j < n ∧ Sts wr ea i.expr) := ⟨by rw [items_step true hi2, HK.out.2.2, hy, htx]; rfl, hlt, hsts⟩
      obtain ⟨w1, hw1⟩ : ∃ w1, w1 = wr.alloc (.cells #[.string (Lx.bs i.name), .slice ea i.expr.length ec] 43) := ⟨_, rfl⟩
      obtain ⟨T, hT⟩ : ∃ T, T = wr.heap.size := ⟨_, rfl⟩
      have X1 : Hid (w1.heap[T]? = some (.cells #[.string (Lx.bs i.name), .slice ea i.expr.length ec] 43 (0, 0)) ∧ Below w.heap.size w w1 ∧ Below wr.heap.size wr w1) := ⟨by rw [hw1, hT]; exact heap_alloc_new wr _, by rw [hw1]; exact HI.out.1.alloc HI.out.1.size _, by rw [hw1]; exact bnew _ _⟩
      have y0 : w1.cell? ⟨T, 0, none⟩ = some (.string (Lx.bs i.name)) := by rw [cell_of_row _ _ _ _ _ _ X1.out.1]; rfl
      have y1 : w1.cell? ⟨T, 1, none⟩ = some (.slice ea i.expr.length ec) := by rw [cell_of_row _ _ _ _ _ _ X1.out.1]; rfl
      have tl := row_lt X1.out.1
      have CS : Hid (∀ W, Below w1.heap.size w1 W → Calls Tryz.prog 27 #[.slice ea i.expr.length ec] W fun e w' => e = .returned (.string (Lx.bs tx)) ∧ Below W.heap.size W w') := fun W hW => by
        rw [htx]
        have hB := X1.out.2.1.trans (hW.mono X1.out.2.1.size)
        exact shown_c i.expr ea _ ec W (HS.out.2.2.1.right i him) rfl ((HP.out.2.2.call X1.out.2.2).call hW) (HS.out.2.2.1.fit i him) (HS.out.2.2.2.1.stays hB) (HS.out.2.2.2.2.1.stays hB)
      have O1 : Hid (w1.ownsRow w.heap.size 9 1 (.slice na k nc) k (nl.map fun x => Value.string (Lx.bs x))) := by
        have := HI.out.2.call X1.out.2.2
        unfold OwnT at this
        rw [← HK.out.1] at this
        exact this
      have fit63 : Hid (k + 1 ≤ maxLen) := by show _ ≤ _; have := HK.out; have := HS.out; unfold maxLen; omega
      have fit47 : Hid ((k + 1) * 16 ≤ 140737488355328) := by show _ ≤ _; have := HK.out; have := HS.out; omega
      have FIN : Hid (∀ (W5 : World) (v' : Value) (W4 : World), OwnT W4 w.heap.size (.slice na k nc) nl → Below w.heap.size w W4 → (W4.alloc (.cells #[.string (Lx.bs y)] 9)).grownBy W5 (Value.slice na k nc).ownBlock → W5.ownsRow w.heap.size 9 1 v' (k + 1) ((nl.map fun x => Value.string (Lx.bs x)) ++ [.string (Lx.bs y)]) → Below w.heap.size w W5 ∧ OwnT W5 w.heap.size v' (itemsTx true (l.take (j + 1)))) := fun W5 v' W4 ho hb hg hn => by
        rw [HP.out.1]
        exact ho.push hb (bnew W4 _) hg (by rw [← HK.out.1]; exact hn)
      obtain ⟨j1, hj1⟩ : ∃ j1, j1 = j + 1 := ⟨_, rfl⟩
      have HJ1 : Hid (j1 = j + 1) := hj1
      have HV : Hid (IntKind.i64.wrap ((j : Int) + 1) = (j1 : Int) ∧ wrap64 ((j : Int) + 1) = (j1 : Int)) := wrp (by omega) (by have := HS.out; omega)
      rw [← hj1] at FIN
      clear hi2 hlt hj hsts him htx hnl htl hz1' hy hj1
      go_upto_region 5 with fail
      rw [← hw1, ← hT]
      clear hw1 hT c0 c1
      go_region_law (first
        | (go_simp; go_at_call 27; refine (CS.out _ ?_).mono ?_; (first | exact Below.refl _ _ | exact (Below.refl _ _).drew); rintro e w3 ⟨rfl, hb3⟩
           have X3 : Hid (Below w.heap.size w w3 ∧ Below w1.heap.size w1 w3) := ⟨X1.out.2.1.drew.trans (hb3.mono X1.out.2.1.drew.size), ((Below.refl w1.heap.size w1).drew).trans hb3⟩
           have y0 : w3.cell? ⟨T, 0, none⟩ = some (.string (Lx.bs i.name)) := (by rw [cell_of_row _ _ _ _ _ _ ((X3.out.2.block T (row_lt X1.out.1)).trans X1.out.1)]; rfl)
           have O3 : Hid (OwnT w3 w.heap.size (.slice na k nc) nl ∧ w3.ownsRow w.heap.size 9 1 (.slice na k nc) k (nl.map fun x => Value.string (Lx.bs x))) := (by
             have h2 := own_callL O1.out X3.out.2
             refine ⟨?_, h2⟩
             unfold OwnT
             rw [← HK.out.1]
             exact h2))
        | (refine step_append_lies _ (by rfl) _ _ _ (by rfl) w.heap.size 9 i0 _ 1 16 Tryz.underlying50 hi hz0 hz1 hz2 rfl (by omega) _ _ _ (by rfl) (O3.out.2.alloc _) ⟨w3.heap.size, 0, none⟩ 1 1 [.string (Lx.bs y)] (by rfl) (by rfl) (World.news_of_block (heap_alloc_new w3 _)) (by simp [Value.oneCell']) (by omega) fit63.out fit47.out (by have := X3.out.1.size; simp; omega) (w3.heap.size + 1) (by simp) ?_; intro gg' cap' w5 hown5 hgrow5 hat5 hglt5
           have I5 : Hid (Below w.heap.size w w5 ∧ OwnT w5 w.heap.size (.slice (some ⟨gg', 0, none⟩) (k + 1) cap') (itemsTx true (l.take j1))) := (FIN.out w5 _ w3 O3.out.1 X3.out.1 hgrow5 hown5)
           clear hown5 hgrow5 hat5 hglt5)
        | fail "no arm")
      all_goals
        obtain ⟨v1, v2⟩ := HV.out
        go_wp2
        clear v1 v2
        go_roundw
      all_goals first
        | (simp only [intOf]; have := HJ1.out; have := HP.out; omega)
        | exact ⟨j1, by have := HJ1.out; have := HP.out; omega, rfl, I5.out⟩
        | ((repeat apply Exists.intro); exact ⟨⟨j1, by have := HJ1.out; have := HP.out; omega, rfl, I5.out⟩, rfl⟩)
    · have q0 : ¬ (j : Int) < (n : Int) := by omega
      have HE : Hid (k = n ∧ nl = itemsTx true l) := by
        refine ⟨by have := HK.out; omega, ?_⟩
        rw [HK.out.2.2, List.take_of_length_le (by have := HS.out; omega)]
      have CJ1 := hidp (CJ.out wr na nc HI.out.1 (by have h := HI.out.2; rw [HE.out.1, HE.out.2] at h; exact h))
      rw [← HE.out.1] at CJ1
      clear hlt hj
      go_wp2_with fail
      refine (CJ1.out).mono ?_
      rintro e w3 ⟨rfl, hb3⟩
      have B3 : Hid (Below w.heap.size w w3) := HI.out.1.trans (hb3.mono HI.out.1.size)
      clear hb3 CJ1
      go_wp2
      go_ret
      exact ⟨rfl, B3.out⟩
set_option maxHeartbeats 8000000 in
set_option maxRecDepth 100000 in
theorem whatI_c (l : List It) (a : Option Addr) (n c : Nat) (w : World) (hn : n = l.length) (h0 : n ≠ 0) (hk : ItOK l) (hs : Itm w a l) (hL : HasL w) (hO : HasO w) : Calls Tryz.prog 48 #[.slice a n c] w fun e w' => e = .returned (.string (Lx.bs (join [44, 32] (itemsTx false l)))) ∧ Below w.heap.size w w' := by
  obtain ⟨i0, hi, hz0, hz1, hz2⟩ := info_partsP infoStr
  have HS : Hid (Itm w a l ∧ n = l.length ∧ ItOK l ∧ HasL w ∧ HasO w ∧ n ≤ 64) := ⟨hs, hn, hk, hL, hO, by have := hk.few; omega⟩
  obtain ⟨J, hJ⟩ : ∃ J, J = join [44, 32] (itemsTx false l) := ⟨_, rfl⟩
  have CJ : Hid (∀ W x cc, Below w.heap.size w W → OwnT W w.heap.size (.slice x n cc) (itemsTx false l) → Calls Tryz.prog 23 #[.slice x n cc, .string ⟨#[44, 32]⟩] W fun e w' => e = .returned (.string (Lx.bs J)) ∧ Below W.heap.size W w') := fun W x cc hW ho => by
    rw [hJ]
    obtain ⟨o1, o2, o3, o4⟩ := ho.sr
    have e9 : maxLen = 9223372036854775807 := by decide
    exact join_g 600000 [44, 32] _ x n cc W o1 (by have := HS.out; omega) o2 (by omega) o3 (by decide) (items_len hk _) (Nat.le_trans (Nat.mul_le_mul_right _ (show n + 1 ≤ 65 by have := HS.out; omega)) (by decide))
  rw [← hJ]
  have q00 : ((n : Int) == 0) = false := by simp; omega
  clear h0
  clear hn hk hs hL hO hJ
  go_enter Tryz.func48, Tryz.ntmps48
  go_wp2
  go_loopw [3, 11] (fun v i wr => ∃ j : Nat, j ≤ n ∧ i = .int .i64 j ∧ Hid (Below w.heap.size w wr ∧ OwnT wr w.heap.size v (itemsTx false (l.take j)))) (fun _ i _ => n - (intOf i).toNat)
  case atStart => exact ⟨0, Nat.zero_le _, rfl, Below.refl _ _, rfl, .inl ⟨rfl, rfl⟩⟩
  case round =>
    obtain ⟨j, hj, rfl, HI⟩ := hrel
    obtain ⟨nl, hnl⟩ : ∃ nl, nl = itemsTx false (l.take j) := ⟨_, rfl⟩
    rw [← hnl] at HI
    obtain ⟨na, nc, hnv⟩ := HI.out.2.form
    obtain ⟨k, hk⟩ : ∃ k, k = nl.length := ⟨_, rfl⟩
    rw [← hk] at hnv
    have HK : Hid (k = nl.length ∧ k = j ∧ nl = itemsTx false (l.take j)) := ⟨hk, by rw [hk, hnl, itemsTx, List.length_map, List.length_take]; have := HS.out; omega, hnl⟩
    subst hnv
    clear hk hnl
    by_cases hlt : j < n
    · have q0 : (j : Int) < (n : Int) := by omega
      have q1 : (0 : Int) ≤ (j : Int) := by omega
      obtain ⟨i, hi2⟩ : ∃ i, l[j]? = some i := ⟨_, List.getElem?_eq_getElem (by have := HS.out; omega)⟩
      obtain ⟨g, o, ea, ec, rfl, c0, c1, hsts⟩ := (HS.out.1.call HI.out.1) j i hi2
      have him := List.mem_of_getElem? hi2
      obtain ⟨tx, htx⟩ : ∃ tx, tx = shownE i.expr := ⟨_, rfl⟩
      have hnl := HS.out.2.2.1.nm i him
      have htl : tx.length ≤ 576000 := by rw [htx]; exact shown_len (HS.out.2.2.1.right i him) (HS.out.2.2.1.fit i him)
      have a1 := add_s (a := Lx.bs tx) (b := ⟨#[32, 65, 83, 32]⟩) (x := tx) (y := [32, 65, 83, 32]) rfl rfl (by show tx.length + 4 ≤ _; omega)
      have a2 := add_s (a := Lx.bs (tx ++ [32, 65, 83, 32])) (b := Lx.bs i.name) (x := tx ++ [32, 65, 83, 32]) (y := i.name) rfl rfl (by rw [List.length_append]; show tx.length + 4 + i.name.length ≤ _; omega)
      obtain ⟨z1, hz1'⟩ : ∃ z, z = Lx.bs (tx ++ [32, 65, 83, 32]) := ⟨_, rfl⟩
      obtain ⟨y, hy⟩ : ∃ y, y = tx ++ [32, 65, 83, 32] ++ i.name := ⟨_, rfl⟩
      rw [← hz1', ← hy] at a2
      rw [← hz1'] at a1
      have HP : Hid (itemsTx false (l.take (j + 1)) = nl ++ [y] ∧ j < n ∧ Sts wr ea i.expr) := ⟨by rw [items_step false hi2, HK.out.2.2, hy, htx]; rfl, hlt, hsts⟩
      obtain ⟨w1, hw1⟩ : ∃ w1, w1 = wr.alloc (.cells #[.string (Lx.bs i.name), .slice ea i.expr.length ec] 43) := ⟨_, rfl⟩
      obtain ⟨T, hT⟩ : ∃ T, T = wr.heap.size := ⟨_, rfl⟩
      have X1 : Hid (w1.heap[T]? = some (.cells #[.string (Lx.bs i.name), .slice ea i.expr.length ec] 43 (0, 0)) ∧ Below w.heap.size w w1 ∧ Below wr.heap.size wr w1) := ⟨by rw [hw1, hT]; exact heap_alloc_new wr _, by rw [hw1]; exact HI.out.1.alloc HI.out.1.size _, by rw [hw1]; exact bnew _ _⟩
      have y0 : w1.cell? ⟨T, 0, none⟩ = some (.string (Lx.bs i.name)) := by rw [cell_of_row _ _ _ _ _ _ X1.out.1]; rfl
      have y1 : w1.cell? ⟨T, 1, none⟩ = some (.slice ea i.expr.length ec) := by rw [cell_of_row _ _ _ _ _ _ X1.out.1]; rfl
      have tl := row_lt X1.out.1
      have CS : Hid (∀ W, Below w1.heap.size w1 W → Calls Tryz.prog 27 #[.slice ea i.expr.length ec] W fun e w' => e = .returned (.string (Lx.bs tx)) ∧ Below W.heap.size W w') := fun W hW => by
        rw [htx]
        have hB := X1.out.2.1.trans (hW.mono X1.out.2.1.size)
        exact shown_c i.expr ea _ ec W (HS.out.2.2.1.right i him) rfl ((HP.out.2.2.call X1.out.2.2).call hW) (HS.out.2.2.1.fit i him) (HS.out.2.2.2.1.stays hB) (HS.out.2.2.2.2.1.stays hB)
      have O1 : Hid (w1.ownsRow w.heap.size 9 1 (.slice na k nc) k (nl.map fun x => Value.string (Lx.bs x))) := by
        have := HI.out.2.call X1.out.2.2
        unfold OwnT at this
        rw [← HK.out.1] at this
        exact this
      have fit63 : Hid (k + 1 ≤ maxLen) := by show _ ≤ _; have := HK.out; have := HS.out; unfold maxLen; omega
      have fit47 : Hid ((k + 1) * 16 ≤ 140737488355328) := by show _ ≤ _; have := HK.out; have := HS.out; omega
      have FIN : Hid (∀ (W5 : World) (v' : Value) (W4 : World), OwnT W4 w.heap.size (.slice na k nc) nl → Below w.heap.size w W4 → (W4.alloc (.cells #[.string (Lx.bs y)] 9)).grownBy W5 (Value.slice na k nc).ownBlock → W5.ownsRow w.heap.size 9 1 v' (k + 1) ((nl.map fun x => Value.string (Lx.bs x)) ++ [.string (Lx.bs y)]) → Below w.heap.size w W5 ∧ OwnT W5 w.heap.size v' (itemsTx false (l.take (j + 1)))) := fun W5 v' W4 ho hb hg hn => by
        rw [HP.out.1]
        exact ho.push hb (bnew W4 _) hg (by rw [← HK.out.1]; exact hn)
      obtain ⟨j1, hj1⟩ : ∃ j1, j1 = j + 1 := ⟨_, rfl⟩
      have HJ1 : Hid (j1 = j + 1) := hj1
      have HV : Hid (IntKind.i64.wrap ((j : Int) + 1) = (j1 : Int) ∧ wrap64 ((j : Int) + 1) = (j1 : Int)) := wrp (by omega) (by have := HS.out; omega)
      rw [← hj1] at FIN
      clear hi2 hlt hj hsts him htx hnl htl hz1' hy hj1
      go_upto_region 7 with fail
      rw [← hw1, ← hT]
      clear hw1 hT c0 c1
      go_region_law (first
        | (go_simp; go_at_call 27; refine (CS.out _ ?_).mono ?_; (first | exact Below.refl _ _ | exact (Below.refl _ _).drew); rintro e w3 ⟨rfl, hb3⟩
           have X3 : Hid (Below w.heap.size w w3 ∧ Below w1.heap.size w1 w3) := ⟨X1.out.2.1.drew.trans (hb3.mono X1.out.2.1.drew.size), ((Below.refl w1.heap.size w1).drew).trans hb3⟩
           have y0 : w3.cell? ⟨T, 0, none⟩ = some (.string (Lx.bs i.name)) := (by rw [cell_of_row _ _ _ _ _ _ ((X3.out.2.block T (row_lt X1.out.1)).trans X1.out.1)]; rfl)
           have O3 : Hid (OwnT w3 w.heap.size (.slice na k nc) nl ∧ w3.ownsRow w.heap.size 9 1 (.slice na k nc) k (nl.map fun x => Value.string (Lx.bs x))) := (by
             have h2 := own_callL O1.out X3.out.2
             refine ⟨?_, h2⟩
             unfold OwnT
             rw [← HK.out.1]
             exact h2))
        | (refine step_append_lies _ (by rfl) _ _ _ (by rfl) w.heap.size 9 i0 _ 1 16 Tryz.underlying50 hi hz0 hz1 hz2 rfl (by omega) _ _ _ (by rfl) (O3.out.2.alloc _) ⟨w3.heap.size, 0, none⟩ 1 1 [.string (Lx.bs y)] (by rfl) (by rfl) (World.news_of_block (heap_alloc_new w3 _)) (by simp [Value.oneCell']) (by omega) fit63.out fit47.out (by have := X3.out.1.size; simp; omega) (w3.heap.size + 1) (by simp) ?_; intro gg' cap' w5 hown5 hgrow5 hat5 hglt5
           have I5 : Hid (Below w.heap.size w w5 ∧ OwnT w5 w.heap.size (.slice (some ⟨gg', 0, none⟩) (k + 1) cap') (itemsTx false (l.take j1))) := (FIN.out w5 _ w3 O3.out.1 X3.out.1 hgrow5 hown5)
           clear hown5 hgrow5 hat5 hglt5)
        | fail "no arm")
      all_goals
        obtain ⟨v1, v2⟩ := HV.out
        go_wp2
        clear v1 v2
        go_roundw
      all_goals first
        | (simp only [intOf]; have := HJ1.out; have := HP.out; omega)
        | exact ⟨j1, by have := HJ1.out; have := HP.out; omega, rfl, I5.out⟩
        | ((repeat apply Exists.intro); exact ⟨⟨j1, by have := HJ1.out; have := HP.out; omega, rfl, I5.out⟩, rfl⟩)
    · have q0 : ¬ (j : Int) < (n : Int) := by omega
      have HE : Hid (k = n ∧ nl = itemsTx false l) := by
        refine ⟨by have := HK.out; omega, ?_⟩
        rw [HK.out.2.2, List.take_of_length_le (by have := HS.out; omega)]
      have CJ1 := hidp (CJ.out wr na nc HI.out.1 (by have h := HI.out.2; rw [HE.out.1, HE.out.2] at h; exact h))
      rw [← HE.out.1] at CJ1
      clear hlt hj
      go_wp2_with fail
      refine (CJ1.out).mono ?_
      rintro e w3 ⟨rfl, hb3⟩
      have B3 : Hid (Below w.heap.size w w3) := HI.out.1.trans (hb3.mono HI.out.1.size)
      clear hb3 CJ1
      go_wp2
      go_ret
      exact ⟨rfl, B3.out⟩
theorem what_c (l : List It) (a : Option Addr) (n c : Nat) (w : World) (hn : n = l.length) (hk : ItOK l) (hs : Itm w a l) (hL : HasL w) (hO : HasO w) : Calls Tryz.prog 48 #[.slice a n c] w fun e w' => e = .returned (.string (Lx.bs (whatTx l))) ∧ Below w.heap.size w w' := by
  by_cases h0 : n = 0
  · have e : l = [] := List.length_eq_zero_iff.1 (by omega)
    have HQ : Hid (whatTx l = [42]) := by show _ = _; rw [whatTx, if_pos e]
    have q0 : ((n : Int) == 0) = true := by rw [h0]; rfl
    clear hn hk hs hL hO h0 e
    go_enter Tryz.func48, Tryz.ntmps48
    go_wp2
    go_ret
    exact ⟨by rw [HQ.out]; rfl, Below.refl _ _⟩
  · have e : ¬ l = [] := fun q => h0 (by rw [hn, q]; rfl)
    rw [whatTx, if_neg e]
    exact whatI_c l a n c w hn h0 hk hs hL hO
set_option maxHeartbeats 2000000 in
theorem from_c (x : St) (ia ea : Option Addr) (ic ec : Nat) (w : World) (ht : x.table.length ≤ 4611686018427387904) : Calls Tryz.prog 49 #[.agg #[.int .u8 (x.kind : Int), .string (Lx.bs x.table), .string (Lx.bs x.field), .slice ia x.items.length ic, .slice ea x.expr.length ec, .bool x.history, .bool x.desc]] w fun e w' => e = .returned (.string (Lx.bs (fromTx x))) ∧ Below w.heap.size w w' := by
  obtain ⟨w1, hw1⟩ : ∃ w1, w1 = w.alloc (.cells #[.int .u8 (x.kind : Int), .string (Lx.bs x.table), .string (Lx.bs x.field), .slice ia x.items.length ic, .slice ea x.expr.length ec, .bool x.history, .bool x.desc] 26) := ⟨_, rfl⟩
  obtain ⟨T, hT⟩ : ∃ T, T = w.heap.size := ⟨_, rfl⟩
  have X1 : Hid (w1.heap[T]? = some (.cells #[.int .u8 (x.kind : Int), .string (Lx.bs x.table), .string (Lx.bs x.field), .slice ia x.items.length ic, .slice ea x.expr.length ec, .bool x.history, .bool x.desc] 26 (0, 0)) ∧ Below w.heap.size w w1) := ⟨by rw [hw1, hT]; exact heap_alloc_new w _, by rw [hw1]; exact bnew _ _⟩
  have YC : Hid (∀ r v, (#[.int .u8 (x.kind : Int), .string (Lx.bs x.table), .string (Lx.bs x.field), .slice ia x.items.length ic, .slice ea x.expr.length ec, .bool x.history, .bool x.desc] : Array Value)[r]? = some v → w1.cell? ⟨T, r, none⟩ = some v) := fun r v hv => by rw [cell_of_row _ _ _ _ _ _ X1.out.1]; exact hv
  have y0 := YC.out 0 _ rfl
  have y1 := YC.out 1 _ rfl
  have y2 := YC.out 2 _ rfl
  have y3 := YC.out 3 _ rfl
  have y4 := YC.out 4 _ rfl
  have y5 := YC.out 5 _ rfl
  have y6 := YC.out 6 _ rfl
  have a1 := add_s (a := ⟨#[72, 73, 83, 84, 79, 82, 89, 40]⟩) (b := Lx.bs x.table) (x := [72, 73, 83, 84, 79, 82, 89, 40]) (y := x.table) rfl rfl (by show 8 + x.table.length ≤ _; omega)
  have a2 := add_s (a := Lx.bs ([72, 73, 83, 84, 79, 82, 89, 40] ++ x.table)) (b := ⟨#[41]⟩) (x := [72, 73, 83, 84, 79, 82, 89, 40] ++ x.table) (y := [41]) rfl rfl (by rw [List.length_append]; show 8 + x.table.length + 1 ≤ _; omega)
  obtain ⟨z1, hz1⟩ : ∃ z, z = Lx.bs ([72, 73, 83, 84, 79, 82, 89, 40] ++ x.table) := ⟨_, rfl⟩
  obtain ⟨z2, hz2⟩ : ∃ z, z = Lx.bs ([72, 73, 83, 84, 79, 82, 89, 40] ++ x.table ++ [41]) := ⟨_, rfl⟩
  rw [← hz1] at a1 a2
  rw [← hz2] at a2
  obtain ⟨b, hb⟩ : ∃ b, b = x.history := ⟨_, rfl⟩
  have HQ : Hid (Lx.bs (fromTx x) = if b = true then z2 else Lx.bs x.table) := by
    show _ = _
    rw [fromTx, ← hb, hz2]
    cases b <;> rfl
  rw [← hb] at y5
  clear hz1 hz2 ht hb
  go_enter Tryz.func49, Tryz.ntmps49
  go_upto_region 1 with fail
  rw [← hw1, ← hT]
  clear hw1 hT
  cases b
  · go_wp2
    go_ret
    exact ⟨by rw [HQ.out]; rfl, X1.out.2⟩
  · go_wp2
    go_ret
    exact ⟨by rw [HQ.out]; rfl, X1.out.2⟩
/-- texts that a call laid: whose, so many -/
def TxR (w w' : World) (v : Value) (l : List Bs) : Prop := Below w.heap.size w w' ∧ ∃ a c, v = .slice a l.length c ∧ l.length ≤ c ∧ c ≤ 9223372036854775807 ∧ SR w' a l
set_option maxHeartbeats 2000000 in
theorem condition_c (l : List Sp) (a : Option Addr) (n c : Nat) (w : World) (hr : l ≠ [] → rightE l = true) (hn : n = l.length) (hs : Sts w a l) (hf : ∀ p ∈ l, fitS p) (hL : HasL w) (hO : HasO w) : Calls Tryz.prog 47 #[.slice a n c] w fun e w' => ∃ x cc, e = .returned (.slice x (condTx l).length cc) ∧ Hid (TxR w w' (.slice x (condTx l).length cc) (condTx l)) := by
  by_cases h0 : l = []
  · have q0 : ((n : Int) == 0) = true := by rw [hn, h0]; rfl
    have HQ : Hid (condTx l = []) := by show _ = _; rw [condTx, if_pos h0]
    clear hr hn hs hf hL hO h0
    go_enter Tryz.func47, Tryz.ntmps47
    go_wp2
    go_ret
    exact ⟨none, 0, by rw [HQ.out]; rfl, by rw [HQ.out]; exact ⟨Below.refl _ _, none, 0, rfl, Nat.le_refl _, by decide, SR.nil _ _⟩⟩
  · have q0 : ((n : Int) == 0) = false := by
      have : l.length ≠ 0 := fun e => h0 (List.length_eq_zero_iff.1 e)
      simp; omega
    have HQ : Hid (condTx l = [[87, 72, 69, 82, 69], shownE l]) := by show _ = _; rw [condTx, if_neg h0]
    have CS := hidp (shown_c l a n c w (hr h0) hn hs hf hL hO)
    obtain ⟨t, ht⟩ : ∃ t, t = shownE l := ⟨_, rfl⟩
    rw [← ht] at HQ CS
    clear hr hn hs hf hL hO h0 ht
    go_enter Tryz.func47, Tryz.ntmps47
    go_wp2_with fail
    refine (CS.out).mono ?_
    rintro e w1 ⟨rfl, hb1⟩
    obtain ⟨w2, hw2⟩ : ∃ w2, w2 = w1.alloc (.cells #[.string ⟨#[87, 72, 69, 82, 69]⟩, .string (Lx.bs t)] 9) := ⟨_, rfl⟩
    obtain ⟨g, hg⟩ : ∃ g, g = w1.heap.size := ⟨_, rfl⟩
    have X2 : Hid (TxR w w2 (.slice (some ⟨g, 0, none⟩) 2 2) [[87, 72, 69, 82, 69], t]) := by
      have h := heap_alloc_new w1 (.cells #[.string ⟨#[87, 72, 69, 82, 69]⟩, .string (Lx.bs t)] 9)
      rw [← hw2, ← hg] at h
      refine ⟨hb1.trans (by rw [hw2]; exact (bnew w1 _).mono hb1.size), _, 2, rfl, Nat.le_refl _, by decide, SR.made h fun j x hx => ?_⟩
      match j, hx with
      | 0, hx => cases hx; rfl
      | 1, hx => cases hx; rfl
    clear hb1 CS
    go_wp2
    rw [← hw2, ← hg]
    clear hw2 hg
    go_ret
    exact ⟨_, 2, by rw [HQ.out]; rfl, by rw [HQ.out]; exact X2.out⟩
set_option maxHeartbeats 4000000 in
theorem order_c (x : St) (ia ea : Option Addr) (ic ec : Nat) (w : World) : Calls Tryz.prog 50 #[.agg #[.int .u8 (x.kind : Int), .string (Lx.bs x.table), .string (Lx.bs x.field), .slice ia x.items.length ic, .slice ea x.expr.length ec, .bool x.history, .bool x.desc]] w fun e w' => ∃ a c, e = .returned (.slice a (orderTx x).length c) ∧ Hid (TxR w w' (.slice a (orderTx x).length c) (orderTx x)) := by
  obtain ⟨w1, hw1⟩ : ∃ w1, w1 = w.alloc (.cells #[.int .u8 (x.kind : Int), .string (Lx.bs x.table), .string (Lx.bs x.field), .slice ia x.items.length ic, .slice ea x.expr.length ec, .bool x.history, .bool x.desc] 26) := ⟨_, rfl⟩
  obtain ⟨T, hT⟩ : ∃ T, T = w.heap.size := ⟨_, rfl⟩
  have X1 : Hid (w1.heap[T]? = some (.cells #[.int .u8 (x.kind : Int), .string (Lx.bs x.table), .string (Lx.bs x.field), .slice ia x.items.length ic, .slice ea x.expr.length ec, .bool x.history, .bool x.desc] 26 (0, 0)) ∧ Below w.heap.size w w1) := ⟨by rw [hw1, hT]; exact heap_alloc_new w _, by rw [hw1]; exact bnew _ _⟩
  have YC : Hid (∀ r v, (#[.int .u8 (x.kind : Int), .string (Lx.bs x.table), .string (Lx.bs x.field), .slice ia x.items.length ic, .slice ea x.expr.length ec, .bool x.history, .bool x.desc] : Array Value)[r]? = some v → w1.cell? ⟨T, r, none⟩ = some v) := fun r v hv => by rw [cell_of_row _ _ _ _ _ _ X1.out.1]; exact hv
  have y0 := YC.out 0 _ rfl
  have y1 := YC.out 1 _ rfl
  have y2 := YC.out 2 _ rfl
  have y3 := YC.out 3 _ rfl
  have y4 := YC.out 4 _ rfl
  have y5 := YC.out 5 _ rfl
  have y6 := YC.out 6 _ rfl
  obtain ⟨f, hf⟩ : ∃ f, f = decide (x.field = []) := ⟨_, rfl⟩
  obtain ⟨s, hs⟩ : ∃ s, s = Lx.bs x.field := ⟨_, rfl⟩
  obtain ⟨b, hb⟩ : ∃ b, b = x.desc := ⟨_, rfl⟩
  have HF : Hid ((s.toList == []) = f) := by
    show _ = _
    rw [hf, hs, Lx.bs_toList]
    cases x.field <;> rfl
  have HQ : Hid (orderTx x = if f = true then [] else if b = true then [[79, 82, 68, 69, 82, 32, 66, 89], x.field, [68, 69, 83, 67]] else [[79, 82, 68, 69, 82, 32, 66, 89], x.field]) := by
    show _ = _
    rw [orderTx, hf, ← hb]
    by_cases h : x.field = []
    · rw [if_pos h, decide_eq_true h]; rfl
    · rw [if_neg h, decide_eq_false h]; rfl
  have HS : Hid (s = Lx.bs x.field) := hs
  show Calls Tryz.prog 50 _ w _
  rw [← hs] at y2
  rw [← hb] at y6
  clear hf hs hb
  have fq := HF.out
  go_enter Tryz.func50, Tryz.ntmps50
  go_upto_region 1 with fail
  rw [← hw1, ← hT]
  clear hw1 hT
  cases f
  · cases b
    · obtain ⟨w2, hw2⟩ : ∃ w2, w2 = w1.alloc (.cells #[.string ⟨#[79, 82, 68, 69, 82, 32, 66, 89]⟩, .string s] 9) := ⟨_, rfl⟩
      obtain ⟨g, hg⟩ : ∃ g, g = w1.heap.size := ⟨_, rfl⟩
      have X2 : Hid (TxR w w2 (.slice (some ⟨g, 0, none⟩) 2 2) [[79, 82, 68, 69, 82, 32, 66, 89], x.field]) := by
        have h := heap_alloc_new w1 (.cells #[.string ⟨#[79, 82, 68, 69, 82, 32, 66, 89]⟩, .string s] 9)
        rw [← hw2, ← hg] at h
        refine ⟨X1.out.2.trans (by rw [hw2]; exact (bnew w1 _).mono X1.out.2.size), _, 2, rfl, Nat.le_refl _, by decide, SR.made h fun j x hx => ?_⟩
        match j, hx with
        | 0, hx => cases hx; rfl
        | 1, hx => cases hx; rw [HS.out]; rfl
      go_wp2
      rw [← hw2, ← hg]
      clear hw2 hg
      go_ret
      exact ⟨_, 2, by rw [HQ.out]; rfl, by rw [HQ.out]; exact X2.out⟩
    · obtain ⟨w2, hw2⟩ : ∃ w2, w2 = w1.alloc (.cells #[.string ⟨#[79, 82, 68, 69, 82, 32, 66, 89]⟩, .string s, .string ⟨#[68, 69, 83, 67]⟩] 9) := ⟨_, rfl⟩
      obtain ⟨g, hg⟩ : ∃ g, g = w1.heap.size := ⟨_, rfl⟩
      have X2 : Hid (TxR w w2 (.slice (some ⟨g, 0, none⟩) 3 3) [[79, 82, 68, 69, 82, 32, 66, 89], x.field, [68, 69, 83, 67]]) := by
        have h := heap_alloc_new w1 (.cells #[.string ⟨#[79, 82, 68, 69, 82, 32, 66, 89]⟩, .string s, .string ⟨#[68, 69, 83, 67]⟩] 9)
        rw [← hw2, ← hg] at h
        refine ⟨X1.out.2.trans (by rw [hw2]; exact (bnew w1 _).mono X1.out.2.size), _, 3, rfl, Nat.le_refl _, by decide, SR.made h fun j x hx => ?_⟩
        match j, hx with
        | 0, hx => cases hx; rfl
        | 1, hx => cases hx; rw [HS.out]; rfl
        | 2, hx => cases hx; rfl
      go_wp2
      rw [← hw2, ← hg]
      clear hw2 hg
      go_ret
      exact ⟨_, 3, by rw [HQ.out]; rfl, by rw [HQ.out]; exact X2.out⟩
  · go_wp2
    go_ret
    exact ⟨none, 0, by rw [HQ.out]; rfl, by rw [HQ.out]; exact ⟨X1.out.2, none, 0, rfl, Nat.le_refl _, by decide, SR.nil _ _⟩⟩
end Ps
end Go.Proofs.YtfhkaffakniioaaGreatDoor
