/- An expression's text: walked. -/
import Derived.Test.YtocnjmndiogdmaaGreatDoorPyBM
import Derived.Deep.AppendLies
namespace Go.Proofs.YtocnjmndiogdmaaGreatDoor
open Go.RowKit
namespace Ps
theorem own_cut {W : World} {B g n c : Nat} {l : List Bs} (h : OwnT W B (.slice (some ⟨g, 0, none⟩) n c) l) (f : Nat) (hf : f ≤ n) : OwnT W B (.slice (some ⟨g, 0, none⟩) f c) (l.take f) ∧ SR W (some ⟨g, f, none⟩) (l.drop f) ∧ n ≤ c := by
  have hsr := h.sr
  obtain ⟨h1, h2, h3, h4⟩ := hsr
  rcases h.2 with ⟨e, _⟩ | ⟨g', cap, cur, e, q1, q2, q3, q4, q5, q6⟩
  · cases e
  · injection e with e1 e2 e3
    injection e1 with e1
    injection e1 with e1
    subst e1 e3
    refine ⟨⟨by rw [List.length_map, Nat.mul_one], .inr ⟨g, c, cur, by rw [List.length_take, Nat.min_eq_left (by omega)], q1, q2, by rw [List.length_take]; omega, q4, q5, ?_⟩⟩, fun j x hx => ?_, h2⟩
    · rw [List.length_take, Nat.min_eq_left (by omega), Nat.mul_one, List.map_take, ← q6, List.take_take, Nat.min_eq_left (by omega)]
    · rw [List.getElem?_drop] at hx
      obtain ⟨g2, o2, e4, hc⟩ := h3 (f + j) x hx
      cases e4
      exact ⟨g, f, rfl, by rw [Nat.zero_add] at hc; exact hc⟩
theorem wsubN {a b : Nat} (h : b ≤ a) (ha : a ≤ 100000) : IntKind.i64.wrap ((a : Int) - (b : Int)) = ((a - b : Nat) : Int) ∧ wrap64 ((a : Int) - (b : Int)) = ((a - b : Nat) : Int) := wrp (by omega) (by omega)
theorem tot_take (l : List Bs) (f : Nat) : tot (l.take f) + tot (l.drop f) = tot l := by rw [← tot_app, List.take_append_drop]
/-- the loop's round -/
structure SH (l : List Sp) (w : World) (j : Nat) (st : List Bs) (v : Value) (wr : World) : Prop where
  stack : stackL l [] = stackL (l.drop j) st
  right : rightL (l.drop j) st.length = true
  tot : Ps.tot st ≤ j * 4500
  below : Below w.heap.size w wr
  own : OwnT wr w.heap.size v st
  few : st.length ≤ j
set_option maxHeartbeats 3000000 in
set_option maxRecDepth 100000 in
theorem shown_c (l : List Sp) (a : Option Addr) (n c : Nat) (w : World) (hr : rightE l = true) (hn : n = l.length) (hs : Sts w a l) (hf : ∀ p ∈ l, fitS p) (hL : HasL w) (hO : HasO w) : Calls Tryz.prog 44 #[.slice a n c] w fun e w' => e = .returned (.string (Lx.bs (shownE l))) ∧ Below w.heap.size w w' := by
  obtain ⟨i0, hi, hz0, hz1, hz2⟩ := info_partsP infoStr
  have hrr : l.length ≤ 128 ∧ rightL l 0 = true := by
    rw [rightE, Bool.and_eq_true, decide_eq_true_iff] at hr
    exact hr
  have HS : Hid (Sts w a l ∧ n = l.length ∧ n ≤ 128 ∧ (∀ p ∈ l, fitS p) ∧ HasL w ∧ HasO w ∧ rightL l 0 = true) := ⟨hs, hn, by omega, hf, hL, hO, hrr.2⟩
  clear hr hn hs hf hL hO hrr
  go_enter Tryz.func44, Tryz.ntmps44
  go_wp2
  go_loopw [3, 9] (fun v i wr => ∃ (j : Nat) (st : List Bs), j ≤ n ∧ i = .int .i64 j ∧ Hid (SH l w j st v wr)) (fun _ i _ => n - (intOf i).toNat)
  case atStart => exact ⟨0, [], Nat.zero_le _, rfl, rfl, HS.out.2.2.2.2.2.2, Nat.zero_le _, Below.refl _ _, ⟨rfl, .inl ⟨rfl, rfl⟩⟩, Nat.le_refl _⟩
  case round =>
    obtain ⟨j, st, hj, rfl, HI⟩ := hrel
    obtain ⟨m, hm⟩ : ∃ m, m = st.length := ⟨_, rfl⟩
    have HM : Hid (m = st.length ∧ m ≤ 128) := ⟨hm, by have := HI.out.few; have := HS.out; omega⟩
    by_cases hlt : j < n
    · have q0 : (j : Int) < (n : Int) := by omega
      have q1 : (0 : Int) ≤ (j : Int) := by omega
      obtain ⟨p, hp⟩ : ∃ p, l[j]? = some p := ⟨_, List.getElem?_eq_getElem (by have := HS.out; omega)⟩
      obtain ⟨g0, o0, rfl, c0, c1, c2⟩ := (HS.out.1.call HI.out.below) j p hp
      have hrl := HI.out.right
      rw [rightL_step hp, Bool.and_eq_true, Bool.and_eq_true, decide_eq_true_iff] at hrl
      obtain ⟨tk, htk⟩ : ∃ tk, tk = takesSp p := ⟨_, rfl⟩
      obtain ⟨f, hfm⟩ : ∃ f, f = m - tk := ⟨_, rfl⟩
      have HP : Hid (rightSp p = true ∧ tk = takesSp p ∧ tk ≤ m ∧ f = m - tk ∧ f + tk = m ∧ rightL (l.drop (j + 1)) (m + 1 - tk) = true ∧ fitS p ∧ j < n ∧ stackL (l.drop j) st = stackL (l.drop (j + 1)) (st.take f ++ [stepTx p (st.drop f)])) := by
        refine ⟨hrl.1.1, htk, by rw [htk, hm]; exact hrl.1.2, hfm, by have := hrl.1.2; omega, by rw [hm, htk]; exact hrl.2, HS.out.2.2.2.1 p (List.mem_of_getElem? hp), hlt, ?_⟩
        rw [stack_step hp, hfm, hm, htk]
      obtain ⟨w1, hw1⟩ : ∃ w1, w1 = wr.alloc (.cells #[.int .u8 (p.kind : Int), .string (Lx.bs p.text), .int .i64 p.n] 29) := ⟨_, rfl⟩
      obtain ⟨T, hT⟩ : ∃ T, T = wr.heap.size := ⟨_, rfl⟩
      have X1 : Hid (w1.heap[T]? = some (.cells #[.int .u8 (p.kind : Int), .string (Lx.bs p.text), .int .i64 p.n] 29 (0, 0)) ∧ Below w.heap.size w w1 ∧ Below wr.heap.size wr w1) := ⟨by rw [hw1, hT]; exact heap_alloc_new wr _, by rw [hw1]; exact HI.out.below.alloc HI.out.below.size _, by rw [hw1]; exact bnew _ _⟩
      have y0 : w1.cell? ⟨T, 0, none⟩ = some (.int .u8 (p.kind : Int)) := by rw [cell_of_row _ _ _ _ _ _ X1.out.1]; rfl
      have y1 : w1.cell? ⟨T, 1, none⟩ = some (.string (Lx.bs p.text)) := by rw [cell_of_row _ _ _ _ _ _ X1.out.1]; rfl
      have y2 : w1.cell? ⟨T, 2, none⟩ = some (.int .i64 p.n) := by rw [cell_of_row _ _ _ _ _ _ X1.out.1]; rfl
      have CT : Hid (Calls Tryz.prog 14 #[.agg #[.int .u8 (p.kind : Int), .string (Lx.bs p.text), .int .i64 p.n]] w1 fun e w' => e = .returned (.int .i64 (tk : Int)) ∧ Below w1.heap.size w1 w') := by
        rw [htk]
        exact takes_c p (right_nonneg HP.out.1) w1
      obtain ⟨x, hx⟩ : ∃ x, x = stepTx p (st.drop f) := ⟨_, rfl⟩
      have HX : Hid (x = stepTx p (st.drop f) ∧ x.length ≤ tot (st.drop f) + 4500 ∧ ∀ y ∈ st.drop f, y.length ≤ 1000000) := by
        have ht64 := takes_small HP.out.1
        have hl2 : (st.drop f).length = tk := by rw [List.length_drop]; have := HP.out; have := HM.out.1; omega
        refine ⟨hx, by rw [hx]; exact step_cost HP.out.1 (by rw [hl2, htk]; exact ht64) HP.out.2.2.2.2.2.2.1.2, fun y hy => ?_⟩
        have e1 := tot_mem (List.mem_of_mem_drop hy)
        have e2 := HI.out.tot
        have e3 : j * 4500 ≤ 128 * 4500 := Nat.mul_le_mul_right _ (by have := HS.out; omega)
        omega
      have CS : Hid (∀ W pa pc, Below w.heap.size w W → tk ≤ pc → pc ≤ 9223372036854775807 → SR W pa (st.drop f) → Calls Tryz.prog 80 #[.agg #[.int .u8 (p.kind : Int), .string (Lx.bs p.text), .int .i64 p.n], .slice pa tk pc] W fun e w' => e = .returned (.string (Lx.bs x)) ∧ Below W.heap.size W w') := fun W pa pc hW h1 h2 h3 => by
        rw [hx]
        exact stepText_c p (st.drop f) pa tk pc W HP.out.1 HP.out.2.2.2.2.2.2.1.2 HP.out.2.2.2.2.2.2.1.1 (by rw [List.length_drop]; have := HP.out; have := HM.out.1; omega) HP.out.2.1 ⟨h1, h2⟩ HX.out.2.2 h3 (HS.out.2.2.2.2.1.stays hW) (HS.out.2.2.2.2.2.1.stays hW)
      obtain ⟨j1, hj1⟩ : ∃ j1, j1 = j + 1 := ⟨_, rfl⟩
      have HJ1 : Hid (j1 = j + 1) := hj1
      have HV : Hid (IntKind.i64.wrap ((j : Int) + 1) = (j1 : Int) ∧ wrap64 ((j : Int) + 1) = (j1 : Int)) := wrp (by omega) (by have := HS.out; omega)
      have HVF : Hid (IntKind.i64.wrap ((m : Int) - (tk : Int)) = (f : Int) ∧ wrap64 ((m : Int) - (tk : Int)) = (f : Int)) := by rw [hfm]; exact wsubN HP.out.2.2.1 (by have := HM.out; omega)
      have FIN : Hid (∀ (W5 : World) (v' : Value) (W4 : World) (sv : Value), OwnT W4 w.heap.size sv (st.take f) → Below w.heap.size w W4 → (W4.alloc (.cells #[.string (Lx.bs x)] 9)).grownBy W5 sv.ownBlock → W5.ownsRow w.heap.size 9 1 v' (f + 1) (((st.take f).map fun x => Value.string (Lx.bs x)) ++ [.string (Lx.bs x)]) → SH l w j1 (st.take f ++ [x]) v' W5) := fun W5 v' W4 sv ho hb hg hn => by
        have hfl : (st.take f).length = f := by rw [List.length_take, Nat.min_eq_left (by have := HP.out; have := HM.out.1; omega)]
        obtain ⟨r1, r2⟩ := ho.push hb (bnew W4 _) hg (by rw [hfl]; exact hn)
        refine ⟨?_, ?_, ?_, r1, r2, ?_⟩
        · rw [HI.out.stack, HP.out.2.2.2.2.2.2.2.2, HX.out.1, HJ1.out]
        · rw [List.length_append, hfl, List.length_singleton, HJ1.out, show f + 1 = m + 1 - tk by have := HP.out; omega]
          exact HP.out.2.2.2.2.2.1
        · rw [tot_app]
          have e1 := tot_take st f
          have e2 := HI.out.tot
          have e3 := HX.out.2.1
          have e4 : (j + 1) * 4500 = j * 4500 + 4500 := Nat.succ_mul _ _
          rw [HJ1.out, e4]
          show tot (st.take f) + (x.length + 0) ≤ _
          omega
        · rw [List.length_append, hfl, List.length_singleton]
          have := HI.out.few
          have := HP.out
          have := HM.out.1
          have := HJ1.out
          omega
      have fit63 : Hid (f + 1 ≤ maxLen) := by show _ ≤ _; have := HM.out; have := HP.out; unfold maxLen; omega
      have fit47 : Hid ((f + 1) * 16 ≤ 140737488355328) := by show _ ≤ _; have := HM.out; have := HP.out; omega
      clear hrl hp hlt hj hm htk hx hj1 hfm
      rcases HI.out.own.2 with ⟨hnv, hnl⟩ | ⟨gg, cap, cur, hnv, hgB, hgrow, hg1, hg2, hg3, hg4⟩
      · obtain rfl := hnv
        have hm0 : m = 0 := by rw [HM.out.1]; exact hnl
        subst hm0
        have hf0 : f = 0 := by have := HP.out; omega
        have ht0 : tk = 0 := by have := HP.out; omega
        subst hf0 ht0
        have HST : Hid (st.take 0 = [] ∧ st.drop 0 = []) := by
          have : st = [] := List.length_eq_zero_iff.1 hnl
          rw [this]
          exact ⟨rfl, rfl⟩
        obtain ⟨vf1, vf2⟩ := HVF.out
        clear hnl
        go_upto_region 5 with fail
        rw [← hw1, ← hT]
        clear hw1 hT c0 c1 c2
        go_wp2_with fail
        refine (CT.out).mono ?_
        rintro e w2 ⟨rfl, hb2⟩
        have X2 : Hid (w2.heap[T]? = some (.cells #[.int .u8 (p.kind : Int), .string (Lx.bs p.text), .int .i64 p.n] 29 (0, 0)) ∧ Below w.heap.size w w2) := ⟨(hb2.block T (row_lt X1.out.1)).trans X1.out.1, X1.out.2.1.trans (hb2.mono X1.out.2.1.size)⟩
        clear hb2 CT y0 y1 y2
        have y0 : w2.cell? ⟨T, 0, none⟩ = some (.int .u8 (p.kind : Int)) := by rw [cell_of_row _ _ _ _ _ _ X2.out.1]; rfl
        have y1 : w2.cell? ⟨T, 1, none⟩ = some (.string (Lx.bs p.text)) := by rw [cell_of_row _ _ _ _ _ _ X2.out.1]; rfl
        have y2 : w2.cell? ⟨T, 2, none⟩ = some (.int .i64 p.n) := by rw [cell_of_row _ _ _ _ _ _ X2.out.1]; rfl
        have tl := row_lt X2.out.1
        have CS2 : Hid (∀ W, Below w2.heap.size w2 W → Calls Tryz.prog 80 #[.agg #[.int .u8 (p.kind : Int), .string (Lx.bs p.text), .int .i64 p.n], .slice none 0 0] W fun e w' => e = .returned (.string (Lx.bs x)) ∧ Below W.heap.size W w') := fun W hW => CS.out W none 0 (X2.out.2.trans (hW.mono X2.out.2.size)) (Nat.le_refl _) (by decide) (by rw [HST.out.2]; exact SR.nil _ _)
        clear vf1 vf2
        go_upto_region 6 with fail
        go_region_law (first
          | (go_simp; go_at_call 80; refine (CS2.out _ ?_).mono ?_; (first | exact Below.refl _ _ | exact (Below.refl _ _).drew); rintro e w3 ⟨rfl, hb3⟩
             have X3 : Hid (Below w.heap.size w w3) := (X2.out.2.drew.trans (hb3.mono X2.out.2.drew.size))
             have O3 : Hid (w3.ownsRow w.heap.size 9 1 (.slice none 0 0) 0 []) := ⟨rfl, .inl ⟨rfl, rfl⟩⟩)
          | (refine step_append_lies _ (by rfl) _ _ _ (by rfl) w.heap.size 9 i0 _ 1 16 Tryz.underlying40 hi hz0 hz1 hz2 rfl (by omega) _ _ _ (by rfl) (O3.out.alloc _) ⟨w3.heap.size, 0, none⟩ 1 1 [.string (Lx.bs x)] (by rfl) (by rfl) (World.news_of_block (heap_alloc_new w3 _)) (by simp [Value.oneCell']) (by omega) fit63.out fit47.out (by have := X3.out.size; simp; omega) (w3.heap.size + 1) (by simp) ?_; intro gg cap w5 hown5 hgrow5 hat5 hglt5
             have I5 : Hid (SH l w j1 (st.take 0 ++ [x]) (.slice (some ⟨gg, 0, none⟩) 1 cap) w5) := (FIN.out w5 _ w3 (.slice none 0 0) (by rw [HST.out.1]; exact ⟨rfl, .inl ⟨rfl, rfl⟩⟩) X3.out hgrow5 (by rw [HST.out.1]; exact hown5))
             clear hown5 hgrow5 hat5 hglt5)
          | fail "no arm")
        all_goals
          obtain ⟨v1, v2⟩ := HV.out
          go_wp2
          clear v1 v2
          go_roundw
        all_goals first
          | (simp only [intOf]; have := HJ1.out; have := HP.out; omega)
          | exact ⟨j1, _, by have := HJ1.out; have := HP.out; omega, rfl, I5.out⟩
          | ((repeat apply Exists.intro); exact ⟨⟨j1, _, by have := HJ1.out; have := HP.out; omega, rfl, I5.out⟩, rfl⟩)
      · obtain rfl := hnv
        rw [← HM.out.1]
        have hm1 : m ≤ cap := by rw [HM.out.1]; exact hg1
        have e9 : maxLen = 9223372036854775807 := by decide
        have OC := HI.out.own
        rw [← HM.out.1] at OC
        obtain ⟨oc1, oc2, oc3⟩ := own_cut OC f (by have := HP.out; omega)
        have HOC : Hid (OwnT wr w.heap.size (.slice (some ⟨gg, 0, none⟩) f cap) (st.take f) ∧ SR wr (some ⟨gg, f, none⟩) (st.drop f) ∧ f ≤ m ∧ m ≤ cap ∧ cap ≤ 9223372036854775807 ∧ tk = m - f ∧ (st.take f).length = f) := ⟨oc1, oc2, by have := HP.out; omega, hm1, by omega, by have := HP.out; omega, by rw [List.length_take, Nat.min_eq_left (by have := HP.out; have := HM.out.1; omega)]⟩
        have s0 : (0 : Int) ≤ (f : Int) := by omega
        have s1 : (f : Int) ≤ (cap : Int) := by have := HOC.out; omega
        have s2 : (f : Int) ≤ (m : Int) := by have := HOC.out; omega
        have s3 : (m : Int) ≤ (cap : Int) := by omega
        have s4 : m - f = tk := by have := HOC.out; omega
        obtain ⟨vf1, vf2⟩ := HVF.out
        clear hgB hgrow hg1 hg2 hg3 hg4 OC oc1 oc2 oc3 hm1 e9
        go_upto_region 5 with fail
        rw [← hw1, ← hT]
        clear hw1 hT c0 c1 c2
        go_wp2_with fail
        refine (CT.out).mono ?_
        rintro e w2 ⟨rfl, hb2⟩
        have X2 : Hid (w2.heap[T]? = some (.cells #[.int .u8 (p.kind : Int), .string (Lx.bs p.text), .int .i64 p.n] 29 (0, 0)) ∧ Below w.heap.size w w2 ∧ Below wr.heap.size wr w2) := ⟨(hb2.block T (row_lt X1.out.1)).trans X1.out.1, X1.out.2.1.trans (hb2.mono X1.out.2.1.size), X1.out.2.2.trans (hb2.mono X1.out.2.2.size)⟩
        clear hb2 CT y0 y1 y2
        have y0 : w2.cell? ⟨T, 0, none⟩ = some (.int .u8 (p.kind : Int)) := by rw [cell_of_row _ _ _ _ _ _ X2.out.1]; rfl
        have y1 : w2.cell? ⟨T, 1, none⟩ = some (.string (Lx.bs p.text)) := by rw [cell_of_row _ _ _ _ _ _ X2.out.1]; rfl
        have y2 : w2.cell? ⟨T, 2, none⟩ = some (.int .i64 p.n) := by rw [cell_of_row _ _ _ _ _ _ X2.out.1]; rfl
        have tl := row_lt X2.out.1
        have CS2 : Hid (∀ W, Below w2.heap.size w2 W → Calls Tryz.prog 80 #[.agg #[.int .u8 (p.kind : Int), .string (Lx.bs p.text), .int .i64 p.n], .slice (some ⟨gg, f, none⟩) tk (cap - f)] W fun e w' => e = .returned (.string (Lx.bs x)) ∧ Below W.heap.size W w') := fun W hW => CS.out W _ _ (X2.out.2.1.trans (hW.mono X2.out.2.1.size)) (by have := HOC.out; omega) (by have := HOC.out; omega) ((HOC.out.2.1.call X2.out.2.2).call hW)
        have CS3 : Hid (cap = f → ∀ W, Below w2.heap.size w2 W → Calls Tryz.prog 80 #[.agg #[.int .u8 (p.kind : Int), .string (Lx.bs p.text), .int .i64 p.n], .slice (some ⟨gg, 0, none⟩) tk 0] W fun e w' => e = .returned (.string (Lx.bs x)) ∧ Below W.heap.size W w') := fun hcf W hW => CS.out W _ _ (X2.out.2.1.trans (hW.mono X2.out.2.1.size)) (by have := HOC.out; omega) (by decide) (by
          have : st.drop f = [] := List.drop_eq_nil_of_le (by have := HOC.out; have := HM.out.1; omega)
          rw [this]
          exact SR.nil _ _)
        by_cases hcf : cap = f
        · have CS4 := hidp (CS3.out hcf)
          subst hcf
          go_upto_region 6 with fail
          clear vf1 vf2
          go_region_law (first
            | (go_simp; go_at_call 80; refine (CS4.out _ ?_).mono ?_; (first | exact Below.refl _ _ | exact (Below.refl _ _).drew); rintro e w3 ⟨rfl, hb3⟩
               have X3 : Hid (Below w.heap.size w w3 ∧ Below wr.heap.size wr w3) := ⟨X2.out.2.1.drew.trans (hb3.mono X2.out.2.1.drew.size), X2.out.2.2.drew.trans (hb3.mono X2.out.2.2.drew.size)⟩
               have O3 : Hid (OwnT w3 w.heap.size (.slice (some ⟨gg, 0, none⟩) cap cap) (st.take cap) ∧ w3.ownsRow w.heap.size 9 1 (.slice (some ⟨gg, 0, none⟩) cap cap) cap ((st.take cap).map fun x => Value.string (Lx.bs x))) := (by
                 have h1 := HOC.out.1.call X3.out.2
                 have h2 := h1
                 unfold OwnT at h2
                 rw [HOC.out.2.2.2.2.2.2] at h2
                 exact ⟨h1, h2⟩))
            | (refine step_append_lies _ (by rfl) _ _ _ (by rfl) w.heap.size 9 i0 _ 1 16 Tryz.underlying40 hi hz0 hz1 hz2 rfl (by omega) _ _ _ (by rfl) (O3.out.2.alloc _) ⟨w3.heap.size, 0, none⟩ 1 1 [.string (Lx.bs x)] (by rfl) (by rfl) (World.news_of_block (heap_alloc_new w3 _)) (by simp [Value.oneCell']) (by omega) fit63.out fit47.out (by have := X3.out.1.size; simp; omega) (w3.heap.size + 1) (by simp) ?_; intro gg' cap' w5 hown5 hgrow5 hat5 hglt5
               have I5 : Hid (SH l w j1 (st.take cap ++ [x]) (.slice (some ⟨gg', 0, none⟩) (cap + 1) cap') w5) := (FIN.out w5 _ w3 _ O3.out.1 X3.out.1 hgrow5 hown5)
               clear hown5 hgrow5 hat5 hglt5)
            | fail "no arm")
          all_goals
            obtain ⟨v1, v2⟩ := HV.out
            go_wp2
            clear v1 v2
            go_roundw
          all_goals first
            | (simp only [intOf]; have := HJ1.out; have := HP.out; omega)
            | exact ⟨j1, _, by have := HJ1.out; have := HP.out; omega, rfl, I5.out⟩
            | ((repeat apply Exists.intro); exact ⟨⟨j1, _, by have := HJ1.out; have := HP.out; omega, rfl, I5.out⟩, rfl⟩)
        · have z0 : ¬ cap = f := hcf
          go_upto_region 6 with fail
          clear vf1 vf2
          go_region_law (first
            | (go_simp; go_at_call 80; refine (CS2.out _ ?_).mono ?_; (first | exact Below.refl _ _ | exact (Below.refl _ _).drew); rintro e w3 ⟨rfl, hb3⟩
               have X3 : Hid (Below w.heap.size w w3 ∧ Below wr.heap.size wr w3) := ⟨X2.out.2.1.drew.trans (hb3.mono X2.out.2.1.drew.size), X2.out.2.2.drew.trans (hb3.mono X2.out.2.2.drew.size)⟩
               have O3 : Hid (OwnT w3 w.heap.size (.slice (some ⟨gg, 0, none⟩) f cap) (st.take f) ∧ w3.ownsRow w.heap.size 9 1 (.slice (some ⟨gg, 0, none⟩) f cap) f ((st.take f).map fun x => Value.string (Lx.bs x))) := (by
                 have h1 := HOC.out.1.call X3.out.2
                 have h2 := h1
                 unfold OwnT at h2
                 rw [HOC.out.2.2.2.2.2.2] at h2
                 exact ⟨h1, h2⟩))
            | (refine step_append_lies _ (by rfl) _ _ _ (by rfl) w.heap.size 9 i0 _ 1 16 Tryz.underlying40 hi hz0 hz1 hz2 rfl (by omega) _ _ _ (by rfl) (O3.out.2.alloc _) ⟨w3.heap.size, 0, none⟩ 1 1 [.string (Lx.bs x)] (by rfl) (by rfl) (World.news_of_block (heap_alloc_new w3 _)) (by simp [Value.oneCell']) (by omega) fit63.out fit47.out (by have := X3.out.1.size; simp; omega) (w3.heap.size + 1) (by simp) ?_; intro gg' cap' w5 hown5 hgrow5 hat5 hglt5
               have I5 : Hid (SH l w j1 (st.take f ++ [x]) (.slice (some ⟨gg', 0, none⟩) (f + 1) cap') w5) := (FIN.out w5 _ w3 _ O3.out.1 X3.out.1 hgrow5 hown5)
               clear hown5 hgrow5 hat5 hglt5)
            | fail "no arm")
          all_goals
            obtain ⟨v1, v2⟩ := HV.out
            go_wp2
            clear v1 v2
            go_roundw
          all_goals first
            | (simp only [intOf]; have := HJ1.out; have := HP.out; omega)
            | exact ⟨j1, _, by have := HJ1.out; have := HP.out; omega, rfl, I5.out⟩
            | ((repeat apply Exists.intro); exact ⟨⟨j1, _, by have := HJ1.out; have := HP.out; omega, rfl, I5.out⟩, rfl⟩)
    · have q0 : ¬ (j : Int) < (n : Int) := by omega
      have HE : Hid (∃ x, st = [x] ∧ shownE l = x) := by
        have h1 := HI.out.right
        have h2 := HI.out.stack
        rw [List.drop_eq_nil_of_le (by have := HS.out; omega)] at h1 h2
        rw [rightL, decide_eq_true_iff] at h1
        match st, h1, h2 with
        | [x], _, h2 => exact ⟨x, rfl, by rw [shownE, h2, stackL]; rfl⟩
      obtain ⟨x, hst, hsh⟩ := HE.out
      obtain ⟨ga, gc, hv⟩ := HI.out.own.form
      have ho := HI.out.own
      rw [hv] at ho
      obtain ⟨o1, o2, o3, o4⟩ := ho.sr
      subst hst
      obtain ⟨g1, o1', e1, cx⟩ := o3 0 x rfl
      rw [Nat.add_zero] at cx
      subst hv e1
      have HF : Hid (shownE l = x ∧ Below w.heap.size w wr) := ⟨hsh, HI.out.below⟩
      clear hsh ho o1 o2 o3 o4 hlt hj hm HM HI HE
      go_wp2
      go_ret
      exact ⟨by rw [HF.out.1]; rfl, HF.out.2⟩
end Ps
end Go.Proofs.YtocnjmndiogdmaaGreatDoor
