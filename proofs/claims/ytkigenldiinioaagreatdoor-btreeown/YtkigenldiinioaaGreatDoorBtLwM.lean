/- A list laid as a tree: walked. -/
import Derived.Test.YtkigenldiinioaaGreatDoorQ18M
namespace Go.Proofs.YtkigenldiinioaaGreatDoor
open Go.RowKit
open Vl (V)
attribute [local go_sem ↓] Go.wp_at_zero Go.wp_at_succ
theorem lay_nums {n i a b m q u : Nat} (h3 : 3 < n) (hn : n ≤ 1100) (hi : i < 4) (ha : a = n - 3) (hb : b = i + 1) (hm : m = a * b) (hq : q = m / 4) (hu : u = q + i) :
    (IntKind.i64.wrap ((n : Int) - 3) = (a : Int) ∧ wrap64 ((n : Int) - 3) = (a : Int)) ∧ (IntKind.i64.wrap ((i : Int) + 1) = (b : Int) ∧ wrap64 ((i : Int) + 1) = (b : Int)) ∧ (IntKind.i64.wrap ((a : Int) * (b : Int)) = (m : Int) ∧ wrap64 ((a : Int) * (b : Int)) = (m : Int)) ∧ ((m : Int).tdiv 4 = (q : Int) ∧ (m : Int) / 4 = (q : Int) ∧ IntKind.i64.wrap (q : Int) = (q : Int) ∧ wrap64 (q : Int) = (q : Int)) ∧ (IntKind.i64.wrap ((q : Int) + (i : Int)) = (u : Int) ∧ wrap64 ((q : Int) + (i : Int)) = (u : Int)) := by
  have hm2 : m ≤ 4388 := by rw [hm]; exact Nat.mul_le_mul (show a ≤ 1097 by omega) (show b ≤ 4 by omega)
  refine ⟨Bt.wr (by omega) (by omega), Bt.wr (by omega) (by omega), Bt.wr (by rw [hm, Int.natCast_mul]) (by omega), ⟨by rw [hq]; rfl, by omega, Bt.wr rfl (by omega)⟩, Bt.wr (by omega) (by omega)⟩
/-- what lay does of a list -/
def LayOK (n : Nat) : Prop := ∀ (b off c : Nat) (l : List Nat) (w : World), l.length = n → n ≤ c → b < w.heap.size → (∀ j e, l[j]? = some e → w.cell? ⟨b, off + j, none⟩ = some (.pointer (some ⟨e, 0, none⟩))) →
  Calls Tryz.prog 63 #[.slice (some ⟨b, off, none⟩) n c] w fun e w' => ∃ t, e = .returned (Bt.ptr (Bt.top t)) ∧ Below w.heap.size w w' ∧ Laid w.heap.size l t w'
/-- what comes ahead in lay's first region -/
def Bt.lpre : Nat → List Nat := fun i => (#[[], [], [], [], [], [2, 3, 4], [2, 3, 4, 5], [0], [0, 7], [0, 1, 7, 8], [0, 1, 2, 3, 4, 5, 6, 7, 8, 9]] : Array (List Nat)).getD i []
/-- what its slots hold -/
def Bt.lval (b off n c g i s u k o2 : Nat) : Nat → Value := fun i' => (#[.pointer (some ⟨g, 0, none⟩), .int .i64 (i : Int), .slice (some ⟨b, off, none⟩) n c, .int .i64 (s : Int), .int .i64 (u : Int), .slice (some ⟨b, o2, none⟩) k (c - s), undef, .pointer (some ⟨g, 0, none⟩), .pointer (some ⟨g, 1, none⟩), .pointer (some ⟨g, 1 + i, none⟩), undef] : Array Value).getD i' undef
/-- what comes ahead in its second one -/
def Bt.mpre : Nat → List Nat := fun i => (#[[], [], [1], [1, 2], [1, 2, 3], [], [], [5, 6], [5, 6, 7], [5, 6, 7, 8], [1, 2, 3, 4, 5, 6, 7, 8, 9], [0], [0, 11], [0, 1, 2, 3, 4, 5, 6, 7, 8, 9, 10, 11, 12]] : Array (List Nat)).getD i []
def Bt.mval (b off n c g u o3 x sz : Nat) (sv : Value) : Nat → Value := fun i' => (#[.pointer (some ⟨g, 0, none⟩), .pointer (some ⟨g, 0, none⟩), .pointer (some ⟨g, 0, none⟩), .pointer (some ⟨g, 0, none⟩), sv, .slice (some ⟨b, off, none⟩) n c, .int .i64 (u : Int), .pointer (some ⟨b, o3, none⟩), .pointer (some ⟨x, 0, none⟩), .slice (some ⟨sz, 0, none⟩) 1 1, undef, .pointer (some ⟨g, 0, none⟩), .pointer (some ⟨g, 0, none⟩), undef] : Array Value).getD i' undef
theorem Bt.upto_eq {n i a b m q u : Nat} (ha : a = n - 3) (hb : b = i + 1) (hm : m = a * b) (hq : q = m / 4) (hu : u = q + i) : u = Bt.upto n i := by rw [hu, hq, hm, hb, ha]; rfl
set_option maxHeartbeats 4000000 in
set_option maxRecDepth 100000 in
theorem lay_many (n : Nat) (h3 : 3 < n) (hn : n ≤ 1100) (IH : ∀ k, k < n → LayOK k) : LayOK n := by
  intro b off c l w hl hc hb hx
  have HL : Hid (l.length = n ∧ b < w.heap.size ∧ n ≤ c) := ⟨hl, hb, hc⟩
  have HX : Hid (∀ j e, l[j]? = some e → w.cell? ⟨b, off + j, none⟩ = some (.pointer (some ⟨e, 0, none⟩))) := hx
  have HIH : Hid (∀ k, k < n → LayOK k) := IH
  have q0 : ¬ ((n : Int) = 0) := by omega
  have q1 : ((n : Int) == 0) = false := by simp; omega
  have q2 : ¬ (n : Int) ≤ 3 := by omega
  have HS : Hid (LL w w.heap.size l 0 0 (fun _ => .nil) (.slice none 0 0) (w.alloc (.cells #[.slice none 0 0, .pointer none, .pointer none, .pointer none, .pointer none, .int .i64 (n : Int)] 95))) := LL.start (below_new _ _) (Nat.le_refl _) (by rw [hl]; exact heap_alloc_new w _)
  have HN : Hid (3 < n ∧ n ≤ 1100) := ⟨h3, hn⟩
  clear hl hc hb hx IH h3 hn
  go_enter Tryz.func63, Tryz.ntmps63
  go_upto_region 6 with fail
  obtain ⟨g, hg⟩ : ∃ g, g = w.heap.size := ⟨_, rfl⟩
  obtain ⟨w1, hw1⟩ : ∃ w1, w1 = w.alloc (.cells #[.slice none 0 0, .pointer none, .pointer none, .pointer none, .pointer none, .int .i64 (n : Int)] 95) := ⟨_, rfl⟩
  have HS2 : Hid (LL w g l 0 0 (fun _ => .nil) (.slice none 0 0) w1) := by rw [hg, hw1]; exact HS.out
  rw [← hg, ← hw1]
  clear HS hg hw1
  go_wp2
  go_loopw [4, 25] (fun v u wr => ∃ (i : Nat) (ts : Nat → Bt.T) (sv : Value), v = .int .i64 (Bt.frm n i : Int) ∧ u = .int .i64 (i : Int) ∧ i ≤ 4 ∧ LL w g l i (min i 3) ts sv wr) (fun _ u _ => 4 - (intOf u).toNat)
  case atStart => exact ⟨0, _, _, rfl, rfl, by omega, HS2.out⟩
  case round =>
    clear HS2
    obtain ⟨i, ts, sv, rfl, rfl, hi, hLL⟩ := hrel
    have HH : Hid (LL w g l i (min i 3) ts sv wr) := hLL
    clear hLL
    by_cases hi4 : i = 4
    · subst hi4
      have HF : Hid _ := HH.out.done (by have := HL.out; have := HN.out; omega)
      go_wp2
      go_ret
      obtain ⟨r, hF⟩ := HF.out
      exact ⟨_, rfl, HH.out.below, hF⟩
    · have hi5 : i < 4 := by omega
      have q3 : (i : Int) < 4 := by omega
      obtain ⟨a, ha⟩ : ∃ a, a = n - 3 := ⟨_, rfl⟩
      obtain ⟨bb, hbb⟩ : ∃ b, b = i + 1 := ⟨_, rfl⟩
      obtain ⟨m, hm⟩ : ∃ m, m = a * bb := ⟨_, rfl⟩
      obtain ⟨q, hq⟩ : ∃ q, q = m / 4 := ⟨_, rfl⟩
      obtain ⟨u, hu⟩ : ∃ u, u = q + i := ⟨_, rfl⟩
      obtain ⟨⟨v1, v2⟩, ⟨v3, v4⟩, ⟨v5, v6⟩, ⟨v7, v8, v11, v12⟩, v9, v10⟩ := lay_nums HN.out.1 HN.out.2 hi5 ha hbb hm hq hu
      have hU := Bt.upto_eq ha hbb hm hq hu
      obtain ⟨s, hs⟩ : ∃ s, s = Bt.frm n i := ⟨_, rfl⟩
      rw [← hs]
      have HU : Hid (u = Bt.upto n i ∧ s = Bt.frm n i ∧ i < 4 ∧ bb = i + 1) := ⟨hU, hs, hi5, hbb⟩
      clear ha hbb hm hq hu hU hs hi4 hi hi5
      go_upto_region 11 with fail
      have HV : Hid (IntKind.i64.wrap ((i : Int) + 1) = (bb : Int) ∧ wrap64 ((i : Int) + 1) = (bb : Int)) := ⟨v3, v4⟩
      clear v1 v2 v3 v4 v5 v6 v7 v8 v9 v10 v11 v12
      obtain ⟨k, hk⟩ : ∃ k, k = u - s := ⟨_, rfl⟩
      obtain ⟨o2, ho2⟩ : ∃ o2, o2 = off + s := ⟨_, rfl⟩
      have hfl : s ≤ u ∧ u ≤ n ∧ s < n := by
        have h1 := HN.out.1
        obtain ⟨e1, e2, e3, _⟩ := HU.out
        have h2 := Bt.frm_le h1 e3
        have h3 := Bt.upto_most h1 e3
        have h4 := Bt.frm_lt h1 e3
        rw [e1, e2]; exact ⟨h2, h3, h4⟩
      have CL : Hid (∀ W, Below wr.heap.size wr W → Calls Tryz.prog 63 #[.slice (some ⟨b, o2, none⟩) k (c - s)] W fun ex w' => ∃ t', ex = .returned (Bt.ptr (Bt.top t')) ∧ Below wr.heap.size wr w' ∧ Laid wr.heap.size (Bt.part l i) t' w') := fun W hW => by
        have h1 := HN.out.1
        obtain ⟨e1, e2, e3, _⟩ := HU.out
        have hll := HL.out.1
        have hp := Bt.part_length (l := l) (i := i) (by omega) e3
        have hps := Bt.part_small (l := l) (i := i) (by omega) e3
        rw [hll, ← e1, ← e2, ← hk] at hp
        have b1 := HH.out.below.trans (hW.mono HH.out.below.size)
        have bl : b < wr.heap.size := Nat.lt_of_lt_of_le HL.out.2.1 HH.out.below.size
        refine (HIH.out k (by omega) b o2 (c - s) (Bt.part l i) W hp (by have := HL.out.2.2; omega) (Nat.lt_of_lt_of_le bl hW.size) (fun j e hj => ?_)).mono ?_
        · have h2 := Bt.part_at hj
          rw [hll, ← e2] at h2
          have h3 := HX.out _ _ h2
          rw [ho2, Nat.add_assoc]
          exact (b1.cell (p := ⟨b, off + (s + j), none⟩) HL.out.2.1).trans h3
        · rintro ex w' ⟨t', rfl, hb', hM⟩
          exact ⟨t', rfl, hW.trans (hb'.mono hW.size), hM.stays (fun _ _ => rfl) fun x hx => Nat.le_trans hW.size (hM.new x hx)⟩
      have HND : Hid (∀ W, Below wr.heap.size wr W → (∃ x, W.cell? ⟨g, 1 + i, none⟩ = some x) ∧ W.frozen? ⟨g, 1 + i, none⟩ = false) := fun W hW => by
        have n1 := (hW.block g (lt_of_row HH.out.node)).trans HH.out.node
        have e3 := HU.out.2.2.1
        refine ⟨?_, row_freeV n1 _⟩
        rcases (show i = 0 ∨ i = 1 ∨ i = 2 ∨ i = 3 by omega) with rfl | rfl | rfl | rfl
        · exact ⟨_, cells_at n1 1 _ rfl⟩
        · exact ⟨_, cells_at n1 2 _ rfl⟩
        · exact ⟨_, cells_at n1 3 _ rfl⟩
        · exact ⟨_, cells_at n1 4 _ rfl⟩
      have z1 : (0 : Int) ≤ (s : Int) := Int.natCast_nonneg _
      have z2 : (s : Int) ≤ (u : Int) := Int.ofNat_le.2 hfl.1
      have z3 : (u : Int) ≤ (c : Int) := Int.ofNat_le.2 (Nat.le_trans hfl.2.1 HL.out.2.2)
      have z4 : ¬ c - s = 0 := by have := HL.out.2.2; omega
      have z6 : ¬ c = s := by have := HL.out.2.2; omega
      have z5 : (0 : Int) ≤ (i : Int) := Int.natCast_nonneg _
      have HK : Hid (k = u - s ∧ o2 = off + s ∧ s ≤ u ∧ u ≤ n ∧ s < n) := ⟨hk, ho2, hfl⟩
      have hk' := hk.symm
      have ho2' := ho2.symm
      clear hk ho2 hfl
      refine wp_region_ph (by kernel_rfl) (by kernel_rfl) Bt.lpre (by kernel_rfl) (fun f => { tmps := #[.slice (some ⟨b, off, none⟩) n c, undef, .pointer none, .pointer (some ⟨g, 0, none⟩), .int .i64 (s : Int), .int .i64 (i : Int), .int .i64 (u), .bool false, .slice (some ⟨b, off, none⟩) n c, .int .i64 (n : Int), .bool false, .bool false, .slice (some ⟨b, off, none⟩) n c, .int .i64 (n : Int), .bool false, undef, undef, undef, undef, undef, undef, .slice (some ⟨b, off, none⟩) n c, .int .i64 (n : Int), .agg #[.slice none 0 0, .pointer none, .pointer none, .pointer none, .pointer none, .int .i64 (n : Int)], .pointer (some ⟨g, 0, none⟩), .int .i64 (i : Int), .bool true, .int .i64 (i : Int), .slice (some ⟨b, off, none⟩) n c, .int .i64 (n : Int), .int .i64 (a : Int), .int .i64 (i : Int), .int .i64 (bb : Int), .int .i64 (m : Int), .int .i64 (q), .int .i64 (i : Int), .int .i64 (u), f 0, f 1, f 2, f 3, f 4, f 5, f 6, f 7, f 8, f 9, u47, u48, u49, u50, u51, u52, u53, u54, u55, u56, u57, u58, u59, u60, u61, u62, u63, u64, undef], defers := [] }) (fun j => (#[u37, u38, u39, u40, u41, u42, u43, u44, u45, u46] : Array Value).getD j undef) rfl (ZK (Bt.lval b off n c g i s u k o2) 5 6 10 (fun W => Below wr.heap.size wr W) (fun W => Below wr.heap.size wr W) (fun v W => ∃ t', v = Bt.ptr (Bt.top t') ∧ Below wr.heap.size wr W ∧ Laid wr.heap.size (Bt.part l i) t' W) (fun W => ∃ t' W1, Below wr.heap.size wr W1 ∧ Laid wr.heap.size (Bt.part l i) t' W1 ∧ W = W1.setCell ⟨g, 1 + i, none⟩ (Bt.ptr (Bt.top t')))) ?init ?step ?done
      case init => exact ZK.start ((Below.refl _ _).drew)
      case step =>
        intro j hj L f W hLi hwt hno hI
        have HI : Hid _ := hI
        have hj11 : j < 11 := hj
        clear hj hI
        rcases (show j = 0 ∨ j = 1 ∨ j = 2 ∨ j = 3 ∨ j = 4 ∨ j = 5 ∨ j = 6 ∨ j = 7 ∨ j = 8 ∨ j = 9 ∨ j = 10 by omega) with rfl | rfl | rfl | rfl | rfl | rfl | rfl | rfl | rfl | rfl | rfl
        · -- 0: {t37 := Op.move (tmp 3) :67}
          clear hwt hno hLi
          refine wpOp_of rfl rfl ?_
          intro K' hK'
          have HK' : Hid _ := hK'
          clear hK'
          change Oper.wp _ ⟨_, _, _, _, _, _⟩ _ _ _ _
          dsimp only
          go_simp
          exact HK'.out _ _ ⟨.pointer (some ⟨g, 0, none⟩), (by simp [upd]), HI.out.pure (by omega) (by omega) (by omega) rfl⟩
        · -- 1: {t38 := Op.move (tmp 5) :3}
          clear hwt hno hLi
          refine wpOp_of rfl rfl ?_
          intro K' hK'
          have HK' : Hid _ := hK'
          clear hK'
          change Oper.wp _ ⟨_, _, _, _, _, _⟩ _ _ _ _
          dsimp only
          go_simp
          exact HK'.out _ _ ⟨.int .i64 (i : Int), (by simp [upd]), HI.out.pure (by omega) (by omega) (by omega) rfl⟩
        · -- 2: {t39 := Op.move (tmp 0) :92}
          clear hwt hno hLi
          refine wpOp_of rfl rfl ?_
          intro K' hK'
          have HK' : Hid _ := hK'
          clear hK'
          change Oper.wp _ ⟨_, _, _, _, _, _⟩ _ _ _ _
          dsimp only
          go_simp
          exact HK'.out _ _ ⟨.slice (some ⟨b, off, none⟩) n c, (by simp [upd]), HI.out.pure (by omega) (by omega) (by omega) rfl⟩
        · -- 3: {t40 := Op.move (tmp 4) :3}
          clear hwt hno hLi
          refine wpOp_of rfl rfl ?_
          intro K' hK'
          have HK' : Hid _ := hK'
          clear hK'
          change Oper.wp _ ⟨_, _, _, _, _, _⟩ _ _ _ _
          dsimp only
          go_simp
          exact HK'.out _ _ ⟨.int .i64 (s : Int), (by simp [upd]), HI.out.pure (by omega) (by omega) (by omega) rfl⟩
        · -- 4: {t41 := Op.move (tmp 6) :3}
          clear hwt hno hLi
          refine wpOp_of rfl rfl ?_
          intro K' hK'
          have HK' : Hid _ := hK'
          clear hK'
          change Oper.wp _ ⟨_, _, _, _, _, _⟩ _ _ _ _
          dsimp only
          go_simp
          exact HK'.out _ _ ⟨.int .i64 (u : Int), (by simp [upd]), HI.out.pure (by omega) (by omega) (by omega) rfl⟩
        · -- 5: {t42 := Op.slice 92 (tmp 39) (some (tmp 40)) (some (tmp 41))
          have g2 : f 2 = .slice (some ⟨b, off, none⟩) n c := HI.out.vals 2 (by omega) (by omega) (hwt 2 rfl)
          have g3 : f 3 = .int .i64 (s : Int) := HI.out.vals 3 (by omega) (by omega) (hwt 3 rfl)
          have g4 : f 4 = .int .i64 (u : Int) := HI.out.vals 4 (by omega) (by omega) (hwt 4 rfl)
          have hp := HI.out.a0 hLi
          have HP : Hid (Below wr.heap.size wr W ∧ L 5 = false) := ⟨hp.2.2, hLi⟩
          clear hp
          clear hwt hno hLi
          refine wpOp_of rfl rfl ?_
          intro K' hK'
          have HK' : Hid _ := hK'
          clear hK'
          change Oper.wp _ ⟨_, _, _, _, _, _⟩ _ _ _ _
          dsimp only
          rw [g2, g3, g4]
          go_simp
          exact HK'.out _ _ ⟨.slice (some ⟨b, o2, none⟩) k (c - s), (by simp [upd, g2, g3, g4]), HI.out.first (by omega) (by omega) HP.out.2 rfl HP.out.1⟩
        · -- 6: {t43 := Op.call { callee := Callee.value (func 63), args := 
          have g5 : f 5 = .slice (some ⟨b, o2, none⟩) k (c - s) := HI.out.vals 5 (by omega) (by omega) (hwt 5 rfl)
          have hp := (HI.out.a1 (hwt 5 rfl) hLi).2
          have HP : Hid (Below wr.heap.size wr W ∧ L 5 = true ∧ L 6 = false) := ⟨hp, hwt 5 rfl, hLi⟩
          clear hp
          clear hwt hno hLi
          refine wpOp_of rfl rfl ?_
          intro K' hK'
          have HK' : Hid _ := hK'
          clear hK'
          change Oper.wp _ ⟨_, _, _, _, _, _⟩ _ _ _ _
          dsimp only
          rw [g5]
          go_simp
          go_at_call 63
          refine (CL.out W HP.out.1).mono ?_
          rintro ex wa ⟨t', rfl, hM⟩
          exact HK'.out _ _ ⟨Bt.ptr (Bt.top t'), (by simp [upd, g5]), HI.out.call (by omega) (by omega) HP.out.2.1 HP.out.2.2 ⟨t', rfl, hM⟩⟩
        · -- 7: {t44 := Op.nilCheck (tmp 37) :0}
          have g0 : f 0 = .pointer (some ⟨g, 0, none⟩) := HI.out.vals 0 (by omega) (by omega) (hwt 0 rfl)
          clear hwt hno hLi
          refine wpOp_of rfl rfl ?_
          intro K' hK'
          have HK' : Hid _ := hK'
          clear hK'
          change Oper.wp _ ⟨_, _, _, _, _, _⟩ _ _ _ _
          dsimp only
          rw [g0]
          go_simp
          exact HK'.out _ _ ⟨.pointer (some ⟨g, 0, none⟩), (by simp [upd, g0]), HI.out.pure (by omega) (by omega) (by omega) rfl⟩
        · -- 8: {t45 := Op.fieldAddr 95 (tmp 44) 1 :0}
          have g7 : f 7 = .pointer (some ⟨g, 0, none⟩) := HI.out.vals 7 (by omega) (by omega) (hwt 7 rfl)
          clear hwt hno hLi
          refine wpOp_of rfl rfl ?_
          intro K' hK'
          have HK' : Hid _ := hK'
          clear hK'
          change Oper.wp _ ⟨_, _, _, _, _, _⟩ _ _ _ _
          dsimp only
          rw [g7]
          go_simp
          exact HK'.out _ _ ⟨.pointer (some ⟨g, 1, none⟩), (by simp [upd, g7]), HI.out.pure (by omega) (by omega) (by omega) rfl⟩
        · -- 9: {t46 := Op.indexAddr 93 (tmp 45) (tmp 38) :0}
          have g8 : f 8 = .pointer (some ⟨g, 1, none⟩) := HI.out.vals 8 (by omega) (by omega) (hwt 8 rfl)
          have g1 : f 1 = .int .i64 (i : Int) := HI.out.vals 1 (by omega) (by omega) (hwt 1 rfl)
          clear hwt hno hLi
          refine wpOp_of rfl rfl ?_
          intro K' hK'
          have HK' : Hid _ := hK'
          clear hK'
          change Oper.wp _ ⟨_, _, _, _, _, _⟩ _ _ _ _
          dsimp only
          rw [g8, g1]
          go_simp
          exact HK'.out _ _ ⟨.pointer (some ⟨g, 1 + i, none⟩), (by simp [upd, g8, g1]), HI.out.pure (by omega) (by omega) (by omega) rfl⟩
        · -- 10: {Op.store 67 (tmp 46) (tmp 43) :0}
          have g9 : f 9 = .pointer (some ⟨g, 1 + i, none⟩) := HI.out.vals 9 (by omega) (by omega) (hwt 9 rfl)
          obtain ⟨t', g6, hM⟩ := HI.out.m (hwt 6 rfl) hLi
          have HP : Hid ((Below wr.heap.size wr W ∧ Laid wr.heap.size (Bt.part l i) t' W) ∧ L 5 = true ∧ L 6 = true) := ⟨hM, hwt 5 rfl, hwt 6 rfl⟩
          obtain ⟨⟨xz, cz⟩, fz⟩ := HND.out W hM.1
          obtain ⟨pp, hpp⟩ : ∃ pp, Bt.ptr (Bt.top t') = .pointer pp := ⟨_, rfl⟩
          rw [hpp] at g6
          have HPP : Hid (Bt.ptr (Bt.top t') = .pointer pp) := hpp
          clear hM hpp
          clear hwt hno hLi
          refine wpOp_of rfl rfl ?_
          intro K' hK'
          have HK' : Hid _ := hK'
          clear hK'
          change Oper.wp _ ⟨_, _, _, _, _, _⟩ _ _ _ _
          dsimp only
          rw [g9, g6]
          go_simp
          exact HK'.out _ _ ⟨undef, (by simp [upd, g9, g6]), HI.out.store (by omega) (by omega) HP.out.2.1 HP.out.2.2 ⟨t', W, HP.out.1.1, HP.out.1.2, by rw [HPP.out]⟩⟩
      case done =>
        intro L f W hL hI
        obtain ⟨t', W1, hb1, hM1, hWe⟩ := hI.p (hL 10 (by simp))
        have HQ : Hid (LL w g l (i + 1) (min i 3) (Bt.set ts i t') sv W) := HH.out.laid HU.out.2.2.1 hb1 hM1 hWe
        clear hI hL hb1 hM1 hWe CL HND HH
        obtain ⟨x0, x1, x2, x3, x4, x5, x6, x7, x8, x9, hxs⟩ : ∃ x0 x1 x2 x3 x4 x5 x6 x7 x8 x9, x0 = f 0 ∧ x1 = f 1 ∧ x2 = f 2 ∧ x3 = f 3 ∧ x4 = f 4 ∧ x5 = f 5 ∧ x6 = f 6 ∧ x7 = f 7 ∧ x8 = f 8 ∧ x9 = f 9 := ⟨_, _, _, _, _, _, _, _, _, _, rfl, rfl, rfl, rfl, rfl, rfl, rfl, rfl, rfl, rfl⟩
        obtain ⟨y0, y1, y2, y3, y4, y5, y6, y7, y8, y9⟩ := hxs
        dsimp only
        rw [← y0, ← y1, ← y2, ← y3, ← y4, ← y5, ← y6, ← y7, ← y8, ← y9]
        clear y0 y1 y2 y3 y4 y5 y6 y7 y8 y9
        obtain ⟨u1, hu1⟩ : ∃ u1, u1 = u + 1 := ⟨_, rfl⟩
        obtain ⟨t1, t2⟩ : IntKind.i64.wrap ((u : Int) + 1) = (u1 : Int) ∧ wrap64 ((u : Int) + 1) = (u1 : Int) := succs hu1 (by have := HK.out; have := HN.out; omega)
        obtain ⟨t3, t4⟩ := HV.out
        have HU1 : Hid (u1 = Bt.frm n (i + 1)) := by show _ = _; rw [hu1, Bt.frm_succ, HU.out.1]
        clear hu1 z1 z2 z3 z4 z5 z6 hk' ho2'
        by_cases hi3 : i < 3
        · have w3 : (i : Int) < 3 := by omega
          have em : min i 3 = i := by omega
          have HQ2 : Hid (LL w g l (i + 1) i (Bt.set ts i t') sv W) := by
            have := HQ.out
            rw [em] at this
            exact this
          clear HQ em
          obtain ⟨av, cp, rfl⟩ : ∃ av cp, sv = .slice av i cp := by
            rcases HQ2.out.row.2 with ⟨q1, q2⟩ | ⟨gg, cap, cur, q1, _⟩
            · exact ⟨_, _, by rw [q1, q2]⟩
            · exact ⟨_, _, q1⟩
          obtain ⟨W0, hW0⟩ : ∃ W0, W0 = W.drew := ⟨_, rfl⟩
          obtain ⟨x, hx⟩ : ∃ x, x = Bt.mid l i := ⟨_, rfl⟩
          obtain ⟨X, hX⟩ : ∃ X, X = W0.alloc (.cells #[.pointer (some ⟨x, 0, none⟩)] 71) := ⟨_, rfl⟩
          obtain ⟨sz, hsz⟩ : ∃ sz, sz = W0.heap.size := ⟨_, rfl⟩
          have hB0 : Below W.heap.size W W0 := by rw [hW0]; exact (Below.refl _ _).drew
          have hBX : Below W.heap.size W X := by rw [hX]; exact hB0.alloc hB0.size _
          have HWX : Hid (X = W0.alloc (.cells #[.pointer (some ⟨x, 0, none⟩)] 71) ∧ sz = W0.heap.size ∧ W0 = W.drew) := ⟨hX, hsz, hW0⟩
          obtain ⟨o3, ho3⟩ : ∃ o3, o3 = off + u := ⟨_, rfl⟩
          have HC : Hid (∀ W', (W' = W0 ∨ W' = X) → W'.cell? ⟨g, 0, none⟩ = some (.slice av i cp) ∧ W'.cell? ⟨b, o3, none⟩ = some (.pointer (some ⟨x, 0, none⟩))) := fun W' hW' => by
            have hb' : Below W.heap.size W W' := by
              rcases hW' with rfl | rfl
              · exact hB0
              · exact hBX
            refine ⟨cells_at ((hb'.block g (lt_of_row HQ2.out.node)).trans HQ2.out.node) 0 _ rfl, ?_⟩
            have h1 := HN.out.1
            have h2 := Bt.mid_at (l := l) (i := i) (by rw [HL.out.1]; exact h1) hi3
            rw [HL.out.1, ← HU.out.1, ← hx] at h2
            rw [ho3]
            have bl := HQ2.out.below
            exact (hb'.cell (p := ⟨b, off + u, none⟩) (Nat.lt_of_lt_of_le HL.out.2.1 bl.size)).trans ((bl.cell (p := ⟨b, off + u, none⟩) HL.out.2.1).trans (HX.out _ _ h2))
          have HOW : Hid (X.ownsRow (g + 1) 71 1 (.slice av i cp) i (Bt.ptrs (Bt.mids l i)) ∧ (∀ j v, [Value.pointer (some ⟨x, 0, none⟩)][j]? = some v → X.cell? (Addr.add ⟨sz, 0, none⟩ j) = some v) ∧ i + 1 ≤ maxLen ∧ (i + 1) * 8 ≤ 140737488355328 ∧ g + 1 ≤ X.heap.size) := by
            refine ⟨owns_stays HQ2.out.row fun r hr => hBX.block r (own_lt HQ2.out.row hr).2, fun j v hj => ?_, by unfold maxLen; omega, by omega, ?_⟩
            · cases j with
              | zero =>
                simp at hj
                subst hj
                rw [hX, hsz]
                exact cells_at (heap_alloc_new W0 _) 0 _ rfl
              | succ j => simp at hj
            · have := lt_of_row HQ2.out.node
              have := hBX.size
              omega
          have HFIN : Hid (∀ sv' W3 W4, W3.ownsRow (g + 1) 71 1 sv' (i + 1) (Bt.ptrs (Bt.mids l i) ++ [.pointer (some ⟨x, 0, none⟩)]) → X.grownBy W3 (Value.slice av i cp).ownBlock → (sv'.ownBlock = (Value.slice av i cp).ownBlock ∨ sv'.ownBlock = some X.heap.size) → W4 = W3.setCell ⟨g, 0, none⟩ sv' → LL w g l (i + 1) (i + 1) (Bt.set ts i t') sv' W4) := fun sv' W3 W4 h1 h2 h3 h4 => by
            rw [hx] at h1
            exact HQ2.out.more hBX h1 h2 h3 h4
          have HNG : Hid (∀ W3, X.grownBy W3 (Value.slice av i cp).ownBlock → (∃ y, W3.cell? ⟨g, 0, none⟩ = some y) ∧ W3.frozen? ⟨g, 0, none⟩ = false) := fun W3 h2 => by
            have hg := lt_of_row HQ2.out.node
            have n3 := (h2.block g (Nat.lt_of_lt_of_le hg hBX.size) (fun q => by have := (own_lt HQ2.out.row q.symm).1; omega)).trans ((hBX.block g hg).trans HQ2.out.node)
            exact ⟨⟨_, cells_at n3 0 _ rfl⟩, row_freeV n3 _⟩
          obtain ⟨i0, hi0, hz0, hz1, hz2⟩ := info_parts all_info
          have HI0 : Hid _ := And.intro hi0 (And.intro hz0 (And.intro hz1 hz2))
          have z1 : (0 : Int) ≤ (u : Int) := Int.natCast_nonneg _
          have z2 : (u : Int) < (n : Int) := by have := HN.out.1; have h2 := Bt.upto_lt this hi3; rw [← HU.out.1] at h2; omega
          have ho3' := ho3.symm
          clear ho3 hX hsz hB0 hBX hx hi0 hz0 hz1 hz2 hW0 hi3
          go_upto_region 13 with fail
          refine wp_region_ph (by kernel_rfl) (by kernel_rfl) Bt.mpre (by kernel_rfl) (fun f => { tmps := #[.slice (some ⟨b, off, none⟩) n c, undef, .pointer none, .pointer (some ⟨g, 0, none⟩), .int .i64 (s : Int), .int .i64 (i : Int), .int .i64 (u), .bool false, .slice (some ⟨b, off, none⟩) n c, .int .i64 (n : Int), .bool false, .bool false, .slice (some ⟨b, off, none⟩) n c, .int .i64 (n : Int), .bool false, undef, undef, undef, undef, undef, undef, .slice (some ⟨b, off, none⟩) n c, .int .i64 (n : Int), .agg #[.slice none 0 0, .pointer none, .pointer none, .pointer none, .pointer none, .int .i64 (n : Int)], .pointer (some ⟨g, 0, none⟩), .int .i64 (i : Int), .bool true, .int .i64 (i : Int), .slice (some ⟨b, off, none⟩) n c, .int .i64 (n : Int), .int .i64 (a : Int), .int .i64 (i : Int), .int .i64 (bb : Int), .int .i64 (m : Int), .int .i64 (q), .int .i64 (i : Int), .int .i64 (u), x0, x1, x2, x3, x4, x5, x6, x7, x8, x9, .int .i64 (i : Int), .bool true, f 0, f 1, f 2, f 3, f 4, f 5, f 6, f 7, f 8, f 9, f 10, f 11, f 12, u62, u63, u64, undef], defers := [] }) (fun j => (#[u49, u50, u51, u52, u53, u54, u55, u56, u57, u58, u59, u60, u61] : Array Value).getD j undef) rfl (ZK (Bt.mval b off n c g u o3 x sz (.slice av i cp)) 9 10 13 (fun W' => W' = W0) (fun W' => W' = X) (fun v W3 => W3.ownsRow (g + 1) 71 1 v (i + 1) (Bt.ptrs (Bt.mids l i) ++ [.pointer (some ⟨x, 0, none⟩)]) ∧ X.grownBy W3 (Value.slice av i cp).ownBlock ∧ (v.ownBlock = (Value.slice av i cp).ownBlock ∨ v.ownBlock = some X.heap.size)) (fun W4 => ∃ sv', LL w g l (i + 1) (i + 1) (Bt.set ts i t') sv' W4)) ?init ?step ?done
          case init => exact ZK.start HWX.out.2.2.symm
          case step =>
            intro j hj L f W' hLi hwt hno hI
            have HI : Hid _ := hI
            have hj14 : j < 14 := hj
            clear hj hI
            rcases (show j = 0 ∨ j = 1 ∨ j = 2 ∨ j = 3 ∨ j = 4 ∨ j = 5 ∨ j = 6 ∨ j = 7 ∨ j = 8 ∨ j = 9 ∨ j = 10 ∨ j = 11 ∨ j = 12 ∨ j = 13 by omega) with rfl | rfl | rfl | rfl | rfl | rfl | rfl | rfl | rfl | rfl | rfl | rfl | rfl | rfl
            · -- 0: {t49 := Op.move (tmp 3) :67}
              clear hwt hno hLi
              refine wpOp_of rfl rfl ?_
              intro K' hK'
              have HK' : Hid _ := hK'
              clear hK'
              change Oper.wp _ ⟨_, _, _, _, _, _⟩ _ _ _ _
              dsimp only
              go_simp
              exact HK'.out _ _ ⟨.pointer (some ⟨g, 0, none⟩), (by simp [upd]), HI.out.pure (by omega) (by omega) (by omega) rfl⟩
            · -- 1: {t50 := Op.move (tmp 3) :67}
              clear hwt hno hLi
              refine wpOp_of rfl rfl ?_
              intro K' hK'
              have HK' : Hid _ := hK'
              clear hK'
              change Oper.wp _ ⟨_, _, _, _, _, _⟩ _ _ _ _
              dsimp only
              go_simp
              exact HK'.out _ _ ⟨.pointer (some ⟨g, 0, none⟩), (by simp [upd]), HI.out.pure (by omega) (by omega) (by omega) rfl⟩
            · -- 2: {t51 := Op.nilCheck (tmp 50) :0}
              have g1 : f 1 = .pointer (some ⟨g, 0, none⟩) := HI.out.vals 1 (by omega) (by omega) (hwt 1 rfl)
              clear hwt hno hLi
              refine wpOp_of rfl rfl ?_
              intro K' hK'
              have HK' : Hid _ := hK'
              clear hK'
              change Oper.wp _ ⟨_, _, _, _, _, _⟩ _ _ _ _
              dsimp only
              rw [g1]
              go_simp
              exact HK'.out _ _ ⟨.pointer (some ⟨g, 0, none⟩), (by simp [upd, g1]), HI.out.pure (by omega) (by omega) (by omega) rfl⟩
            · -- 3: {t52 := Op.fieldAddr 95 (tmp 51) 0 :0}
              have g2 : f 2 = .pointer (some ⟨g, 0, none⟩) := HI.out.vals 2 (by omega) (by omega) (hwt 2 rfl)
              clear hwt hno hLi
              refine wpOp_of rfl rfl ?_
              intro K' hK'
              have HK' : Hid _ := hK'
              clear hK'
              change Oper.wp _ ⟨_, _, _, _, _, _⟩ _ _ _ _
              dsimp only
              rw [g2]
              go_simp
              exact HK'.out _ _ ⟨.pointer (some ⟨g, 0, none⟩), (by simp [upd, g2]), HI.out.pure (by omega) (by omega) (by omega) rfl⟩
            · -- 4: {t53 := Op.load 92 (tmp 52) :92}
              have g3 : f 3 = .pointer (some ⟨g, 0, none⟩) := HI.out.vals 3 (by omega) (by omega) (hwt 3 rfl)
              have he := HC.out W' (HI.out.early (hno 10 (by decide)))
              obtain ⟨ca, cb⟩ := he
              clear hwt hno hLi
              refine wpOp_of rfl rfl ?_
              intro K' hK'
              have HK' : Hid _ := hK'
              clear hK'
              change Oper.wp _ ⟨_, _, _, _, _, _⟩ _ _ _ _
              dsimp only
              rw [g3]
              go_simp
              exact HK'.out _ _ ⟨.slice av i cp, (by simp [upd, g3]), HI.out.pure (by omega) (by omega) (by omega) rfl⟩
            · -- 5: {t54 := Op.move (tmp 0) :92}
              clear hwt hno hLi
              refine wpOp_of rfl rfl ?_
              intro K' hK'
              have HK' : Hid _ := hK'
              clear hK'
              change Oper.wp _ ⟨_, _, _, _, _, _⟩ _ _ _ _
              dsimp only
              go_simp
              exact HK'.out _ _ ⟨.slice (some ⟨b, off, none⟩) n c, (by simp [upd]), HI.out.pure (by omega) (by omega) (by omega) rfl⟩
            · -- 6: {t55 := Op.move (tmp 6) :3}
              clear hwt hno hLi
              refine wpOp_of rfl rfl ?_
              intro K' hK'
              have HK' : Hid _ := hK'
              clear hK'
              change Oper.wp _ ⟨_, _, _, _, _, _⟩ _ _ _ _
              dsimp only
              go_simp
              exact HK'.out _ _ ⟨.int .i64 (u : Int), (by simp [upd]), HI.out.pure (by omega) (by omega) (by omega) rfl⟩
            · -- 7: {t56 := Op.indexAddr 92 (tmp 54) (tmp 55) :0}
              have g5 : f 5 = .slice (some ⟨b, off, none⟩) n c := HI.out.vals 5 (by omega) (by omega) (hwt 5 rfl)
              have g6 : f 6 = .int .i64 (u : Int) := HI.out.vals 6 (by omega) (by omega) (hwt 6 rfl)
              clear hwt hno hLi
              refine wpOp_of rfl rfl ?_
              intro K' hK'
              have HK' : Hid _ := hK'
              clear hK'
              change Oper.wp _ ⟨_, _, _, _, _, _⟩ _ _ _ _
              dsimp only
              rw [g5, g6]
              go_simp
              exact HK'.out _ _ ⟨.pointer (some ⟨b, o3, none⟩), (by simp [upd, g5, g6]), HI.out.pure (by omega) (by omega) (by omega) rfl⟩
            · -- 8: {t57 := Op.load 71 (tmp 56) :71}
              have g7 : f 7 = .pointer (some ⟨b, o3, none⟩) := HI.out.vals 7 (by omega) (by omega) (hwt 7 rfl)
              have he := HC.out W' (HI.out.early (hno 10 (by decide)))
              obtain ⟨ca, cb⟩ := he
              clear hwt hno hLi
              refine wpOp_of rfl rfl ?_
              intro K' hK'
              have HK' : Hid _ := hK'
              clear hK'
              change Oper.wp _ ⟨_, _, _, _, _, _⟩ _ _ _ _
              dsimp only
              rw [g7]
              go_simp
              exact HK'.out _ _ ⟨.pointer (some ⟨x, 0, none⟩), (by simp [upd, g7]), HI.out.pure (by omega) (by omega) (by omega) rfl⟩
            · -- 9: {t58 := Op.buildSlice 92 1 #[(0, tmp 57)] :92}
              have g8 : f 8 = .pointer (some ⟨x, 0, none⟩) := HI.out.vals 8 (by omega) (by omega) (hwt 8 rfl)
              have hp := (HI.out.a0 hLi).2.2
              have HP : Hid (W' = W0 ∧ L 9 = false) := ⟨hp, hLi⟩
              clear hp
              clear hwt hno hLi
              refine wpOp_of rfl rfl ?_
              intro K' hK'
              have HK' : Hid _ := hK'
              clear hK'
              change Oper.wp _ ⟨_, _, _, _, _, _⟩ _ _ _ _
              dsimp only
              rw [g8]
              go_simp
              exact HK'.out _ _ ⟨.slice (some ⟨sz, 0, none⟩) 1 1, (by simp [upd, g8, HP.out.1, HWX.out.2.1]), HI.out.first (by omega) (by omega) HP.out.2 rfl (by rw [HP.out.1, HWX.out.1])⟩
            · -- 10: {t59 := Op.call { callee := Callee.builtin Builtin.append, a
              have g4 : f 4 = .slice av i cp := HI.out.vals 4 (by omega) (by omega) (hwt 4 rfl)
              have g9 : f 9 = .slice (some ⟨sz, 0, none⟩) 1 1 := HI.out.vals 9 (by omega) (by omega) (hwt 9 rfl)
              have hp := (HI.out.a1 (hwt 9 rfl) hLi).2
              have HP : Hid (L 9 = true ∧ L 10 = false) := ⟨hwt 9 rfl, hLi⟩
              subst hp
              clear hwt hno hLi
              refine wpOp_of rfl rfl ?_
              intro K' hK'
              have HK' : Hid _ := hK'
              clear hK'
              change Oper.wp _ ⟨_, _, _, _, _, _⟩ _ _ _ _
              refine oper_append_own _ _ 92 rfl (g + 1) 71 i0 _ 1 8 Tryz.underlying92 HI0.out.1 HI0.out.2.1 HI0.out.2.2.1 HI0.out.2.2.2 rfl (by decide) (.slice av i cp) i (Bt.ptrs (Bt.mids l i)) ?_ HOW.out.1 ⟨sz, 0, none⟩ 1 1 [.pointer (some ⟨x, 0, none⟩)] ?_ rfl HOW.out.2.1 (by simp [Value.oneCell']) HOW.out.2.2.1 HOW.out.2.2.2.1 HOW.out.2.2.2.2 ?_
              · exact g4
              · exact g9
              · intro v' W3 h1 h2 h4
                exact HK'.out _ _ ⟨v', (by simp [Act.put, upd]), HI.out.call (by omega) (by omega) HP.out.1 HP.out.2 ⟨h1, h2, h4⟩⟩
            · -- 11: {t60 := Op.nilCheck (tmp 49) :0}
              have g0 : f 0 = .pointer (some ⟨g, 0, none⟩) := HI.out.vals 0 (by omega) (by omega) (hwt 0 rfl)
              clear hwt hno hLi
              refine wpOp_of rfl rfl ?_
              intro K' hK'
              have HK' : Hid _ := hK'
              clear hK'
              change Oper.wp _ ⟨_, _, _, _, _, _⟩ _ _ _ _
              dsimp only
              rw [g0]
              go_simp
              exact HK'.out _ _ ⟨.pointer (some ⟨g, 0, none⟩), (by simp [upd, g0]), HI.out.pure (by omega) (by omega) (by omega) rfl⟩
            · -- 12: {t61 := Op.fieldAddr 95 (tmp 60) 0 :0}
              have g11 : f 11 = .pointer (some ⟨g, 0, none⟩) := HI.out.vals 11 (by omega) (by omega) (hwt 11 rfl)
              clear hwt hno hLi
              refine wpOp_of rfl rfl ?_
              intro K' hK'
              have HK' : Hid _ := hK'
              clear hK'
              change Oper.wp _ ⟨_, _, _, _, _, _⟩ _ _ _ _
              dsimp only
              rw [g11]
              go_simp
              exact HK'.out _ _ ⟨.pointer (some ⟨g, 0, none⟩), (by simp [upd, g11]), HI.out.pure (by omega) (by omega) (by omega) rfl⟩
            · -- 13: {Op.store 92 (tmp 61) (tmp 59) :0}
              have g12 : f 12 = .pointer (some ⟨g, 0, none⟩) := HI.out.vals 12 (by omega) (by omega) (hwt 12 rfl)
              have hM := HI.out.m (hwt 10 rfl) hLi
              have HP : Hid (L 9 = true ∧ L 10 = true) := ⟨hwt 9 (by rfl), hwt 10 rfl⟩
              obtain ⟨⟨xz, cz⟩, fz⟩ := HNG.out W' hM.2.1
              obtain ⟨r5, cap5, g10⟩ := ownsRow_succ hM.1
              have HM : Hid _ := hM
              clear hM
              clear hwt hno hLi
              refine wpOp_of rfl rfl ?_
              intro K' hK'
              have HK' : Hid _ := hK'
              clear hK'
              change Oper.wp _ ⟨_, _, _, _, _, _⟩ _ _ _ _
              dsimp only
              rw [g12, g10]
              go_simp
              exact HK'.out _ _ ⟨undef, (by simp [upd, g12, g10]), HI.out.store (by omega) (by omega) HP.out.1 HP.out.2 ⟨_, HFIN.out _ _ _ HM.out.1 HM.out.2.1 HM.out.2.2 (by rw [g10])⟩⟩
          case done =>
            intro L f W' hL hI
            obtain ⟨sv', hLL⟩ := hI.p (hL 13 (by simp))
            have HQ3 : Hid (LL w g l (i + 1) (min (i + 1) 3) (Bt.set ts i t') sv' W') := by
              have e : min (i + 1) 3 = i + 1 := by omega
              rw [e]; exact hLL
            have HM : Hid (bb = i + 1 ∧ i < 4) := ⟨HU.out.2.2.2, HU.out.2.2.1⟩
            clear hI hL hLL HC HOW HFIN HNG z1 z2 ho3'
            dsimp only
            go_wp2
            go_roundw
            case rel => first | exact ⟨bb, _, _, by rw [HU1.out, HM.out.1], rfl, by have := HM.out; omega, by rw [HM.out.1]; exact HQ3.out⟩ | ((repeat apply Exists.intro); exact ⟨⟨bb, _, _, by rw [HU1.out, HM.out.1], rfl, by have := HM.out; omega, by rw [HM.out.1]; exact HQ3.out⟩, rfl⟩)
            case measure =>
              simp only [intOf]
              have := HM.out
              omega
        · have w3 : ¬ (i : Int) < 3 := by omega
          have HQ2 : Hid (LL w g l (i + 1) (min (i + 1) 3) (Bt.set ts i t') sv W) := by
            have e : min (i + 1) 3 = min i 3 := by omega
            rw [e]; exact HQ.out
          have HM : Hid (bb = i + 1 ∧ i < 4) := ⟨HU.out.2.2.2, HU.out.2.2.1⟩
          go_wp2
          go_roundw
          case rel => first | exact ⟨bb, _, _, by rw [HU1.out, HM.out.1], rfl, by have := HM.out; omega, by rw [HM.out.1]; exact HQ2.out⟩ | ((repeat apply Exists.intro); exact ⟨⟨bb, _, _, by rw [HU1.out, HM.out.1], rfl, by have := HM.out; omega, by rw [HM.out.1]; exact HQ2.out⟩, rfl⟩)
          case measure =>
            simp only [intOf]
            have := HM.out
            omega
theorem lay_ok : ∀ (n : Nat), n ≤ 1100 → LayOK n := by
  intro n
  induction n using Nat.strongRecOn with
  | _ n ih =>
    intro hn
    by_cases h3 : 3 < n
    · exact lay_many n h3 hn fun k hk => ih k hk (by omega)
    · intro b off c l w hl hc hb hx
      by_cases h0 : n = 0
      · subst h0
        obtain rfl : l = [] := List.eq_nil_of_length_eq_zero hl
        refine (lay_nil _ c w).mono ?_
        rintro e w' ⟨rfl, rfl⟩
        exact ⟨.nil, rfl, Below.refl _ _, trivial, trivial, rfl, by rw [List.length_nil, Bt.fewest_zero]; rfl, List.nodup_nil, fun g hg => by cases hg⟩
      · refine (lay_small b off n c l w hl (by omega) (by omega) hx).mono ?_
        rintro e w' ⟨g, r, rfl, hb', hN, h1, h2⟩
        refine ⟨_, rfl, hb', hN, ⟨by omega, by omega, fun _ => ⟨rfl, rfl, rfl, rfl⟩, trivial, trivial, trivial, trivial⟩, Bt.flat_one _ _ _ (by omega), ?_, node_nd hN, fun x hx => ?_⟩
        · simp only [Bt.levels]
          rw [hl, Bt.fewest_pos h0, show n / 4 = 0 by omega, Bt.fewest_zero]
          rfl
        · simp only [Bt.blocks, List.append_nil, List.mem_cons, List.not_mem_nil, or_false] at hx
          rcases hx with rfl | rfl
          · exact h1
          · exact h2
end Go.Proofs.YtkigenldiinioaaGreatDoor
