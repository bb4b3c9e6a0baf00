/- A key taken out below a node: walked. -/
import Derived.Test.YtkigenldiinioaaGreatDoorQ28M
namespace Go.Proofs.YtkigenldiinioaaGreatDoor
open Go.RowKit
open Vl (V)
attribute [local go_sem ↓] Go.wp_at_zero Go.wp_at_succ
/-- what comes ahead in without's region -/
def Bt.xpre : Nat → List Nat := fun i => (#[[], [], [], [], [2], [2, 4], [2, 3, 4, 5], [2, 3, 4, 5, 6], [], [2, 3, 4, 5, 6, 7, 8], [0], [0, 10], [0, 1, 10, 11], [0, 1, 2, 3, 4, 5, 6, 7, 8, 9, 10, 11, 12]] : Array (List Nat)).getD i []
/-- what its slots hold -/
def Bt.xval (g i : Nat) (po : Option Addr) (d0 d1 d2 d3 d4 d5 : Value) : Nat → Value := fun i' => (#[.pointer (some ⟨g, 0, none⟩), .int .i64 (i : Int), .pointer (some ⟨g, 0, none⟩), .int .i64 (i : Int), .pointer (some ⟨g, 0, none⟩), .pointer (some ⟨g, 1, none⟩), .pointer (some ⟨g, 1 + i, none⟩), .pointer po, .agg #[d0, d1, d2, d3, d4, d5], undef, .pointer (some ⟨g, 0, none⟩), .pointer (some ⟨g, 1, none⟩), .pointer (some ⟨g, 1 + i, none⟩), undef] : Array Value).getD i' undef
set_option maxHeartbeats 4000000 in
set_option maxRecDepth 100000 in
theorem without_below (key : Nat → V) (w : World) (g r y1 y2 y3 f : Nat) (x : V) (v : Value) (a b c d : Bt.T) (hN : NT w (.node g r [y1, y2, y3] a b c d)) (hw : Bt.wf (.node g r [y1, y2, y3] a b c d)) (hr : Bt.Rises key (Bt.flat (.node g r [y1, y2, y3] a b c d))) (hk : ∀ f ∈ Bt.flat (.node g r [y1, y2, y3] a b c d), EK w w.heap.size (key f) f) (hv : Rep w w.heap.size x v) (hf : f ∈ Bt.flat (.node g r [y1, y2, y3] a b c d)) (hcf : Vl.cmp (key f) x = 0) (hl : (Bt.flat (.node g r [y1, y2, y3] a b c d)).length ≤ 1024) (hh : Bt.hit key x [y1, y2, y3] = false) (hnd : (Bt.blocks (.node g r [y1, y2, y3] a b c d)).Nodup) (IA : WoG a) (IB : WoG b) (IC : WoG c) (ID : WoG d) :
    Calls Tryz.prog 45 #[.pointer (some ⟨g, 0, none⟩), v] w fun ex w' => ∃ t', ex = .returned (Bt.ptr (Bt.top t')) ∧ Outs key x (.node g r [y1, y2, y3] a b c d) w t' w' := by
  obtain ⟨⟨cap, hcell, ho⟩, _⟩ := id hN
  obtain ⟨s1, _⟩ := flat_entries hw
  obtain ⟨t, ht⟩ : ∃ t, t = Bt.T.node g r [y1, y2, y3] a b c d := ⟨_, rfl⟩
  obtain ⟨tl, htl⟩ : ∃ tl, tl = (Bt.flat t).length := ⟨_, rfl⟩
  rw [← ht] at hN hw hr hk hf hl s1 ⊢
  rw [← ht, ← htl] at hcell
  have hres : Bt.Rises key [y1, y2, y3] := List.Pairwise.sublist s1 hr
  have hkes : ∀ f ∈ [y1, y2, y3], EK w w.heap.size (key f) f := fun f hf => hk f (s1.subset hf)
  obtain ⟨i, hi⟩ : ∃ i, i = Bt.spot key x [y1, y2, y3] := ⟨_, rfl⟩
  have hgl := lt_of_row hcell
  obtain ⟨_, hrl, _, _, hcl⟩ := ptr_cells (es := [y1, y2, y3]) ho
  obtain ⟨d0, d1, d2, d3, d4, d5, rfl⟩ := repV_box hv
  obtain ⟨w1, hw1⟩ : ∃ w1, w1 = w.alloc (.cells #[d0, d1, d2, d3, d4, d5] 27) := ⟨_, rfl⟩
  obtain ⟨B, hBe⟩ : ∃ B, B = w.heap.size := ⟨_, rfl⟩
  have hB1 : w1.heap[B]? = some (.cells #[d0, d1, d2, d3, d4, d5] 27 (0, 0)) := by rw [hw1, hBe]; exact heap_alloc_new w _
  have b1 : Below w.heap.size w w1 := by rw [hw1]; exact below_new _ _
  have HB : Hid (∀ (W : World), Below w1.heap.size w1 W → Below w.heap.size w W) := fun W hW => b1.trans (hW.mono b1.size)
  have HE : Hid (∀ (W : World), Below w1.heap.size w1 W → W.cell? ⟨B, 0, none⟩ = some d0 ∧ W.cell? ⟨B, 1, none⟩ = some d1 ∧ W.cell? ⟨B, 2, none⟩ = some d2 ∧ W.cell? ⟨B, 3, none⟩ = some d3 ∧ W.cell? ⟨B, 4, none⟩ = some d4 ∧ W.cell? ⟨B, 5, none⟩ = some d5) := fun W hW => by
    have h1 := (hW.block B (lt_of_row hB1)).trans hB1
    exact ⟨cells_at h1 0 _ rfl, cells_at h1 1 _ rfl, cells_at h1 2 _ rfl, cells_at h1 3 _ rfl, cells_at h1 4 _ rfl, cells_at h1 5 _ rfl⟩
  have CP : Hid (∀ (W' : World), Below w1.heap.size w1 W' → Calls Tryz.prog 64 #[.slice (some ⟨r, 0, none⟩) 3 cap, .agg #[d0, d1, d2, d3, d4, d5]] W' fun ex w' => ex = .returned (.tuple #[.int .i64 (i : Int), .bool false]) ∧ Below W'.heap.size W' w') := fun W' hW1 => by
    have hW := HB.out W' hW1
    rw [hi, ← hh]
    exact placeOf_c r 0 3 cap w.heap.size [y1, y2, y3] key x _ W' rfl (by omega) (Nat.lt_of_lt_of_le hrl hW.size) (fun j f hf => (hW.cell (p := ⟨r, 0 + j, none⟩) hrl).trans (hcl j f hf)) (fun f hf => (hkes f hf).stays hW) hres hW.size (rep_stays hW (Nat.le_refl _) _ _ hv)
  have p0 : ∀ p : BelowOf w1.heap.size w1, p.W.cell? ⟨g, 0, none⟩ = some (.slice (some ⟨r, 0, none⟩) 3 cap) := fun p => cells_at (((HB.out _ p.h).block _ hgl).trans hcell) 0 _ rfl
  have a0 : ∀ p : BelowOf w1.heap.size w1, p.W.cell? ⟨B, 0, none⟩ = some d0 := fun p => (HE.out _ p.h).1
  have a1 : ∀ p : BelowOf w1.heap.size w1, p.W.cell? ⟨B, 1, none⟩ = some d1 := fun p => (HE.out _ p.h).2.1
  have a2 : ∀ p : BelowOf w1.heap.size w1, p.W.cell? ⟨B, 2, none⟩ = some d2 := fun p => (HE.out _ p.h).2.2.1
  have a3 : ∀ p : BelowOf w1.heap.size w1, p.W.cell? ⟨B, 3, none⟩ = some d3 := fun p => (HE.out _ p.h).2.2.2.1
  have a4 : ∀ p : BelowOf w1.heap.size w1, p.W.cell? ⟨B, 4, none⟩ = some d4 := fun p => (HE.out _ p.h).2.2.2.2.1
  have a5 : ∀ p : BelowOf w1.heap.size w1, p.W.cell? ⟨B, 5, none⟩ = some d5 := fun p => (HE.out _ p.h).2.2.2.2.2
  have hpg : Bt.ptr (Bt.top t) = .pointer (some ⟨g, 0, none⟩) := by rw [ht]; rfl
  have hi3 : i ≤ 3 := by rw [hi]; exact Bt.spot_le
  obtain ⟨tx, htx⟩ : ∃ tx, tx = Bt.pick i a b c d := ⟨_, rfl⟩
  have hNx : NT w tx := by rw [htx]; exact pick_nt (ht ▸ hN) i
  obtain ⟨po, hpo⟩ : ∃ po, Bt.ptr (Bt.top tx) = .pointer po := ⟨_, rfl⟩
  have hpx : ∀ W : World, W.heap[g]? = w.heap[g]? → W.cell? ⟨g, 1 + i, none⟩ = some (.pointer po) := fun W hW => by
    rw [← hpo, htx]
    have hcW := hW.trans hcell
    rcases (show i = 0 ∨ i = 1 ∨ i = 2 ∨ i = 3 by omega) with q | q | q | q <;> (rw [q]; exact cells_at hcW _ _ rfl)
  have HG : Hid (∀ (W : World), Below w1.heap.size w1 W → W.cell? ⟨g, 1 + i, none⟩ = some (.pointer po)) := fun W hW => hpx W ((HB.out W hW).block _ hgl)
  have HIW : Hid (WoG tx) := by rw [htx]; exact Bt.pick_all IA IB IC ID i
  have hwx : Bt.wf tx := by rw [htx]; exact Bt.pick_wf (ht ▸ hw) i
  obtain ⟨hfl, hfx, hrx, hmem⟩ := Bt.wo_three (g := g) (r := r) (a := a) (b := b) (c := c) (d := d) (v := x) (f := f) (ht ▸ hr) (ht ▸ hf) hcf (Bt.hit_none hres hh) hi
  rw [← htx] at hfl hfx hrx hmem
  rw [← ht] at hfl hmem
  have hndx : (Bt.blocks tx).Nodup := by rw [htx]; exact ((Bt.nodup_parts hnd).2.1 i).2.2
  have hml : (Bt.flat tx).length ≤ tl := by
    rw [htl, htx, ht]
    exact Bt.pick_short (ht ▸ hw) i
  obtain ⟨l1, hl1⟩ : ∃ l1, Bt.levels t = l1 + 1 := ⟨_, by rw [ht, Bt.levels]⟩
  have hlx : Bt.levels tx ≤ l1 := by rw [htx]; exact Bt.pick_lev (g := g) (r := r) (es := [y1, y2, y3]) (by rw [← ht, hl1]; omega) i
  have CW : Hid (∀ (W : World), Below w1.heap.size w1 W → Calls Tryz.prog 45 #[.pointer po, .agg #[d0, d1, d2, d3, d4, d5]] W fun ex w' => ∃ t', ex = .returned (Bt.ptr (Bt.top t')) ∧ ∃ W0, Below w.heap.size w W0 ∧ Outs key x tx W0 t' w') := fun W hW1 => by
    have hW := HB.out W hW1
    rw [← hpo]
    refine (HIW.out key W x _ f (nt_stays hNx fun k hk => hW.block k (nt_lt hNx k hk)) hwx hrx (fun e he => ((hk e (hmem e he)).stays hW).up hW.size) (rep_stays hW hW.size _ _ hv) hfx hcf (by omega) hndx).mono ?_
    rintro ex w' ⟨t', rfl, h⟩
    exact ⟨t', rfl, W, hW, h⟩
  obtain ⟨n1, hn1⟩ : ∃ n1, n1 = tl - 1 := ⟨_, rfl⟩
  have htp : 1 ≤ tl := by rw [htl]; exact List.length_pos_of_mem hf
  have HMID : Hid (∀ (t' : Bt.T) (W0 W1 : World), Below w.heap.size w W0 → Outs key x tx W0 t' W1 → (∃ y, W1.cell? ⟨g, 1 + i, none⟩ = some y) ∧ W1.frozen? ⟨g, 1 + i, none⟩ = false ∧ (W1.setCell ⟨g, 1 + i, none⟩ (Bt.ptr (Bt.top t'))).cell? ⟨g, 5, none⟩ = some (.int .i64 (tl : Int)) ∧ ∀ k, (W1.setCell ⟨g, 1 + i, none⟩ (Bt.ptr (Bt.top t'))).frozen? ⟨g, k, none⟩ = false) := fun t' W0 W1 h0 hW => by
    have hgx : g ∉ Bt.blocks tx := by rw [htx]; exact ((Bt.nodup_parts hnd).2.1 i).1
    have n1 := (hW.1.block g (Nat.lt_of_lt_of_le hgl h0.size) hgx).trans ((h0.block g hgl).trans hcell)
    have e5 := heap_setCell_same W1 g (1 + i) _ 95 (Bt.ptr (Bt.top t')) n1
    refine ⟨?_, row_freeV n1 _, ?_, fun k => row_freeV e5 k⟩
    · rcases (show i = 0 ∨ i = 1 ∨ i = 2 ∨ i = 3 by omega) with q | q | q | q <;> (rw [q]; exact ⟨_, cells_at n1 _ _ rfl⟩)
    · refine cells_at e5 5 _ ?_
      rcases (show i = 0 ∨ i = 1 ∨ i = 2 ∨ i = 3 by omega) with q | q | q | q <;> (rw [q]; rfl)
  have HFIN : Hid (∀ (t' : Bt.T) (W0 W1 w6 : World), Below w.heap.size w W0 → Outs key x tx W0 t' W1 → w6 = (W1.setCell ⟨g, 1 + i, none⟩ (Bt.ptr (Bt.top t'))).setCell ⟨g, 5, none⟩ (.int .i64 (n1 : Int)) → ∃ t2, Bt.ptr (Bt.top t2) = .pointer (some ⟨g, 0, none⟩) ∧ Outs key x t w t2 w6) := fun t' W0 W1 w6 h0 hW h6 => by
    obtain ⟨o1, o2, o3, o4, o5, o6, o7⟩ := hW
    have hf' := hfl t' o4
    have hlen : (Bt.flat (Bt.put4 i t' a b c d g r [y1, y2, y3])).length = n1 := by
      rw [hf', Bt.kdel, Bt.less_length (Bt.spot_in hf (by omega)), hn1, htl]
    rw [htx] at o1 o7
    obtain ⟨p1, p2, p3, p4, p5, p6⟩ := node_put (l1 := l1) (ht ▸ hN) (ht ▸ hw) hnd (by rw [← ht, hl1]; omega) (by omega) h0 o1 o2 o3 (Nat.le_trans o5 hlx) o6 o7 hlen h6
    refine ⟨Bt.put4 i t' a b c d g r [y1, y2, y3], rfl, ?_⟩
    rw [← ht] at p1 p6
    exact ⟨p1, p2, p3, hf', by rw [hl1]; exact p4, p5, p6⟩
  obtain ⟨v5, v6⟩ : IntKind.i64.wrap ((tl : Int) - 1) = (n1 : Int) ∧ wrap64 ((tl : Int) - 1) = (n1 : Int) := Bt.wr (by omega) (by omega)
  have HVN : Hid (IntKind.i64.wrap ((tl : Int) - 1) = (n1 : Int) ∧ wrap64 ((tl : Int) - 1) = (n1 : Int)) := ⟨v5, v6⟩
  clear v5 v6
  have z1 : (0 : Int) ≤ (i : Int) := Int.natCast_nonneg _
  have z2 : (i : Int) < 4 := by omega
  clear hi hh hl hres hkes hcl hcell ho s1 hN hw hr hk hv hf hcf hgl hrl ht htl hpg hi3 htx hNx hpo hpx hwx hfl hfx hrx hmem hndx hml hl1 hlx hn1 htp hnd IA IB IC ID hB1 b1
  go_enter Tryz.func45, Tryz.ntmps45
  go_upto_region 1 with fail
  rw [← hw1, ← hBe]
  clear hw1 hBe
  refine wp_region_below w1.heap.size w1 (Below.refl _ _) (by kernel_rfl) (by kernel_rfl) ?_
  repeat (go_big_quiet_step (first | (go_at_call 64; exact below_call _ (Nat.le_refl _) (CP.out _ (BelowOf.h _)))))
  refine wpQuiet_nil ?_
  intro _ hw'
  obtain ⟨pq, hw''⟩ := hw'
  subst hw''
  have HB2 : Hid (Below w1.heap.size w1 pq.W) := pq.h
  clear p0 a0 a1 a2 a3 a4 a5 CP
  go_upto_region 6 with fail
  refine wp_region_ph (by kernel_rfl) (by kernel_rfl) Bt.xpre (by kernel_rfl) (fun f => { tmps := #[.pointer (some ⟨g, 0, none⟩), .agg #[d0, d1, d2, d3, d4, d5], undef, .pointer (some ⟨B, 0, none⟩), .pointer none, .int .i64 (i : Int), .bool false, undef, .tuple #[.int .i64 (i : Int), .bool false], .pointer (some ⟨g, 0, none⟩), .pointer (some ⟨g, 0, none⟩), .pointer (some ⟨g, 0, none⟩), .slice (some ⟨r, 0, none⟩) 3 cap, .agg #[d0, d1, d2, d3, d4, d5], .tuple #[.int .i64 (i : Int), .bool false], .int .i64 (i : Int), .bool false, .bool false, undef, undef, undef, undef, undef, undef, undef, undef, undef, undef, undef, undef, undef, undef, f 0, f 1, f 2, f 3, f 4, f 5, f 6, f 7, f 8, f 9, f 10, f 11, f 12, undef, undef, undef, undef, undef, undef, undef, undef], defers := [] }) (fun _ => undef) rfl (ZK (Bt.xval g i po d0 d1 d2 d3 d4 d5) 8 9 13 (fun W => Below w1.heap.size w1 W) (fun W => Below w1.heap.size w1 W) (fun v W => ∃ t', v = Bt.ptr (Bt.top t') ∧ ∃ W0, Below w.heap.size w W0 ∧ Outs key x tx W0 t' W) (fun W => ∃ t' W0 W1, Below w.heap.size w W0 ∧ Outs key x tx W0 t' W1 ∧ W = W1.setCell ⟨g, 1 + i, none⟩ (Bt.ptr (Bt.top t')))) ?init ?step ?done
  case init => exact ZK.start (HB2.out.drew)
  case step =>
    intro j hj L f W hLi hwt hno hI
    have HI : Hid _ := hI
    have hj14 : j < 14 := hj
    clear hj hI
    rcases (show j = 0 ∨ j = 1 ∨ j = 2 ∨ j = 3 ∨ j = 4 ∨ j = 5 ∨ j = 6 ∨ j = 7 ∨ j = 8 ∨ j = 9 ∨ j = 10 ∨ j = 11 ∨ j = 12 ∨ j = 13 by omega) with rfl | rfl | rfl | rfl | rfl | rfl | rfl | rfl | rfl | rfl | rfl | rfl | rfl | rfl
    · -- 0: {t32 := Op.move (tmp 0) :67}
      clear hwt hno hLi
      refine wpOp_of rfl rfl ?_
      intro K' hK'
      have HK' : Hid _ := hK'
      clear hK'
      change Oper.wp _ ⟨_, _, _, _, _, _⟩ _ _ _ _
      dsimp only
      go_simp
      exact HK'.out _ _ ⟨.pointer (some ⟨g, 0, none⟩), (by simp [upd]), HI.out.pure (by omega) (by omega) (by omega) rfl⟩
    · -- 1: {t33 := Op.move (tmp 5) :3}
      clear hwt hno hLi
      refine wpOp_of rfl rfl ?_
      intro K' hK'
      have HK' : Hid _ := hK'
      clear hK'
      change Oper.wp _ ⟨_, _, _, _, _, _⟩ _ _ _ _
      dsimp only
      go_simp
      exact HK'.out _ _ ⟨.int .i64 (i : Int), (by simp [upd]), HI.out.pure (by omega) (by omega) (by omega) rfl⟩
    · -- 2: {t34 := Op.move (tmp 0) :67}
      clear hwt hno hLi
      refine wpOp_of rfl rfl ?_
      intro K' hK'
      have HK' : Hid _ := hK'
      clear hK'
      change Oper.wp _ ⟨_, _, _, _, _, _⟩ _ _ _ _
      dsimp only
      go_simp
      exact HK'.out _ _ ⟨.pointer (some ⟨g, 0, none⟩), (by simp [upd]), HI.out.pure (by omega) (by omega) (by omega) rfl⟩
    · -- 3: {t35 := Op.move (tmp 5) :3}
      clear hwt hno hLi
      refine wpOp_of rfl rfl ?_
      intro K' hK'
      have HK' : Hid _ := hK'
      clear hK'
      change Oper.wp _ ⟨_, _, _, _, _, _⟩ _ _ _ _
      dsimp only
      go_simp
      exact HK'.out _ _ ⟨.int .i64 (i : Int), (by simp [upd]), HI.out.pure (by omega) (by omega) (by omega) rfl⟩
    · -- 4: {t36 := Op.nilCheck (tmp 34) :0}
      have g2 : f 2 = .pointer (some ⟨g, 0, none⟩) := HI.out.vals 2 (by omega) (by omega) (hwt 2 rfl)
      clear hwt hno hLi
      refine wpOp_of rfl rfl ?_
      intro K' hK'
      have HK' : Hid _ := hK'
      clear hK'
      change Oper.wp _ ⟨_, _, _, _, _, _⟩ _ _ _ _
      dsimp only
      rw [g2]
      go_simp
      exact HK'.out _ _ ⟨.pointer (some ⟨g, 0, none⟩), (by simp [upd, g2]), HI.out.pure (by omega) (by omega) (by omega) rfl⟩
    · -- 5: {t37 := Op.fieldAddr 95 (tmp 36) 1 :0}
      have g4 : f 4 = .pointer (some ⟨g, 0, none⟩) := HI.out.vals 4 (by omega) (by omega) (hwt 4 rfl)
      clear hwt hno hLi
      refine wpOp_of rfl rfl ?_
      intro K' hK'
      have HK' : Hid _ := hK'
      clear hK'
      change Oper.wp _ ⟨_, _, _, _, _, _⟩ _ _ _ _
      dsimp only
      rw [g4]
      go_simp
      exact HK'.out _ _ ⟨.pointer (some ⟨g, 1, none⟩), (by simp [upd, g4]), HI.out.pure (by omega) (by omega) (by omega) rfl⟩
    · -- 6: {t38 := Op.indexAddr 93 (tmp 37) (tmp 35) :0}
      have g5 : f 5 = .pointer (some ⟨g, 1, none⟩) := HI.out.vals 5 (by omega) (by omega) (hwt 5 rfl)
      have g3 : f 3 = .int .i64 (i : Int) := HI.out.vals 3 (by omega) (by omega) (hwt 3 rfl)
      clear hwt hno hLi
      refine wpOp_of rfl rfl ?_
      intro K' hK'
      have HK' : Hid _ := hK'
      clear hK'
      change Oper.wp _ ⟨_, _, _, _, _, _⟩ _ _ _ _
      dsimp only
      rw [g5, g3]
      go_simp
      exact HK'.out _ _ ⟨.pointer (some ⟨g, 1 + i, none⟩), (by simp [upd, g5, g3]), HI.out.pure (by omega) (by omega) (by omega) rfl⟩
    · -- 7: {t39 := Op.load 67 (tmp 38) :67}
      have g6 : f 6 = .pointer (some ⟨g, 1 + i, none⟩) := HI.out.vals 6 (by omega) (by omega) (hwt 6 rfl)
      have ca := HG.out W ((HI.out.early (hno 9 (by decide))).elim id id)
      clear hwt hno hLi
      refine wpOp_of rfl rfl ?_
      intro K' hK'
      have HK' : Hid _ := hK'
      clear hK'
      change Oper.wp _ ⟨_, _, _, _, _, _⟩ _ _ _ _
      dsimp only
      rw [g6]
      go_simp
      exact HK'.out _ _ ⟨.pointer po, (by simp [upd, g6]), HI.out.pure (by omega) (by omega) (by omega) rfl⟩
    · -- 8: {t40 := Op.load 27 (tmp 3) :27}
      have hp := (HI.out.a0 hLi).2.2
      have HP : Hid (Below w1.heap.size w1 W ∧ L 8 = false) := ⟨hp, hLi⟩
      obtain ⟨b0, b1, b2, b3, b4, b5⟩ := HE.out _ hp
      clear hp
      clear hwt hno hLi
      refine wpOp_of rfl rfl ?_
      intro K' hK'
      have HK' : Hid _ := hK'
      clear hK'
      change Oper.wp _ ⟨_, _, _, _, _, _⟩ _ _ _ _
      dsimp only
      go_simp
      exact HK'.out _ _ ⟨.agg #[d0, d1, d2, d3, d4, d5], (by simp [upd]), HI.out.first (by omega) (by omega) HP.out.2 rfl HP.out.1⟩
    · -- 9: {t41 := Op.call { callee := Callee.value (func 45), args := 
      have g7 : f 7 = .pointer po := HI.out.vals 7 (by omega) (by omega) (hwt 7 rfl)
      have g8 : f 8 = .agg #[d0, d1, d2, d3, d4, d5] := HI.out.vals 8 (by omega) (by omega) (hwt 8 rfl)
      have hp := (HI.out.a1 (hwt 8 rfl) hLi).2
      have HP : Hid (Below w1.heap.size w1 W ∧ L 8 = true ∧ L 9 = false) := ⟨hp, hwt 8 rfl, hLi⟩
      clear hp
      clear hwt hno hLi
      refine wpOp_of rfl rfl ?_
      intro K' hK'
      have HK' : Hid _ := hK'
      clear hK'
      change Oper.wp _ ⟨_, _, _, _, _, _⟩ _ _ _ _
      dsimp only
      rw [g7, g8]
      go_simp
      go_at_call 45
      refine (CW.out W HP.out.1).mono ?_
      rintro ex wa ⟨t', rfl, hM⟩
      exact HK'.out _ _ ⟨Bt.ptr (Bt.top t'), (by simp [upd, g7, g8]), HI.out.call (by omega) (by omega) HP.out.2.1 HP.out.2.2 ⟨t', rfl, hM⟩⟩
    · -- 10: {t42 := Op.nilCheck (tmp 32) :0}
      have g0 : f 0 = .pointer (some ⟨g, 0, none⟩) := HI.out.vals 0 (by omega) (by omega) (hwt 0 rfl)
      clear hwt hno hLi
      refine wpOp_of rfl rfl ?_
      intro K' hK'
      have HK' : Hid _ := hK'
      clear hK'
      change Oper.wp _ ⟨_, _, _, _, _, _⟩ _ _ _ _
      dsimp only
      rw [g0]
      go_simp
      exact HK'.out _ _ ⟨.pointer (some ⟨g, 0, none⟩), (by simp [upd, g0]), HI.out.pure (by omega) (by omega) (by omega) rfl⟩
    · -- 11: {t43 := Op.fieldAddr 95 (tmp 42) 1 :0}
      have g10 : f 10 = .pointer (some ⟨g, 0, none⟩) := HI.out.vals 10 (by omega) (by omega) (hwt 10 rfl)
      clear hwt hno hLi
      refine wpOp_of rfl rfl ?_
      intro K' hK'
      have HK' : Hid _ := hK'
      clear hK'
      change Oper.wp _ ⟨_, _, _, _, _, _⟩ _ _ _ _
      dsimp only
      rw [g10]
      go_simp
      exact HK'.out _ _ ⟨.pointer (some ⟨g, 1, none⟩), (by simp [upd, g10]), HI.out.pure (by omega) (by omega) (by omega) rfl⟩
    · -- 12: {t44 := Op.indexAddr 93 (tmp 43) (tmp 33) :0}
      have g11 : f 11 = .pointer (some ⟨g, 1, none⟩) := HI.out.vals 11 (by omega) (by omega) (hwt 11 rfl)
      have g1 : f 1 = .int .i64 (i : Int) := HI.out.vals 1 (by omega) (by omega) (hwt 1 rfl)
      clear hwt hno hLi
      refine wpOp_of rfl rfl ?_
      intro K' hK'
      have HK' : Hid _ := hK'
      clear hK'
      change Oper.wp _ ⟨_, _, _, _, _, _⟩ _ _ _ _
      dsimp only
      rw [g11, g1]
      go_simp
      exact HK'.out _ _ ⟨.pointer (some ⟨g, 1 + i, none⟩), (by simp [upd, g11, g1]), HI.out.pure (by omega) (by omega) (by omega) rfl⟩
    · -- 13: {Op.store 67 (tmp 44) (tmp 41) :0}
      have g12 : f 12 = .pointer (some ⟨g, 1 + i, none⟩) := HI.out.vals 12 (by omega) (by omega) (hwt 12 rfl)
      obtain ⟨t', g9, W0, h0, hM⟩ := HI.out.m (hwt 9 rfl) hLi
      have HP : Hid ((Below w.heap.size w W0 ∧ Outs key x tx W0 t' W) ∧ L 8 = true ∧ L 9 = true) := ⟨⟨h0, hM⟩, hwt 8 rfl, hwt 9 rfl⟩
      obtain ⟨⟨xz, cz⟩, fz, _⟩ := HMID.out t' W0 W h0 hM
      obtain ⟨pp, hpp⟩ : ∃ pp, Bt.ptr (Bt.top t') = .pointer pp := ⟨_, rfl⟩
      rw [hpp] at g9
      have HPP : Hid (Bt.ptr (Bt.top t') = .pointer pp) := hpp
      clear hM h0 hpp
      clear hwt hno hLi
      refine wpOp_of rfl rfl ?_
      intro K' hK'
      have HK' : Hid _ := hK'
      clear hK'
      change Oper.wp _ ⟨_, _, _, _, _, _⟩ _ _ _ _
      dsimp only
      rw [g12, g9]
      go_simp
      exact HK'.out _ _ ⟨undef, (by simp [upd, g12, g9]), HI.out.store (by omega) (by omega) HP.out.2.1 HP.out.2.2 ⟨t', W0, W, HP.out.1.1, HP.out.1.2, by rw [HPP.out]⟩⟩
  case done =>
    intro L f W hL hI
    obtain ⟨t', W0, W1, h0, hM, hWe⟩ := hI.p (hL 13 (by simp))
    obtain ⟨_, _, u5, fz⟩ := HMID.out t' W0 W1 h0 hM
    have HF : Hid _ := HFIN.out t' W0 W1 (W.setCell ⟨g, 5, none⟩ (.int .i64 (n1 : Int))) h0 hM (by rw [hWe])
    rw [← hWe] at u5 fz
    obtain ⟨v1, v2⟩ := HVN.out
    clear hI hL hWe hM h0 CW HMID HFIN HG HE
    dsimp only
    go_wp2
    clear v1 v2
    go_ret
    obtain ⟨t2, e2, h2⟩ := HF.out
    exact ⟨t2, by rw [e2]; rfl, h2⟩
theorem woG_all : ∀ (t : Bt.T), WoG t
  | .nil => fun key W x v f _ _ _ _ _ hf => by cases hf
  | .node g r es a b c d => fun key W x v f hN hw hr hk hv hf hcf hl hnd => by
    have IA := woG_all a
    have IB := woG_all b
    have IC := woG_all c
    have ID := woG_all d
    cases hh : Bt.hit key x es with
    | true => exact without_here key W g r f es x v a b c d hN hw hr hk hv hf hcf hl hh
    | false =>
      obtain ⟨h1, h2, h3, _⟩ := id hw
      by_cases hl3 : es.length < 3
      · obtain ⟨rfl, rfl, rfl, rfl⟩ := h3 hl3
        rw [Bt.flat_one _ _ _ (by omega)] at hf hr
        exact absurd hcf (Bt.hit_none hr hh f hf)
      · match es, h2, hl3, hN, hw, hr, hk, hf, hl, hnd, hh with
        | [y1, y2, y3], _, _, hN, hw, hr, hk, hf, hl, hnd, hh => exact without_below key W g r y1 y2 y3 f x v a b c d hN hw hr hk hv hf hcf hl hh hnd IA IB IC ID
        | [], _, hl3, _, _, _, _, _, _, _, _ => simp at hl3
        | [_], _, hl3, _, _, _, _, _, _, _, _ => simp at hl3
        | [_, _], _, hl3, _, _, _, _, _, _, _, _ => simp at hl3
end Go.Proofs.YtkigenldiinioaaGreatDoor
