/- One more key below a full node: walked. -/
import Derived.Test.YtkigenldiinioaaGreatDoorQ20M
namespace Go.Proofs.YtkigenldiinioaaGreatDoor
open Go.RowKit
open Vl (V)
attribute [local go_sem ↓] Go.wp_at_zero Go.wp_at_succ
theorem Bt.pick_short {g r : Nat} {es : List Nat} {a b c d : Bt.T} (h : Bt.wf (.node g r es a b c d)) (i : Nat) : (Bt.flat (Bt.pick i a b c d)).length ≤ (Bt.flat (.node g r es a b c d)).length := by
  obtain ⟨_, s2, s3, s4, s5⟩ := flat_entries h
  exact Bt.pick_all (P := fun t => (Bt.flat t).length ≤ (Bt.flat (.node g r es a b c d)).length) s2.length_le s3.length_le s4.length_le s5.length_le i
/-- what comes ahead in with's region -/
def Bt.wpre : Nat → List Nat := fun i => (#[[], [], [], [], [2], [2, 4], [2, 3, 4, 5], [2, 3, 4, 5, 6], [], [], [9], [2, 3, 4, 5, 6, 7, 8, 9, 10], [0], [0, 12], [0, 1, 12, 13], [0, 1, 2, 3, 4, 5, 6, 7, 8, 9, 10, 11, 12, 13, 14]] : Array (List Nat)).getD i []
/-- what its slots hold -/
def Bt.wval (g i e lv l1 : Nat) (po : Option Addr) : Nat → Value := fun i' => (#[.pointer (some ⟨g, 0, none⟩), .int .i64 (i : Int), .pointer (some ⟨g, 0, none⟩), .int .i64 (i : Int), .pointer (some ⟨g, 0, none⟩), .pointer (some ⟨g, 1, none⟩), .pointer (some ⟨g, 1 + i, none⟩), .pointer po, .pointer (some ⟨e, 0, none⟩), .int .i64 (lv : Int), .int .i64 (l1 : Int), undef, .pointer (some ⟨g, 0, none⟩), .pointer (some ⟨g, 1, none⟩), .pointer (some ⟨g, 1 + i, none⟩), undef] : Array Value).getD i' undef
set_option maxHeartbeats 4000000 in
set_option maxRecDepth 100000 in
theorem with_fullB (key : Nat → V) (w : World) (g r x y z e lv : Nat) (a b c d : Bt.T) (hN : NT w (.node g r [x, y, z] a b c d)) (hw : Bt.wf (.node g r [x, y, z] a b c d)) (hr : Bt.Rises key (Bt.flat (.node g r [x, y, z] a b c d))) (hk : ∀ f ∈ Bt.flat (.node g r [x, y, z] a b c d), EK w w.heap.size (key f) f) (he : EK w w.heap.size (key e) e) (hl : (Bt.flat (.node g r [x, y, z] a b c d)).length < 1024) (hroom : (Bt.flat (.node g r [x, y, z] a b c d)).length < Bt.room lv) (h20 : lv ≤ 20) (h0 : 1 ≤ lv) (hnd : (Bt.blocks (.node g r [x, y, z] a b c d)).Nodup) (hn : Bt.at? key (key e) (Bt.flat (.node g r [x, y, z] a b c d)) = none) (hlv : Bt.levels (.node g r [x, y, z] a b c d) ≤ lv) (IA : WithG a) (IB : WithG b) (IC : WithG c) (ID : WithG d) (hc : ¬ (Bt.flat (Bt.pick (Bt.spot key (key e) [x, y, z]) a b c d)).length = Bt.room (lv - 1)) :
    Calls Tryz.prog 40 #[.pointer (some ⟨g, 0, none⟩), .pointer (some ⟨e, 0, none⟩), .int .i64 (lv : Int)] w fun ex w' => ∃ t', ex = .returned (Bt.ptr (Bt.top t')) ∧ Withs key e lv (.node g r [x, y, z] a b c d) w t' w' := by
  obtain ⟨⟨cap, hcell, ho⟩, _⟩ := id hN
  obtain ⟨s1, _⟩ := flat_entries hw
  obtain ⟨t, ht⟩ : ∃ t, t = Bt.T.node g r [x, y, z] a b c d := ⟨_, rfl⟩
  obtain ⟨tl, htl⟩ : ∃ tl, tl = (Bt.flat t).length := ⟨_, rfl⟩
  rw [← ht] at hN hw hr hk hl hroom s1 ⊢
  rw [← ht, ← htl] at hcell
  have hres : Bt.Rises key [x, y, z] := List.Pairwise.sublist s1 hr
  have hkes : ∀ f ∈ [x, y, z], EK w w.heap.size (key f) f := fun f hf => hk f (s1.subset hf)
  obtain ⟨i, hi⟩ : ∃ i, i = Bt.spot key (key e) [x, y, z] := ⟨_, rfl⟩
  rw [← hi] at hc
  have hi3 : i ≤ 3 := by rw [hi]; exact Bt.spot_le
  obtain ⟨tx, htx⟩ : ∃ tx, tx = Bt.pick i a b c d := ⟨_, rfl⟩
  rw [← htx] at hc
  have hNx : NT w tx := by rw [htx]; exact pick_nt (ht ▸ hN) i
  obtain ⟨po, hpo⟩ : ∃ po, Bt.ptr (Bt.top tx) = .pointer po := ⟨_, rfl⟩
  have hgl := lt_of_row hcell
  obtain ⟨_, hrl, _, _, hcl⟩ := ptr_cells (es := [x, y, z]) ho
  have hpx : ∀ W : World, W.heap[g]? = w.heap[g]? → W.cell? ⟨g, 1 + i, none⟩ = some (.pointer po) := fun W hW => by
    rw [← hpo, htx]
    have hcW := hW.trans hcell
    rcases (show i = 0 ∨ i = 1 ∨ i = 2 ∨ i = 3 by omega) with q | q | q | q <;> (rw [q]; exact cells_at hcW _ _ rfl)
  obtain ⟨hel, c0, c1, c2, c3, c4, c5, row, he1, he2⟩ := id he
  have CP : Hid (∀ W', Below w.heap.size w W' → Calls Tryz.prog 64 #[.slice (some ⟨r, 0, none⟩) 3 cap, .agg #[c0, c1, c2, c3, c4, c5]] W' fun ex w' => ex = .returned (.tuple #[.int .i64 (i : Int), .bool (Bt.hit key (key e) [x, y, z])]) ∧ Below W'.heap.size W' w') := fun W' hW => by
    rw [hi]
    exact placeOf_c r 0 3 cap w.heap.size [x, y, z] key (key e) _ W' rfl (by omega) (Nat.lt_of_lt_of_le hrl hW.size) (fun j f hf => (hW.cell (p := ⟨r, 0 + j, none⟩) hrl).trans (hcl j f hf)) (fun f hf => (hkes f hf).stays hW) hres hW.size (rep_stays hW (Nat.le_refl _) _ _ he2)
  have p0 : ∀ p : BelowOf w.heap.size w, p.W.cell? ⟨g, 0, none⟩ = some (.slice (some ⟨r, 0, none⟩) 3 cap) := fun p => cells_at ((p.h.block _ hgl).trans hcell) 0 _ rfl
  have HE : Hid (∀ (W : World), Below w.heap.size w W → W.cell? ⟨e, 0, none⟩ = some c0 ∧ W.cell? ⟨e, 1, none⟩ = some c1 ∧ W.cell? ⟨e, 2, none⟩ = some c2 ∧ W.cell? ⟨e, 3, none⟩ = some c3 ∧ W.cell? ⟨e, 4, none⟩ = some c4 ∧ W.cell? ⟨e, 5, none⟩ = some c5) := fun W hW => by
    have h1 := (hW.block e hel).trans he1
    exact ⟨cells_at h1 0 _ rfl, cells_at h1 1 _ rfl, cells_at h1 2 _ rfl, cells_at h1 3 _ rfl, cells_at h1 4 _ rfl, cells_at h1 5 _ rfl⟩
  have a0 : ∀ p : BelowOf w.heap.size w, p.W.cell? ⟨e, 0, none⟩ = some c0 := fun p => (HE.out _ p.h).1
  have a1 : ∀ p : BelowOf w.heap.size w, p.W.cell? ⟨e, 1, none⟩ = some c1 := fun p => (HE.out _ p.h).2.1
  have a2 : ∀ p : BelowOf w.heap.size w, p.W.cell? ⟨e, 2, none⟩ = some c2 := fun p => (HE.out _ p.h).2.2.1
  have a3 : ∀ p : BelowOf w.heap.size w, p.W.cell? ⟨e, 3, none⟩ = some c3 := fun p => (HE.out _ p.h).2.2.2.1
  have a4 : ∀ p : BelowOf w.heap.size w, p.W.cell? ⟨e, 4, none⟩ = some c4 := fun p => (HE.out _ p.h).2.2.2.2.1
  have a5 : ∀ p : BelowOf w.heap.size w, p.W.cell? ⟨e, 5, none⟩ = some c5 := fun p => (HE.out _ p.h).2.2.2.2.2
  obtain ⟨ht', hht⟩ : ∃ h, h = Bt.hit key (key e) [x, y, z] := ⟨_, rfl⟩
  rw [← hht] at CP
  have HG : Hid (∀ (W : World), Below w.heap.size w W → W.cell? ⟨g, 0, none⟩ = some (.slice (some ⟨r, 0, none⟩) 3 cap) ∧ W.cell? ⟨g, 1 + i, none⟩ = some (.pointer po)) := fun W hW => ⟨cells_at ((hW.block _ hgl).trans hcell) 0 _ rfl, hpx W (hW.block _ hgl)⟩
  obtain ⟨l1, hl1⟩ : ∃ l1, l1 = lv - 1 := ⟨_, rfl⟩
  rw [← hl1] at hc
  obtain ⟨m, hm⟩ : ∃ m, m = (Bt.flat tx).length := ⟨_, rfl⟩
  obtain ⟨rm, hrm⟩ : ∃ rm, rm = Bt.room l1 := ⟨_, rfl⟩
  rw [← hm, ← hrm] at hc
  have CC : Hid (∀ (W : World), Below w.heap.size w W → Calls Tryz.prog 42 #[.pointer po] W fun ex w' => ex = .returned (.int .i64 (m : Int)) ∧ w' = W) := fun W hW => by
    rw [hm, ← hpo]
    exact count_t tx W (nt_stays hNx fun k hk => hW.block k (nt_lt hNx k hk))
  have CR : Hid (∀ W, Calls Tryz.prog 66 #[.int .i64 (l1 : Int)] W fun ex w' => ex = .returned (.int .i64 (rm : Int)) ∧ w' = W) := fun W => by
    rw [hrm]
    exact room_c l1 (by omega) W
  obtain ⟨v1, v2⟩ : IntKind.i64.wrap ((lv : Int) - 1) = (l1 : Int) ∧ wrap64 ((lv : Int) - 1) = (l1 : Int) := Bt.wr (by omega) (by omega)
  have HVL : Hid (IntKind.i64.wrap ((lv : Int) - 1) = (l1 : Int) ∧ wrap64 ((lv : Int) - 1) = (l1 : Int)) := ⟨v1, v2⟩
  clear v1 v2
  have z1 : (0 : Int) ≤ (i : Int) := Int.natCast_nonneg _
  have z2 : (i : Int) < 4 := by omega
  have hpg : Bt.ptr (Bt.top t) = .pointer (some ⟨g, 0, none⟩) := by rw [ht]; rfl
  have hrm := hroom
  clear hrm
  have hiE : i = Bt.spot key (key e) [x, y, z] := hi
  have HLV : Hid (lv = l1 + 1) := by show _ = _; omega
  have HIW : Hid (WithG tx) := by rw [htx]; exact Bt.pick_all IA IB IC ID i
  have hwx : Bt.wf tx := by rw [htx]; exact Bt.pick_wf (ht ▸ hw) i
  have hlx : Bt.levels tx ≤ l1 := by rw [htx]; exact Bt.pick_lev (g := g) (r := r) (es := [x, y, z]) (by omega) i
  have hmx : m < Bt.room l1 := by
    have h1 := Nat.le_trans (Bt.flat_room hwx) (Bt.room_mono hlx)
    rw [← hm] at h1
    omega
  obtain ⟨hfl, hat, hrx, hmem⟩ := Bt.kins_three (g := g) (r := r) (a := a) (b := b) (c := c) (d := d) (ht ▸ hr) hn hiE
  rw [← htx] at hfl hat hrx hmem
  rw [← ht] at hfl hmem
  have hndx : (Bt.blocks tx).Nodup := by rw [htx]; exact ((Bt.nodup_parts hnd).2.1 i).2.2
  have hml : m ≤ tl := by
    rw [hm, htl, htx, ht]
    exact Bt.pick_short (ht ▸ hw) i
  have CW : Hid (∀ (W : World), Below w.heap.size w W → Calls Tryz.prog 40 #[.pointer po, .pointer (some ⟨e, 0, none⟩), .int .i64 (l1 : Int)] W fun ex w' => ∃ t', ex = .returned (Bt.ptr (Bt.top t')) ∧ ∃ W0, Below w.heap.size w W0 ∧ Withs key e l1 tx W0 t' w') := fun W hW => by
    rw [← hpo]
    refine (HIW.out key W e l1 (nt_stays hNx fun k hk => hW.block k (nt_lt hNx k hk)) hwx hrx (fun f hf => ((hk f (hmem f hf)).stays hW).up hW.size) ((he.stays hW).up hW.size) hat (by omega) hndx hlx (by rw [← hm]; exact hmx) (by omega)).mono ?_
    rintro ex w' ⟨t', rfl, h⟩
    exact ⟨t', rfl, W, hW, h⟩
  obtain ⟨n1, hn1⟩ : ∃ n1, n1 = tl + 1 := ⟨_, rfl⟩
  have HMID : Hid (∀ (t' : Bt.T) (W0 W1 : World), Below w.heap.size w W0 → Withs key e l1 tx W0 t' W1 → (∃ y, W1.cell? ⟨g, 1 + i, none⟩ = some y) ∧ W1.frozen? ⟨g, 1 + i, none⟩ = false ∧ (W1.setCell ⟨g, 1 + i, none⟩ (Bt.ptr (Bt.top t'))).cell? ⟨g, 5, none⟩ = some (.int .i64 (tl : Int)) ∧ ∀ k, (W1.setCell ⟨g, 1 + i, none⟩ (Bt.ptr (Bt.top t'))).frozen? ⟨g, k, none⟩ = false) := fun t' W0 W1 h0 hW => by
    have hgx : g ∉ Bt.blocks tx := by rw [htx]; exact ((Bt.nodup_parts hnd).2.1 i).1
    have n1 := (hW.1.block g (Nat.lt_of_lt_of_le hgl h0.size) hgx).trans ((h0.block g hgl).trans hcell)
    have e5 := heap_setCell_same W1 g (1 + i) _ 95 (Bt.ptr (Bt.top t')) n1
    refine ⟨?_, row_freeV n1 _, ?_, fun k => row_freeV e5 k⟩
    · rcases (show i = 0 ∨ i = 1 ∨ i = 2 ∨ i = 3 by omega) with q | q | q | q <;> (rw [q]; exact ⟨_, cells_at n1 _ _ rfl⟩)
    · refine cells_at e5 5 _ ?_
      rcases (show i = 0 ∨ i = 1 ∨ i = 2 ∨ i = 3 by omega) with q | q | q | q <;> (rw [q]; rfl)
  have HFIN : Hid (∀ (t' : Bt.T) (W0 W1 w6 : World), Below w.heap.size w W0 → Withs key e l1 tx W0 t' W1 → w6 = (W1.setCell ⟨g, 1 + i, none⟩ (Bt.ptr (Bt.top t'))).setCell ⟨g, 5, none⟩ (.int .i64 (n1 : Int)) → ∃ t2, Bt.ptr (Bt.top t2) = .pointer (some ⟨g, 0, none⟩) ∧ Withs key e lv t w t2 w6) := fun t' W0 W1 w6 h0 hW h6 => by
    have hf' := hfl t' hW.2.2.2.1
    rw [htx] at hW
    rw [hn1, htl, ht] at h6
    rw [HLV.out, ht]
    exact ⟨Bt.put4 i t' a b c d g r [x, y, z], rfl, with_put (ht ▸ hN) (ht ▸ hw) hnd (by rw [← HLV.out]; exact hlv) (by omega) h0 hW (ht ▸ hf') h6⟩
  obtain ⟨v5, v6⟩ : IntKind.i64.wrap ((tl : Int) + 1) = (n1 : Int) ∧ wrap64 ((tl : Int) + 1) = (n1 : Int) := Bt.wr (by omega) (by omega)
  have HVN : Hid (IntKind.i64.wrap ((tl : Int) + 1) = (n1 : Int) ∧ wrap64 ((tl : Int) + 1) = (n1 : Int)) := ⟨v5, v6⟩
  clear v5 v6
  have q5 : ((m : Int) == (rm : Int)) = false := by simp; omega
  have q6 : ¬ (m : Int) = (rm : Int) := by omega
  clear hl1 hm hrm hi hiE hht hi3 hl hroom h20 h0 hres hkes hpx hcl hcell ho s1 hN hw hr hk he he1 he2 hel hgl hrl htx hNx hpo ht htl hpg hn1 hc hnd hn hlv IA IB IC ID hwx hlx hmx hfl hat hrx hmem hndx hml
  go_enter Tryz.func40, Tryz.ntmps40
  go_upto_region 3 with fail
  refine wp_region_below w.heap.size w (Below.refl _ _) (by kernel_rfl) (by kernel_rfl) ?_
  repeat (go_big_quiet_step (first | (go_at_call 64; exact below_call _ (Nat.le_refl _) (CP.out _ (BelowOf.h _)))))
  refine wpQuiet_nil ?_
  intro _ hw'
  obtain ⟨pq, hw''⟩ := hw'
  subst hw''
  have HB2 : Hid (Below w.heap.size w pq.W) := pq.h
  obtain ⟨g0, g1⟩ := HG.out _ pq.h
  obtain ⟨v1, v2⟩ := HVL.out
  clear p0 a0 a1 a2 a3 a4 a5 CP
  go_wp2_with fail
  refine (CC.out _ HB2.out).mono ?_
  rintro ex wc ⟨rfl, rfl⟩
  go_wp2_with fail
  refine (CR.out _).mono ?_
  rintro ex wc ⟨rfl, rfl⟩
  go_upto_region 4 with fail
  clear g0 g1 v1 v2 CC CR q5 q6 HE
  refine wp_region_ph (by kernel_rfl) (by kernel_rfl) Bt.wpre (by kernel_rfl) (fun f => { tmps := #[.pointer (some ⟨g, 0, none⟩), .pointer (some ⟨e, 0, none⟩), .int .i64 (lv : Int), undef, undef, undef, .pointer none, .int .i64 (i : Int), .bool ht', undef, .pointer (some ⟨g, 0, none⟩), .bool false, undef, undef, undef, .tuple #[.int .i64 (i : Int), .bool ht'], .pointer (some ⟨g, 0, none⟩), .pointer (some ⟨g, 0, none⟩), .pointer (some ⟨g, 0, none⟩), .slice (some ⟨r, 0, none⟩) 3 cap, .pointer (some ⟨e, 0, none⟩), .pointer (some ⟨e, 0, none⟩), .pointer (some ⟨e, 0, none⟩), .agg #[c0, c1, c2, c3, c4, c5], .tuple #[.int .i64 (i : Int), .bool ht'], .int .i64 (i : Int), .bool ht', f 0, f 1, f 2, f 3, f 4, f 5, f 6, f 7, f 8, f 9, f 10, f 11, f 12, f 13, f 14, .bool false, .pointer (some ⟨g, 0, none⟩), .pointer (some ⟨g, 0, none⟩), .pointer (some ⟨g, 0, none⟩), .slice (some ⟨r, 0, none⟩) 3 cap, .int .i64 3, .bool false, undef, undef, undef, undef, undef, undef, undef, undef, undef, undef, undef, .bool false, .pointer (some ⟨g, 0, none⟩), .int .i64 (i : Int), .pointer (some ⟨g, 0, none⟩), .pointer (some ⟨g, 1, none⟩), .pointer (some ⟨g, 1 + i, none⟩), .pointer po, .int .i64 (m : Int), .int .i64 (lv : Int), .int .i64 (l1 : Int), .int .i64 (rm : Int), .bool false, undef, undef, undef, undef, undef, undef, undef, undef, undef, undef, undef, undef, undef, undef, undef, undef, undef, undef, undef, undef, undef, undef, undef, undef, undef], defers := [] }) (fun _ => undef) rfl (ZK (Bt.wval g i e lv l1 po) 10 11 15 (fun W => Below w.heap.size w W) (fun W => Below w.heap.size w W) (fun v W => ∃ t', v = Bt.ptr (Bt.top t') ∧ ∃ W0, Below w.heap.size w W0 ∧ Withs key e l1 tx W0 t' W) (fun W => ∃ t' W0 W1, Below w.heap.size w W0 ∧ Withs key e l1 tx W0 t' W1 ∧ W = W1.setCell ⟨g, 1 + i, none⟩ (Bt.ptr (Bt.top t')))) ?init ?step ?done
  case init => exact ZK.start (HB2.out.drew)
  case step =>
    intro j hj L f W hLi hwt hno hI
    have HI : Hid _ := hI
    have hj16 : j < 16 := hj
    clear hj hI
    rcases (show j = 0 ∨ j = 1 ∨ j = 2 ∨ j = 3 ∨ j = 4 ∨ j = 5 ∨ j = 6 ∨ j = 7 ∨ j = 8 ∨ j = 9 ∨ j = 10 ∨ j = 11 ∨ j = 12 ∨ j = 13 ∨ j = 14 ∨ j = 15 by omega) with rfl | rfl | rfl | rfl | rfl | rfl | rfl | rfl | rfl | rfl | rfl | rfl | rfl | rfl | rfl | rfl
    · -- 0: {t27 := Op.move (tmp 0) :67}
      clear hwt hno hLi
      refine wpOp_of rfl rfl ?_
      intro K' hK'
      have HK' : Hid _ := hK'
      clear hK'
      change Oper.wp _ ⟨_, _, _, _, _, _⟩ _ _ _ _
      dsimp only
      go_simp
      exact HK'.out _ _ ⟨.pointer (some ⟨g, 0, none⟩), (by simp [upd]), HI.out.pure (by omega) (by omega) (by omega) rfl⟩
    · -- 1: {t28 := Op.move (tmp 7) :3}
      clear hwt hno hLi
      refine wpOp_of rfl rfl ?_
      intro K' hK'
      have HK' : Hid _ := hK'
      clear hK'
      change Oper.wp _ ⟨_, _, _, _, _, _⟩ _ _ _ _
      dsimp only
      go_simp
      exact HK'.out _ _ ⟨.int .i64 (i : Int), (by simp [upd]), HI.out.pure (by omega) (by omega) (by omega) rfl⟩
    · -- 2: {t29 := Op.move (tmp 0) :67}
      clear hwt hno hLi
      refine wpOp_of rfl rfl ?_
      intro K' hK'
      have HK' : Hid _ := hK'
      clear hK'
      change Oper.wp _ ⟨_, _, _, _, _, _⟩ _ _ _ _
      dsimp only
      go_simp
      exact HK'.out _ _ ⟨.pointer (some ⟨g, 0, none⟩), (by simp [upd]), HI.out.pure (by omega) (by omega) (by omega) rfl⟩
    · -- 3: {t30 := Op.move (tmp 7) :3}
      clear hwt hno hLi
      refine wpOp_of rfl rfl ?_
      intro K' hK'
      have HK' : Hid _ := hK'
      clear hK'
      change Oper.wp _ ⟨_, _, _, _, _, _⟩ _ _ _ _
      dsimp only
      go_simp
      exact HK'.out _ _ ⟨.int .i64 (i : Int), (by simp [upd]), HI.out.pure (by omega) (by omega) (by omega) rfl⟩
    · -- 4: {t31 := Op.nilCheck (tmp 29) :0}
      have g2 : f 2 = .pointer (some ⟨g, 0, none⟩) := HI.out.vals 2 (by omega) (by omega) (hwt 2 rfl)
      clear hwt hno hLi
      refine wpOp_of rfl rfl ?_
      intro K' hK'
      have HK' : Hid _ := hK'
      clear hK'
      change Oper.wp _ ⟨_, _, _, _, _, _⟩ _ _ _ _
      dsimp only
      rw [g2]
      go_simp
      exact HK'.out _ _ ⟨.pointer (some ⟨g, 0, none⟩), (by simp [upd, g2]), HI.out.pure (by omega) (by omega) (by omega) rfl⟩
    · -- 5: {t32 := Op.fieldAddr 95 (tmp 31) 1 :0}
      have g4 : f 4 = .pointer (some ⟨g, 0, none⟩) := HI.out.vals 4 (by omega) (by omega) (hwt 4 rfl)
      clear hwt hno hLi
      refine wpOp_of rfl rfl ?_
      intro K' hK'
      have HK' : Hid _ := hK'
      clear hK'
      change Oper.wp _ ⟨_, _, _, _, _, _⟩ _ _ _ _
      dsimp only
      rw [g4]
      go_simp
      exact HK'.out _ _ ⟨.pointer (some ⟨g, 1, none⟩), (by simp [upd, g4]), HI.out.pure (by omega) (by omega) (by omega) rfl⟩
    · -- 6: {t33 := Op.indexAddr 93 (tmp 32) (tmp 30) :0}
      have g5 : f 5 = .pointer (some ⟨g, 1, none⟩) := HI.out.vals 5 (by omega) (by omega) (hwt 5 rfl)
      have g3 : f 3 = .int .i64 (i : Int) := HI.out.vals 3 (by omega) (by omega) (hwt 3 rfl)
      clear hwt hno hLi
      refine wpOp_of rfl rfl ?_
      intro K' hK'
      have HK' : Hid _ := hK'
      clear hK'
      change Oper.wp _ ⟨_, _, _, _, _, _⟩ _ _ _ _
      dsimp only
      rw [g5, g3]
      go_simp
      exact HK'.out _ _ ⟨.pointer (some ⟨g, 1 + i, none⟩), (by simp [upd, g5, g3]), HI.out.pure (by omega) (by omega) (by omega) rfl⟩
    · -- 7: {t34 := Op.load 67 (tmp 33) :67}
      have g6 : f 6 = .pointer (some ⟨g, 1 + i, none⟩) := HI.out.vals 6 (by omega) (by omega) (hwt 6 rfl)
      have he := HG.out W ((HI.out.early (hno 11 (by decide))).elim id id)
      obtain ⟨ca, cb⟩ := he
      clear hwt hno hLi
      refine wpOp_of rfl rfl ?_
      intro K' hK'
      have HK' : Hid _ := hK'
      clear hK'
      change Oper.wp _ ⟨_, _, _, _, _, _⟩ _ _ _ _
      dsimp only
      rw [g6]
      go_simp
      exact HK'.out _ _ ⟨.pointer po, (by simp [upd, g6]), HI.out.pure (by omega) (by omega) (by omega) rfl⟩
    · -- 8: {t35 := Op.move (tmp 1) :71}
      clear hwt hno hLi
      refine wpOp_of rfl rfl ?_
      intro K' hK'
      have HK' : Hid _ := hK'
      clear hK'
      change Oper.wp _ ⟨_, _, _, _, _, _⟩ _ _ _ _
      dsimp only
      go_simp
      exact HK'.out _ _ ⟨.pointer (some ⟨e, 0, none⟩), (by simp [upd]), HI.out.pure (by omega) (by omega) (by omega) rfl⟩
    · -- 9: {t36 := Op.move (tmp 2) :3}
      clear hwt hno hLi
      refine wpOp_of rfl rfl ?_
      intro K' hK'
      have HK' : Hid _ := hK'
      clear hK'
      change Oper.wp _ ⟨_, _, _, _, _, _⟩ _ _ _ _
      dsimp only
      go_simp
      exact HK'.out _ _ ⟨.int .i64 (lv : Int), (by simp [upd]), HI.out.pure (by omega) (by omega) (by omega) rfl⟩
    · -- 10: {t37 := Op.binOp BinOp.sub 3 (tmp 36) (const (Value.int i64 
      have g9 : f 9 = .int .i64 (lv : Int) := HI.out.vals 9 (by omega) (by omega) (hwt 9 rfl)
      have hp := (HI.out.a0 hLi).2.2
      have HP : Hid (Below w.heap.size w W ∧ L 10 = false) := ⟨hp, hLi⟩
      obtain ⟨v1, v2⟩ := HVL.out
      clear hp
      clear hwt hno hLi
      refine wpOp_of rfl rfl ?_
      intro K' hK'
      have HK' : Hid _ := hK'
      clear hK'
      change Oper.wp _ ⟨_, _, _, _, _, _⟩ _ _ _ _
      dsimp only
      rw [g9]
      go_simp
      exact HK'.out _ _ ⟨.int .i64 (l1 : Int), (by simp [upd, g9]), HI.out.first (by omega) (by omega) HP.out.2 rfl HP.out.1⟩
    · -- 11: {t38 := Op.call { callee := Callee.value (func 40), args := 
      have g7 : f 7 = .pointer po := HI.out.vals 7 (by omega) (by omega) (hwt 7 rfl)
      have g8 : f 8 = .pointer (some ⟨e, 0, none⟩) := HI.out.vals 8 (by omega) (by omega) (hwt 8 rfl)
      have g10 : f 10 = .int .i64 (l1 : Int) := HI.out.vals 10 (by omega) (by omega) (hwt 10 rfl)
      have hp := (HI.out.a1 (hwt 10 rfl) hLi).2
      have HP : Hid (Below w.heap.size w W ∧ L 10 = true ∧ L 11 = false) := ⟨hp, hwt 10 rfl, hLi⟩
      clear hp
      clear hwt hno hLi
      refine wpOp_of rfl rfl ?_
      intro K' hK'
      have HK' : Hid _ := hK'
      clear hK'
      change Oper.wp _ ⟨_, _, _, _, _, _⟩ _ _ _ _
      dsimp only
      rw [g7, g8, g10]
      go_simp
      go_at_call 40
      refine (CW.out W HP.out.1).mono ?_
      rintro ex wa ⟨t', rfl, hM⟩
      exact HK'.out _ _ ⟨Bt.ptr (Bt.top t'), (by simp [upd, g7, g8, g10]), HI.out.call (by omega) (by omega) HP.out.2.1 HP.out.2.2 ⟨t', rfl, hM⟩⟩
    · -- 12: {t39 := Op.nilCheck (tmp 27) :0}
      have g0 : f 0 = .pointer (some ⟨g, 0, none⟩) := HI.out.vals 0 (by omega) (by omega) (hwt 0 rfl)
      clear hwt hno hLi
      refine wpOp_of rfl rfl ?_
      intro K' hK'
      have HK' : Hid _ := hK'
      clear hK'
      change Oper.wp _ ⟨_, _, _, _, _, _⟩ _ _ _ _
      dsimp only
      rw [g0]
      go_simp
      exact HK'.out _ _ ⟨.pointer (some ⟨g, 0, none⟩), (by simp [upd, g0]), HI.out.pure (by omega) (by omega) (by omega) rfl⟩
    · -- 13: {t40 := Op.fieldAddr 95 (tmp 39) 1 :0}
      have g12 : f 12 = .pointer (some ⟨g, 0, none⟩) := HI.out.vals 12 (by omega) (by omega) (hwt 12 rfl)
      clear hwt hno hLi
      refine wpOp_of rfl rfl ?_
      intro K' hK'
      have HK' : Hid _ := hK'
      clear hK'
      change Oper.wp _ ⟨_, _, _, _, _, _⟩ _ _ _ _
      dsimp only
      rw [g12]
      go_simp
      exact HK'.out _ _ ⟨.pointer (some ⟨g, 1, none⟩), (by simp [upd, g12]), HI.out.pure (by omega) (by omega) (by omega) rfl⟩
    · -- 14: {t41 := Op.indexAddr 93 (tmp 40) (tmp 28) :0}
      have g13 : f 13 = .pointer (some ⟨g, 1, none⟩) := HI.out.vals 13 (by omega) (by omega) (hwt 13 rfl)
      have g1 : f 1 = .int .i64 (i : Int) := HI.out.vals 1 (by omega) (by omega) (hwt 1 rfl)
      clear hwt hno hLi
      refine wpOp_of rfl rfl ?_
      intro K' hK'
      have HK' : Hid _ := hK'
      clear hK'
      change Oper.wp _ ⟨_, _, _, _, _, _⟩ _ _ _ _
      dsimp only
      rw [g13, g1]
      go_simp
      exact HK'.out _ _ ⟨.pointer (some ⟨g, 1 + i, none⟩), (by simp [upd, g13, g1]), HI.out.pure (by omega) (by omega) (by omega) rfl⟩
    · -- 15: {Op.store 67 (tmp 41) (tmp 38) :0}
      have g14 : f 14 = .pointer (some ⟨g, 1 + i, none⟩) := HI.out.vals 14 (by omega) (by omega) (hwt 14 rfl)
      obtain ⟨t', g11, W0, h0, hM⟩ := HI.out.m (hwt 11 rfl) hLi
      have HP : Hid ((Below w.heap.size w W0 ∧ Withs key e l1 tx W0 t' W) ∧ L 10 = true ∧ L 11 = true) := ⟨⟨h0, hM⟩, hwt 10 rfl, hwt 11 rfl⟩
      obtain ⟨⟨xz, cz⟩, fz, _⟩ := HMID.out t' W0 W h0 hM
      obtain ⟨pp, hpp⟩ : ∃ pp, Bt.ptr (Bt.top t') = .pointer pp := ⟨_, rfl⟩
      rw [hpp] at g11
      have HPP : Hid (Bt.ptr (Bt.top t') = .pointer pp) := hpp
      clear hM h0 hpp
      clear hwt hno hLi
      refine wpOp_of rfl rfl ?_
      intro K' hK'
      have HK' : Hid _ := hK'
      clear hK'
      change Oper.wp _ ⟨_, _, _, _, _, _⟩ _ _ _ _
      dsimp only
      rw [g14, g11]
      go_simp
      exact HK'.out _ _ ⟨undef, (by simp [upd, g14, g11]), HI.out.store (by omega) (by omega) HP.out.2.1 HP.out.2.2 ⟨t', W0, W, HP.out.1.1, HP.out.1.2, by rw [HPP.out]⟩⟩
  case done =>
    intro L f W hL hI
    obtain ⟨t', W0, W1, h0, hM, hWe⟩ := hI.p (hL 15 (by simp))
    obtain ⟨_, _, u5, fz⟩ := HMID.out t' W0 W1 h0 hM
    have HF : Hid _ := HFIN.out t' W0 W1 (W.setCell ⟨g, 5, none⟩ (.int .i64 (n1 : Int))) h0 hM (by rw [hWe])
    rw [← hWe] at u5 fz
    obtain ⟨v1, v2⟩ := HVN.out
    clear hI hL hWe hM h0 CW HMID HFIN HG
    dsimp only
    go_wp2
    clear v1 v2
    go_ret
    obtain ⟨t2, e2, h2⟩ := HF.out
    exact ⟨t2, by rw [e2]; rfl, h2⟩
theorem withG_full {g r x y z : Nat} {a b c d : Bt.T} (IA : WithG a) (IB : WithG b) (IC : WithG c) (ID : WithG d) : WithG (.node g r [x, y, z] a b c d) := fun key W e lv hN hw hr hk he hn hl hnd hlv hroom h20 => by
  have h0 : 1 ≤ lv := by rw [Bt.levels] at hlv; omega
  by_cases hc : (Bt.flat (Bt.pick (Bt.spot key (key e) [x, y, z]) a b c d)).length = Bt.room (lv - 1)
  · exact with_fullA key W g r x y z e lv a b c d hN hw hr hk he hl hroom h20 h0 hc
  · exact with_fullB key W g r x y z e lv a b c d hN hw hr hk he hl hroom h20 h0 hnd hn hlv IA IB IC ID hc
theorem withG_all : ∀ (t : Bt.T), Bt.wf t → WithG t
  | .nil, _ => withG_nil
  | .node g r es a b c d, hw => by
    obtain ⟨h1, h2, h3, ha, hb, hc, hd⟩ := hw
    by_cases hl : es.length < 3
    · obtain ⟨rfl, rfl, rfl, rfl⟩ := h3 hl
      exact withG_few hl
    · match es, h2, hl with
      | [x, y, z], _, _ => exact withG_full (withG_all a ha) (withG_all b hb) (withG_all c hc) (withG_all d hd)
      | [], _, hl => simp at hl
      | [_], _, hl => simp at hl
      | [_, _], _, hl => simp at hl
theorem withOK_all (t : Bt.T) : WithOK t := fun key W e hN hw hr hk he hn hl hnd hlev => by
  have h10 : Bt.fewest ((Bt.flat t).length + 1) ≤ 10 := (Bt.fewest_le 10 _).2 (Nat.le_trans (by omega : _ ≤ 1025) (by decide))
  refine (withG_all t hw key W e (Bt.fewest ((Bt.flat t).length + 1)) hN hw hr hk he hn hl hnd (by rw [hlev]; exact Bt.fewest_mono (by omega)) ((Bt.fewest_le _ _).1 (Nat.le_refl _)) (by omega)).mono ?_
  rintro ex w' ⟨t', rfl, h1, h2, h3, h4, h5, h6, h7⟩
  refine ⟨t', rfl, h1, h2, h3, h4, Nat.le_antisymm h5 ?_, h6, h7⟩
  have := Bt.fewest_levels h3
  rw [h4, Bt.kins_length] at this
  exact this
end Go.Proofs.YtkigenldiinioaaGreatDoor
