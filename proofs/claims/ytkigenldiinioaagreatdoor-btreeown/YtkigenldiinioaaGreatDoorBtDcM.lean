/- Drop of a key's last number: walked. -/
import Derived.Test.YtkigenldiinioaaGreatDoorQ30M
namespace Go.Proofs.YtkigenldiinioaaGreatDoor
open Go.RowKit
open Vl (V)
attribute [local go_sem ↓] Go.wp_at_zero Go.wp_at_succ
/-- what comes ahead in Drop's region -/
def Bt.dpre : Nat → List Nat := fun i => (#[[], [], [1], [1, 2], [1, 2, 3], [], [1, 2, 3, 4, 5], [1, 2, 3, 4, 5, 6], [0], [0, 8], [0, 1, 2, 3, 4, 5, 6, 7, 8, 9]] : Array (List Nat)).getD i []
/-- what its slots hold -/
def Bt.dval (tb : Nat) (po : Option Addr) (d0 d1 d2 d3 d4 d5 : Value) : Nat → Value := fun i' => (#[.pointer (some ⟨tb, 0, none⟩), .pointer (some ⟨tb, 0, none⟩), .pointer (some ⟨tb, 0, none⟩), .pointer (some ⟨tb, 0, none⟩), .pointer po, .agg #[d0, d1, d2, d3, d4, d5], undef, undef, .pointer (some ⟨tb, 0, none⟩), .pointer (some ⟨tb, 0, none⟩), undef] : Array Value).getD i' undef
section
variable {w : World} {F : Nat → Prop} {tb : Nat} {t : Bt.T} {key : Nat → V} {ids : Nat → List Nat} {ir : Nat → Nat} {n : Nat}
theorem TA.ek_kept (h : TA w F tb t key ids ir n) {e : Nat} (hem : e ∈ Bt.flat t) {W : World} (k : Kept (fun g => g ∈ Bt.blocks t ∨ g = e ∨ g = ir e ∨ g = tb) w W) {f : Nat} (hf : f ∈ Bt.flat t) (hfe : f ≠ e) : EK W W.heap.size (key f) f := by
  obtain ⟨ff, fi, c0, c1, c2, c3, c4, c5, cap, h1, h2, h3⟩ := h.ent f hf
  have hs := k.size
  have b1 := (k.block f (h.lt f ff) (fun q => by
    rcases q with q | q | q | q
    · exact ((h.blk_ne q).2 f hf).1 rfl
    · exact hfe q
    · exact h.e_ne hf hem q
    · exact (h.tb_ne hf).1 q.symm)).trans h1
  have r1 : RepA W (fun g => g < W.heap.size ∧ ¬ F g) (key f) (.agg #[c0, c1, c2, c3, c4, c5]) := by
    refine repA_stays (fun g hg => k.block g hg.1 (fun q => ?_)) (fun g hg => ⟨by have := hg.1; omega, hg.2⟩) _ _ h2
    rcases q with q | q | q | q
    · exact hg.2 (h.fnt g q)
    · exact hg.2 (q ▸ (h.ent e hem).1)
    · exact hg.2 (q ▸ (h.ent e hem).2.1)
    · exact hg.2 (q ▸ h.fbox)
  exact ⟨lt_of_row b1, c0, c1, c2, c3, c4, c5, _, b1, repA_rep (fun g hg => hg.1) _ _ r1⟩
/-- what lies between the calls and the store -/
def Gone (w : World) (key : Nat → V) (x : V) (t : Bt.T) (w7 : World) (t2 : Bt.T) (W2 : World) : Prop := Kept (fun g => g ∈ Bt.blocks t) w7 W2 ∧ NT W2 t2 ∧ Bt.wf t2 ∧ Bt.flat t2 = Bt.kdel key x (Bt.flat t) ∧ Bt.levels t2 = Bt.fewest (Bt.flat t2).length ∧ (Bt.blocks t2).Nodup ∧ ∀ g ∈ Bt.blocks t2, g ∈ Bt.blocks t ∨ w.heap.size ≤ g
set_option maxHeartbeats 4000000 in
set_option maxRecDepth 100000 in
theorem drop_last (h : TA w F tb t key ids ir n) (hU : Bn.HasU w) {x : V} {v : Value} (hv : Rep w w.heap.size x v) (hvF : ∀ W, Kept F w W → Rep W W.heap.size x v) (hx : Bt.kerr x = 0) {e id : Nat} (he : Bt.at? key x (Bt.flat t) = some e) (hh : Bt.nhas id (ids e) = true) (h2l : (ids e).length = 1) :
    Calls Tryz.prog 25 #[.pointer (some ⟨tb, 0, none⟩), v, .int .u64 (id : Int)] w fun ex w' => ex = .returned (.int .i64 0) ∧ ∃ t', Bt.flat t' = Bt.kdel key x (Bt.flat t) ∧ Kept (OB tb t ir) w w' ∧ TA w' (fun g => F g ∨ (w.heap.size ≤ g ∧ g < w'.heap.size)) tb t' key ids ir (n - 1) ∧ ∀ g, OB tb t' ir g → OB tb t ir g ∨ w.heap.size ≤ g := by
  have hm := Bt.at_mem he
  have hcx : Vl.cmp (key e) x = 0 := by
    have := List.find?_some he
    simpa using this
  obtain ⟨i, hi⟩ : ∃ i, i = Bt.nspot id (ids e) := ⟨_, rfl⟩
  obtain ⟨d0, d1, d2, d3, d4, d5, rfl⟩ := repV_box hv
  obtain ⟨w1, hw1⟩ : ∃ w1, w1 = w.alloc (.cells #[d0, d1, d2, d3, d4, d5] 27) := ⟨_, rfl⟩
  obtain ⟨B, hBe⟩ : ∃ B, B = w.heap.size := ⟨_, rfl⟩
  have hB1 : w1.heap[B]? = some (.cells #[d0, d1, d2, d3, d4, d5] 27 (0, 0)) := by rw [hw1, hBe]; exact heap_alloc_new w _
  have b1 : Below w.heap.size w w1 := by rw [hw1]; exact below_new _ _
  have HB : Hid (∀ (W : World), Below w1.heap.size w1 W → Below w.heap.size w W) := fun W hW => b1.trans (hW.mono b1.size)
  have CA : Hid (∀ W, Below w1.heap.size w1 W → Calls Tryz.prog 34 #[.pointer (some ⟨tb, 0, none⟩), .agg #[d0, d1, d2, d3, d4, d5]] W fun ex w' => ex = .returned (.tuple #[.pointer (some ⟨e, 0, none⟩), .int .i64 0]) ∧ Below W.heap.size W w') := fun W hW => by
    have := h.at_has hU hv hx W (HB.out W hW)
    rw [he] at this
    exact this
  have CP : Hid (∀ W, Below w1.heap.size w1 W → Calls Tryz.prog 39 #[.pointer (some ⟨e, 0, none⟩), .int .u64 (id : Int)] W fun ex w' => ex = .returned (.tuple #[.int .i64 (i : Int), .bool true]) ∧ Below W.heap.size W w') := fun W hW => by
    have := h.place hm id W (HB.out W hW)
    rw [hh, ← hi] at this
    exact this
  obtain ⟨fe, fi, c0, c1, c2, c3, c4, c5, cap, h1, h2, h3⟩ := h.ent e hm
  obtain ⟨l, hl⟩ : ∃ l, l = ids e := ⟨_, rfl⟩
  rw [← hl] at h1 h3 h2l hi
  rw [h2l] at h1 h3
  have hin : i < 1 := by
    rw [hl] at hi
    have := Bt.nspot_at hh
    rw [← hi, ← hl] at this
    rw [← h2l]
    exact (List.getElem?_eq_some_iff.1 this).1
  obtain ⟨i3, hi3⟩ : ∃ i3, i3 = i + 1 := ⟨_, rfl⟩
  obtain ⟨n1, hn1⟩ : ∃ n1, n1 = n - 1 := ⟨_, rfl⟩
  have hn0 : 1 ≤ n ∧ n ≤ 1024 := ⟨by have := h.few hm; rw [← hl] at this; omega, h.le⟩
  have s01 := b1.size
  have hBg : w.heap.size ≤ B := by omega
  have HT : Hid (∀ W, Below w1.heap.size w1 W → W.cell? ⟨e, 6, none⟩ = some (.slice (some ⟨ir e, 0, none⟩) 1 cap)) := fun W hW => cells_at (((HB.out W hW).block _ (lt_of_row h1)).trans h1) 6 _ rfl
  have HC : Hid (∀ W, Below w1.heap.size w1 W → W.cell? ⟨B, 0, none⟩ = some d0 ∧ W.cell? ⟨B, 1, none⟩ = some d1 ∧ W.cell? ⟨B, 2, none⟩ = some d2 ∧ W.cell? ⟨B, 3, none⟩ = some d3 ∧ W.cell? ⟨B, 4, none⟩ = some d4 ∧ W.cell? ⟨B, 5, none⟩ = some d5) := fun W hW => by
    have h1 := (hW.block B (lt_of_row hB1)).trans hB1
    exact ⟨cells_at h1 0 _ rfl, cells_at h1 1 _ rfl, cells_at h1 2 _ rfl, cells_at h1 3 _ rfl, cells_at h1 4 _ rfl, cells_at h1 5 _ rfl⟩
  have CJ : Hid (∀ W, Below w1.heap.size w1 W → Calls Tryz.prog 44 #[.slice (some ⟨ir e, 0, none⟩) 1 cap, .int .i64 (i : Int), .int .i64 (i3 : Int)] W fun ex w' => ex = .returned (.slice (some ⟨ir e, 0, none⟩) 0 cap) ∧ Hid (Kept (fun g => g = ir e) w1 w')) := fun W hW => by
    rw [hi3]
    refine (delU_c (ir e) 1 cap i l W (h3.slice ((HB.out W hW).block _ (h.lt _ fi))) hin (by omega)).mono ?_
    rintro ex w' ⟨rfl, k1, k2⟩
    exact ⟨rfl, (Kept.of_below hW).trans k2 (fun g _ q => q)⟩
  have HE : Hid (∀ W, Kept (fun g => g = ir e) w1 W → W.heap[e]? = some (.cells #[c0, c1, c2, c3, c4, c5, .slice (some ⟨ir e, 0, none⟩) 1 cap] 73 (0, 0)) ∧ (W.setCell ⟨e, 6, none⟩ (.slice (some ⟨ir e, 0, none⟩) 0 cap)).heap[tb]? = some (.cells #[Bt.ptr (Bt.top t), .int .i64 (n : Int)] 69 (0, 0)) ∧ ((W.setCell ⟨e, 6, none⟩ (.slice (some ⟨ir e, 0, none⟩) 0 cap)).setCell ⟨tb, 1, none⟩ (.int .i64 (n1 : Int))).heap[e]? = some (.cells #[c0, c1, c2, c3, c4, c5, .slice (some ⟨ir e, 0, none⟩) 0 cap] 73 (0, 0)) ∧ ((W.setCell ⟨e, 6, none⟩ (.slice (some ⟨ir e, 0, none⟩) 0 cap)).setCell ⟨tb, 1, none⟩ (.int .i64 (n1 : Int))).heap[tb]? = some (.cells #[Bt.ptr (Bt.top t), .int .i64 (n1 : Int)] 69 (0, 0)) ∧ Kept (fun g => g = e ∨ g = ir e ∨ g = tb) w ((W.setCell ⟨e, 6, none⟩ (.slice (some ⟨ir e, 0, none⟩) 0 cap)).setCell ⟨tb, 1, none⟩ (.int .i64 (n1 : Int))) ∧ ((W.setCell ⟨e, 6, none⟩ (.slice (some ⟨ir e, 0, none⟩) 0 cap)).setCell ⟨tb, 1, none⟩ (.int .i64 (n1 : Int))).heap[B]? = some (.cells #[d0, d1, d2, d3, d4, d5] 27 (0, 0))) := fun W k1 => by
    have l1 := h.lt e fe
    have l2 := h.lt tb h.fbox
    have l3 := h.lt _ fi
    have b5 := (k1.block e (by omega) (h.e_ne hm hm)).trans ((b1.block e l1).trans h1)
    have t5 := (k1.block tb (by omega) (h.tb_ne hm).2).trans ((b1.block tb l2).trans h.box)
    have ne := (h.tb_ne hm).1
    have e6 := heap_setCell_same W e 6 _ 73 (.slice (some ⟨ir e, 0, none⟩) 0 cap) b5
    have t6 : (W.setCell ⟨e, 6, none⟩ (.slice (some ⟨ir e, 0, none⟩) 0 cap)).heap[tb]? = some (.cells #[Bt.ptr (Bt.top t), .int .i64 (n : Int)] 69 (0, 0)) := by rw [heap_setCell_other _ _ _ _ ne]; exact t5
    refine ⟨b5, t6, ?_, heap_setCell_same _ tb 1 _ 69 _ t6, ⟨k1.os.trans b1.os, k1.tape.trans b1.tape, k1.output.trans b1.output, by simpa using Nat.le_trans b1.size k1.size, fun k hk hne => ?_⟩, ?_⟩
    · rw [heap_setCell_other _ _ _ _ (fun q => ne q.symm)]; exact e6
    · rw [heap_setCell_other _ _ _ _ (fun q => hne (.inr (.inr q))), heap_setCell_other _ _ _ _ (fun q => hne (.inl q))]
      exact (k1.block k (by omega) (fun q => hne (.inr (.inl q)))).trans (b1.block k hk)
    · rw [heap_setCell_other _ _ _ _ (show B ≠ tb by omega), heap_setCell_other _ _ _ _ (show B ≠ e by omega)]
      exact (k1.block B (lt_of_row hB1) (by omega)).trans hB1
  obtain ⟨v1, v2⟩ : IntKind.i64.wrap ((i : Int) + 1) = (i3 : Int) ∧ wrap64 ((i : Int) + 1) = (i3 : Int) := succs hi3 (by omega)
  obtain ⟨v3, v4⟩ : IntKind.i64.wrap ((n : Int) - 1) = (n1 : Int) ∧ wrap64 ((n : Int) - 1) = (n1 : Int) := Bt.wr (by omega) (by omega)
  obtain ⟨po, hpo⟩ : ∃ po, Bt.ptr (Bt.top t) = .pointer po := ⟨_, rfl⟩
  have HH : Hid (TA w F tb t key ids ir n ∧ Bt.at? key x (Bt.flat t) = some e ∧ (ids e).length = 1 ∧ e ∈ Bt.flat t ∧ Vl.cmp (key e) x = 0 ∧ (∀ W, Kept F w W → Rep W W.heap.size x (.agg #[d0, d1, d2, d3, d4, d5])) ∧ RepA w (fun g => g < w.heap.size ∧ ¬ F g) (key e) (.agg #[c0, c1, c2, c3, c4, c5]) ∧ n1 = n - 1 ∧ Bt.ptr (Bt.top t) = .pointer po) := ⟨h, he, by rw [← hl]; exact h2l, hm, hcx, hvF, h2, hn1, hpo⟩
  clear h hU hv hvF hx he hh hi hm hl fe fi h1 h2 h3 hn1 hi3 hin hn0 h2l hcx s01 hBg
  have hcb := HC.out w1 (Below.refl _ _)
  obtain ⟨x0, x1, x2, x3, x4, x5⟩ := hcb
  clear hB1 b1
  go_enter Tryz.func25, Tryz.ntmps25
  go_upto_region 1 with fail
  rw [← hw1, ← hBe]
  clear hw1 hBe
  go_upto_region 7 with (first | (go_at_call 34; refine (CA.out _ (Below.refl _ _)).mono ?_; rintro ex w2 ⟨rfl, hb⟩; have HB2 : Hid (Below w1.heap.size w1 w2) := hb; clear hb) | (go_at_call 39; refine (CP.out _ HB2.out).mono ?_; rintro ex w3 ⟨rfl, hb⟩; have HB3 : Hid (Below w1.heap.size w1 w3) := HB2.out.trans (hb.mono HB2.out.size); clear hb))
  have t2 := HT.out w3 HB3.out
  clear CA CP HT HC HB2 x0 x1 x2 x3 x4 x5
  go_upto_region 8 with (go_at_call 44; refine (CJ.out _ HB3.out).mono ?_; rintro ex w5 ⟨rfl, HV⟩; clear t2; have u6 := cells_at (HE.out w5 HV.out).1 6 _ rfl; have fz := row_freeV (HE.out w5 HV.out).1)
  obtain ⟨w6, hw6⟩ : ∃ w6, w6 = w5.setCell ⟨e, 6, none⟩ (.slice (some ⟨ir e, 0, none⟩) 0 cap) := ⟨_, rfl⟩
  have HF := HE.out w5 HV.out
  rw [← hw6] at HF ⊢
  have y1 := cells_at HF.2.1 1 _ rfl
  have fy := row_freeV HF.2.1
  have HF2 : Hid _ := HF.2.2
  clear HF HE CJ HV hw6 u6 fz
  go_upto_region 9 with fail
  obtain ⟨w7, hw7⟩ : ∃ w7, w7 = w6.setCell ⟨tb, 1, none⟩ (.int .i64 (n1 : Int)) := ⟨_, rfl⟩
  rw [← hw7] at HF2 ⊢
  have y6 := cells_at HF2.out.1 6 _ rfl
  clear hw7 y1 fy v1 v2 v3 v4
  have HC : Hid (∀ W, Below w7.heap.size w7 W → W.cell? ⟨tb, 0, none⟩ = some (.pointer po) ∧ W.cell? ⟨B, 0, none⟩ = some d0 ∧ W.cell? ⟨B, 1, none⟩ = some d1 ∧ W.cell? ⟨B, 2, none⟩ = some d2 ∧ W.cell? ⟨B, 3, none⟩ = some d3 ∧ W.cell? ⟨B, 4, none⟩ = some d4 ∧ W.cell? ⟨B, 5, none⟩ = some d5) := fun W hW => by
    obtain ⟨_, k2, _, k4⟩ := HF2.out
    have t1 := (hW.block tb (lt_of_row k2)).trans k2
    have h1 := (hW.block B (lt_of_row k4)).trans k4
    rw [HH.out.2.2.2.2.2.2.2.2] at t1
    exact ⟨cells_at t1 0 _ rfl, cells_at h1 0 _ rfl, cells_at h1 1 _ rfl, cells_at h1 2 _ rfl, cells_at h1 3 _ rfl, cells_at h1 4 _ rfl, cells_at h1 5 _ rfl⟩
  have CW : Hid (∀ W, Below w7.heap.size w7 W → Calls Tryz.prog 45 #[.pointer po, .agg #[d0, d1, d2, d3, d4, d5]] W fun ex w' => ∃ t1, ex = .returned (Bt.ptr (Bt.top t1)) ∧ ∃ W0, Below w7.heap.size w7 W0 ∧ Outs key x t W0 t1 w') := fun W hW => by
    obtain ⟨hT, hat, h1l, hm, hcx, hvF, hRA, _, hpo⟩ := HH.out
    obtain ⟨k1, k2, k3, k4⟩ := HF2.out
    have kW : Kept (fun g => g = e ∨ g = ir e ∨ g = tb) w W := k3.trans (Kept.of_below (F := fun _ => False) hW) (fun g _ q => q.elim)
    have kF : Kept F w W := kW.mono fun g q => by
      rcases q with q | q | q
      · rw [q]; exact (hT.ent e hm).1
      · rw [q]; exact (hT.ent e hm).2.1
      · rw [q]; exact hT.fbox
    have kB : Kept (fun g => g ∈ Bt.blocks t ∨ g = e ∨ g = ir e ∨ g = tb) w W := kW.mono fun g q => .inr q
    have ek : ∀ f ∈ Bt.flat t, EK W W.heap.size (key f) f := fun f hf => by
      by_cases q : f = e
      · rw [q]
        have be := (hW.block e (lt_of_row k1)).trans k1
        refine ⟨lt_of_row be, c0, c1, c2, c3, c4, c5, _, be, repA_rep (fun g hg => hg.1) _ _ (repA_stays (fun g hg => kF.block g hg.1 hg.2) (fun g hg => (⟨Nat.lt_of_lt_of_le hg.1 kF.size, hg.2⟩ : g < W.heap.size ∧ ¬ F g)) _ _ hRA)⟩
      · exact hT.ek_kept hm kB hf q
    rw [← hpo]
    refine (woG_all t key W x _ e (nt_stays hT.nt fun g hg => kW.block g (hT.lt g (hT.fnt g hg)) (fun q => ?_)) hT.wf hT.rises ek (hvF W kF) hm hcx (by have := hT.keys; have := hT.le; omega) hT.nd).mono ?_
    · obtain ⟨q1, q2⟩ := hT.blk_ne hg
      rcases q with q | q | q
      · exact (q2 e hm).1 q
      · exact (q2 e hm).2 q
      · exact q1 q
    · rintro ex w' ⟨t1, rfl, hO⟩
      exact ⟨t1, rfl, W, hW, hO⟩
  have CS : Hid (∀ (t1 : Bt.T) (W0 W : World), Below w7.heap.size w7 W0 → Outs key x t W0 t1 W → Calls Tryz.prog 46 #[Bt.ptr (Bt.top t1)] W fun ex w' => ∃ t2, ex = .returned (Bt.ptr (Bt.top t2)) ∧ Gone w key x t w7 t2 w') := fun t1 W0 W h0 hO => by
    obtain ⟨hT, hat, h1l, hm, hcx, hvF, hRA, _, hpo⟩ := HH.out
    obtain ⟨k1, k2, k3, k4⟩ := HF2.out
    obtain ⟨o1, o2, o3, o4, o5, o6, o7⟩ := hO
    have hsub : (Bt.flat t1).Sublist (Bt.flat t) := by rw [o4]; exact Bt.less_sub _ _
    have hout : e ∉ Bt.flat t1 := by rw [o4]; exact Bt.less_out (Bt.rises_nodup hT.rises) (Bt.spot_at hT.rises hat)
    have kO : Kept (fun g => g ∈ Bt.blocks t) W0 W := ⟨o1.os, o1.tape, o1.output, o1.size, fun k hk hne => o1.block k hk hne⟩
    have k7 : Kept (fun g => g ∈ Bt.blocks t) w7 W := (Kept.of_below (F := fun g => g ∈ Bt.blocks t) h0).trans kO (fun g _ q => q)
    have kB : Kept (fun g => g ∈ Bt.blocks t ∨ g = e ∨ g = ir e ∨ g = tb) w W := (k3.mono fun g q => Or.inr q).trans k7 (fun g _ q => .inl q)
    have s0 := h0.size
    have s3 := k3.size
    have s1 := o1.size
    have hk := hT.keys
    have hle := hT.le
    have hll := hsub.length_le
    have hlev : Bt.levels t1 ≤ 100 := by
      have : Bt.levels t ≤ 10 := by rw [hT.lev]; exact (Bt.fewest_le 10 _).2 (Nat.le_trans (by omega : _ ≤ 1024) (by decide))
      omega
    refine (shallow_c key t1 W o2 o3 (List.Pairwise.sublist hsub hT.rises) (fun f hf => hT.ek_kept hm kB (hsub.subset hf) (fun q => hout (q ▸ hf))) (by omega) hlev o6).mono ?_
    rintro ex w' ⟨t2, rfl, r1, r2, r3, r4, r5, r6, r7⟩
    refine ⟨t2, rfl, k7.trans (Kept.of_below (F := fun _ => False) r1) (fun g _ q => q.elim), r2, r3, r4.trans o4, by rw [r5, r4], r6, fun g hg => ?_⟩
    rcases r7 g hg with q | q
    · rcases o7 g q with q2 | q2
      · exact .inl q2
      · exact .inr (by omega)
    · exact .inr (by omega)
  have HM : Hid (∀ (t2 : Bt.T) (W2 : World), Gone w key x t w7 t2 W2 → W2.heap[tb]? = some (.cells #[Bt.ptr (Bt.top t), .int .i64 (n1 : Int)] 69 (0, 0)) ∧ ∃ t', Bt.flat t' = Bt.kdel key x (Bt.flat t) ∧ Kept (OB tb t ir) w (W2.setCell ⟨tb, 0, none⟩ (Bt.ptr (Bt.top t2))) ∧ TA (W2.setCell ⟨tb, 0, none⟩ (Bt.ptr (Bt.top t2))) (fun g => F g ∨ (w.heap.size ≤ g ∧ g < (W2.setCell ⟨tb, 0, none⟩ (Bt.ptr (Bt.top t2))).heap.size)) tb t' key ids ir (n - 1) ∧ ∀ g, OB tb t' ir g → OB tb t ir g ∨ w.heap.size ≤ g) := fun t2 W2 hG => by
    obtain ⟨hT, hat, h1l, hm, hcx, hvF, hRA, hn1, hpo⟩ := HH.out
    obtain ⟨k1, k2, k3, k4⟩ := HF2.out
    obtain ⟨g1, g2, g3, g4, g5, g6, g7⟩ := hG
    have htb : tb ∉ Bt.blocks t := fun q => (hT.blk_ne q).1 rfl
    have b2 := (g1.block tb (lt_of_row k2) htb).trans k2
    refine ⟨b2, ?_⟩
    obtain ⟨W8, hW8⟩ : ∃ W8, W8 = W2.setCell ⟨tb, 0, none⟩ (Bt.ptr (Bt.top t2)) := ⟨_, rfl⟩
    have b8 := heap_setCell_same W2 tb 0 _ 69 (Bt.ptr (Bt.top t2)) b2
    rw [← hW8] at b8 ⊢
    have o8 : ∀ k, k ≠ tb → W8.heap[k]? = W2.heap[k]? := fun k hk => by rw [hW8, heap_setCell_other _ _ _ _ hk]
    have htb2 : tb ∉ Bt.blocks t2 := fun q => by
      rcases g7 tb q with q2 | q2
      · exact htb q2
      · have := hT.lt tb hT.fbox; omega
    have k8 : Kept (fun g => g ∈ Bt.blocks t ∨ g = tb) w7 W8 := ⟨by rw [hW8]; exact g1.os, by rw [hW8]; exact g1.tape, by rw [hW8]; exact g1.output, by rw [hW8]; simpa using g1.size, fun k hk hne => (o8 k fun q => hne (.inr q)).trans (g1.block k hk fun q => hne (.inl q))⟩
    obtain ⟨p1, p2, p3⟩ := hT.gone hat h1l k3 k8 (by rw [← hn1]; exact b8) (nt_stays g2 fun g hg => o8 g fun q => htb2 (q ▸ hg)) g7 g6 g3 g4 g5
    exact ⟨t2, g4, p1, p2, p3⟩
  go_upto_region 10 with fail
  clear y6
  refine wp_region_ph (by kernel_rfl) (by kernel_rfl) Bt.dpre (by kernel_rfl) (fun f => { tmps := #[.pointer (some ⟨tb, 0, none⟩), .agg #[d0, d1, d2, d3, d4, d5], .int .u64 (id : Int), undef, .pointer (some ⟨B, 0, none⟩), undef, .int .i64 0, .pointer (some ⟨e, 0, none⟩), .int .i64 0, .int .i64 (i : Int), .bool true, .tuple #[.pointer (some ⟨e, 0, none⟩), .int .i64 0], .pointer (some ⟨tb, 0, none⟩), .agg #[d0, d1, d2, d3, d4, d5], .tuple #[.pointer (some ⟨e, 0, none⟩), .int .i64 0], .pointer (some ⟨e, 0, none⟩), .int .i64 0, .int .i64 0, .bool false, undef, .tuple #[.int .i64 (i : Int), .bool true], .pointer (some ⟨e, 0, none⟩), .int .u64 (id : Int), .tuple #[.int .i64 (i : Int), .bool true], .int .i64 (i : Int), .bool true, .bool true, .bool false, .pointer (some ⟨e, 0, none⟩), .pointer (some ⟨e, 0, none⟩), .pointer (some ⟨e, 0, none⟩), .pointer (some ⟨e, 6, none⟩), .slice (some ⟨ir e, 0, none⟩) 1 cap, .int .i64 (i : Int), .int .i64 (i : Int), .int .i64 (i3 : Int), .slice (some ⟨ir e, 0, none⟩) 0 cap, .pointer (some ⟨e, 0, none⟩), .pointer (some ⟨e, 6, none⟩), .pointer (some ⟨tb, 0, none⟩), .pointer (some ⟨tb, 0, none⟩), .pointer (some ⟨tb, 1, none⟩), .int .i64 (n : Int), .int .i64 (n1 : Int), .pointer (some ⟨tb, 0, none⟩), .pointer (some ⟨tb, 1, none⟩), .pointer (some ⟨e, 0, none⟩), .pointer (some ⟨e, 0, none⟩), .pointer (some ⟨e, 6, none⟩), .slice (some ⟨ir e, 0, none⟩) 0 cap, .int .i64 0, .bool true, f 0, f 1, f 2, f 3, f 4, f 5, f 6, f 7, f 8, f 9], defers := [] }) (fun _ => undef) rfl (ZL (Bt.dval tb po d0 d1 d2 d3 d4 d5) 6 7 10 (fun W => Below w7.heap.size w7 W) (fun v W => ∃ t1, v = Bt.ptr (Bt.top t1) ∧ ∃ W0, Below w7.heap.size w7 W0 ∧ Outs key x t W0 t1 W) (fun v W => ∃ t2, v = Bt.ptr (Bt.top t2) ∧ Gone w key x t w7 t2 W) (fun W => ∃ t2 W2, Gone w key x t w7 t2 W2 ∧ W = W2.setCell ⟨tb, 0, none⟩ (Bt.ptr (Bt.top t2)))) ?init ?step ?done
  case init => exact ZL.start ((Below.refl _ _).drew)
  case step =>
    intro j hj L f W hLi hwt hno hI
    have HI : Hid _ := hI
    have hj11 : j < 11 := hj
    clear hj hI
    rcases (show j = 0 ∨ j = 1 ∨ j = 2 ∨ j = 3 ∨ j = 4 ∨ j = 5 ∨ j = 6 ∨ j = 7 ∨ j = 8 ∨ j = 9 ∨ j = 10 by omega) with rfl | rfl | rfl | rfl | rfl | rfl | rfl | rfl | rfl | rfl | rfl
    · -- 0: {t52 := Op.move (tmp 0) :30}
      clear hwt hno hLi
      refine wpOp_of rfl rfl ?_
      intro K' hK'
      have HK' : Hid _ := hK'
      clear hK'
      change Oper.wp _ ⟨_, _, _, _, _, _⟩ _ _ _ _
      dsimp only
      go_simp
      exact HK'.out _ _ ⟨.pointer (some ⟨tb, 0, none⟩), (by simp [upd]), HI.out.pure (by omega) (by omega) (by omega) rfl⟩
    · -- 1: {t53 := Op.move (tmp 0) :30}
      clear hwt hno hLi
      refine wpOp_of rfl rfl ?_
      intro K' hK'
      have HK' : Hid _ := hK'
      clear hK'
      change Oper.wp _ ⟨_, _, _, _, _, _⟩ _ _ _ _
      dsimp only
      go_simp
      exact HK'.out _ _ ⟨.pointer (some ⟨tb, 0, none⟩), (by simp [upd]), HI.out.pure (by omega) (by omega) (by omega) rfl⟩
    · -- 2: {t54 := Op.nilCheck (tmp 53) :0}
      have g1 : f 1 = .pointer (some ⟨tb, 0, none⟩) := HI.out.vals 1 (by omega) (by omega) (by omega) (hwt 1 rfl)
      clear hwt hno hLi
      refine wpOp_of rfl rfl ?_
      intro K' hK'
      have HK' : Hid _ := hK'
      clear hK'
      change Oper.wp _ ⟨_, _, _, _, _, _⟩ _ _ _ _
      dsimp only
      rw [g1]
      go_simp
      exact HK'.out _ _ ⟨.pointer (some ⟨tb, 0, none⟩), (by simp [upd, g1]), HI.out.pure (by omega) (by omega) (by omega) rfl⟩
    · -- 3: {t55 := Op.fieldAddr 69 (tmp 54) 0 :0}
      have g2 : f 2 = .pointer (some ⟨tb, 0, none⟩) := HI.out.vals 2 (by omega) (by omega) (by omega) (hwt 2 rfl)
      clear hwt hno hLi
      refine wpOp_of rfl rfl ?_
      intro K' hK'
      have HK' : Hid _ := hK'
      clear hK'
      change Oper.wp _ ⟨_, _, _, _, _, _⟩ _ _ _ _
      dsimp only
      rw [g2]
      go_simp
      exact HK'.out _ _ ⟨.pointer (some ⟨tb, 0, none⟩), (by simp [upd, g2]), HI.out.pure (by omega) (by omega) (by omega) rfl⟩
    · -- 4: {t56 := Op.load 67 (tmp 55) :67}
      have g3 : f 3 = .pointer (some ⟨tb, 0, none⟩) := HI.out.vals 3 (by omega) (by omega) (by omega) (hwt 3 rfl)
      obtain ⟨ca, b0, b1, b2, b3, b4, b5⟩ := HC.out W (HI.out.a0 (hno 6 (by decide))).2.2
      clear hwt hno hLi
      refine wpOp_of rfl rfl ?_
      intro K' hK'
      have HK' : Hid _ := hK'
      clear hK'
      change Oper.wp _ ⟨_, _, _, _, _, _⟩ _ _ _ _
      dsimp only
      rw [g3]
      go_simp
      exact HK'.out _ _ ⟨.pointer po, (by simp [upd, g3]), HI.out.pure (by omega) (by omega) (by omega) rfl⟩
    · -- 5: {t57 := Op.load 27 (tmp 4) :27}
      obtain ⟨ca, b0, b1, b2, b3, b4, b5⟩ := HC.out W (HI.out.a0 (hno 6 (by decide))).2.2
      clear hwt hno hLi
      refine wpOp_of rfl rfl ?_
      intro K' hK'
      have HK' : Hid _ := hK'
      clear hK'
      change Oper.wp _ ⟨_, _, _, _, _, _⟩ _ _ _ _
      dsimp only
      go_simp
      exact HK'.out _ _ ⟨.agg #[d0, d1, d2, d3, d4, d5], (by simp [upd]), HI.out.pure (by omega) (by omega) (by omega) rfl⟩
    · -- 6: {t58 := Op.call { callee := Callee.value (func 45), args := 
      have g4 : f 4 = .pointer po := HI.out.vals 4 (by omega) (by omega) (by omega) (hwt 4 rfl)
      have g5 : f 5 = .agg #[d0, d1, d2, d3, d4, d5] := HI.out.vals 5 (by omega) (by omega) (by omega) (hwt 5 rfl)
      have hp := (HI.out.a0 hLi).2.2
      have HP : Hid (Below w7.heap.size w7 W ∧ L 6 = false) := ⟨hp, hLi⟩
      clear hp
      clear hwt hno hLi
      refine wpOp_of rfl rfl ?_
      intro K' hK'
      have HK' : Hid _ := hK'
      clear hK'
      change Oper.wp _ ⟨_, _, _, _, _, _⟩ _ _ _ _
      dsimp only
      rw [g4, g5]
      go_simp
      go_at_call 45
      refine (CW.out W HP.out.1).mono ?_
      rintro ex wa ⟨t', rfl, hM⟩
      exact HK'.out _ _ ⟨Bt.ptr (Bt.top t'), (by simp [upd, g4, g5]), HI.out.one (by omega) (by omega) HP.out.2 ⟨t', rfl, hM⟩⟩
    · -- 7: {t59 := Op.call { callee := Callee.value (func 46), args := 
      obtain ⟨t1, g6, W0, h0, hO⟩ := (HI.out.a1 (hwt 6 rfl) hLi).2
      have HP : Hid ((Below w7.heap.size w7 W0 ∧ Outs key x t W0 t1 W) ∧ L 6 = true ∧ L 7 = false) := ⟨⟨h0, hO⟩, hwt 6 rfl, hLi⟩
      clear h0 hO
      clear hwt hno hLi
      refine wpOp_of rfl rfl ?_
      intro K' hK'
      have HK' : Hid _ := hK'
      clear hK'
      change Oper.wp _ ⟨_, _, _, _, _, _⟩ _ _ _ _
      dsimp only
      rw [g6]
      go_simp
      go_at_call 46
      refine (CS.out t1 W0 W HP.out.1.1 HP.out.1.2).mono ?_
      rintro ex wa ⟨t2, rfl, hM⟩
      exact HK'.out _ _ ⟨Bt.ptr (Bt.top t2), (by simp [upd, g6]), HI.out.two (by omega) (by omega) HP.out.2.1 HP.out.2.2 ⟨t2, rfl, hM⟩⟩
    · -- 8: {t60 := Op.nilCheck (tmp 52) :0}
      have g0 : f 0 = .pointer (some ⟨tb, 0, none⟩) := HI.out.vals 0 (by omega) (by omega) (by omega) (hwt 0 rfl)
      clear hwt hno hLi
      refine wpOp_of rfl rfl ?_
      intro K' hK'
      have HK' : Hid _ := hK'
      clear hK'
      change Oper.wp _ ⟨_, _, _, _, _, _⟩ _ _ _ _
      dsimp only
      rw [g0]
      go_simp
      exact HK'.out _ _ ⟨.pointer (some ⟨tb, 0, none⟩), (by simp [upd, g0]), HI.out.pure (by omega) (by omega) (by omega) rfl⟩
    · -- 9: {t61 := Op.fieldAddr 69 (tmp 60) 0 :0}
      have g8 : f 8 = .pointer (some ⟨tb, 0, none⟩) := HI.out.vals 8 (by omega) (by omega) (by omega) (hwt 8 rfl)
      clear hwt hno hLi
      refine wpOp_of rfl rfl ?_
      intro K' hK'
      have HK' : Hid _ := hK'
      clear hK'
      change Oper.wp _ ⟨_, _, _, _, _, _⟩ _ _ _ _
      dsimp only
      rw [g8]
      go_simp
      exact HK'.out _ _ ⟨.pointer (some ⟨tb, 0, none⟩), (by simp [upd, g8]), HI.out.pure (by omega) (by omega) (by omega) rfl⟩
    · -- 10: {Op.store 67 (tmp 61) (tmp 59) :0}
      have g9 : f 9 = .pointer (some ⟨tb, 0, none⟩) := HI.out.vals 9 (by omega) (by omega) (by omega) (hwt 9 rfl)
      obtain ⟨t2, g7, hM⟩ := HI.out.a2 (hwt 7 rfl) hLi
      have HP : Hid (Gone w key x t w7 t2 W ∧ L 6 = true ∧ L 7 = true) := ⟨hM, hwt 6 (by rfl), hwt 7 rfl⟩
      have b2 := (HM.out t2 W hM).1
      have cz := cells_at b2 0 _ rfl
      have fz := row_freeV b2
      obtain ⟨pp, hpp⟩ : ∃ pp, Bt.ptr (Bt.top t2) = .pointer pp := ⟨_, rfl⟩
      rw [hpp] at g7
      have HPP : Hid (Bt.ptr (Bt.top t2) = .pointer pp) := hpp
      clear hM hpp b2
      clear hwt hno hLi
      refine wpOp_of rfl rfl ?_
      intro K' hK'
      have HK' : Hid _ := hK'
      clear hK'
      change Oper.wp _ ⟨_, _, _, _, _, _⟩ _ _ _ _
      dsimp only
      rw [g9, g7]
      go_simp
      exact HK'.out _ _ ⟨undef, (by simp [upd, g9, g7]), HI.out.store (by omega) (by omega) HP.out.2.1 HP.out.2.2 ⟨t2, W, HP.out.1, by rw [HPP.out]⟩⟩
  case done =>
    intro L f W hL hI
    obtain ⟨t2, W2, hM, hWe⟩ := hI.p (hL 10 (by simp))
    have HF : Hid _ := (HM.out t2 W2 hM).2
    rw [← hWe] at HF
    clear hI hL hWe hM CW CS HM HC
    dsimp only
    go_wp2
    go_ret
    exact ⟨rfl, HF.out⟩
end
end Go.Proofs.YtkigenldiinioaaGreatDoor
