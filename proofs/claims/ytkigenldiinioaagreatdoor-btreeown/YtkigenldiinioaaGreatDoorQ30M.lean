/- Several texts, joined: BtSh, BtDa, BtDb, RgZl -/
import Derived.Test.YtkigenldiinioaaGreatDoorBtXpM
import Derived.Test.YtkigenldiinioaaGreatDoorQ18M
/- A tree on the fewest levels: shallow, walked. -/
namespace Go.Proofs.YtkigenldiinioaaGreatDoor
open Go.RowKit
open Vl (V)
attribute [local go_sem ↓] Go.wp_at_zero Go.wp_at_succ
set_option maxHeartbeats 4000000 in
set_option maxRecDepth 100000 in
theorem shallow_c (key : Nat → V) (t : Bt.T) (w : World) (hN : NT w t) (hw : Bt.wf t) (hr : Bt.Rises key (Bt.flat t)) (hk : ∀ f ∈ Bt.flat t, EK w w.heap.size (key f) f) (hl : (Bt.flat t).length ≤ 1024) (hv : Bt.levels t ≤ 100) (hnd : (Bt.blocks t).Nodup) :
    Calls Tryz.prog 46 #[Bt.ptr (Bt.top t)] w fun ex w' => ∃ t', ex = .returned (Bt.ptr (Bt.top t')) ∧ Below w.heap.size w w' ∧ NT w' t' ∧ Bt.wf t' ∧ Bt.flat t' = Bt.flat t ∧ Bt.levels t' = Bt.fewest (Bt.flat t).length ∧ (Bt.blocks t').Nodup ∧ ∀ g ∈ Bt.blocks t', g ∈ Bt.blocks t ∨ w.heap.size ≤ g := by
  have C1 : Hid (Calls Tryz.prog 37 #[Bt.ptr (Bt.top t)] w fun e w' => e = .returned (.int .i64 (Bt.levels t : Int)) ∧ w' = w) := levels_c t w hN (by omega)
  have C2 : Hid (Calls Tryz.prog 42 #[Bt.ptr (Bt.top t)] w fun e w' => e = .returned (.int .i64 ((Bt.flat t).length : Int)) ∧ w' = w) := count_t t w hN
  obtain ⟨tl, htl⟩ : ∃ tl, tl = (Bt.flat t).length := ⟨_, rfl⟩
  obtain ⟨lv, hlv⟩ : ∃ lv, lv = Bt.levels t := ⟨_, rfl⟩
  obtain ⟨fw, hfw⟩ : ∃ fw, fw = Bt.fewest tl := ⟨_, rfl⟩
  have C3 : Hid (Calls Tryz.prog 41 #[.int .i64 (tl : Int)] w fun e w' => e = .returned (.int .i64 (fw : Int)) ∧ w' = w) := by rw [hfw]; exact fewest_c tl (by omega) w
  have CA : Hid (tl ≠ 0 → Calls Tryz.prog 67 #[Bt.ptr (Bt.top t)] w fun ex w' => ∃ r2 cap2, ex = .returned (.slice (some ⟨r2, 0, none⟩) tl cap2) ∧ Hid (Below w.heap.size w w' ∧ w'.ownsRow w.heap.size 71 1 (.slice (some ⟨r2, 0, none⟩) tl cap2) tl (Bt.ptrs (Bt.flat t)))) := fun h0 => by
    refine (all_c key w.heap.size t hw hr (by omega) w (Nat.le_refl _) (rt_of hw hN hk)).mono ?_
    rintro ex w' ⟨v, rfl, hb, ho2⟩
    rw [← htl] at ho2
    rcases ho2.2 with ⟨_, q⟩ | ⟨r2, cap2, cur, rfl, h2, h4, h5⟩
    · exact absurd q h0
    · exact ⟨r2, cap2, rfl, hb, ho2⟩
  have CL : Hid (∀ (W : World) (r3 cap3 : Nat), Below w.heap.size w W → W.ownsRow w.heap.size 71 1 (.slice (some ⟨r3, 0, none⟩) tl cap3) tl (Bt.ptrs (Bt.flat t)) → Calls Tryz.prog 63 #[.slice (some ⟨r3, 0, none⟩) tl cap3] W fun ex w' => ∃ t', ex = .returned (Bt.ptr (Bt.top t')) ∧ Hid (Below w.heap.size w w' ∧ NT w' t' ∧ Bt.wf t' ∧ Bt.flat t' = Bt.flat t ∧ Bt.levels t' = fw ∧ (Bt.blocks t').Nodup ∧ ∀ g ∈ Bt.blocks t', g ∈ Bt.blocks t ∨ w.heap.size ≤ g)) := fun W r3 cap3 hW ho3 => by
    obtain ⟨_, h2, h3, h4, h5⟩ := ptr_cells ho3
    refine (lay_ok tl (by omega) r3 0 cap3 (Bt.flat t) W h4.symm h3 h2 h5).mono ?_
    rintro ex w' ⟨t', rfl, hb, hL⟩
    exact ⟨t', rfl, hW.trans (hb.mono hW.size), hL.nt, hL.wf, hL.flat, by rw [hL.lev, ← h4, hfw], hL.nd, fun k hk => .inr (Nat.le_trans hW.size (hL.new k hk))⟩
  have HT : Hid (NT w t ∧ Bt.wf t ∧ Bt.levels t = lv ∧ (Bt.blocks t).Nodup) := ⟨hN, hw, hlv.symm, hnd⟩
  have H0 : Hid (lv ≠ fw → tl ≠ 0) := fun h q => h (by
    have hn : t = .nil := Bt.nil_of hw (List.eq_nil_of_length_eq_zero (by rw [← htl]; exact q))
    rw [hlv, hfw, q, hn, Bt.fewest_zero]; rfl)
  rw [← htl, ← hfw]
  rw [← hlv] at C1
  rw [← htl] at C2
  obtain ⟨po, hpo⟩ : ∃ po, Bt.ptr (Bt.top t) = .pointer po := ⟨_, rfl⟩
  rw [hpo] at C1 C2 CA ⊢
  have HPO : Hid (Bt.ptr (Bt.top t) = .pointer po) := hpo
  clear hN hw hr hk hl hv hnd htl hlv hfw hpo
  by_cases he : lv = fw
  · subst he
    go_enter Tryz.func46, Tryz.ntmps46
    go_wp2_with (first | (go_at_call 37; refine C1.out.mono ?_; rintro e w2 ⟨rfl, rfl⟩) | (go_at_call 42; refine C2.out.mono ?_; rintro e w2 ⟨rfl, rfl⟩) | (go_at_call 41; refine C3.out.mono ?_; rintro e w2 ⟨rfl, rfl⟩))
    go_ret
    exact ⟨t, by rw [HPO.out]; rfl, Below.refl _ _, HT.out.1, HT.out.2.1, rfl, HT.out.2.2.1, HT.out.2.2.2, fun g hg => .inl hg⟩
  · have q1 : ((lv : Int) == (fw : Int)) = false := by simp; omega
    have q2 : ¬ (lv : Int) = (fw : Int) := by omega
    have h0 := H0.out he
    clear he HT H0
    go_enter Tryz.func46, Tryz.ntmps46
    go_wp2_with (first | (go_at_call 37; refine C1.out.mono ?_; rintro e w2 ⟨rfl, rfl⟩) | (go_at_call 42; refine C2.out.mono ?_; rintro e w2 ⟨rfl, rfl⟩) | (go_at_call 41; refine C3.out.mono ?_; rintro e w2 ⟨rfl, rfl⟩))
    refine (CA.out h0).mono ?_
    rintro ex w3 ⟨r2, cap2, rfl, HV⟩
    go_wp2_with fail
    refine (CL.out _ _ _ HV.out.1 HV.out.2).mono ?_
    rintro ex w4 ⟨t', rfl, HV4⟩
    go_wp2
    go_ret
    exact ⟨t', rfl, HV4.out⟩
end Go.Proofs.YtkigenldiinioaaGreatDoor
/- A tree from which a number is taken: what it comes to. -/
namespace Go.Proofs.YtkigenldiinioaaGreatDoor
open Go.RowKit
open Vl (V)
namespace Bt
theorem less_sub {α : Type} (l : List α) (i : Nat) : (less l i).Sublist l := by
  rw [less]
  conv => rhs; rw [← List.take_append_drop i l]
  exact List.Sublist.append (List.Sublist.refl _) (by
    have h : l.drop (i + 1) = (l.drop i).drop 1 := by rw [List.drop_drop]
    rw [h]
    exact List.drop_sublist _ _)
theorem less_sum {α : Type} (f : α → Nat) {l : List α} {i : Nat} {e : α} (h : l[i]? = some e) : ((less l i).map f).sum + f e = (l.map f).sum := by
  have hlt := (List.getElem?_eq_some_iff.1 h).1
  have hy := (List.getElem?_eq_some_iff.1 h).2
  rw [less]
  conv => rhs; rw [← List.take_append_drop i l, List.drop_eq_getElem_cons hlt, hy]
  simp only [List.map_append, List.map_cons, List.sum_append, List.sum_cons]
  omega
theorem less_out {α : Type} {l : List α} {i : Nat} {e : α} (hn : l.Nodup) (h : l[i]? = some e) : e ∉ less l i := by
  have hlt := (List.getElem?_eq_some_iff.1 h).1
  have hy := (List.getElem?_eq_some_iff.1 h).2
  rw [← List.take_append_drop i l, List.drop_eq_getElem_cons hlt, hy, List.nodup_append] at hn
  obtain ⟨n1, n2, n3⟩ := hn
  obtain ⟨n4, _⟩ := List.nodup_cons.1 n2
  rw [less, List.mem_append]
  rintro (q | q)
  · exact n3 e q e (by simp) rfl
  · exact n4 q
theorem spot_at {key : Nat → V} {x : V} {l : List Nat} {e : Nat} (hr : Rises key l) (h : at? key x l = some e) : l[spot key x l]? = some e := by
  rw [at_spot hr] at h
  rcases hd : l[spot key x l]? with _ | y
  · rw [hd] at h; cases h
  · rw [hd] at h
    by_cases q : Vl.cmp (key y) x = 0
    · simp [q] at h; rw [h]
    · simp [q] at h
theorem nspot_at {id : Nat} {l : List Nat} (h : nhas id l = true) : l[nspot id l]? = some id := by
  rw [nhas] at h
  simpa using h
end Bt
section
variable {w : World} {F : Nat → Prop} {tb : Nat} {t : Bt.T} {key : Nat → V} {ids : Nat → List Nat} {ir : Nat → Nat} {n : Nat}
/-- one number less of a key that has others -/
theorem TA.fewer (h : TA w F tb t key ids ir n) {e : Nat} (he : e ∈ Bt.flat t) {l' : List Nat} (hl' : l'.length + 1 = (ids e).length) (h1' : 1 ≤ l'.length) (hasc : l'.Pairwise (· < ·)) {w5 : World} {cap' : Nat} (hk : Kept (fun g => g = ir e) w w5) (hr : IdsAt w5 (.slice (some ⟨ir e, 0, none⟩) l'.length cap') l') {w7 : World} (hw7 : w7 = (w5.setCell ⟨e, 6, none⟩ (.slice (some ⟨ir e, 0, none⟩) l'.length cap')).setCell ⟨tb, 1, none⟩ (.int .i64 ((n - 1 : Nat) : Int))) :
    Kept (OB tb t ir) w w7 ∧ TA w7 F tb t key (Bt.set ids e l') ir (n - 1) := by
  obtain ⟨fe, fi, c0, c1, c2, c3, c4, c5, cap, h1, h2, h3⟩ := h.ent e he
  have ne1 := h.tb_ne he
  have ne2 := h.e_ne he he
  have b5 := (hk.block e (h.lt e fe) ne2).trans h1
  have t5 := (hk.block tb (h.lt tb h.fbox) ne1.2).trans h.box
  have e6 := heap_setCell_same w5 e 6 _ 73 (.slice (some ⟨ir e, 0, none⟩) l'.length cap') b5
  have t6 : (w5.setCell ⟨e, 6, none⟩ (.slice (some ⟨ir e, 0, none⟩) l'.length cap')).heap[tb]? = some (.cells #[Bt.ptr (Bt.top t), .int .i64 (n : Int)] 69 (0, 0)) := by rw [heap_setCell_other _ _ _ _ ne1.1]; exact t5
  have t7 := heap_setCell_same _ tb 1 _ 69 (.int .i64 ((n - 1 : Nat) : Int)) t6
  rw [← hw7] at t7
  have hs : w7.heap.size = w5.heap.size := by rw [hw7]; simp
  have hoth : ∀ k, k ≠ e → k ≠ tb → w7.heap[k]? = w5.heap[k]? := fun k q1 q2 => by
    rw [hw7, heap_setCell_other _ _ _ _ q2, heap_setCell_other _ _ _ _ q1]
  have e7 : w7.heap[e]? = some (.cells #[c0, c1, c2, c3, c4, c5, .slice (some ⟨ir e, 0, none⟩) l'.length cap'] 73 (0, 0)) := by rw [hw7, heap_setCell_other _ _ _ _ (fun q => ne1.1 q.symm)]; exact e6
  have hsz : w.heap.size ≤ w7.heap.size := by rw [hs]; exact hk.size
  have hkey : ∀ g, g < w.heap.size → ¬ F g → w7.heap[g]? = w.heap[g]? := fun g hg hf =>
    (hoth g (fun q => hf (q ▸ fe)) (fun q => hf (q ▸ h.fbox))).trans (hk.block g hg fun q => hf (q ▸ fi))
  have hkp : Kept (OB tb t ir) w w7 := ⟨by rw [hw7]; exact hk.os, by rw [hw7]; exact hk.tape, by rw [hw7]; exact hk.output, hsz, fun g hg hf => (hoth g (fun q => hf (.inr (.inr ⟨e, he, .inl q⟩))) (fun q => hf (.inl q))).trans (hk.block g hg fun q => hf (.inr (.inr ⟨e, he, .inr q⟩)))⟩
  have hkey2 : ∀ g, g < w.heap.size → ¬ F g → w7.heap[g]? = w.heap[g]? ∧ g < w7.heap.size ∧ ¬ F g := fun g hg hf => ⟨hkey g hg hf, by omega, hf⟩
  refine ⟨hkp, ?_⟩
  exact {
    box := t7
    lt := fun g hg => Nat.lt_of_lt_of_le (h.lt g hg) hsz
    fbox := h.fbox
    nt := nt_stays h.nt fun g hg => by
      obtain ⟨q1, q2⟩ := h.blk_ne hg
      exact (hoth g (q2 e he).1 q1).trans (hk.block g (h.lt g (h.fnt g hg)) (q2 e he).2)
    fnt := h.fnt
    nd := h.nd
    ent := fun f hf => by
      by_cases q : f = e
      · subst q
        rw [Bt.set_same]
        have k2 : RepA w7 (fun g => g < w7.heap.size ∧ ¬ F g) (key f) (.agg #[c0, c1, c2, c3, c4, c5]) := repA_stays (fun g hg => hkey g hg.1 hg.2) (fun g hg => ⟨Nat.lt_of_lt_of_le hg.1 hsz, hg.2⟩) _ _ h2
        have k3 : IdsAt w7 (.slice (some ⟨ir f, 0, none⟩) l'.length cap') l' := by
          refine owns_stays hr fun g hg => ?_
          obtain rfl : g = ir f := by injection hg with hg; exact hg.symm
          exact hoth _ (fun q => ne2 q.symm) (fun q => ne1.2 q.symm)
        exact ⟨fe, fi, c0, c1, c2, c3, c4, c5, cap', e7, k2, k3⟩
      · rw [Bt.set_other q]
        obtain ⟨ff, fif, hE⟩ := h.ent f hf
        refine ⟨ff, fif, hE.stays ?_ ?_ hkey2⟩
        · exact (hoth f q (fun q => (h.tb_ne hf).1 q.symm)).trans (hk.block f (h.lt f ff) (h.e_ne hf he))
        · exact (hoth (ir f) (fun q => h.e_ne he hf q.symm) (fun q => (h.tb_ne hf).2 q.symm)).trans (hk.block _ (h.lt _ fif) fun q2 => q (h.inj f hf e he q2))
    inj := h.inj
    wf := h.wf
    rises := h.rises
    lev := h.lev
    small := h.small
    asc := fun f hf => by
      by_cases q : f = e
      · subst q
        rw [Bt.set_same]
        exact ⟨hasc, h1'⟩
      · rw [Bt.set_other q]; exact h.asc f hf
    sum := by
      have e1 : ((Bt.flat t).map fun x => (Bt.set ids e l' x).length) = (Bt.flat t).map (Bt.set (fun x => (ids x).length) e l'.length) := List.map_congr_left fun x _ => by
        by_cases q : x = e
        · subst q; rw [Bt.set_same, Bt.set_same]
        · rw [Bt.set_other q, Bt.set_other q]
      have e2 := Bt.set_sum (Bt.set (fun x => (ids x).length) e l'.length) e (Bt.flat t) (Bt.rises_nodup h.rises) he
      rw [Bt.set_same] at e2
      have e3 : (Bt.flat t).map (Bt.set (Bt.set (fun x => (ids x).length) e l'.length) e (l'.length + 1)) = (Bt.flat t).map fun x => (ids x).length := List.map_congr_left fun x _ => by
        by_cases q : x = e
        · subst q; rw [Bt.set_same]; exact hl'
        · rw [Bt.set_other q, Bt.set_other q]
      rw [e3, ← h.sum] at e2
      rw [e1]
      omega
    le := by have := h.le; omega }
/-- a key that is gone -/
theorem TA.gone (h : TA w F tb t key ids ir n) {x : V} {e : Nat} (he : Bt.at? key x (Bt.flat t) = some e) (hid : (ids e).length = 1) {w6 w8 : World} (k6 : Kept (fun g => g = e ∨ g = ir e ∨ g = tb) w w6) (k8 : Kept (fun g => g ∈ Bt.blocks t ∨ g = tb) w6 w8) {t' : Bt.T} (box : w8.heap[tb]? = some (.cells #[Bt.ptr (Bt.top t'), .int .i64 ((n - 1 : Nat) : Int)] 69 (0, 0))) (nt' : NT w8 t') (sub : ∀ g ∈ Bt.blocks t', g ∈ Bt.blocks t ∨ w.heap.size ≤ g) (nd' : (Bt.blocks t').Nodup) (wf' : Bt.wf t') (fl' : Bt.flat t' = Bt.kdel key x (Bt.flat t)) (lev' : Bt.levels t' = Bt.fewest (Bt.flat t').length) :
    Kept (OB tb t ir) w w8 ∧ TA w8 (fun g => F g ∨ (w.heap.size ≤ g ∧ g < w8.heap.size)) tb t' key ids ir (n - 1) ∧ ∀ g, OB tb t' ir g → OB tb t ir g ∨ w.heap.size ≤ g := by
  have hsp := Bt.spot_at h.rises he
  have hem : e ∈ Bt.flat t := Bt.at_mem he
  have hsub : (Bt.flat t').Sublist (Bt.flat t) := by rw [fl']; exact Bt.less_sub _ _
  have hout : e ∉ Bt.flat t' := by rw [fl']; exact Bt.less_out (Bt.rises_nodup h.rises) hsp
  have s6 := k6.size
  have s8 := k8.size
  have hkey : ∀ g, g < w.heap.size → g ∉ Bt.blocks t → g ≠ tb → g ≠ e → g ≠ ir e → w8.heap[g]? = w.heap[g]? := fun g hg q1 q2 q3 q4 =>
    (k8.block g (by omega) (fun q => q.elim q1 q2)).trans (k6.block g hg (fun q => q.elim q3 (fun q => q.elim q4 q2)))
  have hF : ∀ g, g < w.heap.size → ¬ F g → w8.heap[g]? = w.heap[g]? := fun g hg hf => hkey g hg (fun q => hf (h.fnt g q)) (fun q => hf (q ▸ h.fbox)) (fun q => hf (q ▸ (h.ent e hem).1)) (fun q => hf (q ▸ (h.ent e hem).2.1))
  have hsum := Bt.less_sum (fun f => (ids f).length) hsp
  refine ⟨⟨k8.os.trans k6.os, k8.tape.trans k6.tape, k8.output.trans k6.output, by omega, fun g hg hf => hkey g hg (fun q => hf (.inr (.inl q))) (fun q => hf (.inl q)) (fun q => hf (.inr (.inr ⟨e, hem, .inl q⟩))) (fun q => hf (.inr (.inr ⟨e, hem, .inr q⟩)))⟩, ?_, fun g hg => ?_⟩
  rotate_left
  · rcases hg with q | q | ⟨f, hf, q⟩
    · exact .inl (.inl q)
    · exact (sub g q).imp (fun q => .inr (.inl q)) (fun q => q)
    · exact .inl (.inr (.inr ⟨f, hsub.subset hf, q⟩))
  exact {
    box := box
    lt := fun g hg => by
      rcases hg with q | q
      · have := h.lt g q; omega
      · exact q.2
    fbox := .inl h.fbox
    nt := nt'
    fnt := fun g hg => by
      rcases sub g hg with q | q
      · exact .inl (h.fnt g q)
      · exact .inr ⟨q, nt_lt nt' g hg⟩
    nd := nd'
    ent := fun f hf => by
      have hfm := hsub.subset hf
      have hfe : f ≠ e := fun q => hout (q ▸ hf)
      obtain ⟨ff, fi, hE⟩ := h.ent f hfm
      have l1 := h.lt f ff
      have l2 := h.lt _ fi
      refine ⟨.inl ff, .inl fi, hE.stays ?_ ?_ fun g hg hF' => ⟨hF g hg hF', by omega, fun q => ?_⟩⟩
      · exact hkey f l1 (fun q => ((h.blk_ne q).2 f hfm).1 rfl) (fun q => (h.tb_ne hfm).1 q.symm) hfe (fun q => h.e_ne hfm hem q)
      · exact hkey _ l2 (fun q => ((h.blk_ne q).2 f hfm).2 rfl) (fun q => (h.tb_ne hfm).2 q.symm) (fun q => h.e_ne hem hfm q.symm) (fun q => hfe (h.inj f hfm e hem q))
      · rcases q with q | q
        · exact hF' q
        · omega
    inj := fun f hf g hg q => h.inj f (hsub.subset hf) g (hsub.subset hg) q
    wf := wf'
    rises := List.Pairwise.sublist hsub h.rises
    lev := lev'
    small := fun f hf => h.small f (hsub.subset hf)
    asc := fun f hf => h.asc f (hsub.subset hf)
    sum := by
      rw [fl', Bt.kdel]
      have := h.sum
      omega
    le := by have := h.le; omega }
end
end Go.Proofs.YtkigenldiinioaaGreatDoor
/- Drop of a number of a key that has others: walked. -/
namespace Go.Proofs.YtkigenldiinioaaGreatDoor
open Go.RowKit
open Vl (V)
attribute [local go_sem ↓] Go.wp_at_zero Go.wp_at_succ
theorem IdsAt.slice {w : World} {g n cap : Nat} {l : List Nat} (h : IdsAt w (.slice (some ⟨g, 0, none⟩) n cap) l) {w' : World} (hb : w'.heap[g]? = w.heap[g]?) : IdsAt w' (.slice (some ⟨g, 0, none⟩) n cap) l := owns_stays h fun k hk => by
  obtain rfl : k = g := by injection hk with hk; exact hk.symm
  exact hb
section
variable {w : World} {F : Nat → Prop} {tb : Nat} {t : Bt.T} {key : Nat → V} {ids : Nat → List Nat} {ir : Nat → Nat} {n : Nat}
set_option maxHeartbeats 4000000 in
set_option maxRecDepth 100000 in
theorem drop_less (h : TA w F tb t key ids ir n) (hU : Bn.HasU w) {x : V} {v : Value} (hv : Rep w w.heap.size x v) (hx : Bt.kerr x = 0) {e id : Nat} (he : Bt.at? key x (Bt.flat t) = some e) (hh : Bt.nhas id (ids e) = true) (h2l : 2 ≤ (ids e).length) :
    Calls Tryz.prog 25 #[.pointer (some ⟨tb, 0, none⟩), v, .int .u64 (id : Int)] w fun ex w' => ex = .returned (.int .i64 0) ∧ Kept (OB tb t ir) w w' ∧ TA w' F tb t key (Bt.set ids e (Bt.less (ids e) (Bt.nspot id (ids e)))) ir (n - 1) := by
  have hm := Bt.at_mem he
  obtain ⟨i, hi⟩ : ∃ i, i = Bt.nspot id (ids e) := ⟨_, rfl⟩
  have CA : Hid (∀ W, Below w.heap.size w W → Calls Tryz.prog 34 #[.pointer (some ⟨tb, 0, none⟩), v] W fun ex w' => ex = .returned (.tuple #[.pointer (some ⟨e, 0, none⟩), .int .i64 0]) ∧ Below W.heap.size W w') := fun W hW => by
    have := h.at_has hU hv hx W hW
    rw [he] at this
    exact this
  have CP : Hid (∀ W, Below w.heap.size w W → Calls Tryz.prog 39 #[.pointer (some ⟨e, 0, none⟩), .int .u64 (id : Int)] W fun ex w' => ex = .returned (.tuple #[.int .i64 (i : Int), .bool true]) ∧ Below W.heap.size W w') := fun W hW => by
    have := h.place hm id W hW
    rw [hh, ← hi] at this
    exact this
  obtain ⟨fe, fi, c0, c1, c2, c3, c4, c5, cap, h1, h2, h3⟩ := h.ent e hm
  obtain ⟨l, hl⟩ : ∃ l, l = ids e := ⟨_, rfl⟩
  rw [← hl] at h1 h3 h2l hi
  obtain ⟨ln, hln⟩ : ∃ ln, ln = l.length := ⟨_, rfl⟩
  rw [← hln] at h1 h3
  have hfew : ln ≤ 1024 := by rw [hln, hl]; have := h.few hm; have := h.le; omega
  have hin : i < ln := by
    rw [hl] at hi
    have := Bt.nspot_at hh
    rw [← hi, ← hl] at this
    rw [hln]
    exact (List.getElem?_eq_some_iff.1 this).1
  obtain ⟨i3, hi3⟩ : ∃ i3, i3 = i + 1 := ⟨_, rfl⟩
  obtain ⟨l1, hl1⟩ : ∃ l1, l1 = ln - 1 := ⟨_, rfl⟩
  obtain ⟨n1, hn1⟩ : ∃ n1, n1 = n - 1 := ⟨_, rfl⟩
  have hn0 : 1 ≤ n ∧ n ≤ 1024 := ⟨by have := h.few hm; rw [← hl] at this; omega, h.le⟩
  have hlless : (Bt.less l i).length = l1 := by rw [Bt.less_length (by omega)]; omega
  have HT : Hid (∀ W, Below w.heap.size w W → W.cell? ⟨tb, 1, none⟩ = some (.int .i64 (n : Int)) ∧ W.cell? ⟨e, 6, none⟩ = some (.slice (some ⟨ir e, 0, none⟩) ln cap)) := fun W hW => ⟨cells_at ((hW.block _ (lt_of_row h.box)).trans h.box) 1 _ rfl, cells_at ((hW.block _ (lt_of_row h1)).trans h1) 6 _ rfl⟩
  have CJ : Hid (∀ W, Below w.heap.size w W → Calls Tryz.prog 44 #[.slice (some ⟨ir e, 0, none⟩) ln cap, .int .i64 (i : Int), .int .i64 (i3 : Int)] W fun ex w' => ex = .returned (.slice (some ⟨ir e, 0, none⟩) l1 cap) ∧ Hid (Kept (fun g => g = ir e) w w' ∧ IdsAt w' (.slice (some ⟨ir e, 0, none⟩) l1 cap) (Bt.less l i))) := fun W hW => by
    rw [hi3, hl1]
    refine (delU_c (ir e) ln cap i l W (h3.slice (hW.block _ (h.lt _ fi))) hin (by omega)).mono ?_
    rintro ex w' ⟨rfl, k1, k2⟩
    exact ⟨rfl, (Kept.of_below hW).trans k2 (fun g _ q => q), k1⟩
  have HE : Hid (∀ W, Kept (fun g => g = ir e) w W ∧ IdsAt W (.slice (some ⟨ir e, 0, none⟩) l1 cap) (Bt.less l i) → W.heap[e]? = some (.cells #[c0, c1, c2, c3, c4, c5, .slice (some ⟨ir e, 0, none⟩) ln cap] 73 (0, 0)) ∧ (W.setCell ⟨e, 6, none⟩ (.slice (some ⟨ir e, 0, none⟩) l1 cap)).heap[tb]? = some (.cells #[Bt.ptr (Bt.top t), .int .i64 (n : Int)] 69 (0, 0)) ∧ ((W.setCell ⟨e, 6, none⟩ (.slice (some ⟨ir e, 0, none⟩) l1 cap)).setCell ⟨tb, 1, none⟩ (.int .i64 (n1 : Int))).cell? ⟨e, 6, none⟩ = some (.slice (some ⟨ir e, 0, none⟩) l1 cap) ∧ Kept (OB tb t ir) w ((W.setCell ⟨e, 6, none⟩ (.slice (some ⟨ir e, 0, none⟩) l1 cap)).setCell ⟨tb, 1, none⟩ (.int .i64 (n1 : Int))) ∧ TA ((W.setCell ⟨e, 6, none⟩ (.slice (some ⟨ir e, 0, none⟩) l1 cap)).setCell ⟨tb, 1, none⟩ (.int .i64 (n1 : Int))) F tb t key (Bt.set ids e (Bt.less l i)) ir (n - 1)) := fun W ⟨k1, k2⟩ => by
    have b5 := (k1.block e (h.lt e fe) (h.e_ne hm hm)).trans h1
    refine ⟨b5, ?_, ?_, ?_⟩
    · rw [heap_setCell_other _ _ _ _ (h.tb_ne hm).1]
      exact (k1.block tb (h.lt tb h.fbox) (h.tb_ne hm).2).trans h.box
    · refine cells_at (by rw [heap_setCell_other _ _ _ _ (fun q => (h.tb_ne hm).1 q.symm)]; exact heap_setCell_same W e 6 _ 73 _ b5) 6 _ rfl
    · rw [← hlless] at k2
      have hasc : (Bt.less l i).Pairwise (· < ·) := by rw [hl]; exact List.Pairwise.sublist (Bt.less_sub _ _) (h.asc e hm).1
      rw [hn1, ← hlless]
      exact h.fewer hm (by rw [← hl]; omega) (by omega) hasc k1 k2 rfl
  obtain ⟨d0, d1, d2, d3, d4, d5, rfl⟩ := repV_box hv
  obtain ⟨v1, v2⟩ : IntKind.i64.wrap ((i : Int) + 1) = (i3 : Int) ∧ wrap64 ((i : Int) + 1) = (i3 : Int) := succs hi3 (by omega)
  obtain ⟨v3, v4⟩ : IntKind.i64.wrap ((n : Int) - 1) = (n1 : Int) ∧ wrap64 ((n : Int) - 1) = (n1 : Int) := Bt.wr (by omega) (by omega)
  have q1 : ((l1 : Int) == 0) = false := by simp; omega
  have q2 : ¬ (l1 : Int) = 0 := by omega
  rw [← hl, ← hi]
  clear h hU hv hx he hh hi hm hl hln hfew fe fi h1 h2 h3 hn1 hi3 hl1 hin hn0 hlless h2l
  go_enter Tryz.func25, Tryz.ntmps25
  go_upto_region 7 with (first | (go_at_call 34; refine (CA.out _ (below_new _ _)).mono ?_; rintro ex w2 ⟨rfl, hb⟩; have HB2 : Hid (Below w.heap.size w w2) := (below_new _ _).trans (hb.mono (by simp)); clear hb) | (go_at_call 39; refine (CP.out _ HB2.out).mono ?_; rintro ex w3 ⟨rfl, hb⟩; have HB3 : Hid (Below w.heap.size w w3) := HB2.out.trans (hb.mono HB2.out.size); clear hb))
  obtain ⟨t1, t2⟩ := HT.out w3 HB3.out
  clear CA CP HT
  go_upto_region 8 with (go_at_call 44; refine (CJ.out _ HB3.out).mono ?_; rintro ex w5 ⟨rfl, HV⟩; clear t1 t2; have u6 := cells_at (HE.out w5 HV.out).1 6 _ rfl; have fz := row_freeV (HE.out w5 HV.out).1)
  obtain ⟨w6, hw6⟩ : ∃ w6, w6 = w5.setCell ⟨e, 6, none⟩ (.slice (some ⟨ir e, 0, none⟩) l1 cap) := ⟨_, rfl⟩
  have HF := HE.out w5 HV.out
  rw [← hw6] at HF ⊢
  have y1 := cells_at HF.2.1 1 _ rfl
  have fy := row_freeV HF.2.1
  have HF2 : Hid _ := HF.2.2
  clear HF HE CJ HV hw6 u6 fz
  go_upto_region 9 with fail
  obtain ⟨w7, hw7⟩ : ∃ w7, w7 = w6.setCell ⟨tb, 1, none⟩ (.int .i64 (n1 : Int)) := ⟨_, rfl⟩
  rw [← hw7] at HF2 ⊢
  have y6 := HF2.out.1
  have HF3 : Hid _ := HF2.out.2
  clear HF2 hw7 y1 fy v1 v2 v3 v4
  go_wp2
  go_ret
  exact ⟨rfl, HF3.out⟩
end
end Go.Proofs.YtkigenldiinioaaGreatDoor
/- A region that draws its order, with two calls, one of what the other gave, and a store in it. -/
namespace Go.Proofs.YtkigenldiinioaaGreatDoor
open Go.RowKit
/-- the state: by what is done -/
structure ZL (Z : Nat → Value) (c d s : Nat) (P0 : World → Prop) (M1 M2 : Value → World → Prop) (Post : World → Prop) (L : Nat → Bool) (f : Nat → Value) (W : World) : Prop where
  vals : ∀ j, j ≠ c → j ≠ d → j ≠ s → L j = true → f j = Z j
  a0 : L c = false → L d = false ∧ L s = false ∧ P0 W
  a1 : L c = true → L d = false → L s = false ∧ M1 (f c) W
  a2 : L d = true → L s = false → M2 (f d) W
  p : L s = true → Post W
section
variable {Z : Nat → Value} {c d s : Nat} {P0 : World → Prop} {M1 M2 : Value → World → Prop} {Post : World → Prop} {L : Nat → Bool} {f : Nat → Value} {W : World}
theorem ZL.start (h : P0 W) : ZL Z c d s P0 M1 M2 Post (fun _ => false) f W :=
  ⟨fun _ _ _ _ h => (by cases h), fun _ => ⟨rfl, rfl, h⟩, fun h => (by cases h), fun h => (by cases h), fun h => (by cases h)⟩
theorem ZL.pure (h : ZL Z c d s P0 M1 M2 Post L f W) {i : Nat} {v : Value} (hc : i ≠ c) (hd : i ≠ d) (hs : i ≠ s) (hv : v = Z i) : ZL Z c d s P0 M1 M2 Post (updB L i) (upd f i v) W where
  vals := fun j q1 q2 q3 hL => by
    by_cases e : j = i
    · subst e; rw [upd_same]; exact hv
    · rw [updB_other e] at hL; rw [upd_other e]; exact h.vals j q1 q2 q3 hL
  a0 := fun q => by
    rw [updB_other (fun e => hc e.symm)] at q
    rw [updB_other (fun e => hd e.symm), updB_other (fun e => hs e.symm)]
    exact h.a0 q
  a1 := fun q1 q2 => by
    rw [updB_other (fun e => hc e.symm)] at q1
    rw [updB_other (fun e => hd e.symm)] at q2
    rw [updB_other (fun e => hs e.symm), upd_other (fun e => hc e.symm)]
    exact h.a1 q1 q2
  a2 := fun q1 q2 => by
    rw [updB_other (fun e => hd e.symm)] at q1
    rw [updB_other (fun e => hs e.symm)] at q2
    rw [upd_other (fun e => hd e.symm)]
    exact h.a2 q1 q2
  p := fun q => by
    rw [updB_other (fun e => hs e.symm)] at q
    exact h.p q
theorem ZL.one (h : ZL Z c d s P0 M1 M2 Post L f W) {v : Value} {W' : World} (hcd : c ≠ d) (hcs : c ≠ s) (hL : L c = false) (h1 : M1 v W') : ZL Z c d s P0 M1 M2 Post (updB L c) (upd f c v) W' where
  vals := fun j q1 q2 q3 hL => by
    rw [updB_other q1] at hL; rw [upd_other q1]; exact h.vals j q1 q2 q3 hL
  a0 := fun q => by rw [updB_same] at q; cases q
  a1 := fun _ _ => ⟨by rw [updB_other (fun e => hcs e.symm)]; exact (h.a0 hL).2.1, by rw [upd_same]; exact h1⟩
  a2 := fun q _ => by rw [updB_other (fun e => hcd e.symm), (h.a0 hL).1] at q; cases q
  p := fun q => by rw [updB_other (fun e => hcs e.symm), (h.a0 hL).2.1] at q; cases q
theorem ZL.two (h : ZL Z c d s P0 M1 M2 Post L f W) {v : Value} {W' : World} (hcd : c ≠ d) (hds : d ≠ s) (hLc : L c = true) (hLd : L d = false) (hM : M2 v W') : ZL Z c d s P0 M1 M2 Post (updB L d) (upd f d v) W' where
  vals := fun j q1 q2 q3 hL => by
    rw [updB_other q2] at hL; rw [upd_other q2]; exact h.vals j q1 q2 q3 hL
  a0 := fun q => by rw [updB_other hcd, hLc] at q; cases q
  a1 := fun _ q => by rw [updB_same] at q; cases q
  a2 := fun _ _ => by rw [upd_same]; exact hM
  p := fun q => by rw [updB_other (fun e => hds e.symm), (h.a1 hLc hLd).1] at q; cases q
theorem ZL.store (h : ZL Z c d s P0 M1 M2 Post L f W) {v : Value} {W' : World} (hcs : c ≠ s) (hds : d ≠ s) (hLc : L c = true) (hLd : L d = true) (hP : Post W') : ZL Z c d s P0 M1 M2 Post (updB L s) (upd f s v) W' where
  vals := fun j q1 q2 q3 hL => by
    rw [updB_other q3] at hL; rw [upd_other q3]; exact h.vals j q1 q2 q3 hL
  a0 := fun q => by rw [updB_other hcs, hLc] at q; cases q
  a1 := fun _ q => by rw [updB_other hds, hLd] at q; cases q
  a2 := fun _ q => by rw [updB_same] at q; cases q
  p := fun _ => hP
end
end Go.Proofs.YtkigenldiinioaaGreatDoor
