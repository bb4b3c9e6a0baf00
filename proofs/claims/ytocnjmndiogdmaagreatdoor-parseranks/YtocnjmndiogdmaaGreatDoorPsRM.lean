/- A field of a record, walked: its name beside those ahead of it, what stands behind the colon. -/
import Derived.Test.YtocnjmndiogdmaaGreatDoorPsQM
namespace Go.Proofs.YtocnjmndiogdmaaGreatDoor
open Go.RowKit
namespace Ps
attribute [local go_sem] field_tok
theorem kp_set (w : World) (g i : Nat) (v : Value) : Kp (fun k => k = g) w (w.setCell ⟨g, i, none⟩ v) := ⟨rfl, rfl, rfl, by simp, fun _ _ hk => heap_setCell_other _ _ _ _ hk⟩
/-- names in a variable, the parser's variable: beside the parser, above a border -/
structure PF (pb nb bx X k : Nat) (l : List Bs) (W : World) : Prop where
  len : l.length = k
  txt : ∀ x ∈ l, x.length ≤ 20000
  cl : ∃ sv, W.heap[nb]? = some (.cells #[sv] 40 (0, 0)) ∧ OwnT W X sv l
  bo : W.heap[bx]? = some (.cells #[.pointer (some ⟨pb, 0, none⟩)] 74 (0, 0))
  le : X ≤ nb ∧ X ≤ bx
section
variable {W0 : World} {pb nb bx X k : Nat} {W W' w1 w4 w5 : World} {s s' : S} {sb : Option Nat} {l : List Bs}
theorem PF.pg (h : PF pb nb bx X k l W) (hp : PS W0 W pb s sb) (hg : PG W0 pb W sb s' W') : PF pb nb bx X k l W' := by
  obtain ⟨sv, h1, h2⟩ := h.cl
  obtain ⟨n1, n2⟩ := hp.other h1 (by decide) (by decide)
  obtain ⟨n3, n4⟩ := hp.other h.bo (by decide) (by decide)
  exact ⟨h.len, h.txt, ⟨sv, (hg.block (row_lt h1) n1 n2).trans h1, h2.pg hp hg⟩, (hg.block (row_lt h.bo) n3 n4).trans h.bo, h.le⟩
theorem PF.kept : ∀ (k : Nat) (e : List Bs) (W W' : World) (s s' : S) (sb : Option Nat), PS W0 W pb s sb → PG W0 pb W sb s' W' → PF pb nb bx X k e W → PF pb nb bx X k e W' := fun _ _ _ _ _ _ _ hp hg h => h.pg hp hg
/-- one name more -/
theorem PF.next (h : PF pb nb bx X k l W) (hX : X ≤ W.heap.size) (hp : PS W0 W pb s sb) (hg : PG W0 pb W sb s' w1) {sv : Value} (hs : W.heap[nb]? = some (.cells #[sv] 40 (0, 0))) (ho : OwnT W X sv l) (hb : Below w1.heap.size w1 w4) (hgr : w4.grownBy w5 sv.ownBlock) {x : Bs} (hx : x.length ≤ 20000) {gg cap : Nat}
    (hn : w5.ownsRow X 9 1 (.slice (some ⟨gg, 0, none⟩) (k + 1) cap) (k + 1) ((l.map fun x => Value.string (Lx.bs x)) ++ [.string (Lx.bs x)])) (hW0 : W0.heap.size ≤ X) :
    (w5.heap[nb]? = some (.cells #[sv] 40 (0, 0)) ∧ w5.heap[bx]? = some (.cells #[.pointer (some ⟨pb, 0, none⟩)] 74 (0, 0))) ∧ PGX W0 pb X W sb s' (w5.setCell ⟨nb, 0, none⟩ (.slice (some ⟨gg, 0, none⟩) (k + 1) cap)) ∧ PF pb nb bx X (k + 1) (l ++ [x]) (w5.setCell ⟨nb, 0, none⟩ (.slice (some ⟨gg, 0, none⟩) (k + 1) cap)) := by
  obtain ⟨n1, n2⟩ := hp.other hs (by decide) (by decide)
  obtain ⟨n3, n4⟩ := hp.other h.bo (by decide) (by decide)
  have b1 : w1.heap[nb]? = some (.cells #[sv] 40 (0, 0)) := (hg.block (row_lt hs) n1 n2).trans hs
  have c1 : w1.heap[bx]? = some (.cells #[.pointer (some ⟨pb, 0, none⟩)] 74 (0, 0)) := (hg.block (row_lt h.bo) n3 n4).trans h.bo
  have o1 := ho.pg hp hg
  obtain ⟨sb1, k1, k2⟩ := hg
  have b4 := (hb.block nb (row_lt b1)).trans b1
  have c4 := (hb.block bx (row_lt c1)).trans c1
  have o4 := o1.call hb
  have p4 := k1.call hb
  have q4 := k2.trans (PCh.of_below hb)
  have ne1 : ∀ {g : Nat} {v : Value} {t : TypeId}, w4.heap[g]? = some (.cells #[v] t (0, 0)) → t ≠ 9 → sv.ownBlock ≠ some g := fun {g v t} hg' ht e => by
    obtain ⟨_, C, hC⟩ := o4.ty e
    rw [hg'] at hC
    cases hC
    exact ht rfl
  have b5 : w5.heap[nb]? = some (.cells #[sv] 40 (0, 0)) := (hgr.block nb (row_lt b4) fun e => ne1 b4 (by decide) e.symm).trans b4
  have c5 : w5.heap[bx]? = some (.cells #[.pointer (some ⟨pb, 0, none⟩)] 74 (0, 0)) := (hgr.block bx (row_lt c4) fun e => ne1 c4 (by decide) e.symm).trans c4
  have kk : Kp (fun g => sv.ownBlock = some g ∨ g = nb) w4 (w5.setCell ⟨nb, 0, none⟩ (.slice (some ⟨gg, 0, none⟩) (k + 1) cap)) := by
    have k45 := kp_grown hgr
    have k5 := kp_set w5 nb 0 (.slice (some ⟨gg, 0, none⟩) (k + 1) cap)
    exact ⟨k5.os.trans k45.os, k5.tape.trans k45.tape, k5.output.trans k45.output, Nat.le_trans k45.size k5.size, fun g hg' q => (k5.block g (Nat.lt_of_lt_of_le hg' k45.size) fun e => q (.inr e)).trans (k45.block g hg' fun e => q (.inl e))⟩
  have hlt : nb < W.heap.size := row_lt hs
  have hl5 : (#[sv] : Array Value).setIfInBounds 0 (.slice (some ⟨gg, 0, none⟩) (k + 1) cap) = #[.slice (some ⟨gg, 0, none⟩) (k + 1) cap] := rfl
  have hne : some nb ≠ (Value.slice (some ⟨gg, 0, none⟩) (k + 1) cap).ownBlock := fun e => by
    have hn' : OwnT w5 X (.slice (some ⟨gg, 0, none⟩) (k + 1) cap) (l ++ [x]) := by
      show w5.ownsRow X 9 1 _ (l ++ [x]).length _
      rw [List.length_append, List.map_append, h.len]
      exact hn
    obtain ⟨_, C, hC⟩ := hn'.ty e.symm
    rw [b5] at hC
    cases hC
  refine ⟨⟨b5, c5⟩, ⟨sb1, p4.keep kk fun g hg' q => ?_, ?_⟩, ?_⟩
  · rcases q with q | q
    · obtain ⟨q1, C, hC⟩ := o4.ty q
      obtain ⟨m1, m2⟩ := p4.other hC (by decide) (by decide)
      exact ⟨Nat.le_trans hW0 q1, m1, m2⟩
    · subst q
      obtain ⟨m1, m2⟩ := p4.other b4 (by decide) (by decide)
      exact ⟨Nat.le_trans hW0 h.le.1, m1, m2⟩
  · have e1 := PChX.of q4 hX
    refine ⟨⟨kk.os.trans e1.kept.os, kk.tape.trans e1.kept.tape, kk.output.trans e1.kept.output, Nat.le_trans e1.kept.size kk.size, fun g hg' q => (kk.block g (Nat.lt_of_lt_of_le hg' e1.kept.size) fun z => ?_).trans (e1.kept.block g hg' q)⟩, e1.new, e1.stp.trans e1.kept.size (Stp.same (fun hl => slen_of (kk.block pb hl fun z => ?_)) fun g e hl => kk.block g hl fun z => ?_)⟩
    · rcases z with z | z
      · exact q (.inr (.inr (o4.ty z).1))
      · exact q (.inr (.inr (z ▸ h.le.1)))
    · rcases z with z | z
      · obtain ⟨_, C, hC⟩ := o4.ty z
        exact (p4.other hC (by decide) (by decide)).1 rfl
      · exact (p4.other b4 (by decide) (by decide)).1 z.symm
    · rcases z with z | z
      · obtain ⟨_, C, hC⟩ := o4.ty z
        exact (p4.other hC (by decide) (by decide)).2 e
      · exact (p4.other b4 (by decide) (by decide)).2 (z ▸ e)
  · have hnn : ¬ bx = nb := fun e => by
      rw [e, b5] at c5
      cases c5
    refine ⟨by rw [List.length_append, h.len]; rfl, fun y hy => ?_, ⟨_, (heap_setCell_same w5 nb 0 _ 40 _ b5).trans (by rw [hl5]), ?_⟩, (set_other hnn).trans c5, h.le⟩
    · rcases List.mem_append.1 hy with q | q
      · exact h.txt y q
      · rw [List.mem_singleton.1 q]; exact hx
    · show World.ownsRow _ X 9 1 _ (l ++ [x]).length _
      rw [List.length_append, List.map_append, h.len]
      exact own_setL hn hne
set_option maxHeartbeats 8000000 in
set_option maxRecDepth 100000 in
theorem fieldsA_c {F : S → S} {m : Nat} (hW0 : W0.heap.size ≤ X) (HC : DoesP W0 pb 72 F m) : PartOK W0 pb X 168 #[.pointer (some ⟨nb, 0, none⟩), .pointer (some ⟨bx, 0, none⟩)] (PF pb nb bx X) (fieldP F) m := by
  intro W s sb l k hk hX h he hm
  obtain ⟨i0, hi, hz0, hz1, hz2⟩ := info_partsP infoStr
  obtain ⟨sv, n0, own⟩ := he.cl
  obtain ⟨a, c, rfl⟩ := own.form
  rw [he.len] at n0 own
  have HP : Hid (PS W0 W pb s sb) := h
  have HE : Hid (PF pb nb bx X k l W ∧ W.heap[nb]? = some (.cells #[.slice a k c] 40 (0, 0)) ∧ OwnT W X (.slice a k c) l ∧ X ≤ W.heap.size ∧ W0.heap.size ≤ X ∧ k ≤ 20000) := ⟨he, n0, own, hX, hW0, hk⟩
  have nc : W.cell? ⟨nb, 0, none⟩ = some (.slice a k c) := by rw [cell_of_row _ _ _ _ _ _ n0]; rfl
  have bc : W.cell? ⟨bx, 0, none⟩ = some (.pointer (some ⟨pb, 0, none⟩)) := by rw [cell_of_row _ _ _ _ _ _ he.bo]; rfl
  obtain ⟨x, hx⟩ : ∃ x, x = nameT l s := ⟨_, rfl⟩
  obtain ⟨z, hz⟩ : ∃ z, z = name l s := ⟨_, rfl⟩
  have HX : Hid (x.length ≤ 20000 ∧ x = nameT l s ∧ z = name l s) := ⟨by rw [hx]; exact name_len h l, hx, hz⟩
  have CN : Hid (∀ W', Below W.heap.size W W' → Calls Tryz.prog 35 #[.pointer (some ⟨pb, 0, none⟩), .slice a k c] W' fun e W'' => e = .returned (.string (Lx.bs x)) ∧ Hid (PG W0 pb W sb z W'')) := fun W' hb => by
    obtain ⟨q1, q2, q3, q4⟩ := own.sr
    rw [hx, hz]
    refine (name_c (h.call hb) (q3.call hb) q1 (by omega)).mono ?_
    rintro e W'' ⟨rfl, q⟩
    exact ⟨rfl, q.pre hb⟩
  have CM : Hid (∀ W', PGX W0 pb X W sb z W' → PF pb nb bx X (k + 1) (l ++ [x]) W' → Calls Tryz.prog 33 #[.pointer (some ⟨pb, 0, none⟩), .slice (some ⟨W'.heap.size, 0, none⟩) 1 1] (W'.alloc (.cells #[.string ⟨#[58]⟩] 9)) fun e W'' => (∃ b, e = .returned (.string b)) ∧ Hid (PGX W0 pb X W sb (must [[58]] z) W'' ∧ PF pb nb bx X (k + 1) (l ++ [x]) W'')) := fun W' hg hf => by
    obtain ⟨sb1, k1, k2⟩ := hg
    refine (must_made k1 (ts := [[58]]) rfl rfl (by decide)).mono ?_
    rintro e W'' ⟨rfl, q⟩
    exact ⟨⟨_, rfl⟩, PGX.trans k2 (PGX.of q.out (Nat.le_trans hX k2.kept.size)), hf.pg k1 q.out⟩
  have CO : Hid (∀ W', PGX W0 pb X W sb (must [[58]] z) W' → PF pb nb bx X (k + 1) (l ++ [x]) W' → Calls Tryz.prog 72 #[.pointer (some ⟨pb, 0, none⟩)] W' fun e W'' => e = .returned (.tuple #[]) ∧ Hid (PGX W0 pb X W sb (F (must [[58]] z)) W'' ∧ PF pb nb bx X (k + 1) (l ++ [x]) W'')) := fun W' hg hf => by
    obtain ⟨sb1, k1, k2⟩ := hg
    refine (HC W' _ sb1 k1 (by have := ((less_name l s).trans (less_must [[58]] (name l s))).rest; rw [hz]; omega)).mono ?_
    rintro e W'' ⟨rfl, q⟩
    exact ⟨rfl, PGX.trans k2 (PGX.of q (Nat.le_trans hX k2.kept.size)), hf.pg k1 q⟩
  have fit63 : Hid (k + 1 ≤ maxLen) := by show _ ≤ _; unfold maxLen; omega
  have fit47 : Hid ((k + 1) * 16 ≤ 140737488355328) := by show _ ≤ _; omega
  clear h he n0 own hk hX hW0 hm HC hx hz
  have lt01 := block_lt_of_cell nc
  have lt02 := block_lt_of_cell bc
  go_enter Tryz.func168, Tryz.ntmps168
  go_upto_region 0 with fail
  go_region_law (first
    | (go_simp; go_at_call 35; refine (CN.out _ ?_).mono ?_; (first | exact Below.refl _ _ | exact (Below.refl _ _).drew); rintro e w1 ⟨rfl, G1⟩
       have O1 : Hid (w1.ownsRow X 9 1 (.slice a k c) k (l.map fun x => Value.string (Lx.bs x))) := (by
         have := HE.out.2.2.1.pg HP.out G1.out
         show World.ownsRow _ _ _ _ _ _ _
         have e1 : k = l.length := HE.out.1.len.symm
         rw [e1]
         rw [e1] at this
         exact this)
       obtain ⟨nc1, bc1⟩ : w1.cell? ⟨nb, 0, none⟩ = some (.slice a k c) ∧ w1.cell? ⟨bx, 0, none⟩ = some (.pointer (some ⟨pb, 0, none⟩)) := (by
         have q := HE.out.1.pg HP.out G1.out
         obtain ⟨n1, n2⟩ := HP.out.other HE.out.2.1 (by decide) (by decide)
         have b1 := (G1.out.block (row_lt HE.out.2.1) n1 n2).trans HE.out.2.1
         exact ⟨by rw [cell_of_row _ _ _ _ _ _ b1]; rfl, by rw [cell_of_row _ _ _ _ _ _ q.bo]; rfl⟩)
       have lt1 := block_lt_of_cell nc1
       have lt2 := block_lt_of_cell bc1
       have S1 : Hid (X ≤ w1.heap.size) := (Nat.le_trans HE.out.2.2.2.1 G1.out.size))
    | (refine step_append_lies _ (by rfl) _ _ _ (by rfl) X 9 i0 _ 1 16 Tryz.underlying40 hi hz0 hz1 hz2 rfl (by omega) _ _ _ (by rfl) (O1.out.alloc _) ⟨w1.heap.size, 0, none⟩ 1 1 [.string (Lx.bs x)] (by rfl) (by rfl) (World.news_of_block (heap_alloc_new w1 _)) (by simp [Value.oneCell']) (by omega) fit63.out fit47.out (by have := S1.out; simp; omega) (w1.heap.size + 1) (by simp) ?_; intro gg cap w5 hown5 hgrow hat hglt
       have N5 : Hid ((w5.heap[nb]? = some (.cells #[.slice a k c] 40 (0, 0)) ∧ w5.heap[bx]? = some (.cells #[.pointer (some ⟨pb, 0, none⟩)] 74 (0, 0))) ∧ PGX W0 pb X W sb z (w5.setCell ⟨nb, 0, none⟩ (.slice (some ⟨gg, 0, none⟩) (k + 1) cap)) ∧ PF pb nb bx X (k + 1) (l ++ [x]) (w5.setCell ⟨nb, 0, none⟩ (.slice (some ⟨gg, 0, none⟩) (k + 1) cap))) := HE.out.1.next HE.out.2.2.2.1 HP.out G1.out HE.out.2.1 HE.out.2.2.1 (by first | exact bnew w1 _ | exact (bnew w1 _).drew) hgrow HX.out.1 hown5 HE.out.2.2.2.2.1
       have nc5 : w5.cell? ⟨nb, 0, none⟩ = some (.slice a k c) := (by rw [cell_of_row _ _ _ _ _ _ N5.out.1.1]; rfl)
       have nf5 : ∀ r, w5.frozen? ⟨nb, r, none⟩ = false := (fun r => by simp [World.frozen?, N5.out.1.1])
       clear hown5 hgrow hat hglt)
    | fail "no arm")
  all_goals
    obtain ⟨w6, hw6⟩ : ∃ w6, w6 = w5.setCell ⟨nb, 0, none⟩ (.slice (some ⟨gg, 0, none⟩) (k + 1) cap) := ⟨_, rfl⟩
    have H6 : Hid (PGX W0 pb X W sb z w6 ∧ PF pb nb bx X (k + 1) (l ++ [x]) w6) := by rw [hw6]; exact N5.out.2
    have y6 : w6.cell? ⟨bx, 0, none⟩ = some (.pointer (some ⟨pb, 0, none⟩)) := by rw [cell_of_row _ _ _ _ _ _ H6.out.2.bo]; rfl
    rw [← hw6]
    clear hw6 nc5 nf5 N5 nc bc lt01 lt02
    go_wp2_with fail
    refine (CM.out w6 H6.out.1 H6.out.2).mono ?_
    rintro e w7 ⟨⟨b, rfl⟩, G7⟩
    have y7 : w7.cell? ⟨bx, 0, none⟩ = some (.pointer (some ⟨pb, 0, none⟩)) := by rw [cell_of_row _ _ _ _ _ _ G7.out.2.bo]; rfl
    go_wp2_with fail
    refine (CO.out w7 G7.out.1 G7.out.2).mono ?_
    rintro e w8 ⟨rfl, G8⟩
    have HQ : Hid (fieldP F s l = (F (must [[58]] z), l ++ [x])) := by show _ = _; rw [HX.out.2.2, HX.out.2.1]; rfl
    go_wp2
    exact bodyPost_end (results_none (by rfl) _ _ _) rfl ⟨rfl, by rw [HQ.out]; exact G8.out⟩
end
end Ps
end Go.Proofs.YtocnjmndiogdmaaGreatDoor
