/- The digests of a tree, made when they are asked for first. -/
import Derived.Test.YtlafdlcpelkdpaaGreatDoorMkIM
import Derived.Laws.EntriesVeiled
namespace Go.Proofs.YtlafdlcpelkdpaaGreatDoor
open Go.RowKit
attribute [local go_sem ↓] Go.wp_at_zero Go.wp_at_succ
theorem HasK.gr {b : Nat} {w w' : World} {x : Int} (h : HasK w) (hc : w.cell? ⟨b, 0, none⟩ = some (.int .i64 x)) (hg : Gr b w w') : HasK w' := by
  have hne : 0 ≠ b := by
    intro e
    have h0 := h.2 0 (by decide)
    subst e
    have h1 := hc.symm.trans h0
    simp at h1
  refine ⟨Nat.lt_of_lt_of_le h.1 hg.size, fun i hi => ?_⟩
  exact (World.cell?_of_block (a := ⟨0, i, none⟩) (hg.block 0 h.1 (fun q => hne (by injection q)))).trans (h.2 i hi)
set_option maxHeartbeats 4000000 in
set_option maxRecDepth 100000 in
theorem fill_c (b pl n : Nat) (dn st : Int) (g : Nat) (l : List (List UInt8)) (hl : l.length = n) (hn : n ≤ 1024) (hx : ∀ x ∈ l, x.length ≤ 140737488355328) (w : World) (hK : HasK w) (hT : TreeAt w b n dn st (.slice (some ⟨g, 0, none⟩) n n) (.pointer none)) (hp : w.cell? ⟨pl, 0, none⟩ = some (.pointer (some ⟨b, 0, none⟩))) (_hpb : pl ≠ b) (hpl : pl < w.heap.size) (hS : Sl w w.heap.size (.slice (some ⟨g, 0, none⟩) n n) l) :
    Calls Tryz.prog 98 #[.pointer (some ⟨pl, 0, none⟩)] w fun e w' => e = .returned (.tuple #[]) ∧ ∃ p, TreeAt w' b n dn st (.slice none 0 0) (.pointer (some ⟨p, 0, none⟩)) ∧ Pt w' p l ∧ Gr b w w' := by
  have HT : Hid (TreeAt w b n dn st (.slice (some ⟨g, 0, none⟩) n n) (.pointer none)) := hT
  have hbl : b < w.heap.size := hT.lt
  have CG : Hid (∀ W, Below w.heap.size w W → W.cell? ⟨w.heap.size, 0, none⟩ = some (.func (.func 99) #[] #[.pointer (some ⟨w.heap.size, 0, none⟩)]) → Calls Tryz.prog 99 #[.slice (some ⟨g, 0, none⟩) n n, .pointer (some ⟨w.heap.size, 0, none⟩)] W fun e w' => ∃ p, e = .returned (.pointer (some ⟨p, 0, none⟩)) ∧ Pt w' p l ∧ W.heap.size ≤ p ∧ Below W.heap.size W w') := fun W hW hc => by
    have hlt : w.heap.size < W.heap.size := by
      unfold World.cell? at hc
      cases hh : W.heap[w.heap.size]? with
      | none => simp [hh] at hc
      | some o => exact (Array.getElem?_eq_some_iff.1 hh).1
    exact grow_c n hn l hl hx W _ n n w.heap.size w.heap.size (hK.below hK.1 hW) hW.size (Nat.le_refl _) (hS.stays hW (Nat.le_refl _)) hc hlt
  clear hx hS hK hT hl
  go_enter Tryz.func98, Tryz.ntmps98
  go_upto_region 2 with fail
  obtain ⟨w1, hw1⟩ : ∃ w1, w1 = w.alloc (.cells #[.func (.func 99) #[] #[.pointer (some ⟨w.heap.size, 0, none⟩)]] 172) := ⟨_, rfl⟩
  rw [← hw1]
  have HB1 : Hid (Below w.heap.size w w1) := by show Below _ _ _; rw [hw1]; exact (Below.refl _ _).alloc (Nat.le_refl _) _
  have cv : w1.cell? ⟨w.heap.size, 0, none⟩ = some (.func (.func 99) #[] #[.pointer (some ⟨w.heap.size, 0, none⟩)]) := by rw [hw1]; simp
  have cp : w1.cell? ⟨pl, 0, none⟩ = some (.pointer (some ⟨b, 0, none⟩)) := (HB1.out.cell (p := ⟨pl, 0, none⟩) hpl).trans hp
  have T1 : Hid (TreeAt w1 b n dn st (.slice (some ⟨g, 0, none⟩) n n) (.pointer none)) := HT.out.call HB1.out
  obtain ⟨d0, d1, d2, d3, d4, d5⟩ := T1.out.cells
  have CG1 : Hid (∀ W, Below w1.heap.size w1 W → Calls Tryz.prog 99 #[.slice (some ⟨g, 0, none⟩) n n, .pointer (some ⟨w.heap.size, 0, none⟩)] W fun e w' => ∃ p, e = .returned (.pointer (some ⟨p, 0, none⟩)) ∧ Pt w' p l ∧ W.heap.size ≤ p ∧ Below W.heap.size W w') := fun W hW =>
    CG.out W (HB1.out.trans (hW.mono HB1.out.size)) ((hW.cell (p := ⟨w.heap.size, 0, none⟩) (by show w.heap.size < w1.heap.size; rw [hw1]; simp)).trans cv)
  have lt1 : pl < w1.heap.size := Nat.lt_of_lt_of_le hpl HB1.out.size
  clear hw1 CG hp d0 d1 d2 d3
  go_region_law (first
    | (go_simp; go_at_call 99; refine (CG1.out _ ?_).mono ?_; (first | exact Below.refl _ _ | exact (Below.refl _ _).drew); rintro e w2 ⟨p, rfl, hp2, hq2, hb2⟩
       have HB2 : Hid (Below w1.heap.size w1 w2) := (by first | exact (Below.refl _ _).drew.trans hb2 | exact hb2)
       have HP2 : Hid (Pt w2 p l) := hp2
       have cp2 : w2.cell? ⟨pl, 0, none⟩ = some (.pointer (some ⟨b, 0, none⟩)) := (HB2.out.cell (p := ⟨pl, 0, none⟩) lt1).trans cp
       have T2 : Hid (TreeAt w2 b n dn st (.slice (some ⟨g, 0, none⟩) n n) (.pointer none)) := T1.out.call HB2.out
       obtain ⟨e0, e1, e2, e3, e4, e5⟩ := T2.out.cells
       have fz2 := T2.out.free
       have lt2 : b < w2.heap.size := T2.out.lt
       clear hp2 hq2 hb2 e0 e1 e2 e3))
  all_goals
    have T3 : Hid (TreeAt (w2.setCell ⟨b, 5, none⟩ (.pointer (some ⟨p, 0, none⟩))) b n dn st (.slice (some ⟨g, 0, none⟩) n n) (.pointer (some ⟨p, 0, none⟩))) := T2.out.whole _
    have G2 : Hid (Gr b w (w2.setCell ⟨b, 5, none⟩ (.pointer (some ⟨p, 0, none⟩)))) := (Gr.of (HB1.out.trans (HB2.out.mono HB1.out.size))).trans (Gr.set b 5 w2 _)
    have P3 : Hid (Pt (w2.setCell ⟨b, 5, none⟩ (.pointer (some ⟨p, 0, none⟩))) p l) := HP2.out.gr T2.out (Gr.set b 5 w2 _)
    have F4 : Hid (TreeAt ((w2.setCell ⟨b, 5, none⟩ (.pointer (some ⟨p, 0, none⟩))).setCell ⟨b, 4, none⟩ (.slice none 0 0)) b n dn st (.slice none 0 0) (.pointer (some ⟨p, 0, none⟩)) ∧ Pt ((w2.setCell ⟨b, 5, none⟩ (.pointer (some ⟨p, 0, none⟩))).setCell ⟨b, 4, none⟩ (.slice none 0 0)) p l ∧ Gr b w ((w2.setCell ⟨b, 5, none⟩ (.pointer (some ⟨p, 0, none⟩))).setCell ⟨b, 4, none⟩ (.slice none 0 0))) :=
      ⟨T3.out.texts _, P3.out.gr T3.out (Gr.set b 4 _ _), G2.out.trans (Gr.set b 4 _ _)⟩
    clear T3 G2 P3 T1 CG1 HP2 HB2 HB1 HT T2
    go_wp2
    go_end0
    first | exact ⟨rfl, p, F4.out.1, F4.out.2.1, F4.out.2.2⟩ | exact ⟨rfl, p, F4.out.1.drew, F4.out.2.1.drew, F4.out.2.2.trans (Gr.drew _ _)⟩
end Go.Proofs.YtlafdlcpelkdpaaGreatDoor
