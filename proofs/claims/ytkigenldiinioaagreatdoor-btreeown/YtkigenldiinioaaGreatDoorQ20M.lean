/- Several texts, joined: BtMw, BtWi, BtWj -/
import Derived.Test.YtkigenldiinioaaGreatDoorQ18M
import Derived.Test.YtkigenldiinioaaGreatDoorBtLwM
/- One more key in a full node: where it goes, as mathematics. -/
namespace Go.Proofs.YtkigenldiinioaaGreatDoor
open Go.RowKit
open Vl (V)
namespace Bt
theorem spot_low {key : Nat → V} {x : V} {A B : List Nat} (h : ∀ y ∈ A, Vl.cmp (key y) x < 0) : spot key x (A ++ B) = A.length + spot key x B := by
  unfold spot
  rw [List.takeWhile_append_of_pos (fun y hy => by simpa [ahead] using h y hy), List.length_append]
theorem kins_low {key : Nat → V} {e : Nat} {A B : List Nat} (h : ∀ y ∈ A, Vl.cmp (key y) (key e) < 0) : kins key e (A ++ B) = A ++ kins key e B := by
  unfold kins
  rw [spot_low h, List.take_append, List.drop_append, List.take_of_length_le (by omega), List.drop_of_length_le (by omega), show A.length + spot key (key e) B - A.length = spot key (key e) B by omega]
  simp
theorem kins_cons {key : Nat → V} {e x : Nat} {B : List Nat} (h : Vl.cmp (key x) (key e) < 0) : kins key e (x :: B) = x :: kins key e B :=
  kins_low (A := [x]) (by simpa using h)
theorem spot_high {key : Nat → V} {x : V} {A B : List Nat} (h : ∀ y ∈ B, ¬ Vl.cmp (key y) x < 0) : spot key x (A ++ B) = spot key x A := by
  unfold spot
  induction A with
  | nil =>
    cases B with
    | nil => rfl
    | cons b r =>
      have := h b (by simp)
      rw [List.nil_append, List.takeWhile_cons_of_neg (by simpa [ahead] using this)]
      rfl
  | cons a r ih =>
    rw [List.cons_append]
    by_cases q : ahead key x a = true
    · rw [List.takeWhile_cons_of_pos q, List.takeWhile_cons_of_pos q, List.length_cons, List.length_cons, ih]
    · rw [List.takeWhile_cons_of_neg q, List.takeWhile_cons_of_neg q]
theorem spot_le {key : Nat → V} {x : V} {l : List Nat} : spot key x l ≤ l.length := by
  unfold spot
  have := (List.takeWhile_sublist (p := ahead key x) (l := l)).length_le
  exact this
theorem kins_high {key : Nat → V} {e : Nat} {A B : List Nat} (h : ∀ y ∈ B, ¬ Vl.cmp (key y) (key e) < 0) : kins key e (A ++ B) = kins key e A ++ B := by
  unfold kins
  have hl := spot_le (key := key) (x := key e) (l := A)
  rw [spot_high h, List.take_append_of_le_length hl, List.drop_append_of_le_length hl]
  simp
/-- one of four put anew -/
def put4 (i : Nat) (t' a b c d : T) (g r : Nat) (es : List Nat) : T := .node g r es (if i = 0 then t' else a) (if i = 1 then t' else b) (if i = 2 then t' else c) (if i = 3 then t' else d)
theorem kins_three {key : Nat → V} {e x y z : Nat} {a b c d : T} {g r : Nat} (hr : Rises key (flat (.node g r [x, y, z] a b c d))) (hn : at? key (key e) (flat (.node g r [x, y, z] a b c d)) = none) {i : Nat} (hi : i = spot key (key e) [x, y, z])   : (∀ t', flat t' = kins key e (flat (pick i a b c d)) → flat (put4 i t' a b c d g r [x, y, z]) = kins key e (flat (.node g r [x, y, z] a b c d))) ∧ at? key (key e) (flat (pick i a b c d)) = none ∧ Rises key (flat (pick i a b c d)) ∧ ∀ f ∈ flat (pick i a b c d), f ∈ flat (.node g r [x, y, z] a b c d) := by
  rw [flat_three] at hr hn ⊢
  obtain ⟨ra, r1, m1⟩ := rises_app.1 hr
  obtain ⟨m2, r2⟩ := rises_cons.1 r1
  obtain ⟨rb, r3, m3⟩ := rises_app.1 r2
  obtain ⟨m4, r4⟩ := rises_cons.1 r3
  obtain ⟨rc, r5, m5⟩ := rises_app.1 r4
  obtain ⟨m6, rd⟩ := rises_cons.1 r5
  have hne : ∀ f ∈ flat a ++ x :: (flat b ++ y :: (flat c ++ z :: flat d)), Vl.cmp (key f) (key e) ≠ 0 := fun f hf q => by
    have h3 := List.find?_eq_none.1 hn f hf
    simp [q] at h3
  have none_of : ∀ {l : List Nat}, (∀ f ∈ l, f ∈ flat a ++ x :: (flat b ++ y :: (flat c ++ z :: flat d))) → at? key (key e) l = none := fun h => at_less fun f hf => hne f (h f hf)
  rw [spot_three] at hi
  by_cases k1 : Vl.cmp (key x) (key e) < 0
  · have la : ∀ f ∈ flat a, Vl.cmp (key f) (key e) < 0 := fun f hf => lt_trans (m1 f hf x (by simp)) k1
    rw [if_pos k1] at hi
    by_cases k2 : Vl.cmp (key y) (key e) < 0
    · have lb : ∀ f ∈ flat b, Vl.cmp (key f) (key e) < 0 := fun f hf => lt_trans (m3 f hf y (by simp)) k2
      rw [if_pos k2] at hi
      by_cases k3 : Vl.cmp (key z) (key e) < 0
      · have lc : ∀ f ∈ flat c, Vl.cmp (key f) (key e) < 0 := fun f hf => lt_trans (m5 f hf z (by simp)) k3
        rw [if_pos k3] at hi
        subst hi
        refine ⟨?_, none_of fun f hf => ?_, rd, fun f hf => ?_⟩
        · intro t' hf
          rw [kins_low la, kins_cons k1, kins_low lb, kins_cons k2, kins_low lc, kins_cons k3, put4, flat_three]
          simp only [pick] at hf
          simp [hf]
        · simp only [pick] at hf; simp at hf; simp [hf]
        · simp only [pick] at hf; simp at hf; simp [hf]
      · rw [if_neg k3] at hi
        subst hi
        have hd : ∀ f ∈ z :: flat d, ¬ Vl.cmp (key f) (key e) < 0 := fun f hf q => by
          rcases List.mem_cons.1 hf with rfl | hf
          · exact k3 q
          · exact k3 (lt_trans (m6 f hf) q)
        refine ⟨?_, none_of fun f hf => ?_, rc, fun f hf => ?_⟩
        · intro t' hf
          rw [kins_low la, kins_cons k1, kins_low lb, kins_cons k2, kins_high hd, put4, flat_three]
          simp only [pick] at hf
          simp at hf
          simp [hf]
        · simp only [pick] at hf; simp at hf; simp [hf]
        · simp only [pick] at hf; simp at hf; simp [hf]
    · rw [if_neg k2] at hi
      subst hi
      have hd : ∀ f ∈ y :: (flat c ++ z :: flat d), ¬ Vl.cmp (key f) (key e) < 0 := fun f hf q => by
        rcases List.mem_cons.1 hf with rfl | hf
        · exact k2 q
        · exact k2 (lt_trans (m4 f hf) q)
      refine ⟨?_, none_of fun f hf => ?_, rb, fun f hf => ?_⟩
      · intro t' hf
        rw [kins_low la, kins_cons k1, kins_high hd, put4, flat_three]
        simp only [pick] at hf
        simp at hf
        simp [hf]
      · simp only [pick] at hf; simp at hf; simp [hf]
      · simp only [pick] at hf; simp at hf; simp [hf]
  · rw [if_neg k1] at hi
    subst hi
    have hd : ∀ f ∈ x :: (flat b ++ y :: (flat c ++ z :: flat d)), ¬ Vl.cmp (key f) (key e) < 0 := fun f hf q => by
      rcases List.mem_cons.1 hf with rfl | hf
      · exact k1 q
      · exact k1 (lt_trans (m2 f hf) q)
    refine ⟨?_, none_of fun f hf => ?_, ra, fun f hf => ?_⟩
    · intro t' hf
      rw [kins_high hd, put4, flat_three]
      simp only [pick] at hf
      simp at hf
      simp [hf]
    · simp only [pick] at hf; simp at hf; simp [hf]
    · simp only [pick] at hf; simp at hf; simp [hf]
end Bt
end Go.Proofs.YtkigenldiinioaaGreatDoor
/- One more key in a tree on so many levels: walked, in general. -/
namespace Go.Proofs.YtkigenldiinioaaGreatDoor
open Go.RowKit
open Vl (V)
attribute [local go_sem ↓] Go.wp_at_zero Go.wp_at_succ
/-- what one more key makes -/
def Withs (key : Nat → V) (e lv : Nat) (t : Bt.T) (W : World) (t' : Bt.T) (w' : World) : Prop := Only (Bt.blocks t) W w' ∧ NT w' t' ∧ Bt.wf t' ∧ Bt.flat t' = Bt.kins key e (Bt.flat t) ∧ Bt.levels t' ≤ lv ∧ (Bt.blocks t').Nodup ∧ ∀ g ∈ Bt.blocks t', g ∈ Bt.blocks t ∨ W.heap.size ≤ g
/-- what node.with makes, on so many levels -/
def WithG (t : Bt.T) : Prop := ∀ (key : Nat → V) (W : World) (e lv : Nat), NT W t → Bt.wf t → Bt.Rises key (Bt.flat t) → (∀ x ∈ Bt.flat t, EK W W.heap.size (key x) x) → EK W W.heap.size (key e) e → Bt.at? key (key e) (Bt.flat t) = none → (Bt.flat t).length < 1024 → (Bt.blocks t).Nodup → Bt.levels t ≤ lv → (Bt.flat t).length < Bt.room lv → lv ≤ 20 →
  Calls Tryz.prog 40 #[Bt.ptr (Bt.top t), .pointer (some ⟨e, 0, none⟩), .int .i64 (lv : Int)] W fun ex w' => ∃ t', ex = .returned (Bt.ptr (Bt.top t')) ∧ Withs key e lv t W t' w'
theorem withG_nil : WithG .nil := fun key W e lv _ _ _ _ _ _ _ _ _ hroom _ => by
  have hl : 1 ≤ lv := by
    rcases Nat.eq_zero_or_pos lv with rfl | h
    · exact absurd hroom (by simp [Bt.flat, Bt.room])
    · exact h
  refine (with_nil e lv W).mono ?_
  rintro ex w' ⟨g, r, rfl, hb, hN, hg, hr⟩
  refine ⟨.node g r [e] .nil .nil .nil .nil, rfl, ⟨hb.os, hb.tape, hb.output, hb.size, fun k hk _ => hb.block k hk⟩, hN, ⟨by simp, by simp, fun _ => ⟨rfl, rfl, rfl, rfl⟩, trivial, trivial, trivial, trivial⟩, ?_, ?_, node_nd hN, fun x hx => ?_⟩
  · rw [Bt.flat_one _ _ _ (by simp)]
    simp [Bt.flat, Bt.kins]
  · simp only [Bt.levels]
    omega
  · simp only [Bt.blocks, List.append_nil, List.mem_cons, List.not_mem_nil, or_false] at hx
    rcases hx with rfl | rfl
    · exact .inr hg
    · exact .inr hr
theorem withG_few {g r : Nat} {es : List Nat} (h3 : es.length < 3) : WithG (.node g r es .nil .nil .nil .nil) := fun key W e lv hN hw hr hk he _ _ _ hlv _ _ => by
  have h1 : 1 ≤ es.length := hw.1
  have hf : Bt.flat (.node g r es .nil .nil .nil .nil) = es := Bt.flat_one _ _ _ (by omega)
  rw [hf] at hr hk
  refine (with_few g r e _ W.heap.size es key W hN h1 h3 hk he hr (Nat.le_refl _)).mono ?_
  rintro ex w' ⟨r', rfl, ho, hN', hr'⟩
  have hl : (Bt.kins key e es).length < 4 := by rw [Bt.kins_length]; omega
  refine ⟨.node g r' (Bt.kins key e es) .nil .nil .nil .nil, rfl, ho, hN', ⟨by rw [Bt.kins_length]; omega, by omega, fun _ => ⟨rfl, rfl, rfl, rfl⟩, trivial, trivial, trivial, trivial⟩, by rw [hf]; exact Bt.flat_one _ _ _ hl, ?_, node_nd hN', fun x hx => ?_⟩
  · simp only [Bt.levels] at hlv ⊢
    exact hlv
  · simp only [Bt.blocks, List.append_nil, List.mem_cons, List.not_mem_nil, or_false] at hx ⊢
    rcases hx with rfl | rfl
    · exact .inl (.inl rfl)
    · rcases hr' with q | q
      · exact .inl (.inr q)
      · exact .inr q
theorem ptr_cells {W : World} {b r n cap : Nat} {es : List Nat} (ho : W.ownsRow b 71 1 (.slice (some ⟨r, 0, none⟩) n cap) n (Bt.ptrs es)) : b ≤ r ∧ r < W.heap.size ∧ n ≤ cap ∧ n = es.length ∧ ∀ j e, es[j]? = some e → W.cell? ⟨r, 0 + j, none⟩ = some (.pointer (some ⟨e, 0, none⟩)) := by
  have hl := ho.1
  rw [Bt.ptrs, List.length_map] at hl
  rcases ho.2 with ⟨h, _⟩ | ⟨g', cap', cur', h, hb, hcr', hnc, _, _, htk⟩
  · cases h
  · cases h
    refine ⟨hb, lt_of_row hcr', hnc, by omega, fun j e hj => ?_⟩
    rw [Nat.zero_add]
    refine cells_at hcr' j _ ?_
    have hlt := (List.getElem?_eq_some_iff.1 hj).1
    have : (Bt.ptrs es)[j]? = some (.pointer (some ⟨e, 0, none⟩)) := by rw [Bt.ptrs, List.getElem?_map, hj]; rfl
    rw [← htk, List.getElem?_take_of_lt (by omega), Array.getElem?_toList] at this
    exact this
theorem pick_nt {w : World} {g r : Nat} {es : List Nat} {a b c d : Bt.T} (h : NT w (.node g r es a b c d)) (i : Nat) : NT w (Bt.pick i a b c d) := by
  obtain ⟨_, ha, hb, hc, hd⟩ := h
  unfold Bt.pick
  split
  · exact ha
  · split
    · exact hb
    · split
      · exact hc
      · exact hd
set_option maxHeartbeats 4000000 in
set_option maxRecDepth 100000 in
theorem with_fullA (key : Nat → V) (w : World) (g r x y z e lv : Nat) (a b c d : Bt.T) (hN : NT w (.node g r [x, y, z] a b c d)) (hw : Bt.wf (.node g r [x, y, z] a b c d)) (hr : Bt.Rises key (Bt.flat (.node g r [x, y, z] a b c d))) (hk : ∀ f ∈ Bt.flat (.node g r [x, y, z] a b c d), EK w w.heap.size (key f) f) (he : EK w w.heap.size (key e) e) (hl : (Bt.flat (.node g r [x, y, z] a b c d)).length < 1024) (hroom : (Bt.flat (.node g r [x, y, z] a b c d)).length < Bt.room lv) (h20 : lv ≤ 20) (h0 : 1 ≤ lv) (hc : (Bt.flat (Bt.pick (Bt.spot key (key e) [x, y, z]) a b c d)).length = Bt.room (lv - 1)) :
    Calls Tryz.prog 40 #[.pointer (some ⟨g, 0, none⟩), .pointer (some ⟨e, 0, none⟩), .int .i64 (lv : Int)] w fun ex w' => ∃ t', ex = .returned (Bt.ptr (Bt.top t')) ∧ Withs key e lv (.node g r [x, y, z] a b c d) w t' w' := by
  obtain ⟨⟨cap, hcell, ho⟩, _⟩ := id hN
  obtain ⟨s1, _⟩ := flat_entries hw
  obtain ⟨t, ht⟩ : ∃ t, t = Bt.T.node g r [x, y, z] a b c d := ⟨_, rfl⟩
  obtain ⟨tl, htl⟩ : ∃ tl, tl = (Bt.flat t).length := ⟨_, rfl⟩
  rw [← ht] at hN hw hr hk hl hroom s1 ⊢
  rw [← ht, ← htl] at hcell
  have hres : Bt.Rises key [x, y, z] := List.Pairwise.sublist s1 hr
  have hkes : ∀ f ∈ [x, y, z], EK w w.heap.size (key f) f := fun f hf => hk f (s1.subset hf)
  obtain ⟨i, hi⟩ : ∃ i, i = Bt.spot key (key e) [x, y, z] := ⟨_, rfl⟩
  rw [← hi] at hc
  have hi3 : i ≤ 3 := by rw [hi]; exact Bt.spot_le
  obtain ⟨tx, htx⟩ : ∃ tx, tx = Bt.pick i a b c d := ⟨_, rfl⟩
  rw [← htx] at hc
  have hNx : NT w tx := by rw [htx]; exact pick_nt (ht ▸ hN) i
  obtain ⟨po, hpo⟩ : ∃ po, Bt.ptr (Bt.top tx) = .pointer po := ⟨_, rfl⟩
  have hgl := lt_of_row hcell
  obtain ⟨_, hrl, _, _, hcl⟩ := ptr_cells (es := [x, y, z]) ho
  have hpx : ∀ W : World, W.heap[g]? = w.heap[g]? → W.cell? ⟨g, 1 + i, none⟩ = some (.pointer po) := fun W hW => by
    rw [← hpo, htx]
    have hcW := hW.trans hcell
    rcases (show i = 0 ∨ i = 1 ∨ i = 2 ∨ i = 3 by omega) with q | q | q | q <;> (rw [q]; exact cells_at hcW _ _ rfl)
  obtain ⟨hel, c0, c1, c2, c3, c4, c5, row, he1, he2⟩ := id he
  have CP : Hid (∀ W', Below w.heap.size w W' → Calls Tryz.prog 64 #[.slice (some ⟨r, 0, none⟩) 3 cap, .agg #[c0, c1, c2, c3, c4, c5]] W' fun ex w' => ex = .returned (.tuple #[.int .i64 (i : Int), .bool (Bt.hit key (key e) [x, y, z])]) ∧ Below W'.heap.size W' w') := fun W' hW => by
    rw [hi]
    exact placeOf_c r 0 3 cap w.heap.size [x, y, z] key (key e) _ W' rfl (by omega) (Nat.lt_of_lt_of_le hrl hW.size) (fun j f hf => (hW.cell (p := ⟨r, 0 + j, none⟩) hrl).trans (hcl j f hf)) (fun f hf => (hkes f hf).stays hW) hres hW.size (rep_stays hW (Nat.le_refl _) _ _ he2)
  have p0 : ∀ p : BelowOf w.heap.size w, p.W.cell? ⟨g, 0, none⟩ = some (.slice (some ⟨r, 0, none⟩) 3 cap) := fun p => cells_at ((p.h.block _ hgl).trans hcell) 0 _ rfl
  have HE : Hid (∀ (W : World), Below w.heap.size w W → W.cell? ⟨e, 0, none⟩ = some c0 ∧ W.cell? ⟨e, 1, none⟩ = some c1 ∧ W.cell? ⟨e, 2, none⟩ = some c2 ∧ W.cell? ⟨e, 3, none⟩ = some c3 ∧ W.cell? ⟨e, 4, none⟩ = some c4 ∧ W.cell? ⟨e, 5, none⟩ = some c5) := fun W hW => by
    have h1 := (hW.block e hel).trans he1
    exact ⟨cells_at h1 0 _ rfl, cells_at h1 1 _ rfl, cells_at h1 2 _ rfl, cells_at h1 3 _ rfl, cells_at h1 4 _ rfl, cells_at h1 5 _ rfl⟩
  have a0 : ∀ p : BelowOf w.heap.size w, p.W.cell? ⟨e, 0, none⟩ = some c0 := fun p => (HE.out _ p.h).1
  have a1 : ∀ p : BelowOf w.heap.size w, p.W.cell? ⟨e, 1, none⟩ = some c1 := fun p => (HE.out _ p.h).2.1
  have a2 : ∀ p : BelowOf w.heap.size w, p.W.cell? ⟨e, 2, none⟩ = some c2 := fun p => (HE.out _ p.h).2.2.1
  have a3 : ∀ p : BelowOf w.heap.size w, p.W.cell? ⟨e, 3, none⟩ = some c3 := fun p => (HE.out _ p.h).2.2.2.1
  have a4 : ∀ p : BelowOf w.heap.size w, p.W.cell? ⟨e, 4, none⟩ = some c4 := fun p => (HE.out _ p.h).2.2.2.2.1
  have a5 : ∀ p : BelowOf w.heap.size w, p.W.cell? ⟨e, 5, none⟩ = some c5 := fun p => (HE.out _ p.h).2.2.2.2.2
  obtain ⟨ht', hht⟩ : ∃ h, h = Bt.hit key (key e) [x, y, z] := ⟨_, rfl⟩
  rw [← hht] at CP
  have HG : Hid (∀ (W : World), Below w.heap.size w W → W.cell? ⟨g, 0, none⟩ = some (.slice (some ⟨r, 0, none⟩) 3 cap) ∧ W.cell? ⟨g, 1 + i, none⟩ = some (.pointer po)) := fun W hW => ⟨cells_at ((hW.block _ hgl).trans hcell) 0 _ rfl, hpx W (hW.block _ hgl)⟩
  obtain ⟨l1, hl1⟩ : ∃ l1, l1 = lv - 1 := ⟨_, rfl⟩
  rw [← hl1] at hc
  obtain ⟨m, hm⟩ : ∃ m, m = (Bt.flat tx).length := ⟨_, rfl⟩
  obtain ⟨rm, hrm⟩ : ∃ rm, rm = Bt.room l1 := ⟨_, rfl⟩
  rw [← hm, ← hrm] at hc
  have CC : Hid (∀ (W : World), Below w.heap.size w W → Calls Tryz.prog 42 #[.pointer po] W fun ex w' => ex = .returned (.int .i64 (m : Int)) ∧ w' = W) := fun W hW => by
    rw [hm, ← hpo]
    exact count_t tx W (nt_stays hNx fun k hk => hW.block k (nt_lt hNx k hk))
  have CR : Hid (∀ W, Calls Tryz.prog 66 #[.int .i64 (l1 : Int)] W fun ex w' => ex = .returned (.int .i64 (rm : Int)) ∧ w' = W) := fun W => by
    rw [hrm]
    exact room_c l1 (by omega) W
  obtain ⟨v1, v2⟩ : IntKind.i64.wrap ((lv : Int) - 1) = (l1 : Int) ∧ wrap64 ((lv : Int) - 1) = (l1 : Int) := Bt.wr (by omega) (by omega)
  have HVL : Hid (IntKind.i64.wrap ((lv : Int) - 1) = (l1 : Int) ∧ wrap64 ((lv : Int) - 1) = (l1 : Int)) := ⟨v1, v2⟩
  clear v1 v2
  have z1 : (0 : Int) ≤ (i : Int) := Int.natCast_nonneg _
  have z2 : (i : Int) < 4 := by omega
  have hpg : Bt.ptr (Bt.top t) = .pointer (some ⟨g, 0, none⟩) := by rw [ht]; rfl
  subst hc
  have CA : Hid (∀ (W : World), Below w.heap.size w W → Calls Tryz.prog 67 #[.pointer (some ⟨g, 0, none⟩)] W fun ex w' => ∃ r2 cap2, ex = .returned (.slice (some ⟨r2, 0, none⟩) tl cap2) ∧ Hid (Below w.heap.size w w' ∧ w'.ownsRow w.heap.size 71 1 (.slice (some ⟨r2, 0, none⟩) tl cap2) tl (Bt.ptrs (Bt.flat t)))) := fun W hW => by
    rw [← hpg]
    have hRT : RT W w.heap.size key t := RT.stays hW (rt_of hw hN hk)
    refine (all_c key w.heap.size t hw hr (by omega) W hW.size hRT).mono ?_
    rintro ex w' ⟨v, rfl, hb, ho2⟩
    rw [← htl] at ho2
    have hs := hW.size
    rcases ho2.2 with ⟨_, q⟩ | ⟨r2, cap2, cur, rfl, h2, h4, h5⟩
    · exact absurd q (by rw [htl, ht, Bt.flat_three]; simp)
    · exact ⟨r2, cap2, rfl, hW.trans (hb.mono hs), ho2.1, .inr ⟨r2, cap2, cur, rfl, by omega, h4, h5⟩⟩
  obtain ⟨i2, hi2⟩ : ∃ i2, i2 = Bt.spot key (key e) (Bt.flat t) := ⟨_, rfl⟩
  obtain ⟨ht2, hht2⟩ : ∃ h, h = Bt.hit key (key e) (Bt.flat t) := ⟨_, rfl⟩
  have CP2 : Hid (∀ (W : World) (r2 cap2 : Nat), Below w.heap.size w W → W.ownsRow w.heap.size 71 1 (.slice (some ⟨r2, 0, none⟩) tl cap2) tl (Bt.ptrs (Bt.flat t)) → Calls Tryz.prog 64 #[.slice (some ⟨r2, 0, none⟩) tl cap2, .agg #[c0, c1, c2, c3, c4, c5]] W fun ex w' => ex = .returned (.tuple #[.int .i64 (i2 : Int), .bool ht2]) ∧ Hid (Below w.heap.size w w' ∧ w'.ownsRow w.heap.size 71 1 (.slice (some ⟨r2, 0, none⟩) tl cap2) tl (Bt.ptrs (Bt.flat t)))) := fun W r2 cap2 hW ho2 => by
    obtain ⟨_, h2, _, h4, h5⟩ := ptr_cells ho2
    rw [hi2, hht2]
    refine (placeOf_c r2 0 tl cap2 w.heap.size (Bt.flat t) key (key e) _ W htl (by omega) h2 h5 (fun f hf => (hk f hf).stays hW) hr hW.size (rep_stays hW (Nat.le_refl _) _ _ he2)).mono ?_
    rintro ex w' ⟨rfl, hb⟩
    exact ⟨rfl, hW.trans (hb.mono hW.size), owns_stays ho2 fun k hk => hb.block k (own_lt ho2 hk).2⟩
  obtain ⟨n1, hn1⟩ : ∃ n1, n1 = tl + 1 := ⟨_, rfl⟩
  have CI : Hid (∀ (W : World) (r2 cap2 : Nat), Below w.heap.size w W → W.ownsRow w.heap.size 71 1 (.slice (some ⟨r2, 0, none⟩) tl cap2) tl (Bt.ptrs (Bt.flat t)) → Calls Tryz.prog 65 #[.slice (some ⟨r2, 0, none⟩) tl cap2, .int .i64 (i2 : Int), .slice (some ⟨W.heap.size, 0, none⟩) 1 1] (W.alloc (.cells #[.pointer (some ⟨e, 0, none⟩)] 71)) fun ex w' => ∃ r3 cap3, ex = .returned (.slice (some ⟨r3, 0, none⟩) n1 cap3) ∧ Hid (Below w.heap.size w w' ∧ w'.ownsRow 0 71 1 (.slice (some ⟨r3, 0, none⟩) n1 cap3) n1 (Bt.ptrs (Bt.kins key e (Bt.flat t))))) := fun W r2 cap2 hW ho2 => by
    obtain ⟨X, hX⟩ : ∃ X, X = W.alloc (.cells #[.pointer (some ⟨e, 0, none⟩)] 71) := ⟨_, rfl⟩
    have bX : Below W.heap.size W X := by rw [hX]; exact below_new _ _
    rw [← hX]
    obtain ⟨hr2, hr2l, _⟩ := ptr_cells ho2
    have hoX : X.ownsRow 0 71 1 (.slice (some ⟨r2, 0, none⟩) tl cap2) tl (Bt.ptrs (Bt.flat t)) := by
      refine ⟨ho2.1, ?_⟩
      rcases ho2.2 with ⟨h, _⟩ | ⟨g', cap', cur', h, h2, h4, h5⟩
      · cases h
      · exact .inr ⟨g', cap', cur', h, Nat.zero_le _, (bX.block _ (lt_of_row h4)).trans h4, h5⟩
    have hile : i2 ≤ tl := by rw [hi2, htl]; exact Bt.spot_le
    refine (insE_c tl i2 W.heap.size (Bt.ptrs (Bt.flat t)) (.pointer (some ⟨e, 0, none⟩)) _ X hoX hile (by omega) (by rw [hX]; exact heap_alloc_new W _) (fun q => absurd (Option.some.inj (show some r2 = some W.heap.size from q)) (by omega)) ptrs_one rfl).mono ?_
    rintro ex w' ⟨v', rfl, o1, g1, at1⟩
    have e1 : (Bt.ptrs (Bt.flat t)).take i2 ++ Value.pointer (some ⟨e, 0, none⟩) :: (Bt.ptrs (Bt.flat t)).drop i2 = Bt.ptrs (Bt.kins key e (Bt.flat t)) := by rw [hi2]; simp [Bt.ptrs, Bt.kins]
    rw [e1] at o1
    obtain ⟨r', cap', rfl⟩ := ownsRow_succ o1
    have bW := hW.trans (bX.mono hW.size)
    refine ⟨r', cap', by rw [hn1], ⟨g1.os.trans bW.os, g1.tape.trans bW.tape, g1.output.trans bW.output, Nat.le_trans bW.size g1.size, fun k hk => ?_⟩, by rw [hn1]; exact o1⟩
    exact (g1.block k (Nat.lt_of_lt_of_le hk bW.size) (fun q => by have := Option.some.inj (show some k = some r2 from q); omega)).trans (bW.block k hk)
  have CL : Hid (∀ (W : World) (r3 cap3 : Nat), Below w.heap.size w W → W.ownsRow 0 71 1 (.slice (some ⟨r3, 0, none⟩) n1 cap3) n1 (Bt.ptrs (Bt.kins key e (Bt.flat t))) → Calls Tryz.prog 63 #[.slice (some ⟨r3, 0, none⟩) n1 cap3] W fun ex w' => ∃ t', ex = .returned (Bt.ptr (Bt.top t')) ∧ Withs key e lv t w t' w') := fun W r3 cap3 hW ho3 => by
    obtain ⟨_, h2, h3, h4, h5⟩ := ptr_cells ho3
    refine (lay_ok n1 (by omega) r3 0 cap3 (Bt.kins key e (Bt.flat t)) W h4.symm h3 h2 h5).mono ?_
    rintro ex w' ⟨t', rfl, hb, hL⟩
    have hB := hW.trans (hb.mono hW.size)
    refine ⟨t', rfl, ⟨hB.os, hB.tape, hB.output, hB.size, fun k hk _ => hB.block k hk⟩, hL.nt, hL.wf, hL.flat, ?_, hL.nd, fun k hk => .inr (Nat.le_trans hW.size (hL.new k hk))⟩
    rw [hL.lev, Bt.kins_length, Bt.fewest_le]
    omega
  clear hl1 hm hrm hi hht hi3 hl hroom h20 h0 hres hkes hpx hcl hcell ho s1 hN hw hr hk he he1 he2 hel hgl hrl htx hNx hpo ht htl hpg hi2 hht2 hn1
  go_enter Tryz.func40, Tryz.ntmps40
  go_upto_region 3 with fail
  refine wp_region_below w.heap.size w (Below.refl _ _) (by kernel_rfl) (by kernel_rfl) ?_
  repeat (go_big_quiet_step (first | (go_at_call 64; exact below_call _ (Nat.le_refl _) (CP.out _ (BelowOf.h _)))))
  refine wpQuiet_nil ?_
  intro _ hw'
  obtain ⟨pq, hw''⟩ := hw'
  subst hw''
  have HB2 : Hid (Below w.heap.size w pq.W) := pq.h
  obtain ⟨g0, g1⟩ := HG.out _ pq.h
  obtain ⟨v1, v2⟩ := HVL.out
  clear p0 a0 a1 a2 a3 a4 a5 CP
  go_wp2_with fail
  refine (CC.out _ HB2.out).mono ?_
  rintro ex wc ⟨rfl, rfl⟩
  go_wp2_with fail
  refine (CR.out _).mono ?_
  rintro ex wc ⟨rfl, rfl⟩
  clear g1 v1 v2 CC CR
  go_wp2_with fail
  refine (CA.out _ HB2.out).mono ?_
  rintro ex w2 ⟨r2, cap2, rfl, HV2⟩
  obtain ⟨b0, b1, b2, b3, b4, b5⟩ := HE.out _ HV2.out.1
  clear CA
  go_wp2_with fail
  refine (CP2.out _ _ _ HV2.out.1 HV2.out.2).mono ?_
  rintro ex w3 ⟨rfl, HV3⟩
  clear CP2 HV2 b0 b1 b2 b3 b4 b5
  go_wp2_with fail
  refine (CI.out _ _ _ HV3.out.1 HV3.out.2).mono ?_
  rintro ex w4 ⟨r3, cap3, rfl, HV4⟩
  clear CI HV3
  go_wp2_with fail
  refine (CL.out _ _ _ HV4.out.1 HV4.out.2).mono ?_
  rintro ex w5 ⟨t', rfl, HV5⟩
  have HV6 : Hid (Withs key e lv t w t' w5) := HV5
  clear CL HV4 HV5
  go_wp2
  go_ret
  exact ⟨t', rfl, HV6.out⟩
end Go.Proofs.YtkigenldiinioaaGreatDoor
/- One more key below a full node: what it leaves in memory. -/
namespace Go.Proofs.YtkigenldiinioaaGreatDoor
open Go.RowKit
open Vl (V)
theorem Bt.pick_all {P : Bt.T → Prop} {a b c d : Bt.T} (ha : P a) (hb : P b) (hc : P c) (hd : P d) (i : Nat) : P (Bt.pick i a b c d) := by
  unfold Bt.pick
  split
  · exact ha
  · split
    · exact hb
    · split
      · exact hc
      · exact hd
theorem Bt.nodup_parts {g r : Nat} {es : List Nat} {a b c d : Bt.T} (h : (Bt.blocks (.node g r es a b c d)).Nodup) : g ≠ r ∧ (∀ j, g ∉ Bt.blocks (Bt.pick j a b c d) ∧ r ∉ Bt.blocks (Bt.pick j a b c d) ∧ (Bt.blocks (Bt.pick j a b c d)).Nodup) ∧ ∀ j k, j < 4 → k < 4 → j ≠ k → ∀ x ∈ Bt.blocks (Bt.pick j a b c d), x ∉ Bt.blocks (Bt.pick k a b c d) := by
  simp only [Bt.blocks, List.nodup_cons, List.nodup_append, List.mem_cons, List.mem_append, not_or] at h
  obtain ⟨⟨h1, ⟨⟨h2, h3⟩, h4⟩, h5⟩, ⟨⟨⟨k2, k3⟩, k4⟩, k5⟩, ⟨⟨n1, n2, n12⟩, n3, n123⟩, n4, n1234⟩ := h
  refine ⟨h1, fun j => Bt.pick_all (P := fun t => g ∉ Bt.blocks t ∧ r ∉ Bt.blocks t ∧ (Bt.blocks t).Nodup) ⟨h2, k2, n1⟩ ⟨h3, k3, n2⟩ ⟨h4, k4, n3⟩ ⟨h5, k5, n4⟩ j, fun j k hj hk hjk x hx hx2 => ?_⟩
  have ab : ∀ x, x ∈ Bt.blocks a → x ∈ Bt.blocks b → False := fun x q1 q2 => n12 x q1 x q2 rfl
  have ac : ∀ x, x ∈ Bt.blocks a → x ∈ Bt.blocks c → False := fun x q1 q2 => n123 x (.inl q1) x q2 rfl
  have bc : ∀ x, x ∈ Bt.blocks b → x ∈ Bt.blocks c → False := fun x q1 q2 => n123 x (.inr q1) x q2 rfl
  have ad : ∀ x, x ∈ Bt.blocks a → x ∈ Bt.blocks d → False := fun x q1 q2 => n1234 x (.inl (.inl q1)) x q2 rfl
  have bd : ∀ x, x ∈ Bt.blocks b → x ∈ Bt.blocks d → False := fun x q1 q2 => n1234 x (.inl (.inr q1)) x q2 rfl
  have cd : ∀ x, x ∈ Bt.blocks c → x ∈ Bt.blocks d → False := fun x q1 q2 => n1234 x (.inr q1) x q2 rfl
  rcases (show j = 0 ∨ j = 1 ∨ j = 2 ∨ j = 3 by omega) with rfl | rfl | rfl | rfl <;> rcases (show k = 0 ∨ k = 1 ∨ k = 2 ∨ k = 3 by omega) with rfl | rfl | rfl | rfl <;> first | exact absurd rfl hjk | exact ab x hx hx2 | exact ab x hx2 hx | exact ac x hx hx2 | exact ac x hx2 hx | exact bc x hx hx2 | exact bc x hx2 hx | exact ad x hx hx2 | exact ad x hx2 hx | exact bd x hx hx2 | exact bd x hx2 hx | exact cd x hx hx2 | exact cd x hx2 hx
theorem Bt.nodup_node {g r : Nat} {es : List Nat} {ts : Nat → Bt.T} (hgr : g ≠ r) (h : ∀ j, j < 4 → g ∉ Bt.blocks (ts j) ∧ r ∉ Bt.blocks (ts j) ∧ (Bt.blocks (ts j)).Nodup) (ap : ∀ j k, j < k → k < 4 → ∀ x ∈ Bt.blocks (ts j), x ∉ Bt.blocks (ts k)) : (Bt.blocks (.node g r es (ts 0) (ts 1) (ts 2) (ts 3))).Nodup := by
  simp only [Bt.blocks, List.nodup_cons, List.nodup_append, List.mem_cons, List.mem_append]
  refine ⟨?_, ?_, ⟨⟨(h 0 (by omega)).2.2, (h 1 (by omega)).2.2, ?_⟩, (h 2 (by omega)).2.2, ?_⟩, (h 3 (by omega)).2.2, ?_⟩
  · rintro (q | ((q | q) | q) | q)
    · exact hgr q
    · exact (h 0 (by omega)).1 q
    · exact (h 1 (by omega)).1 q
    · exact (h 2 (by omega)).1 q
    · exact (h 3 (by omega)).1 q
  · rintro (((q | q) | q) | q)
    · exact (h 0 (by omega)).2.1 q
    · exact (h 1 (by omega)).2.1 q
    · exact (h 2 (by omega)).2.1 q
    · exact (h 3 (by omega)).2.1 q
  · intro a ha b hb e
    subst e
    exact ap 0 1 (by omega) (by omega) a ha hb
  · intro a ha b hb e
    subst e
    rcases ha with q | q
    · exact ap 0 2 (by omega) (by omega) a q hb
    · exact ap 1 2 (by omega) (by omega) a q hb
  · intro a ha b hb e
    subst e
    rcases ha with (q | q) | q
    · exact ap 0 3 (by omega) (by omega) a q hb
    · exact ap 1 3 (by omega) (by omega) a q hb
    · exact ap 2 3 (by omega) (by omega) a q hb
theorem Bt.mem_node {g r : Nat} {es : List Nat} {ts : Nat → Bt.T} {x : Nat} (h : x ∈ Bt.blocks (.node g r es (ts 0) (ts 1) (ts 2) (ts 3))) : x = g ∨ x = r ∨ ∃ j, j < 4 ∧ x ∈ Bt.blocks (ts j) := by
  simp only [Bt.blocks, List.mem_cons, List.mem_append] at h
  rcases h with q | q | ((q | q) | q) | q
  · exact .inl q
  · exact .inr (.inl q)
  · exact .inr (.inr ⟨0, by omega, q⟩)
  · exact .inr (.inr ⟨1, by omega, q⟩)
  · exact .inr (.inr ⟨2, by omega, q⟩)
  · exact .inr (.inr ⟨3, by omega, q⟩)
theorem Bt.node_mem {g r : Nat} {es : List Nat} {a b c d : Bt.T} {j x : Nat} (h : x ∈ Bt.blocks (Bt.pick j a b c d)) : x ∈ Bt.blocks (.node g r es a b c d) := by
  revert h
  unfold Bt.pick
  split
  · intro h; simp [Bt.blocks, h]
  · split
    · intro h; simp [Bt.blocks, h]
    · split
      · intro h; simp [Bt.blocks, h]
      · intro h; simp [Bt.blocks, h]
theorem Bt.pick_lev {g r : Nat} {es : List Nat} {a b c d : Bt.T} {lv : Nat} (h : Bt.levels (.node g r es a b c d) ≤ lv + 1) (j : Nat) : Bt.levels (Bt.pick j a b c d) ≤ lv := by
  rw [Bt.levels] at h
  exact Bt.pick_all (P := fun t => Bt.levels t ≤ lv) (by omega) (by omega) (by omega) (by omega) j
theorem Bt.pick_wf {g r : Nat} {es : List Nat} {a b c d : Bt.T} (h : Bt.wf (.node g r es a b c d)) (j : Nat) : Bt.wf (Bt.pick j a b c d) := Bt.pick_all h.2.2.2.1 h.2.2.2.2.1 h.2.2.2.2.2.1 h.2.2.2.2.2.2 j
/-- a node, one of whose four was put anew -/
theorem with_put {key : Nat → V} {w W0 W1 w6 : World} {g r x y z e l1 i : Nat} {a b c d t' : Bt.T} (hN : NT w (.node g r [x, y, z] a b c d)) (hw : Bt.wf (.node g r [x, y, z] a b c d)) (hnd : (Bt.blocks (.node g r [x, y, z] a b c d)).Nodup) (hlv : Bt.levels (.node g r [x, y, z] a b c d) ≤ l1 + 1) (hi : i < 4) (h0 : Below w.heap.size w W0) (hW : Withs key e l1 (Bt.pick i a b c d) W0 t' W1) (hf : Bt.flat (Bt.put4 i t' a b c d g r [x, y, z]) = Bt.kins key e (Bt.flat (.node g r [x, y, z] a b c d)))
    (h6 : w6 = (W1.setCell ⟨g, 1 + i, none⟩ (Bt.ptr (Bt.top t'))).setCell ⟨g, 5, none⟩ (.int .i64 (((Bt.flat (.node g r [x, y, z] a b c d)).length + 1 : Nat) : Int))) :
    Withs key e (l1 + 1) (.node g r [x, y, z] a b c d) w (Bt.put4 i t' a b c d g r [x, y, z]) w6 := by
  obtain ⟨hO, hN1, hw1, hf1, hl1, hnd1, hnew1⟩ := hW
  obtain ⟨hgr, hpt, hdis⟩ := Bt.nodup_parts hnd
  have hlt := nt_lt hN
  obtain ⟨⟨cap, hc, ho⟩, _⟩ := id hN
  have hrow := ptr_cells (es := [x, y, z]) ho
  have hgl := lt_of_row hc
  have k1 : ∀ k, k < w.heap.size → k ∉ Bt.blocks (Bt.pick i a b c d) → W1.heap[k]? = w.heap[k]? := fun k hk hm => (hO.block k (Nat.lt_of_lt_of_le hk h0.size) hm).trans (h0.block k hk)
  have k6 : ∀ k, k ≠ g → w6.heap[k]? = W1.heap[k]? := fun k hk => by rw [h6, heap_setCell_other _ _ _ _ hk, heap_setCell_other _ _ _ _ hk]
  have n1 := (k1 g hgl (hpt i).1).trans hc
  obtain ⟨ts, hts⟩ : ∃ ts : Nat → Bt.T, ts = fun j => if i = j then t' else Bt.pick j a b c d := ⟨_, rfl⟩
  have hsame : ts i = t' := by rw [hts]; simp
  have hoth : ∀ j, j ≠ i → ts j = Bt.pick j a b c d := fun j hj => by rw [hts]; exact if_neg fun q => hj q.symm
  have hput : Bt.put4 i t' a b c d g r [x, y, z] = .node g r [x, y, z] (ts 0) (ts 1) (ts 2) (ts 3) := by rw [hts]; rfl
  have hg6 : w6.heap[g]? = some (.cells #[.slice (some ⟨r, 0, none⟩) 3 cap, Bt.ptr (Bt.top (ts 0)), Bt.ptr (Bt.top (ts 1)), Bt.ptr (Bt.top (ts 2)), Bt.ptr (Bt.top (ts 3)), .int .i64 (((Bt.flat (.node g r [x, y, z] a b c d)).length + 1 : Nat) : Int)] 95 (0, 0)) := by
    have e5 := heap_setCell_same W1 g (1 + i) _ 95 (Bt.ptr (Bt.top t')) n1
    have e6 := heap_setCell_same _ g 5 _ 95 (.int .i64 (((Bt.flat (.node g r [x, y, z] a b c d)).length + 1 : Nat) : Int)) e5
    rw [h6, e6]
    rcases (show i = 0 ∨ i = 1 ∨ i = 2 ∨ i = 3 by omega) with q | q | q | q <;> (subst q; rw [hts]; simp [Bt.pick])
  have hnt : ∀ j, j < 4 → NT w6 (ts j) := fun j hj => by
    by_cases q : j = i
    · subst q
      rw [hsame]
      refine nt_stays hN1 fun k hk => k6 k fun q2 => ?_
      subst q2
      rcases hnew1 k hk with q3 | q3
      · exact (hpt j).1 q3
      · have := h0.size; omega
    · rw [hoth j q]
      refine nt_stays (pick_nt hN j) fun k hk => ?_
      have hkl := hlt k (Bt.node_mem hk)
      exact (k6 k fun q2 => (hpt j).1 (q2 ▸ hk)).trans (k1 k hkl (hdis j i hj hi q k hk))
  rw [hput] at hf ⊢
  refine ⟨⟨?_, ?_, ?_, ?_, fun k hk hm => ?_⟩, ⟨⟨cap, ?_, ?_⟩, hnt 0 (by omega), hnt 1 (by omega), hnt 2 (by omega), hnt 3 (by omega)⟩, ?_, hf, ?_, ?_, fun k hk => ?_⟩
  · rw [h6]; exact hO.os.trans h0.os
  · rw [h6]; exact hO.tape.trans h0.tape
  · rw [h6]; exact hO.output.trans h0.output
  · rw [h6]; simpa using Nat.le_trans h0.size hO.size
  · exact (k6 k fun q => hm (by rw [q]; simp [Bt.blocks])).trans (k1 k hk fun q => hm (Bt.node_mem q))
  · rw [hf, Bt.kins_length]
    exact hg6
  · refine owns_stays ho fun k hk => ?_
    obtain rfl : k = r := (Option.some.inj (show some r = some k from hk)).symm
    exact (k6 k fun q => hgr q.symm).trans (k1 k hrow.2.1 (hpt i).2.1)
  · have hwt : ∀ j, Bt.wf (ts j) := fun j => by
      by_cases q : j = i
      · rw [q, hsame]; exact hw1
      · rw [hoth j q]; exact Bt.pick_wf hw j
    exact ⟨by simp, by simp, fun h => absurd h (by simp), hwt 0, hwt 1, hwt 2, hwt 3⟩
  · have hlt : ∀ j, Bt.levels (ts j) ≤ l1 := fun j => by
      by_cases q : j = i
      · rw [q, hsame]; exact hl1
      · rw [hoth j q]; exact Bt.pick_lev hlv j
    have := hlt 0; have := hlt 1; have := hlt 2; have := hlt 3
    rw [Bt.levels]
    omega
  · have hx : ∀ k, k ∈ Bt.blocks t' → (k ∈ Bt.blocks (Bt.pick i a b c d) ∨ w.heap.size ≤ k) := fun k hk => (hnew1 k hk).imp id (fun q => Nat.le_trans h0.size q)
    refine Bt.nodup_node hgr (fun j hj => ?_) (fun j k hjk hk4 u hu hu2 => ?_)
    · by_cases q : j = i
      · rw [q, hsame]
        refine ⟨fun q2 => ?_, fun q2 => ?_, hnd1⟩
        · rcases hx g q2 with q3 | q3
          · exact (hpt i).1 q3
          · omega
        · rcases hx r q2 with q3 | q3
          · exact (hpt i).2.1 q3
          · have := hrow.2.1; omega
      · rw [hoth j q]; exact hpt j
    · by_cases q1 : j = i
      · rw [q1, hsame] at hu
        rw [hoth k (by omega)] at hu2
        rcases hx u hu with q3 | q3
        · exact hdis i k hi hk4 (by omega) u q3 hu2
        · have := hlt u (Bt.node_mem hu2); omega
      · rw [hoth j q1] at hu
        by_cases q2 : k = i
        · rw [q2, hsame] at hu2
          rcases hx u hu2 with q3 | q3
          · exact hdis j i (by omega) hi q1 u hu q3
          · have := hlt u (Bt.node_mem hu); omega
        · rw [hoth k q2] at hu2
          exact hdis j k (by omega) hk4 (by omega) u hu hu2
  · rcases Bt.mem_node hk with q | q | ⟨j, hj, q⟩
    · exact .inl (by rw [q]; simp [Bt.blocks])
    · exact .inl (by rw [q]; simp [Bt.blocks])
    · by_cases q2 : j = i
      · rw [q2, hsame] at q
        exact (hnew1 k q).imp Bt.node_mem (fun q => Nat.le_trans h0.size q)
      · rw [hoth j q2] at q
        exact .inl (Bt.node_mem q)
end Go.Proofs.YtkigenldiinioaaGreatDoor
