/- Several texts, joined: BtLb, BtLc, BtRs -/
import Derived.Test.YtkigenldiinioaaGreatDoorQ26M
import Derived.Test.YtkigenldiinioaaGreatDoorQ27M
/- What the statements about trees ask first: a tree of two keys, step by step. -/
namespace Go.Proofs.YtkigenldiinioaaGreatDoor
open Go.RowKit
open Vl (V)
theorem withOK_small {t : Bt.T} (hw : Bt.wf t) (hl : (Bt.flat t).length < 3) : WithOK t := by
  cases t with
  | nil => exact withOK_nil
  | node g r es a b c d =>
    obtain ⟨h1, h2, h3, _⟩ := hw
    by_cases hs : es.length < 3
    · obtain ⟨rfl, rfl, rfl, rfl⟩ := h3 hs
      exact withOK_few hs
    · exfalso
      match es, h2, hs with
      | [e, f, x], _, _ =>
        rw [Bt.flat_three] at hl
        simp at hl
        omega
      | [], _, hs => simp at hs
      | [_], _, hs => simp at hs
      | [_, _], _, hs => simp at hs
/-- a tree with a few keys, whole numbers -/
def LvK (w : World) (tb n : Nat) (L : List (Int × List Nat)) (W : World) : Prop :=
  ∃ F t key ids ir, TA W F tb t key ids ir n ∧ (∀ g, F g → w.heap.size ≤ g) ∧ Below w.heap.size w W ∧ (Bt.flat t).map (fun e => (key e, ids e)) = L.map fun p => (Bt.wv p.1, p.2)
theorem LvK.stays {w W W' : World} {tb n : Nat} {L : List (Int × List Nat)} (h : LvK w tb n L W) (hb : Below W.heap.size W W') : LvK w tb n L W' := by
  obtain ⟨F, t, key, ids, ir, h1, h2, h3, h4⟩ := h
  exact ⟨F, t, key, ids, ir, h1.stays hb, h2, h3.trans (hb.mono h3.size), h4⟩
theorem LvK.new {w W : World} {tb : Nat} (hb : Below w.heap.size w W) (ht : w.heap.size ≤ tb) (h : W.heap[tb]? = some (.cells #[.pointer none, .int .i64 0] 69 (0, 0))) : LvK w tb 0 [] W :=
  ⟨fun g => g = tb, .nil, fun _ => Bt.wv 0, fun _ => [], fun _ => 0, {
    box := h
    lt := fun g hg => by rw [hg]; exact lt_of_row h
    fbox := rfl
    nt := trivial
    fnt := fun g hg => by cases hg
    nd := List.nodup_nil
    ent := fun e he => by cases he
    inj := fun e he => by cases he
    wf := trivial
    rises := List.Pairwise.nil
    lev := by simp [Bt.levels, Bt.flat, Bt.fewest_zero]
    small := fun e he => by cases he
    asc := fun e he => by cases he
    sum := rfl
    le := by omega }, fun g hg => by rw [hg]; exact ht, hb, rfl⟩
theorem frame_f {w W W' : World} {F : Nat → Prop} (hb : Below w.heap.size w W) (hF : ∀ g, F g → w.heap.size ≤ g) (hk : Kept F W W') : Below w.heap.size w W' := hb.trans (hk.below hF hb.size)
/-- the first key -/
theorem lv_put1 {w W : World} {tb : Nat} (hU : Bn.HasU W) (h : LvK w tb 0 [] W) :
    Calls Tryz.prog 24 #[.pointer (some ⟨tb, 0, none⟩), Bt.wa 1, .int .u64 7] W fun ex w' => ex = .returned (.int .i64 0) ∧ LvK w tb 1 [(1, [7])] w' := by
  obtain ⟨F, t, key, ids, ir, h1, h2, h3, h4⟩ := h
  have hf : Bt.flat t = [] := by simpa using h4
  refine (put_new h1 hU (withOK_small h1.wf (by rw [hf]; simp)) (wv_rep W W.heap.size 1 (by omega)) (wv_kerr 1) (wv_small 1) (id := 7) (by rw [hf]; rfl) (by omega)).mono ?_
  rintro ex w' ⟨rfl, e, t', i', s, k1, k2, k3, k4, k5, _⟩
  refine ⟨rfl, _, t', _, _, _, k5, fun g hg => ?_, frame_f h3 h2 (k4.mono fun _ q => h1.ob q), ?_⟩
  · rcases hg with q | q
    · exact h2 g q
    · have := h3.size; omega
  · rw [k1, hf]
    simp [Bt.kins, Bt.set_same]
/-- a second number of it -/
theorem lv_put2 {w W : World} {tb : Nat} (hU : Bn.HasU W) (h : LvK w tb 1 [(1, [7])] W) :
    Calls Tryz.prog 24 #[.pointer (some ⟨tb, 0, none⟩), Bt.wa 1, .int .u64 3] W fun ex w' => ex = .returned (.int .i64 0) ∧ LvK w tb 2 [(1, [3, 7])] w' := by
  obtain ⟨F, t, key, ids, ir, h1, h2, h3, h4⟩ := h
  obtain ⟨e, hf⟩ : ∃ e, Bt.flat t = [e] := by
    have := congrArg List.length h4
    simp at this
    exact List.length_eq_one_iff.1 this
  rw [hf] at h4
  simp at h4
  obtain ⟨hk, hi⟩ := h4
  have hc : Vl.cmp (key e) (Bt.wv 1) = 0 := by rw [hk, wv_cmp]; rfl
  refine (put_more h1 hU (wv_rep W W.heap.size 1 (by omega)) (wv_kerr 1) (e := e) (id := 3) (by rw [hf]; exact Bt.at_hit hc) (by rw [hi]; rfl) (by omega)).mono ?_
  rintro ex w' ⟨rfl, i', k4, k5, _⟩
  refine ⟨rfl, _, t, _, _, _, k5, fun g hg => ?_, frame_f h3 h2 (k4.mono fun _ q => h1.ob q), ?_⟩
  · rcases hg with q | q
    · exact h2 g q
    · have := h3.size; omega
  · rw [hf]
    simp only [List.map_cons, List.map_nil, Bt.set_same, hk, hi]
    rfl
/-- a second key -/
theorem lv_put3 {w W : World} {tb : Nat} (hU : Bn.HasU W) (h : LvK w tb 2 [(1, [3, 7])] W) :
    Calls Tryz.prog 24 #[.pointer (some ⟨tb, 0, none⟩), Bt.wa 2, .int .u64 7] W fun ex w' => ex = .returned (.int .i64 0) ∧ LvK w tb 3 [(1, [3, 7]), (2, [7])] w' := by
  obtain ⟨F, t, key, ids, ir, h1, h2, h3, h4⟩ := h
  obtain ⟨f, hf⟩ : ∃ e, Bt.flat t = [e] := by
    have := congrArg List.length h4
    simp at this
    exact List.length_eq_one_iff.1 this
  have hfl := h1.lt f (h1.ent f (by rw [hf]; simp)).1
  rw [hf] at h4
  simp at h4
  obtain ⟨hk, hi⟩ := h4
  have hc : Vl.cmp (key f) (Bt.wv 2) ≠ 0 := by rw [hk, wv_cmp]; decide
  refine (put_new h1 hU (withOK_small h1.wf (by rw [hf]; simp)) (wv_rep W W.heap.size 2 (by omega)) (wv_kerr 2) (wv_small 2) (id := 7) (by rw [hf]; exact (Bt.at_miss hc).trans rfl) (by omega)).mono ?_
  rintro ex w' ⟨rfl, e, t', i', s, k1, k2, k3, k4, k5, _⟩
  refine ⟨rfl, _, t', _, _, _, k5, fun g hg => ?_, frame_f h3 h2 (k4.mono fun _ q => h1.ob q), ?_⟩
  · rcases hg with q | q
    · exact h2 g q
    · have := h3.size; omega
  · have hne : f ≠ e := by omega
    have hcm : Vl.cmp (Bt.wv 1) (Bt.wv 2) < 0 := by rw [wv_cmp]; decide
    rw [k1, hf]
    simp [Bt.kins, Bt.spot, Bt.ahead, Bt.set_same, Bt.set_other hne, hk, hi, hcm]
theorem lv_flat {w W : World} {tb : Nat} (h : LvK w tb 3 [(1, [3, 7]), (2, [7])] W) : ∃ F t key ids ir e f, TA W F tb t key ids ir 3 ∧ (∀ g, F g → w.heap.size ≤ g) ∧ Below w.heap.size w W ∧ Bt.flat t = [e, f] ∧ key e = Bt.wv 1 ∧ key f = Bt.wv 2 ∧ ids e = [3, 7] := by
  obtain ⟨F, t, key, ids, ir, h1, h2, h3, h4⟩ := h
  have hl := congrArg List.length h4
  simp at hl
  obtain ⟨e, f, hf⟩ : ∃ e f, Bt.flat t = [e, f] := by
    match hq : Bt.flat t, hl with
    | [e, f], _ => exact ⟨e, f, rfl⟩
  rw [hf] at h4
  simp at h4
  exact ⟨F, t, key, ids, ir, e, f, h1, h2, h3, hf, h4.1.1, h4.2.1, h4.1.2⟩
/-- a number that is there -/
theorem lv_put4 {w W : World} {tb : Nat} (hU : Bn.HasU W) (h : LvK w tb 3 [(1, [3, 7]), (2, [7])] W) :
    Calls Tryz.prog 24 #[.pointer (some ⟨tb, 0, none⟩), Bt.wa 1, .int .u64 3] W fun ex w' => ex = .returned (.int .i64 18) ∧ LvK w tb 3 [(1, [3, 7]), (2, [7])] w' := by
  obtain ⟨F, t, key, ids, ir, e, f, h1, h2, h3, hf, hk, hk2, hi⟩ := lv_flat h
  have hc : Vl.cmp (key e) (Bt.wv 1) = 0 := by rw [hk, wv_cmp]; rfl
  refine (put_twice h1 hU (wv_rep W W.heap.size 1 (by omega)) (wv_kerr 1) (e := e) (id := 3) (by rw [hf]; exact Bt.at_hit hc) (by rw [hi]; rfl)).mono ?_
  rintro ex w' ⟨rfl, hb⟩
  exact ⟨rfl, h.stays hb⟩
theorem lv_drop {w W : World} {tb : Nat} (hU : Bn.HasU W) (h : LvK w tb 3 [(1, [3, 7]), (2, [7])] W) :
    Calls Tryz.prog 25 #[.pointer (some ⟨tb, 0, none⟩), Bt.wa 5, .int .u64 1] W fun ex w' => ex = .returned (.int .i64 7) ∧ LvK w tb 3 [(1, [3, 7]), (2, [7])] w' := by
  obtain ⟨F, t, key, ids, ir, e, f, h1, h2, h3, hf, hk, hk2, hi⟩ := lv_flat h
  have hc : Vl.cmp (key e) (Bt.wv 5) ≠ 0 := by rw [hk, wv_cmp]; decide
  have hd : Vl.cmp (key f) (Bt.wv 5) ≠ 0 := by rw [hk2, wv_cmp]; decide
  refine (drop_unknown h1 hU (wv_rep W W.heap.size 5 (by omega)) (wv_kerr 5) (id := 1) (by rw [hf, Bt.at_miss hc, Bt.at_miss hd]; rfl)).mono ?_
  rintro ex w' ⟨rfl, hb⟩
  exact ⟨rfl, h.stays hb⟩
theorem lv_count {w W : World} {tb : Nat} (h : LvK w tb 3 [(1, [3, 7]), (2, [7])] W) :
    Calls Tryz.prog 18 #[.pointer (some ⟨tb, 0, none⟩)] W fun ex w' => ex = .returned (.int .i64 3) ∧ w' = W := by
  obtain ⟨F, t, key, ids, ir, e, f, h1, h2, h3, hf, hk, hk2, hi⟩ := lv_flat h
  exact count_tree tb 3 _ W h1.box
theorem lv_depth {w W : World} {tb : Nat} (h : LvK w tb 3 [(1, [3, 7]), (2, [7])] W) :
    Calls Tryz.prog 20 #[.pointer (some ⟨tb, 0, none⟩)] W fun ex w' => ex = .returned (.int .i64 1) ∧ w' = W := by
  obtain ⟨F, t, key, ids, ir, e, f, h1, h2, h3, hf, hk, hk2, hi⟩ := lv_flat h
  have hl : Bt.levels t = 1 := by
    rw [h1.lev, hf, show [e, f].length = 2 from rfl, Bt.fewest_pos (by omega), show 2 / 4 = 0 from rfl, Bt.fewest_zero]
  have := depth_tree tb 3 t W h1.box h1.nt (by omega)
  rw [hl] at this
  exact this
/-- what is asked for within a bound -/
theorem lv_range {w W : World} {tb : Nat} (hU : Bn.HasU W) (h : LvK w tb 3 [(1, [3, 7]), (2, [7])] W) :
    Calls Tryz.prog 11 #[.pointer (some ⟨tb, 0, none⟩), .agg #[.bool false, .bool false, .int .u8 0, .bool false, .int .i64 0, .string ⟨#[]⟩, .slice none 0 0, .slice none 0 0], .agg #[.bool true, .bool true, .int .u8 2, .bool false, .int .i64 2, .string ⟨#[]⟩, .slice none 0 0, .slice none 0 0]] W fun ex w' => ∃ g cap i cap2, ex = .returned (.tuple #[.slice (some ⟨g, 0, none⟩) 1 cap, .int .i64 0]) ∧ LvK w tb 3 [(1, [3, 7]), (2, [7])] w' ∧ w'.cell? ⟨g, 6, none⟩ = some (.slice (some ⟨i, 0, none⟩) 2 cap2) ∧ i < w'.heap.size ∧ w'.cell? ⟨i, 0, none⟩ = some (.int .u64 3) ∧ w'.cell? ⟨i, 1, none⟩ = some (.int .u64 7) := by
  obtain ⟨F, t, key, ids, ir, e, f, h1, h2, h3, hf, hk, hk2, hi⟩ := lv_flat h
  have hwl : Bt.wl key none (some (true, Bt.wv 2)) t = [e] := by
    rw [Bt.wl_flat h1.wf h1.rises, hf]
    have a1 : Bt.inR none (some (true, Bt.wv 2)) (key e) = true := by
      rw [hk]
      simp only [Bt.inR, Bt.lb, Bt.ub]
      rw [wv_cmp]
      decide
    have a2 : Bt.inR none (some (true, Bt.wv 2)) (key f) = false := by
      rw [hk2]
      simp only [Bt.inR, Bt.lb, Bt.ub]
      rw [wv_cmp]
      decide
    simp [List.filter, a1, a2]
  refine (range_ok h1 hU none (some (true, Bt.wv 2)) _ _ (bnd_none _ _) ⟨true, true, _, _, _, _, _, _, Bt.wv 2, rfl, wv_rep W W.heap.size 2 (by omega), by simp⟩ (fun p hp => by cases hp) (fun p hp => by cases hp; exact wv_kerr 2)).mono ?_
  rintro ex w' ⟨v, B, rfl, hB, hR⟩
  rw [hwl] at hR
  obtain ⟨cs, q1, q2, q3⟩ := hR.ents
  obtain ⟨c, rfl⟩ : ∃ c, cs = [c] := List.length_eq_one_iff.1 q1
  obtain ⟨k0, k1, k2, k3, k4, k5, i, cap2, rfl, _, _, hI⟩ := q3 0 e c rfl rfl
  rw [hi] at hI q2
  rcases q2.2 with ⟨_, q⟩ | ⟨g, cap, cur, rfl, _, hc, _, _, _, htk⟩
  · cases q
  · refine ⟨g, cap, i, cap2, rfl, h.stays hR.below, ?_, ?_⟩
    · refine cells_at hc 6 _ ?_
      have e6 : (cur.toList.take ([e].length * 7))[6]? = some (.slice (some ⟨i, 0, none⟩) 2 cap2) := by rw [htk]; rfl
      rw [List.getElem?_take_of_lt (by simp), Array.getElem?_toList] at e6
      exact e6
    · obtain ⟨_, p1, p2⟩ := ids_cells hI
      exact ⟨p1, p2 0 3 rfl, p2 1 7 rfl⟩
end Go.Proofs.YtkigenldiinioaaGreatDoor
/- What the statements about trees ask first: walked. -/
namespace Go.Proofs.YtkigenldiinioaaGreatDoor
open Go.RowKit
open Vl (V)
attribute [local go_sem ↓] Go.wp_at_zero Go.wp_at_succ
set_option maxHeartbeats 4000000 in
set_option maxRecDepth 100000 in
theorem livesB_c (w : World) (hU : Bn.HasU w) : Calls Tryz.prog 10 #[] w fun e w' => e = .returned (.bool true) ∧ Below w.heap.size w w' := by
  have HU : Hid (∀ W tb n L, LvK w tb n L W → Bn.HasU W) := fun W tb n L h => by
    obtain ⟨_, _, _, _, _, _, _, hb, _⟩ := h
    exact hU.stays hb
  have CN : Hid (Calls Tryz.prog 23 #[] w fun e w' => ∃ tb, e = .returned (.pointer (some ⟨tb, 0, none⟩)) ∧ LvK w tb 0 [] w') := (new_c w).mono (by
    rintro e w' ⟨rfl, rfl⟩
    exact ⟨w.heap.size, rfl, LvK.new (below_new _ _) (Nat.le_refl _) (heap_alloc_new w _)⟩)
  have CW : Hid (∀ W tb n L m, LvK w tb n L W → Calls Tryz.prog 28 #[.int .i64 m] W fun e w' => e = .returned (Bt.wa m) ∧ LvK w tb n L w') := fun W tb n L m h => (whole_c m W).mono (by
    rintro e w' ⟨rfl, hb⟩
    exact ⟨rfl, h.stays hb⟩)
  have CI7 : Hid (∀ W g c, g < W.heap.size → W.cell? ⟨g, 0, none⟩ = some (.int .u64 3) → W.cell? ⟨g, 1, none⟩ = some (.int .u64 7) → Calls Tryz.prog 16 #[.slice (some ⟨g, 0, none⟩) 2 c, .slice (some ⟨W.heap.size, 0, none⟩) 2 2] (W.alloc (.cells #[.int .u64 3, .int .u64 7] 51)) fun e w' => e = .returned (.bool true) ∧ Below W.heap.size W w') := fun W g c hg h0 h1 => by
    have hb := below_new W (.cells #[.int .u64 3, .int .u64 7] 51)
    have hn := heap_alloc_new W (.cells #[.int .u64 3, .int .u64 7] 51)
    refine (ids_c [3, 7] [3, 7] (some ⟨g, 0, none⟩) (some ⟨W.heap.size, 0, none⟩) c 2 _ (by simp) (fun j x hj => ⟨g, rfl, by simp; omega, ?_⟩) (fun j x hj => ⟨W.heap.size, rfl, by simp, ?_⟩)).mono ?_
    · match j, hj with
      | 0, hj => cases hj; exact (hb.cell (p := ⟨g, 0, none⟩) hg).trans h0
      | 1, hj => cases hj; exact (hb.cell (p := ⟨g, 1, none⟩) hg).trans h1
    · match j, hj with
      | 0, hj => cases hj; exact cells_at hn 0 _ rfl
      | 1, hj => cases hj; exact cells_at hn 1 _ rfl
    · rintro e w' ⟨rfl, hb2⟩
      exact ⟨by simp, hb.trans (hb2.mono (by simp))⟩
  clear hU
  go_enter Tryz.func10, Tryz.ntmps10
  go_wp2_with fail
  refine CN.out.mono ?_
  rintro e w1 ⟨tb, rfl, H1⟩
  have K1 : Hid (LvK w tb 0 [] w1) := H1
  clear H1 CN
  go_wp2_with fail
  refine (CW.out _ _ _ _ _ K1.out).mono ?_
  rintro e w2 ⟨rfl, H2⟩
  have K2 : Hid (LvK w tb 0 [] w2) := H2
  clear H2 K1
  go_wp2_with fail
  refine (lv_put1 (HU.out _ _ _ _ K2.out) K2.out).mono ?_
  rintro e w3 ⟨rfl, H3⟩
  have K3 : Hid (LvK w tb 1 [(1, [7])] w3) := H3
  clear H3 K2
  go_wp2_with fail
  refine (CW.out _ _ _ _ _ K3.out).mono ?_
  rintro e w4 ⟨rfl, H4⟩
  have K4 : Hid (LvK w tb 1 [(1, [7])] w4) := H4
  clear H4 K3
  go_wp2_with fail
  refine (lv_put2 (HU.out _ _ _ _ K4.out) K4.out).mono ?_
  rintro e w5 ⟨rfl, H5⟩
  have K5 : Hid (LvK w tb 2 [(1, [3, 7])] w5) := H5
  clear H5 K4
  go_wp2_with fail
  refine (CW.out _ _ _ _ _ K5.out).mono ?_
  rintro e w6 ⟨rfl, H6⟩
  have K6 : Hid (LvK w tb 2 [(1, [3, 7])] w6) := H6
  clear H6 K5
  go_wp2_with fail
  refine (lv_put3 (HU.out _ _ _ _ K6.out) K6.out).mono ?_
  rintro e w7 ⟨rfl, H7⟩
  have K7 : Hid (LvK w tb 3 [(1, [3, 7]), (2, [7])] w7) := H7
  clear H7 K6
  go_wp2_with fail
  refine (CW.out _ _ _ _ _ K7.out).mono ?_
  rintro e w8 ⟨rfl, H8⟩
  have K8 : Hid (LvK w tb 3 [(1, [3, 7]), (2, [7])] w8) := H8
  clear H8 K7
  go_wp2_with fail
  refine (lv_put4 (HU.out _ _ _ _ K8.out) K8.out).mono ?_
  rintro e w9 ⟨rfl, H9⟩
  have K9 : Hid (LvK w tb 3 [(1, [3, 7]), (2, [7])] w9) := H9
  clear H9 K8
  go_wp2_with fail
  refine (CW.out _ _ _ _ _ K9.out).mono ?_
  rintro e w10 ⟨rfl, H10⟩
  have K10 : Hid (LvK w tb 3 [(1, [3, 7]), (2, [7])] w10) := H10
  clear H10 K9
  unfold Bt.wa
  go_wp2_with fail
  refine (lv_range (HU.out _ _ _ _ K10.out) K10.out).mono ?_
  rintro e w11 ⟨g, cap, i, cap2, rfl, H11, c6, hil, c0, c1⟩
  have K11 : Hid (LvK w tb 3 [(1, [3, 7]), (2, [7])] w11 ∧ i < w11.heap.size ∧ w11.cell? ⟨i, 0, none⟩ = some (.int .u64 3) ∧ w11.cell? ⟨i, 1, none⟩ = some (.int .u64 7)) := ⟨H11, hil, c0, c1⟩
  clear H11 K10 hil c0 c1
  go_wp2_with fail
  refine (CI7.out _ _ _ K11.out.2.1 K11.out.2.2.1 K11.out.2.2.2).mono ?_
  rintro e w12 ⟨rfl, hb12⟩
  have K12 : Hid (LvK w tb 3 [(1, [3, 7]), (2, [7])] w12) := K11.out.1.stays hb12
  clear hb12 K11 c6
  go_wp2_with fail
  refine (lv_count K12.out).mono ?_
  rintro e w13 ⟨rfl, rfl⟩
  go_wp2_with fail
  refine (lv_depth K12.out).mono ?_
  rintro e w14 ⟨rfl, rfl⟩
  go_wp2_with fail
  refine (CW.out _ _ _ _ _ K12.out).mono ?_
  rintro e w15 ⟨rfl, H15⟩
  have K15 : Hid (LvK w tb 3 [(1, [3, 7]), (2, [7])] w15) := H15
  clear H15 K12
  go_wp2_with fail
  refine (lv_drop (HU.out _ _ _ _ K15.out) K15.out).mono ?_
  rintro e w16 ⟨rfl, H16⟩
  have K16 : Hid (LvK w tb 3 [(1, [3, 7]), (2, [7])] w16) := H16
  clear H16 K15
  go_wp2
  go_ret
  refine ⟨rfl, ?_⟩
  obtain ⟨_, _, _, _, _, _, _, hb, _⟩ := K16.out
  exact hb
end Go.Proofs.YtkigenldiinioaaGreatDoor
/- Two trees beside one another; keys that rise and keys that fall. -/
namespace Go.Proofs.YtkigenldiinioaaGreatDoor
open Go.RowKit Go.Shelf
open Vl (V)
theorem TSt.oF {w : World} {F O : Nat → Prop} {tb : Nat} {L : List (V × List Nat)} (h : TSt w F O tb L) : ∀ g, O g → F g := by
  obtain ⟨_, _, _, _, _, _, _, _, h⟩ := h
  exact h
namespace Bt
end Bt
end Go.Proofs.YtkigenldiinioaaGreatDoor
