/- Several texts, joined: BtLb, BtLc, BtRs -/
import Derived.Test.YtkigenldiinioaaGreatDoorQ26M
import Derived.Test.YtkigenldiinioaaGreatDoorQ27M
/- What the statements about trees ask first: a tree of two keys, step by step. -/
namespace Go.Proofs.YtkigenldiinioaaGreatDoor
open Go.RowKit
open Vl (V)
theorem withOK_small {t : Bt.T} (hw : Bt.wf t) (hl : (Bt.flat t).length < 3) : WithOK t := by
  cases t with
  | nil => exact withOK_nil
  | node g r es a b c d =>
    obtain ⟨h1, h2, h3, _⟩ := hw
    by_cases hs : es.length < 3
    · obtain ⟨rfl, rfl, rfl, rfl⟩ := h3 hs
      exact withOK_few hs
    · exfalso
      match es, h2, hs with
      | [e, f, x], _, _ =>
        rw [Bt.flat_three] at hl
        simp at hl
        omega
      | [], _, hs => simp at hs
      | [_], _, hs => simp at hs
      | [_, _], _, hs => simp at hs
/-- a tree with a few keys, whole numbers -/
def LvK (w : World) (tb n : Nat) (L : List (Int × List Nat)) (W : World) : Prop :=
  ∃ F t key ids ir, TA W F tb t key ids ir n ∧ (∀ g, F g → w.heap.size ≤ g) ∧ Below w.heap.size w W ∧ (Bt.flat t).map (fun e => (key e, ids e)) = L.map fun p => (Bt.wv p.1, p.2)
theorem LvK.stays {w W W' : World} {tb n : Nat} {L : List (Int × List Nat)} (h : LvK w tb n L W) (hb : Below W.heap.size W W') : LvK w tb n L W' := by
  obtain ⟨F, t, key, ids, ir, h1, h2, h3, h4⟩ := h
  exact ⟨F, t, key, ids, ir, h1.stays hb, h2, h3.trans (hb.mono h3.size), h4⟩
theorem LvK.new {w W : World} {tb : Nat} (hb : Below w.heap.size w W) (ht : w.heap.size ≤ tb) (h : W.heap[tb]? = some (.cells #[.pointer none, .int .i64 0] 69 (0, 0))) : LvK w tb 0 [] W :=
  ⟨fun g => g = tb, .nil, fun _ => Bt.wv 0, fun _ => [], fun _ => 0, {
    box := h
    lt := fun g hg => by rw [hg]; exact lt_of_row h
    fbox := rfl
    nt := trivial
    fnt := fun g hg => by cases hg
    nd := List.nodup_nil
    ent := fun e he => by cases he
    inj := fun e he => by cases he
    wf := trivial
    rises := List.Pairwise.nil
    lev := by simp [Bt.levels, Bt.flat, Bt.fewest_zero]
    small := fun e he => by cases he
    asc := fun e he => by cases he
    sum := rfl
    le := by omega }, fun g hg => by rw [hg]; exact ht, hb, rfl⟩
theorem frame_f {w W W' : World} {F : Nat → Prop} (hb : Below w.heap.size w W) (hF : ∀ g, F g → w.heap.size ≤ g) (hk : Kept F W W') : Below w.heap.size w W' := hb.trans (hk.below hF hb.size)
/-- the first key -/
theorem lv_put1 {w W : World} {tb : Nat} (hU : Bn.HasU W) (h : LvK w tb 0 [] W) :
    Calls Tryz.prog 24 #[.pointer (some ⟨tb, 0, none⟩), Bt.wa 1, .int .u64 7] W fun ex w' => ex = .returned (.int .i64 0) ∧ LvK w tb 1 [(1, [7])] w' := by
  obtain ⟨F, t, key, ids, ir, h1, h2, h3, h4⟩ := h
  have hf : Bt.flat t = [] := by simpa using h4
  refine (put_new h1 hU (withOK_small h1.wf (by rw [hf]; simp)) (wv_rep W W.heap.size 1 (by omega)) (wv_kerr 1) (wv_small 1) (id := 7) (by rw [hf]; rfl) (by omega)).mono ?_
  rintro ex w' ⟨rfl, e, t', i', s, k1, k2, k3, k4, k5, _⟩
  refine ⟨rfl, _, t', _, _, _, k5, fun g hg => ?_, frame_f h3 h2 (k4.mono fun _ q => h1.ob q), ?_⟩
  · rcases hg with q | q
    · exact h2 g q
    · have := h3.size; omega
  · rw [k1, hf]
    simp [Bt.kins, Bt.set_same]
/-- a second number of it -/
theorem lv_put2 {w W : World} {tb : Nat} (hU : Bn.HasU W) (h : LvK w tb 1 [(1, [7])] W) :
    Calls Tryz.prog 24 #[.pointer (some ⟨tb, 0, none⟩), Bt.wa 1, .int .u64 3] W fun ex w' => ex = .returned (.int .i64 0) ∧ LvK w tb 2 [(1, [3, 7])] w' := by
  obtain ⟨F, t, key, ids, ir, h1, h2, h3, h4⟩ := h
  obtain ⟨e, hf⟩ : ∃ e, Bt.flat t = [e] := by
    have := congrArg List.length h4
    simp at this
    exact List.length_eq_one_iff.1 this
  rw [hf] at h4
  simp at h4
  obtain ⟨hk, hi⟩ := h4
  have hc : Vl.cmp (key e) (Bt.wv 1) = 0 := by rw [hk, wv_cmp]; rfl
  refine (put_more h1 hU (wv_rep W W.heap.size 1 (by omega)) (wv_kerr 1) (e := e) (id := 3) (by rw [hf]; exact Bt.at_hit hc) (by rw [hi]; rfl) (by omega)).mono ?_
  rintro ex w' ⟨rfl, i', k4, k5, _⟩
  refine ⟨rfl, _, t, _, _, _, k5, fun g hg => ?_, frame_f h3 h2 (k4.mono fun _ q => h1.ob q), ?_⟩
  · rcases hg with q | q
    · exact h2 g q
    · have := h3.size; omega
  · rw [hf]
    simp only [List.map_cons, List.map_nil, Bt.set_same, hk, hi]
    rfl
/-- a second key -/
theorem lv_put3 {w W : World} {tb : Nat} (hU : Bn.HasU W) (h : LvK w tb 2 [(1, [3, 7])] W) :
    Calls Tryz.prog 24 #[.pointer (some ⟨tb, 0, none⟩), Bt.wa 2, .int .u64 7] W fun ex w' => ex = .returned (.int .i64 0) ∧ LvK w tb 3 [(1, [3, 7]), (2, [7])] w' := by
  obtain ⟨F, t, key, ids, ir, h1, h2, h3, h4⟩ := h
  obtain ⟨f, hf⟩ : ∃ e, Bt.flat t = [e] := by
    have := congrArg List.length h4
    simp at this
    exact List.length_eq_one_iff.1 this
  have hfl := h1.lt f (h1.ent f (by rw [hf]; simp)).1
  rw [hf] at h4
  simp at h4
  obtain ⟨hk, hi⟩ := h4
  have hc : Vl.cmp (key f) (Bt.wv 2) ≠ 0 := by rw [hk, wv_cmp]; decide
  refine (put_new h1 hU (withOK_small h1.wf (by rw [hf]; simp)) (wv_rep W W.heap.size 2 (by omega)) (wv_kerr 2) (wv_small 2) (id := 7) (by rw [hf]; exact (Bt.at_miss hc).trans rfl) (by omega)).mono ?_
  rintro ex w' ⟨rfl, e, t', i', s, k1, k2, k3, k4, k5, _⟩
  refine ⟨rfl, _, t', _, _, _, k5, fun g hg => ?_, frame_f h3 h2 (k4.mono fun _ q => h1.ob q), ?_⟩
  · rcases hg with q | q
    · exact h2 g q
    · have := h3.size; omega
  · have hne : f ≠ e := by omega
    have hcm : Vl.cmp (Bt.wv 1) (Bt.wv 2) < 0 := by rw [wv_cmp]; decide
    rw [k1, hf]
    simp [Bt.kins, Bt.spot, Bt.ahead, Bt.set_same, Bt.set_other hne, hk, hi, hcm]
theorem lv_flat {w W : World} {tb : Nat} (h : LvK w tb 3 [(1, [3, 7]), (2, [7])] W) : ∃ F t key ids ir e f, TA W F tb t key ids ir 3 ∧ (∀ g, F g → w.heap.size ≤ g) ∧ Below w.heap.size w W ∧ Bt.flat t = [e, f] ∧ key e = Bt.wv 1 ∧ key f = Bt.wv 2 ∧ ids e = [3, 7] := by
  obtain ⟨F, t, key, ids, ir, h1, h2, h3, h4⟩ := h
  have hl := congrArg List.length h4
  simp at hl
  obtain ⟨e, f, hf⟩ : ∃ e f, Bt.flat t = [e, f] := by
    match hq : Bt.flat t, hl with
    | [e, f], _ => exact ⟨e, f, rfl⟩
  rw [hf] at h4
  simp at h4
  exact ⟨F, t, key, ids, ir, e, f, h1, h2, h3, hf, h4.1.1, h4.2.1, h4.1.2⟩
/-- a number that is there -/
theorem lv_put4 {w W : World} {tb : Nat} (hU : Bn.HasU W) (h : LvK w tb 3 [(1, [3, 7]), (2, [7])] W) :
    Calls Tryz.prog 24 #[.pointer (some ⟨tb, 0, none⟩), Bt.wa 1, .int .u64 3] W fun ex w' => ex = .returned (.int .i64 18) ∧ LvK w tb 3 [(1, [3, 7]), (2, [7])] w' := by
  obtain ⟨F, t, key, ids, ir, e, f, h1, h2, h3, hf, hk, hk2, hi⟩ := lv_flat h
  have hc : Vl.cmp (key e) (Bt.wv 1) = 0 := by rw [hk, wv_cmp]; rfl
  refine (put_twice h1 hU (wv_rep W W.heap.size 1 (by omega)) (wv_kerr 1) (e := e) (id := 3) (by rw [hf]; exact Bt.at_hit hc) (by rw [hi]; rfl)).mono ?_
  rintro ex w' ⟨rfl, hb⟩
  exact ⟨rfl, h.stays hb⟩
theorem lv_drop {w W : World} {tb : Nat} (hU : Bn.HasU W) (h : LvK w tb 3 [(1, [3, 7]), (2, [7])] W) :
    Calls Tryz.prog 25 #[.pointer (some ⟨tb, 0, none⟩), Bt.wa 5, .int .u64 1] W fun ex w' => ex = .returned (.int .i64 7) ∧ LvK w tb 3 [(1, [3, 7]), (2, [7])] w' := by
  obtain ⟨F, t, key, ids, ir, e, f, h1, h2, h3, hf, hk, hk2, hi⟩ := lv_flat h
  have hc : Vl.cmp (key e) (Bt.wv 5) ≠ 0 := by rw [hk, wv_cmp]; decide
  have hd : Vl.cmp (key f) (Bt.wv 5) ≠ 0 := by rw [hk2, wv_cmp]; decide
  refine (drop_unknown h1 hU (wv_rep W W.heap.size 5 (by omega)) (wv_kerr 5) (id := 1) (by rw [hf, Bt.at_miss hc, Bt.at_miss hd]; rfl)).mono ?_
  rintro ex w' ⟨rfl, hb⟩
  exact ⟨rfl, h.stays hb⟩
theorem lv_count {w W : World} {tb : Nat} (h : LvK w tb 3 [(1, [3, 7]), (2, [7])] W) :
    Calls Tryz.prog 18 #[.pointer (some ⟨tb, 0, none⟩)] W fun ex w' => ex = .returned (.int .i64 3) ∧ w' = W := by
  obtain ⟨F, t, key, ids, ir, e, f, h1, h2, h3, hf, hk, hk2, hi⟩ := lv_flat h
  exact count_tree tb 3 _ W h1.box
theorem lv_depth {w W : World} {tb : Nat} (h : LvK w tb 3 [(1, [3, 7]), (2, [7])] W) :
    Calls Tryz.prog 20 #[.pointer (some ⟨tb, 0, none⟩)] W fun ex w' => ex = .returned (.int .i64 1) ∧ w' = W := by
  obtain ⟨F, t, key, ids, ir, e, f, h1, h2, h3, hf, hk, hk2, hi⟩ := lv_flat h
  have hl : Bt.levels t = 1 := by
    rw [h1.lev, hf, show [e, f].length = 2 from rfl, Bt.fewest_pos (by omega), show 2 / 4 = 0 from rfl, Bt.fewest_zero]
  have := depth_tree tb 3 t W h1.box h1.nt (by omega)
  rw [hl] at this
  exact this
/-- what is asked for within a bound -/
theorem lv_range {w W : World} {tb : Nat} (hU : Bn.HasU W) (h : LvK w tb 3 [(1, [3, 7]), (2, [7])] W) :
    Calls Tryz.prog 11 #[.pointer (some ⟨tb, 0, none⟩), .agg #[.bool false, .bool false, .int .u8 0, .bool false, .int .i64 0, .string ⟨#[]⟩, .slice none 0 0, .slice none 0 0], .agg #[.bool true, .bool true, .int .u8 2, .bool false, .int .i64 2, .string ⟨#[]⟩, .slice none 0 0, .slice none 0 0]] W fun ex w' => ∃ g cap i cap2, ex = .returned (.tuple #[.slice (some ⟨g, 0, none⟩) 1 cap, .int .i64 0]) ∧ LvK w tb 3 [(1, [3, 7]), (2, [7])] w' ∧ w'.cell? ⟨g, 6, none⟩ = some (.slice (some ⟨i, 0, none⟩) 2 cap2) ∧ i < w'.heap.size ∧ w'.cell? ⟨i, 0, none⟩ = some (.int .u64 3) ∧ w'.cell? ⟨i, 1, none⟩ = some (.int .u64 7) := by
  obtain ⟨F, t, key, ids, ir, e, f, h1, h2, h3, hf, hk, hk2, hi⟩ := lv_flat h
  have hwl : Bt.wl key none (some (true, Bt.wv 2)) t = [e] := by
    rw [Bt.wl_flat h1.wf h1.rises, hf]
    have a1 : Bt.inR none (some (true, Bt.wv 2)) (key e) = true := by
      rw [hk]
      simp only [Bt.inR, Bt.lb, Bt.ub]
      rw [wv_cmp]
      decide
    have a2 : Bt.inR none (some (true, Bt.wv 2)) (key f) = false := by
      rw [hk2]
      simp only [Bt.inR, Bt.lb, Bt.ub]
      rw [wv_cmp]
      decide
    simp [List.filter, a1, a2]
  refine (range_ok h1 hU none (some (true, Bt.wv 2)) _ _ (bnd_none _ _) ⟨true, true, _, _, _, _, _, _, Bt.wv 2, rfl, wv_rep W W.heap.size 2 (by omega), by simp⟩ (fun p hp => by cases hp) (fun p hp => by cases hp; exact wv_kerr 2)).mono ?_
  rintro ex w' ⟨v, B, rfl, hB, hR⟩
  rw [hwl] at hR
  obtain ⟨cs, q1, q2, q3⟩ := hR.ents
  obtain ⟨c, rfl⟩ : ∃ c, cs = [c] := List.length_eq_one_iff.1 q1
  obtain ⟨k0, k1, k2, k3, k4, k5, i, cap2, rfl, _, _, hI⟩ := q3 0 e c rfl rfl
  rw [hi] at hI q2
  rcases q2.2 with ⟨_, q⟩ | ⟨g, cap, cur, rfl, _, hc, _, _, _, htk⟩
  · cases q
  · refine ⟨g, cap, i, cap2, rfl, h.stays hR.below, ?_, ?_⟩
    · refine cells_at hc 6 _ ?_
      have e6 : (cur.toList.take ([e].length * 7))[6]? = some (.slice (some ⟨i, 0, none⟩) 2 cap2) := by rw [htk]; rfl
      rw [List.getElem?_take_of_lt (by simp), Array.getElem?_toList] at e6
      exact e6
    · obtain ⟨_, p1, p2⟩ := ids_cells hI
      exact ⟨p1, p2 0 3 rfl, p2 1 7 rfl⟩
end Go.Proofs.YtkigenldiinioaaGreatDoor
/- What the statements about trees ask first: walked. -/
namespace Go.Proofs.YtkigenldiinioaaGreatDoor
open Go.RowKit
open Vl (V)
attribute [local go_sem ↓] Go.wp_at_zero Go.wp_at_succ
set_option maxHeartbeats 4000000 in
set_option maxRecDepth 100000 in
theorem livesB_c (w : World) (hU : Bn.HasU w) : Calls Tryz.prog 10 #[] w fun e w' => e = .returned (.bool true) ∧ Below w.heap.size w w' := by
  have HU : Hid (∀ W tb n L, LvK w tb n L W → Bn.HasU W) := fun W tb n L h => by
    obtain ⟨_, _, _, _, _, _, _, hb, _⟩ := h
    exact hU.stays hb
  have CN : Hid (Calls Tryz.prog 23 #[] w fun e w' => ∃ tb, e = .returned (.pointer (some ⟨tb, 0, none⟩)) ∧ LvK w tb 0 [] w') := (new_c w).mono (by
    rintro e w' ⟨rfl, rfl⟩
    exact ⟨w.heap.size, rfl, LvK.new (below_new _ _) (Nat.le_refl _) (heap_alloc_new w _)⟩)
  have CW : Hid (∀ W tb n L m, LvK w tb n L W → Calls Tryz.prog 28 #[.int .i64 m] W fun e w' => e = .returned (Bt.wa m) ∧ LvK w tb n L w') := fun W tb n L m h => (whole_c m W).mono (by
    rintro e w' ⟨rfl, hb⟩
    exact ⟨rfl, h.stays hb⟩)
  have CI7 : Hid (∀ W g c, g < W.heap.size → W.cell? ⟨g, 0, none⟩ = some (.int .u64 3) → W.cell? ⟨g, 1, none⟩ = some (.int .u64 7) → Calls Tryz.prog 16 #[.slice (some ⟨g, 0, none⟩) 2 c, .slice (some ⟨W.heap.size, 0, none⟩) 2 2] (W.alloc (.cells #[.int .u64 3, .int .u64 7] 51)) fun e w' => e = .returned (.bool true) ∧ Below W.heap.size W w') := fun W g c hg h0 h1 => by
    have hb := below_new W (.cells #[.int .u64 3, .int .u64 7] 51)
    have hn := heap_alloc_new W (.cells #[.int .u64 3, .int .u64 7] 51)
    refine (ids_c [3, 7] [3, 7] (some ⟨g, 0, none⟩) (some ⟨W.heap.size, 0, none⟩) c 2 _ (by simp) (fun j x hj => ⟨g, rfl, by simp; omega, ?_⟩) (fun j x hj => ⟨W.heap.size, rfl, by simp, ?_⟩)).mono ?_
    · match j, hj with
      | 0, hj => cases hj; exact (hb.cell (p := ⟨g, 0, none⟩) hg).trans h0
      | 1, hj => cases hj; exact (hb.cell (p := ⟨g, 1, none⟩) hg).trans h1
    · match j, hj with
      | 0, hj => cases hj; exact cells_at hn 0 _ rfl
      | 1, hj => cases hj; exact cells_at hn 1 _ rfl
    · rintro e w' ⟨rfl, hb2⟩
      exact ⟨by simp, hb.trans (hb2.mono (by simp))⟩
  clear hU
  go_enter Tryz.func10, Tryz.ntmps10
  go_wp2_with fail
  refine CN.out.mono ?_
  rintro e w1 ⟨tb, rfl, H1⟩
  have K1 : Hid (LvK w tb 0 [] w1) := H1
  clear H1 CN
  go_wp2_with fail
  refine (CW.out _ _ _ _ _ K1.out).mono ?_
  rintro e w2 ⟨rfl, H2⟩
  have K2 : Hid (LvK w tb 0 [] w2) := H2
  clear H2 K1
  go_wp2_with fail
  refine (lv_put1 (HU.out _ _ _ _ K2.out) K2.out).mono ?_
  rintro e w3 ⟨rfl, H3⟩
  have K3 : Hid (LvK w tb 1 [(1, [7])] w3) := H3
  clear H3 K2
  go_wp2_with fail
  refine (CW.out _ _ _ _ _ K3.out).mono ?_
  rintro e w4 ⟨rfl, H4⟩
  have K4 : Hid (LvK w tb 1 [(1, [7])] w4) := H4
  clear H4 K3
  go_wp2_with fail
  refine (lv_put2 (HU.out _ _ _ _ K4.out) K4.out).mono ?_
  rintro e w5 ⟨rfl, H5⟩
  have K5 : Hid (LvK w tb 2 [(1, [3, 7])] w5) := H5
  clear H5 K4
  go_wp2_with fail
  refine (CW.out _ _ _ _ _ K5.out).mono ?_
  rintro e w6 ⟨rfl, H6⟩
  have K6 : Hid (LvK w tb 2 [(1, [3, 7])] w6) := H6
  clear H6 K5
  go_wp2_with fail
  refine (lv_put3 (HU.out _ _ _ _ K6.out) K6.out).mono ?_
  rintro e w7 ⟨rfl, H7⟩
  have K7 : Hid (LvK w tb 3 [(1, [3, 7]), (2, [7])] w7) := H7
  clear H7 K6
  go_wp2_with fail
  refine (CW.out _ _ _ _ _ K7.out).mono ?_
  rintro e w8 ⟨rfl, H8⟩
  have K8 : Hid (LvK w tb 3 [(1, [3, 7]), (2, [7])] w8) := H8
  clear H8 K7
  go_wp2_with fail
  refine (lv_put4 (HU.out _ _ _ _ K8.out) K8.out).mono ?_
  rintro e w9 ⟨rfl, H9⟩
  have K9 : Hid (LvK w tb 3 [(1, [3, 7]), (2, [7])] w9) := H9
  clear H9 K8
  go_wp2_with fail
  refine (CW.out _ _ _ _ _ K9.out).mono ?_
  rintro e w10 ⟨rfl, H10⟩
  have K10 : Hid (LvK w tb 3 [(1, [3, 7]), (2, [7])] w10) := H10
  clear H10 K9
  unfold Bt.wa
  go_wp2_with fail
  refine (lv_range (HU.out _ _ _ _ K10.out) K10.out).mono ?_
  rintro e w11 ⟨g, cap, i, cap2, rfl, H11, c6, hil, c0, c1⟩
  have K11 : Hid (LvK w tb 3 [(1, [3, 7]), (2, [7])] w11 ∧ i < w11.heap.size ∧ w11.cell? ⟨i, 0, none⟩ = some (.int .u64 3) ∧ w11.cell? ⟨i, 1, none⟩ = some (.int .u64 7)) := ⟨H11, hil, c0, c1⟩
  clear H11 K10 hil c0 c1
  go_wp2_with fail
  refine (CI7.out _ _ _ K11.out.2.1 K11.out.2.2.1 K11.out.2.2.2).mono ?_
  rintro e w12 ⟨rfl, hb12⟩
  have K12 : Hid (LvK w tb 3 [(1, [3, 7]), (2, [7])] w12) := K11.out.1.stays hb12
  clear hb12 K11 c6
  go_wp2_with fail
  refine (lv_count K12.out).mono ?_
  rintro e w13 ⟨rfl, rfl⟩
  go_wp2_with fail
  refine (lv_depth K12.out).mono ?_
  rintro e w14 ⟨rfl, rfl⟩
  go_wp2_with fail
  refine (CW.out _ _ _ _ _ K12.out).mono ?_
  rintro e w15 ⟨rfl, H15⟩
  have K15 : Hid (LvK w tb 3 [(1, [3, 7]), (2, [7])] w15) := H15
  clear H15 K12
  go_wp2_with fail
  refine (lv_drop (HU.out _ _ _ _ K15.out) K15.out).mono ?_
  rintro e w16 ⟨rfl, H16⟩
  have K16 : Hid (LvK w tb 3 [(1, [3, 7]), (2, [7])] w16) := H16
  clear H16 K15
  go_wp2
  go_ret
  refine ⟨rfl, ?_⟩
  obtain ⟨_, _, _, _, _, _, _, hb, _⟩ := K16.out
  exact hb
end Go.Proofs.YtkigenldiinioaaGreatDoor
/- Two trees beside one another; keys that rise and keys that fall. -/
namespace Go.Proofs.YtkigenldiinioaaGreatDoor
open Go.RowKit Go.Shelf
open Vl (V)
theorem TSt.oF {w : World} {F O : Nat → Prop} {tb : Nat} {L : List (V × List Nat)} (h : TSt w F O tb L) : ∀ g, O g → F g := by
  obtain ⟨_, _, _, _, _, _, _, _, h⟩ := h
  exact h
/-- two trees beside one another -/
def RS (w : World) (ub db : Nat) (A B : List (V × List Nat)) (W : World) : Prop := ∃ F O P, TSt W F O ub A ∧ TSt W F P db B ∧ (∀ g, O g → ¬ P g) ∧ (∀ g, F g → w.heap.size ≤ g) ∧ Below w.heap.size w W
theorem RS.swap {w W : World} {ub db : Nat} {A B : List (V × List Nat)} (h : RS w ub db A B W) : RS w db ub B A W := by
  obtain ⟨F, O, P, h1, h2, h3, h4, h5⟩ := h
  exact ⟨F, P, O, h2, h1, fun g q q2 => h3 g q2 q, h4, h5⟩
theorem RS.stays {w W W' : World} {ub db : Nat} {A B : List (V × List Nat)} (h : RS w ub db A B W) (hb : Below W.heap.size W W') : RS w ub db A B W' := by
  obtain ⟨F, O, P, h1, h2, h3, h4, h5⟩ := h
  exact ⟨F, O, P, h1.stays hb, h2.stays hb, h3, h4, h5.trans (hb.mono h5.size)⟩
theorem RS.below {w W : World} {ub db : Nat} {A B : List (V × List Nat)} (h : RS w ub db A B W) : Below w.heap.size w W := by
  obtain ⟨F, O, P, h1, h2, h3, h4, h5⟩ := h
  exact h5
theorem RS.start {w W : World} {ub db : Nat} (hne : ub ≠ db) (h1 : W.heap[ub]? = some (.cells #[.pointer none, .int .i64 0] 69 (0, 0))) (h2 : W.heap[db]? = some (.cells #[.pointer none, .int .i64 0] 69 (0, 0))) (hu : w.heap.size ≤ ub) (hd : w.heap.size ≤ db) (hb : Below w.heap.size w W) : RS w ub db [] [] W := by
  refine ⟨fun g => g = ub ∨ g = db, _, _, TSt.start h1 (.inl rfl) ?_, TSt.start h2 (.inr rfl) ?_, fun g q q2 => hne (q.symm.trans q2), fun g hg => ?_, hb⟩
  · rintro g (rfl | rfl)
    · exact lt_of_row h1
    · exact lt_of_row h2
  · rintro g (rfl | rfl)
    · exact lt_of_row h1
    · exact lt_of_row h2
  · rcases hg with rfl | rfl
    · exact hu
    · exact hd
theorem rs_put {w W : World} {ub db : Nat} {A B : List (V × List Nat)} (h : RS w ub db A B W) (hU : Bn.HasU w) {x : V} {v : Value} (hv : ∀ W', Rep W' W'.heap.size x v) (hx : Bt.kerr x = 0) (hsm : Vl.small x) {id : Nat} (he : ∀ p ∈ A, Vl.cmp p.1 x ≠ 0) (hn : Bt.lsum A < 1024) :
    Calls Tryz.prog 24 #[.pointer (some ⟨ub, 0, none⟩), v, .int .u64 (id : Int)] W fun ex w' => ex = .returned (.int .i64 0) ∧ RS w ub db (Bt.lnew x id A) B w' := by
  obtain ⟨F, O, P, h1, h2, h3, h4, h5⟩ := h
  have oF := h1.oF
  refine (put_t h1 (hU.stays h5) (hv W) hx hsm he hn).mono ?_
  rintro ex w' ⟨rfl, F', O', k1, k2, k3, k4, k5, k6⟩
  refine ⟨rfl, F', O', P, k1, h2.other k2 (fun g q q2 => h3 g q2 q) oF k3 k4 (fun g q => k1.lt q), fun g q q2 => ?_, fun g q => ?_, ?_⟩
  · rcases k5 g q with q3 | q3
    · exact h3 g q3 q2
    · have := h2.lt (h2.oF g q2)
      omega
  · rcases k4 g q with q3 | q3
    · exact h4 g q3
    · have := h5.size; omega
  · exact h5.trans (k2.below (fun g q => h4 g (oF g q)) h5.size)
namespace Bt
def upL (id i : Nat) : List (V × List Nat) := (List.range i).map fun k => (wv ((k : Nat) : Int), [id])
def dnL (id n i : Nat) : List (V × List Nat) := (List.range i).map fun k => (wv ((n - i + k : Nat) : Int), [id])
theorem wv_lt {m n : Nat} : (Vl.cmp (wv (m : Int)) (wv (n : Int)) < 0 ↔ m < n) ∧ (Vl.cmp (wv (m : Int)) (wv (n : Int)) = 0 ↔ m = n) := by
  rw [wv_cmp]
  unfold Lib.compareInt
  constructor
  · split <;> (try split) <;> omega
  · split <;> (try split) <;> omega
theorem lspot_all {x : V} : ∀ {L : List (V × List Nat)}, (∀ p ∈ L, Vl.cmp p.1 x < 0) → lspot x L = L.length
  | [], _ => rfl
  | p :: r, h => by
    have := lspot_all (x := x) (L := r) fun q hq => h q (by simp [hq])
    rw [lspot] at this ⊢
    rw [List.takeWhile_cons_of_pos (by simpa using h p (by simp)), List.length_cons, this, List.length_cons]
theorem lspot_none {x : V} : ∀ {L : List (V × List Nat)}, (∀ p ∈ L, ¬ Vl.cmp p.1 x < 0) → lspot x L = 0
  | [], _ => rfl
  | p :: r, h => by
    rw [lspot, List.takeWhile_cons_of_neg (by simpa using h p (by simp))]
    rfl
theorem upL_mem {id i : Nat} {p : V × List Nat} (h : p ∈ upL id i) : ∃ k, k < i ∧ p = (wv (k : Int), [id]) := by
  obtain ⟨k, hk, rfl⟩ := List.mem_map.1 h
  exact ⟨k, List.mem_range.1 hk, rfl⟩
theorem dnL_mem {id n i : Nat} {p : V × List Nat} (h : p ∈ dnL id n i) : ∃ k, k < i ∧ p = (wv ((n - i + k : Nat) : Int), [id]) := by
  obtain ⟨k, hk, rfl⟩ := List.mem_map.1 h
  exact ⟨k, List.mem_range.1 hk, rfl⟩
theorem lnew_up (id i : Nat) : lnew (wv (i : Int)) id (upL id i) = upL id (i + 1) := by
  have h : ∀ p ∈ upL id i, Vl.cmp p.1 (wv (i : Int)) < 0 := fun p hp => by
    obtain ⟨k, hk, rfl⟩ := upL_mem hp
    exact wv_lt.1.2 hk
  rw [lnew, lspot_all h, List.take_length, List.drop_length, upL, upL, List.range_succ, List.map_append]
  rfl
theorem lnew_dn {id n i d : Nat} (hd : d = n - 1 - i) (hi : i < n) : lnew (wv (d : Int)) id (dnL id n i) = dnL id n (i + 1) := by
  have h : ∀ p ∈ dnL id n i, ¬ Vl.cmp p.1 (wv (d : Int)) < 0 := fun p hp => by
    obtain ⟨k, hk, rfl⟩ := dnL_mem hp
    rw [wv_lt.1]
    omega
  rw [lnew, lspot_none h, List.take_zero, List.drop_zero, List.nil_append, dnL, dnL, List.range_succ_eq_map, List.map_cons, List.map_map]
  have e1 : n - (i + 1) + 0 = d := by omega
  rw [e1]
  congr 1
  refine List.map_congr_left fun k _ => ?_
  have e2 : n - i + k = n - (i + 1) + (k + 1) := by omega
  show _ = (wv ((n - (i + 1) + (k + 1) : Nat) : Int), [id])
  rw [e2]
theorem dn_up (id n : Nat) : dnL id n n = upL id n := by
  rw [dnL, upL]
  refine List.map_congr_left fun k _ => ?_
  rw [show n - n + k = k by omega]
theorem upL_length (id i : Nat) : (upL id i).length = i := by rw [upL, List.length_map, List.length_range]
theorem dnL_length (id n i : Nat) : (dnL id n i).length = i := by rw [dnL, List.length_map, List.length_range]
theorem lsum_ones : ∀ {L : List (V × List Nat)}, (∀ p ∈ L, p.2.length = 1) → lsum L = L.length
  | [], _ => rfl
  | p :: r, h => by
    have := lsum_ones (L := r) fun q hq => h q (by simp [hq])
    have h1 := h p (by simp)
    rw [lsum] at this ⊢
    rw [List.map_cons, List.sum_cons, this, h1, List.length_cons]
    omega
theorem up_sum (id i : Nat) : lsum (upL id i) = i := by
  rw [lsum_ones (fun p hp => by obtain ⟨k, _, rfl⟩ := upL_mem hp; rfl), upL_length]
theorem dn_sum (id n i : Nat) : lsum (dnL id n i) = i := by
  rw [lsum_ones (fun p hp => by obtain ⟨k, _, rfl⟩ := dnL_mem hp; rfl), dnL_length]
theorem up_new (id i : Nat) : ∀ p ∈ upL id i, Vl.cmp p.1 (wv (i : Int)) ≠ 0 := fun p hp => by
  obtain ⟨k, hk, rfl⟩ := upL_mem hp
  intro q
  have := wv_lt.2.1 q
  omega
theorem dn_new {id n i d : Nat} (hd : d = n - 1 - i) (hi : i < n) : ∀ p ∈ dnL id n i, Vl.cmp p.1 (wv (d : Int)) ≠ 0 := fun p hp => by
  obtain ⟨k, hk, rfl⟩ := dnL_mem hp
  intro q
  have := wv_lt.2.1 q
  omega
/-- how many binary digits a number has -/
def digs (k : Nat) : Nat := if h : k = 0 then 0 else 1 + digs (k / 2)
theorem digs_zero : digs 0 = 0 := by rw [digs]; rfl
theorem digs_pos {k : Nat} (h : k ≠ 0) : digs k = 1 + digs (k / 2) := by rw [digs, dif_neg h]
theorem digs_mono : ∀ {a b : Nat}, a ≤ b → digs a ≤ digs b
  | a, b, h => by
    by_cases ha : a = 0
    · subst ha; rw [digs_zero]; omega
    · rw [digs_pos ha, digs_pos (show b ≠ 0 by omega)]
      have := digs_mono (a := a / 2) (b := b / 2) (by omega)
      omega
termination_by a _ _ => a
decreasing_by omega
theorem fewest_digs (m : Nat) : fewest m ≤ digs (m + 1) := by
  induction m using Nat.strongRecOn with
  | _ m ih =>
    by_cases h : m = 0
    · subst h; rw [fewest_zero]; omega
    · rw [fewest_pos h, digs_pos (by omega)]
      have h1 := ih (m / 4) (by omega)
      have h2 := digs_mono (a := m / 4 + 1) (b := (m + 1) / 2) (by omega)
      omega
theorem digs_small {k : Nat} (h : k ≤ 1000000) : digs k ≤ 100 := by
  have h1 : ∀ m a, a < 2 ^ m → digs a ≤ m := by
    intro m
    induction m with
    | zero => intro a ha; rw [show a = 0 by simpa using ha, digs_zero]; omega
    | succ m ih =>
      intro a ha
      by_cases h0 : a = 0
      · subst h0; rw [digs_zero]; omega
      · rw [digs_pos h0]
        have := ih (a / 2) (by rw [Nat.pow_succ] at ha; omega)
        omega
  have := h1 20 k (by omega)
  omega
theorem filter_all (L : List (V × List Nat)) : L.filter (fun p => inR none none p.1) = L := List.filter_eq_self.2 fun _ _ => rfl
end Bt
end Go.Proofs.YtkigenldiinioaaGreatDoor
