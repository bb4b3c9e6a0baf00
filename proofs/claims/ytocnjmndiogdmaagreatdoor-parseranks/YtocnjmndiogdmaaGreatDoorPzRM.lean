/- Which operator goes first: the law ParseRanks, walked. -/
import Derived.Test.YtocnjmndiogdmaaGreatDoorPzRmM
namespace Go.Proofs.YtocnjmndiogdmaaGreatDoor
open Go.RowKit
namespace Ps
theorem mod6 (a : Nat) : ∃ i : Nat, i < 6 ∧ (a : Int).tmod 6 = (i : Int) ∧ (a : Int) % 6 = (i : Int) ∧ (i : Int) < 6 ∧ (0 : Int) ≤ (i : Int) ∧ i ≤ 9223372036854775807 := ⟨a % 6, by omega, (Int.ofNat_tmod a 6).symm, by omega, by omega, by omega, by omega⟩
theorem rtx_len (i k : Nat) : (rtx i k).length ≤ 33 := by
  have l1 := sgn_len i
  have l2 := sgn_len k
  rw [rtx]
  simp only [List.length_append, List.length_cons, List.length_nil]
  omega
theorem le63 {a : Nat} (h : a < 256) : a ≤ 9223372036854775807 := by omega
def pick6 (v0 v1 v2 v3 v4 v5 : Value) (i : Nat) : Value := match i with | 0 => v0 | 1 => v1 | 2 => v2 | 3 => v3 | 4 => v4 | _ => v5
theorem row6 {W : World} {g : Nat} {v0 v1 v2 v3 v4 v5 : Value} {t : TypeId} (h : W.heap[g]? = some (.cells #[v0, v1, v2, v3, v4, v5] t (0, 0))) (i : Nat) (hi : i < 6) : W.cell? ⟨g, i, none⟩ = some (pick6 v0 v1 v2 v3 v4 v5 i) := by
  rw [cell_of_row _ _ _ _ _ _ h]
  match i, hi with
  | 0, _ => rfl
  | 1, _ => rfl
  | 2, _ => rfl
  | 3, _ => rfl
  | 4, _ => rfl
  | 5, _ => rfl
theorem sgn_at (i : Nat) : pick6 (.string ⟨#[79, 82]⟩) (.string ⟨#[65, 78, 68]⟩) (.string ⟨#[61]⟩) (.string ⟨#[43]⟩) (.string ⟨#[45]⟩) (.string ⟨#[42]⟩) i = Value.string (Lx.bs (sgn i)) := by
  rcases i with _ | _ | _ | _ | _ | i <;> rfl
theorem kdn_at (i : Nat) : pick6 (.int .u8 22) (.int .u8 21) (.int .u8 15) (.int .u8 12) (.int .u8 13) (.int .u8 14) i = Value.int .u8 ((kdn i : Nat) : Int) := by
  rcases i with _ | _ | _ | _ | _ | i <;> rfl
theorem rkn_at (i : Nat) : pick6 (.int .i64 0) (.int .i64 1) (.int .i64 2) (.int .i64 3) (.int .i64 3) (.int .i64 4) i = Value.int .i64 ((rkn i : Nat) : Int) := by
  rcases i with _ | _ | _ | _ | _ | i <;> rfl
theorem sts_not_zero {W : World} {a : Option Addr} {l : List Sp} {B : Nat} (h : Sts W a l) (hz : W.heap[B]? = some (.cells #[.int .u8 0, .string ⟨#[]⟩, .string ⟨#[]⟩, .slice none 0 0, .slice none 0 0, .bool false, .bool false] 34 (0, 0))) (h0 : l ≠ []) : ∀ g o, a = some ⟨g, o, none⟩ → g ≠ B := fun g o e q => by
  obtain ⟨p, hp⟩ : ∃ p, l[0]? = some p := ⟨_, List.getElem?_eq_getElem (List.length_pos_iff.2 h0)⟩
  obtain ⟨g', o', e', c0, _, c2⟩ := h 0 p hp
  rw [e] at e'
  cases e'
  subst q
  rw [cell_of_row _ _ _ _ _ _ hz] at c0 c2
  rw [Nat.zero_mul, Nat.add_zero] at c0 c2
  match o, c0, c2 with
  | 0, _, c2 => cases c2
  | 1, c0, _ => cases c0
  | 2, c0, _ => cases c0
  | 3, c0, _ => cases c0
  | 4, c0, _ => cases c0
  | 5, c0, _ => cases c0
  | 6, c0, _ => cases c0
  | n + 7, c0, _ =>
    rw [Array.getElem?_eq_none (by simp)] at c0
    cases c0
set_option maxHeartbeats 8000000 in
set_option maxRecDepth 100000 in
theorem ranks_w (a b : Nat) (ha : a < 256) (hb : b < 256) (w : World) (hO : HasO w) (hL : HasL w) : Calls Tryz.prog 5 #[.int .u8 (a : Int), .int .u8 (b : Int)] w fun e w' => e = .returned (.bool true) ∧ Below w.heap.size w w' := by
  have LV : Hid (Calls Tryz.prog 6 #[] w fun e w' => e = .returned (.bool true) ∧ Below w.heap.size w w') := lives_c w hO hL
  obtain ⟨wa1, wa2⟩ := wrp (x := (a : Int)) (c := a) rfl (le63 ha)
  obtain ⟨wb1, wb2⟩ := wrp (x := (b : Int)) (c := b) rfl (le63 hb)
  obtain ⟨i, hi6, i1, i2, i3, i4, i5⟩ := mod6 a
  obtain ⟨k, hk6, k1, k2, k3, k4, k5⟩ := mod6 b
  obtain ⟨wi1, wi2⟩ := wrp (x := (i : Int)) (c := i) rfl i5
  obtain ⟨wk1, wk2⟩ := wrp (x := (k : Int)) (c := k) rfl k5
  have HOK := hidp (rank_ok i hi6 k hk6)
  have l1 := sgn_len i
  have l2 := sgn_len k
  obtain ⟨x, hx⟩ : ∃ x, x = (parseX (rtx i k)).1 := ⟨_, rfl⟩
  obtain ⟨y, hy⟩ : ∃ y, y = (parseX (rtx i k)).2.1 := ⟨_, rfl⟩
  have HXY : Hid (x = (parseX (rtx i k)).1 ∧ y = (parseX (rtx i k)).2.1) := ⟨hx, hy⟩
  obtain ⟨tx, htx⟩ : ∃ tx, tx = Lx.bs (rtx i k) := ⟨_, rfl⟩
  have CP : Hid (∀ W, Below w.heap.size w W → Calls Tryz.prog 11 #[.string tx] W fun e w' => ∃ ia ic ea ec, ∃ ps : Int, e = .returned (.tuple #[.agg #[.int .u8 (x.kind : Int), .string (Lx.bs x.table), .string (Lx.bs x.field), .slice ia x.items.length ic, .slice ea x.expr.length ec, .bool x.history, .bool x.desc], .int .i64 (y : Int), .int .i64 ps]) ∧ Hid (Below W.heap.size W w' ∧ StM w' ia ea x)) := fun W hW => by
    rw [htx]
    refine (parse_c (rtx i k) (Nat.le_trans (rtx_len i k) (by decide)) W (hO.stays hW) (hL.stays hW)).mono ?_
    rintro e w' ⟨ia, ic, ea, ec, rfl, G⟩
    rw [← hx, ← hy]
    rw [← hx] at G
    exact ⟨ia, ic, ea, ec, _, rfl, G.out.1, G.out.2.1⟩
  have a1 := add_s (a := ⟨#[68, 69, 76, 69, 84, 69, 32, 70, 82, 79, 77, 32, 116, 32, 87, 72, 69, 82, 69, 32, 112, 32]⟩) (b := Lx.bs (sgn i)) (x := [68, 69, 76, 69, 84, 69, 32, 70, 82, 79, 77, 32, 116, 32, 87, 72, 69, 82, 69, 32, 112, 32]) (y := sgn i) rfl rfl (by simp only [List.length_cons, List.length_nil]; omega)
  have a2 := add_s (a := Lx.bs ([68, 69, 76, 69, 84, 69, 32, 70, 82, 79, 77, 32, 116, 32, 87, 72, 69, 82, 69, 32, 112, 32] ++ sgn i)) (b := ⟨#[32, 113, 32]⟩) (x := [68, 69, 76, 69, 84, 69, 32, 70, 82, 79, 77, 32, 116, 32, 87, 72, 69, 82, 69, 32, 112, 32] ++ sgn i) (y := [32, 113, 32]) rfl rfl (by simp only [List.length_append, List.length_cons, List.length_nil]; omega)
  have a3 := add_s (a := Lx.bs ([68, 69, 76, 69, 84, 69, 32, 70, 82, 79, 77, 32, 116, 32, 87, 72, 69, 82, 69, 32, 112, 32] ++ sgn i ++ [32, 113, 32])) (b := Lx.bs (sgn k)) (x := [68, 69, 76, 69, 84, 69, 32, 70, 82, 79, 77, 32, 116, 32, 87, 72, 69, 82, 69, 32, 112, 32] ++ sgn i ++ [32, 113, 32]) (y := sgn k) rfl rfl (by simp only [List.length_append, List.length_cons, List.length_nil]; omega)
  have a4 := add_s (a := Lx.bs ([68, 69, 76, 69, 84, 69, 32, 70, 82, 79, 77, 32, 116, 32, 87, 72, 69, 82, 69, 32, 112, 32] ++ sgn i ++ [32, 113, 32] ++ sgn k)) (b := ⟨#[32, 114]⟩) (x := [68, 69, 76, 69, 84, 69, 32, 70, 82, 79, 77, 32, 116, 32, 87, 72, 69, 82, 69, 32, 112, 32] ++ sgn i ++ [32, 113, 32] ++ sgn k) (y := [32, 114]) rfl rfl (by simp only [List.length_append, List.length_cons, List.length_nil]; omega)
  have htx2 : tx = Lx.bs ([68, 69, 76, 69, 84, 69, 32, 70, 82, 79, 77, 32, 116, 32, 87, 72, 69, 82, 69, 32, 112, 32] ++ sgn i ++ [32, 113, 32] ++ sgn k ++ [32, 114]) := htx
  obtain ⟨z3, hz3⟩ : ∃ z, z = Lx.bs ([68, 69, 76, 69, 84, 69, 32, 70, 82, 79, 77, 32, 116, 32, 87, 72, 69, 82, 69, 32, 112, 32] ++ sgn i ++ [32, 113, 32] ++ sgn k) := ⟨_, rfl⟩
  obtain ⟨z2, hz2⟩ : ∃ z, z = Lx.bs ([68, 69, 76, 69, 84, 69, 32, 70, 82, 79, 77, 32, 116, 32, 87, 72, 69, 82, 69, 32, 112, 32] ++ sgn i ++ [32, 113, 32]) := ⟨_, rfl⟩
  obtain ⟨z1, hz1⟩ : ∃ z, z = Lx.bs ([68, 69, 76, 69, 84, 69, 32, 70, 82, 79, 77, 32, 116, 32, 87, 72, 69, 82, 69, 32, 112, 32] ++ sgn i) := ⟨_, rfl⟩
  obtain ⟨si, hsi⟩ : ∃ z, z = Lx.bs (sgn i) := ⟨_, rfl⟩
  obtain ⟨sk, hsk⟩ : ∃ z, z = Lx.bs (sgn k) := ⟨_, rfl⟩
  rw [← hz1, ← hsi] at a1
  rw [← hz1, ← hz2] at a2
  rw [← hz2, ← hsk, ← hz3] at a3
  rw [← hz3, ← htx2] at a4
  have SI : Hid (si = Lx.bs (sgn i) ∧ sk = Lx.bs (sgn k)) := ⟨hsi, hsk⟩
  have HI : Hid (i < 6 ∧ k < 6) := ⟨hi6, hk6⟩
  clear hx hy htx htx2 hz1 hz2 hz3 hsi hsk hO hL l1 l2 ha hb hi6 hk6 i5 k5
  go_enter Tryz.func5, Tryz.ntmps5
  go_wp2_with fail
  refine (LV.out).mono ?_
  rintro e w1 ⟨rfl, hb1⟩
  have X1 := hidp hb1
  clear hb1 LV
  obtain ⟨g, hg⟩ : ∃ g, g = w1.heap.size := ⟨_, rfl⟩
  obtain ⟨w2, hw2⟩ : ∃ w2, w2 = w1.alloc (.cells #[.string ⟨#[79, 82]⟩, .string ⟨#[65, 78, 68]⟩, .string ⟨#[61]⟩, .string ⟨#[43]⟩, .string ⟨#[45]⟩, .string ⟨#[42]⟩] 9) := ⟨_, rfl⟩
  obtain ⟨w3, hw3⟩ : ∃ w3, w3 = w2.alloc (.cells #[.int .u8 22, .int .u8 21, .int .u8 15, .int .u8 12, .int .u8 13, .int .u8 14] 23) := ⟨_, rfl⟩
  obtain ⟨w4, hw4⟩ : ∃ w4, w4 = w3.alloc (.cells #[.int .i64 0, .int .i64 1, .int .i64 2, .int .i64 3, .int .i64 3, .int .i64 4] 3) := ⟨_, rfl⟩
  have e2 : w2.heap.size = g + 1 := by rw [hw2, hg]; simp
  have e3 : w3.heap.size = g + 1 + 1 := by rw [hw3]; simp [e2]
  have b2 : Below w1.heap.size w1 w2 := by rw [hw2]; exact bnew _ _
  have b3 : Below w2.heap.size w2 w3 := by rw [hw3]; exact bnew _ _
  have b4 : Below w3.heap.size w3 w4 := by rw [hw4]; exact bnew _ _
  have r1 : w2.heap[g]? = some (.cells #[.string ⟨#[79, 82]⟩, .string ⟨#[65, 78, 68]⟩, .string ⟨#[61]⟩, .string ⟨#[43]⟩, .string ⟨#[45]⟩, .string ⟨#[42]⟩] 9 (0, 0)) := by rw [hw2, hg]; exact heap_alloc_new w1 _
  have r2 : w3.heap[g + 1]? = some (.cells #[.int .u8 22, .int .u8 21, .int .u8 15, .int .u8 12, .int .u8 13, .int .u8 14] 23 (0, 0)) := by rw [← e2, hw3]; exact heap_alloc_new w2 _
  have r3 : w4.heap[g + 1 + 1]? = some (.cells #[.int .i64 0, .int .i64 1, .int .i64 2, .int .i64 3, .int .i64 3, .int .i64 4] 3 (0, 0)) := by rw [← e3, hw4]; exact heap_alloc_new w3 _
  have r1' := (b4.block g (Nat.lt_of_lt_of_le (row_lt r1) b3.size)).trans ((b3.block g (row_lt r1)).trans r1)
  have r2' := (b4.block (g + 1) (row_lt r2)).trans r2
  have X4 : Hid (Below w.heap.size w w4) := X1.out.trans ((b2.trans ((b3.trans (b4.mono b3.size)).mono b2.size)).mono X1.out.size)
  have SC : Hid (∀ W, Below w4.heap.size w4 W → W.cell? ⟨g, i, none⟩ = some (.string si) ∧ W.cell? ⟨g, k, none⟩ = some (.string sk) ∧ W.cell? ⟨g + 1, i, none⟩ = some (.int .u8 (kdn i : Int)) ∧ W.cell? ⟨g + 1, k, none⟩ = some (.int .u8 (kdn k : Int)) ∧ W.cell? ⟨g + 1 + 1, i, none⟩ = some (.int .i64 (rkn i : Int)) ∧ W.cell? ⟨g + 1 + 1, k, none⟩ = some (.int .i64 (rkn k : Int))) := fun W hW => by
    have q1 := (hW.block g (row_lt r1')).trans r1'
    have q2 := (hW.block (g + 1) (row_lt r2')).trans r2'
    have q3 := (hW.block (g + 1 + 1) (row_lt r3)).trans r3
    refine ⟨(row6 q1 i HI.out.1).trans (congrArg some ?_), (row6 q1 k HI.out.2).trans (congrArg some ?_), (row6 q2 i HI.out.1).trans (congrArg some (kdn_at i)), (row6 q2 k HI.out.2).trans (congrArg some (kdn_at k)), (row6 q3 i HI.out.1).trans (congrArg some (rkn_at i)), (row6 q3 k HI.out.2).trans (congrArg some (rkn_at k))⟩
    · rw [SI.out.1]; exact sgn_at i
    · rw [SI.out.2]; exact sgn_at k
  have HG : Hid (g < w4.heap.size) := row_lt r1'
  clear e2 e3 b2 b3 b4 r1 r2 r3 r1' r2'
  obtain ⟨s1, s2, s3, s4, s5, s6⟩ := SC.out w4 (Below.refl _ _)
  go_upto_region 7 with fail
  rw [← hw2, ← hw3, ← hw4, ← hg]
  clear hw2 hw3 hw4 hg
  clear wa1 wa2 wb1 wb2 wi1 wi2 wk1 wk2 i1 i2 k1 k2
  have HD : Hid (Below w4.heap.size w4 w4.drew) := (Below.refl _ _).drew
  have HZ : Hid ((w4.drew.alloc (.cells #[.int .u8 0, .string ⟨#[]⟩, .string ⟨#[]⟩, .slice none 0 0, .slice none 0 0, .bool false, .bool false] 34)).heap[w4.heap.size]? = some (.cells #[.int .u8 0, .string ⟨#[]⟩, .string ⟨#[]⟩, .slice none 0 0, .slice none 0 0, .bool false, .bool false] 34 (0, 0))) := heap_alloc_new w4.drew _
  have ng1 : ¬ w4.heap.size = g := Nat.ne_of_gt HG.out
  have ng2 : ¬ g = w4.heap.size := Nat.ne_of_lt HG.out
  go_region_held3 (fun W' => W'.cell? ⟨g, i, none⟩ = some (.string si) ∧ W'.cell? ⟨g, k, none⟩ = some (.string sk)) (go_keep) (first
    | (go_at_call 11; refine (CP.out _ (X4.out.trans (HD.out.mono X4.out.size))).mono ?_; rintro e w5 ⟨ia, ic, ea, ec, ps, rfl, G5⟩
       have X5 : Hid (Below w4.heap.size w4 w5) := (HD.out.trans (G5.out.1.mono HD.out.size))
       have ng3 : ¬ w5.heap.size = g := (Nat.ne_of_gt (Nat.lt_of_lt_of_le HG.out X5.out.size))
       have ng4 : ¬ g = w5.heap.size := (Nat.ne_of_lt (Nat.lt_of_lt_of_le HG.out X5.out.size))
       obtain ⟨s1, s2, s3, s4, s5, s6⟩ := SC.out w5 X5.out)
    | (go_at_call 11; refine (CP.out _ (X4.out.trans ((HD.out.alloc HD.out.size _).mono X4.out.size))).mono ?_; rintro e w5 ⟨ia, ic, ea, ec, ps, rfl, G5⟩
       have X5 : Hid (Below w4.heap.size w4 w5) := ((HD.out.alloc HD.out.size _).trans (G5.out.1.mono (HD.out.alloc HD.out.size _).size))
       have Z5 : Hid (w5.heap[w4.heap.size]? = some (.cells #[.int .u8 0, .string ⟨#[]⟩, .string ⟨#[]⟩, .slice none 0 0, .slice none 0 0, .bool false, .bool false] 34 (0, 0))) := ((G5.out.1.block w4.heap.size (row_lt HZ.out)).trans HZ.out)
       have d0 : w5.cell? ⟨w4.heap.size, 0, none⟩ = some (.int .u8 0) := (by rw [cell_of_row _ _ _ _ _ _ Z5.out]; rfl)
       have d1 : w5.cell? ⟨w4.heap.size, 1, none⟩ = some (.string ⟨#[]⟩) := (by rw [cell_of_row _ _ _ _ _ _ Z5.out]; rfl)
       have d2 : w5.cell? ⟨w4.heap.size, 2, none⟩ = some (.string ⟨#[]⟩) := (by rw [cell_of_row _ _ _ _ _ _ Z5.out]; rfl)
       have d3 : w5.cell? ⟨w4.heap.size, 3, none⟩ = some (.slice none 0 0) := (by rw [cell_of_row _ _ _ _ _ _ Z5.out]; rfl)
       have d4 : w5.cell? ⟨w4.heap.size, 4, none⟩ = some (.slice none 0 0) := (by rw [cell_of_row _ _ _ _ _ _ Z5.out]; rfl)
       have d5 : w5.cell? ⟨w4.heap.size, 5, none⟩ = some (.bool false) := (by rw [cell_of_row _ _ _ _ _ _ Z5.out]; rfl)
       have d6 : w5.cell? ⟨w4.heap.size, 6, none⟩ = some (.bool false) := (by rw [cell_of_row _ _ _ _ _ _ Z5.out]; rfl)
       have rf : ∀ r, w5.frozen? ⟨w4.heap.size, r, none⟩ = false := (fun r => by simp [World.frozen?, Z5.out])
       have rl : w4.heap.size < w5.heap.size := row_lt Z5.out
       obtain ⟨s1, s2, s3, s4, s5, s6⟩ := SC.out w5 X5.out)
    )
  · obtain ⟨w6, hw6⟩ : ∃ w6, w6 = w5.alloc (.cells #[.int .u8 (x.kind : Int), .string (Lx.bs x.table), .string (Lx.bs x.field), .slice ia x.items.length ic, .slice ea x.expr.length ec, .bool x.history, .bool x.desc] 34) := ⟨_, rfl⟩
    obtain ⟨X, hX⟩ : ∃ X, X = w5.heap.size := ⟨_, rfl⟩
    have X6 : Hid (w6.heap[X]? = some (.cells #[.int .u8 (x.kind : Int), .string (Lx.bs x.table), .string (Lx.bs x.field), .slice ia x.items.length ic, .slice ea x.expr.length ec, .bool x.history, .bool x.desc] 34 (0, 0)) ∧ Below w4.heap.size w4 w6 ∧ Sts w6 ea x.expr) := by
      have hb : Below w5.heap.size w5 w6 := by rw [hw6]; exact bnew _ _
      exact ⟨by rw [hw6, hX]; exact heap_alloc_new w5 _, X5.out.trans (hb.mono X5.out.size), G5.out.2.exp.call hb⟩
    clear ng1 ng2 ng3 ng4 s1 s2 s3 s4 s5 s6
    rw [← hw6, ← hX]
    clear hw6 hX
    have FB : Hid (Below w.heap.size w w6) := X4.out.trans (X6.out.2.1.mono X4.out.size)
    obtain ⟨s1, s2, s3, s4, s5, s6⟩ := SC.out w6 X6.out.2.1
    have y4 : w6.cell? ⟨X, 4, none⟩ = some (.slice ea x.expr.length ec) := by rw [cell_of_row _ _ _ _ _ _ X6.out.1]; rfl
    by_cases h22 : i = 2 ∧ k = 2
    · obtain ⟨rfl, rfl⟩ := h22
      have hy : y = 13 := by
        have h := HOK.out
        rw [rankOk, if_pos ⟨rfl, rfl⟩, decide_eq_true_iff, ← HXY.out.2] at h
        exact h
      subst hy
      go_wp2
      go_ret
      exact ⟨rfl, FB.out⟩
    · have h := HOK.out
      rw [rankOk, if_neg h22] at h
      simp only [Bool.and_eq_true, decide_eq_true_iff] at h
      rw [← HXY.out.1, ← HXY.out.2] at h
      obtain ⟨⟨⟨⟨hy, hl5⟩, h4⟩, h2⟩, h0⟩ := h
      subst hy
      obtain ⟨p0, hp0, t0⟩ := Option.map_eq_some_iff.1 h0
      obtain ⟨p2, hp2, t2⟩ := Option.map_eq_some_iff.1 h2
      obtain ⟨p4, hp4, t4⟩ := Option.map_eq_some_iff.1 h4
      obtain ⟨ge, oe, rfl, _, c0t, _⟩ := X6.out.2.2 0 p0 hp0
      obtain ⟨ge', oe', e', c2k, _⟩ := X6.out.2.2 2 p2 hp2
      cases e'
      obtain ⟨ge', oe', e', c4k, _⟩ := X6.out.2.2 4 p4 hp4
      cases e'
      rw [t0, Nat.zero_mul, Nat.add_zero] at c0t
      rw [t4] at c4k
      obtain ⟨K2, hK2⟩ : ∃ K2, K2 = p2.kind := ⟨_, rfl⟩
      rw [← hK2] at c2k t2
      rw [hl5] at y4 ⊢
      have q8 : (((i : Int) == 2) = false) ∨ (((i : Int) == 2) = true ∧ ((k : Int) == 2) = false) := by
        by_cases e : i = 2
        · right
          refine ⟨by rw [e]; rfl, ?_⟩
          have : k ≠ 2 := fun q => h22 ⟨e, q⟩
          simp
          omega
        · left
          simp
          omega
      have c0t' : w6.cell? ⟨ge, oe + 1, none⟩ = some (.string ⟨#[112]⟩) := c0t
      have c2k' : w6.cell? ⟨ge, oe + 6, none⟩ = some (.int .u8 (K2 : Int)) := c2k
      clear h22 hl5 h4 h2 h0 hp0 hp2 hp4 t0 t4 hK2 c0t c2k X6 HOK HXY CP SC X4
      by_cases hlt : rkn i < rkn k
      · have c4k' : w6.cell? ⟨ge, oe + 12, none⟩ = some (.int .u8 (kdn i : Int)) := by rw [if_pos hlt] at c4k; exact c4k
        have qlt : ((rkn i : Nat) : Int) < ((rkn k : Nat) : Int) := by omega
        have qge : ¬ ((rkn k : Nat) : Int) ≤ ((rkn i : Nat) : Int) := by omega
        have q2 : ((K2 : Int) == ((kdn i : Nat) : Int)) = false := by
          rw [decide_eq_false (by omega : ¬ rkn k ≤ rkn i)] at t2
          have : K2 ≠ kdn i := of_decide_eq_false t2
          simp
          omega
        clear hlt t2 c4k
        rcases q8 with q8 | ⟨q8, q9⟩
        · go_upto_region 13 with fail
          go_region_held3 (fun W' => W'.cell? ⟨g + 1 + 1, i, none⟩ = some (.int .i64 (rkn i : Int)) ∧ W'.cell? ⟨g + 1 + 1, k, none⟩ = some (.int .i64 (rkn k : Int))) (go_keep) (fail)
          go_upto_region 15 with fail
          go_region_held3 (fun W' => W'.cell? ⟨X, 4, none⟩ = some (.slice (some ⟨ge, oe, none⟩) 5 ec) ∧ W'.cell? ⟨ge, oe + 6, none⟩ = some (.int .u8 (K2 : Int)) ∧ W'.cell? ⟨g + 1, i, none⟩ = some (.int .u8 (kdn i : Int))) (go_keep) (fail)
          go_upto_region 16 with fail
          go_region_held3 (fun W' => W'.cell? ⟨X, 4, none⟩ = some (.slice (some ⟨ge, oe, none⟩) 5 ec) ∧ W'.cell? ⟨ge, oe + 12, none⟩ = some (.int .u8 (kdn i : Int)) ∧ W'.cell? ⟨ge, oe + 1, none⟩ = some (.string ⟨#[112]⟩) ∧ W'.cell? ⟨g + 1 + 1, i, none⟩ = some (.int .i64 (rkn i : Int)) ∧ W'.cell? ⟨g + 1 + 1, k, none⟩ = some (.int .i64 (rkn k : Int))) (go_keep) (fail)
          go_wp2
          go_ret
          exact ⟨rfl, by first | exact FB.out | exact FB.out.drew | exact FB.out.drew.drew.drew⟩
        · go_upto_region 13 with fail
          go_region_held3 (fun W' => W'.cell? ⟨g + 1 + 1, i, none⟩ = some (.int .i64 (rkn i : Int)) ∧ W'.cell? ⟨g + 1 + 1, k, none⟩ = some (.int .i64 (rkn k : Int))) (go_keep) (fail)
          go_upto_region 15 with fail
          go_region_held3 (fun W' => W'.cell? ⟨X, 4, none⟩ = some (.slice (some ⟨ge, oe, none⟩) 5 ec) ∧ W'.cell? ⟨ge, oe + 6, none⟩ = some (.int .u8 (K2 : Int)) ∧ W'.cell? ⟨g + 1, i, none⟩ = some (.int .u8 (kdn i : Int))) (go_keep) (fail)
          go_upto_region 16 with fail
          go_region_held3 (fun W' => W'.cell? ⟨X, 4, none⟩ = some (.slice (some ⟨ge, oe, none⟩) 5 ec) ∧ W'.cell? ⟨ge, oe + 12, none⟩ = some (.int .u8 (kdn i : Int)) ∧ W'.cell? ⟨ge, oe + 1, none⟩ = some (.string ⟨#[112]⟩) ∧ W'.cell? ⟨g + 1 + 1, i, none⟩ = some (.int .i64 (rkn i : Int)) ∧ W'.cell? ⟨g + 1 + 1, k, none⟩ = some (.int .i64 (rkn k : Int))) (go_keep) (fail)
          go_wp2
          go_ret
          exact ⟨rfl, by first | exact FB.out | exact FB.out.drew | exact FB.out.drew.drew.drew⟩
      · have c4k' : w6.cell? ⟨ge, oe + 12, none⟩ = some (.int .u8 (kdn k : Int)) := by rw [if_neg hlt] at c4k; exact c4k
        have qlt : ¬ ((rkn i : Nat) : Int) < ((rkn k : Nat) : Int) := by omega
        have qge : ((rkn k : Nat) : Int) ≤ ((rkn i : Nat) : Int) := by omega
        have q2 : ((K2 : Int) == ((kdn i : Nat) : Int)) = true := by
          rw [decide_eq_true (by omega : rkn k ≤ rkn i)] at t2
          have : K2 = kdn i := of_decide_eq_true t2
          rw [this]
          simp
        clear hlt t2 c4k
        rcases q8 with q8 | ⟨q8, q9⟩
        · go_upto_region 13 with fail
          go_region_held3 (fun W' => W'.cell? ⟨g + 1 + 1, i, none⟩ = some (.int .i64 (rkn i : Int)) ∧ W'.cell? ⟨g + 1 + 1, k, none⟩ = some (.int .i64 (rkn k : Int))) (go_keep) (fail)
          go_upto_region 15 with fail
          go_region_held3 (fun W' => W'.cell? ⟨X, 4, none⟩ = some (.slice (some ⟨ge, oe, none⟩) 5 ec) ∧ W'.cell? ⟨ge, oe + 6, none⟩ = some (.int .u8 (K2 : Int)) ∧ W'.cell? ⟨g + 1, i, none⟩ = some (.int .u8 (kdn i : Int))) (go_keep) (fail)
          go_upto_region 16 with fail
          go_region_held3 (fun W' => W'.cell? ⟨X, 4, none⟩ = some (.slice (some ⟨ge, oe, none⟩) 5 ec) ∧ W'.cell? ⟨ge, oe + 12, none⟩ = some (.int .u8 (kdn k : Int)) ∧ W'.cell? ⟨ge, oe + 1, none⟩ = some (.string ⟨#[112]⟩) ∧ W'.cell? ⟨g + 1 + 1, i, none⟩ = some (.int .i64 (rkn i : Int)) ∧ W'.cell? ⟨g + 1 + 1, k, none⟩ = some (.int .i64 (rkn k : Int))) (go_keep) (fail)
          go_wp2
          go_ret
          exact ⟨rfl, by first | exact FB.out | exact FB.out.drew | exact FB.out.drew.drew.drew⟩
        · go_upto_region 13 with fail
          go_region_held3 (fun W' => W'.cell? ⟨g + 1 + 1, i, none⟩ = some (.int .i64 (rkn i : Int)) ∧ W'.cell? ⟨g + 1 + 1, k, none⟩ = some (.int .i64 (rkn k : Int))) (go_keep) (fail)
          go_upto_region 15 with fail
          go_region_held3 (fun W' => W'.cell? ⟨X, 4, none⟩ = some (.slice (some ⟨ge, oe, none⟩) 5 ec) ∧ W'.cell? ⟨ge, oe + 6, none⟩ = some (.int .u8 (K2 : Int)) ∧ W'.cell? ⟨g + 1, i, none⟩ = some (.int .u8 (kdn i : Int))) (go_keep) (fail)
          go_upto_region 16 with fail
          go_region_held3 (fun W' => W'.cell? ⟨X, 4, none⟩ = some (.slice (some ⟨ge, oe, none⟩) 5 ec) ∧ W'.cell? ⟨ge, oe + 12, none⟩ = some (.int .u8 (kdn k : Int)) ∧ W'.cell? ⟨ge, oe + 1, none⟩ = some (.string ⟨#[112]⟩) ∧ W'.cell? ⟨g + 1 + 1, i, none⟩ = some (.int .i64 (rkn i : Int)) ∧ W'.cell? ⟨g + 1 + 1, k, none⟩ = some (.int .i64 (rkn k : Int))) (go_keep) (fail)
          go_wp2
          go_ret
          exact ⟨rfl, by first | exact FB.out | exact FB.out.drew | exact FB.out.drew.drew.drew⟩
  · obtain ⟨w6, hw6⟩ : ∃ w6, w6 = ((((((w5.setCell ⟨w4.heap.size, 0, none⟩ (.int .u8 (x.kind : Int))).setCell ⟨w4.heap.size, 1, none⟩ (.string (Lx.bs x.table))).setCell ⟨w4.heap.size, 2, none⟩ (.string (Lx.bs x.field))).setCell ⟨w4.heap.size, 3, none⟩ (.slice ia x.items.length ic)).setCell ⟨w4.heap.size, 4, none⟩ (.slice ea x.expr.length ec)).setCell ⟨w4.heap.size, 5, none⟩ (.bool x.history)).setCell ⟨w4.heap.size, 6, none⟩ (.bool x.desc) := ⟨_, rfl⟩
    obtain ⟨X, hX⟩ : ∃ X, X = w4.heap.size := ⟨_, rfl⟩
    have X6 : Hid (w6.heap[X]? = some (.cells #[.int .u8 (x.kind : Int), .string (Lx.bs x.table), .string (Lx.bs x.field), .slice ia x.items.length ic, .slice ea x.expr.length ec, .bool x.history, .bool x.desc] 34 (0, 0)) ∧ Below w4.heap.size w4 w6 ∧ Sts w6 ea x.expr) := by
      have k := sets_keep w4.heap.size [.int .u8 (x.kind : Int), .string (Lx.bs x.table), .string (Lx.bs x.field), .slice ia x.items.length ic, .slice ea x.expr.length ec, .bool x.history, .bool x.desc] 0 w5
      have hw6' : w6 = w5.setCells w4.heap.size 0 [.int .u8 (x.kind : Int), .string (Lx.bs x.table), .string (Lx.bs x.field), .slice ia x.items.length ic, .slice ea x.expr.length ec, .bool x.history, .bool x.desc] := hw6
      rw [← hw6'] at k
      refine ⟨by rw [hw6', hX]; exact put7 Z5.out _ _ _ _ _ _ _, X5.out.trans (k.below (fun g e => by rw [e]; exact Nat.le_refl _) X5.out.size), ?_⟩
      by_cases h0 : x.expr = []
      · rw [h0]; exact Sts.nil _ _
      · intro j p hp
        obtain ⟨g', o', e', c0, c1, c2⟩ := G5.out.2.exp j p hp
        have hne := sts_not_zero G5.out.2.exp Z5.out h0 g' o' e'
        have hbk : w6.heap[g']? = w5.heap[g']? := k.block g' (block_lt_of_cell c0) (fun e => hne e)
        have mv : ∀ r v, w5.cell? ⟨g', r, none⟩ = some v → w6.cell? ⟨g', r, none⟩ = some v := fun r v hv => by
          have e : w6.cell? ⟨g', r, none⟩ = w5.cell? ⟨g', r, none⟩ := World.cell?_of_block hbk
          rw [e]; exact hv
        exact ⟨g', o', e', mv _ _ c0, mv _ _ c1, mv _ _ c2⟩
    clear ng1 ng2 d0 d1 d2 d3 d4 d5 d6 rf rl s1 s2 s3 s4 s5 s6
    clear Z5
    rw [← hw6, ← hX]
    clear hw6 hX
    have FB : Hid (Below w.heap.size w w6) := X4.out.trans (X6.out.2.1.mono X4.out.size)
    obtain ⟨s1, s2, s3, s4, s5, s6⟩ := SC.out w6 X6.out.2.1
    have y4 : w6.cell? ⟨X, 4, none⟩ = some (.slice ea x.expr.length ec) := by rw [cell_of_row _ _ _ _ _ _ X6.out.1]; rfl
    by_cases h22 : i = 2 ∧ k = 2
    · obtain ⟨rfl, rfl⟩ := h22
      have hy : y = 13 := by
        have h := HOK.out
        rw [rankOk, if_pos ⟨rfl, rfl⟩, decide_eq_true_iff, ← HXY.out.2] at h
        exact h
      subst hy
      go_wp2
      go_ret
      exact ⟨rfl, FB.out⟩
    · have h := HOK.out
      rw [rankOk, if_neg h22] at h
      simp only [Bool.and_eq_true, decide_eq_true_iff] at h
      rw [← HXY.out.1, ← HXY.out.2] at h
      obtain ⟨⟨⟨⟨hy, hl5⟩, h4⟩, h2⟩, h0⟩ := h
      subst hy
      obtain ⟨p0, hp0, t0⟩ := Option.map_eq_some_iff.1 h0
      obtain ⟨p2, hp2, t2⟩ := Option.map_eq_some_iff.1 h2
      obtain ⟨p4, hp4, t4⟩ := Option.map_eq_some_iff.1 h4
      obtain ⟨ge, oe, rfl, _, c0t, _⟩ := X6.out.2.2 0 p0 hp0
      obtain ⟨ge', oe', e', c2k, _⟩ := X6.out.2.2 2 p2 hp2
      cases e'
      obtain ⟨ge', oe', e', c4k, _⟩ := X6.out.2.2 4 p4 hp4
      cases e'
      rw [t0, Nat.zero_mul, Nat.add_zero] at c0t
      rw [t4] at c4k
      obtain ⟨K2, hK2⟩ : ∃ K2, K2 = p2.kind := ⟨_, rfl⟩
      rw [← hK2] at c2k t2
      rw [hl5] at y4 ⊢
      have q8 : (((i : Int) == 2) = false) ∨ (((i : Int) == 2) = true ∧ ((k : Int) == 2) = false) := by
        by_cases e : i = 2
        · right
          refine ⟨by rw [e]; rfl, ?_⟩
          have : k ≠ 2 := fun q => h22 ⟨e, q⟩
          simp
          omega
        · left
          simp
          omega
      have c0t' : w6.cell? ⟨ge, oe + 1, none⟩ = some (.string ⟨#[112]⟩) := c0t
      have c2k' : w6.cell? ⟨ge, oe + 6, none⟩ = some (.int .u8 (K2 : Int)) := c2k
      clear h22 hl5 h4 h2 h0 hp0 hp2 hp4 t0 t4 hK2 c0t c2k X6 HOK HXY CP SC X4
      by_cases hlt : rkn i < rkn k
      · have c4k' : w6.cell? ⟨ge, oe + 12, none⟩ = some (.int .u8 (kdn i : Int)) := by rw [if_pos hlt] at c4k; exact c4k
        have qlt : ((rkn i : Nat) : Int) < ((rkn k : Nat) : Int) := by omega
        have qge : ¬ ((rkn k : Nat) : Int) ≤ ((rkn i : Nat) : Int) := by omega
        have q2 : ((K2 : Int) == ((kdn i : Nat) : Int)) = false := by
          rw [decide_eq_false (by omega : ¬ rkn k ≤ rkn i)] at t2
          have : K2 ≠ kdn i := of_decide_eq_false t2
          simp
          omega
        clear hlt t2 c4k
        rcases q8 with q8 | ⟨q8, q9⟩
        · go_upto_region 13 with fail
          go_region_held3 (fun W' => W'.cell? ⟨g + 1 + 1, i, none⟩ = some (.int .i64 (rkn i : Int)) ∧ W'.cell? ⟨g + 1 + 1, k, none⟩ = some (.int .i64 (rkn k : Int))) (go_keep) (fail)
          go_upto_region 15 with fail
          go_region_held3 (fun W' => W'.cell? ⟨X, 4, none⟩ = some (.slice (some ⟨ge, oe, none⟩) 5 ec) ∧ W'.cell? ⟨ge, oe + 6, none⟩ = some (.int .u8 (K2 : Int)) ∧ W'.cell? ⟨g + 1, i, none⟩ = some (.int .u8 (kdn i : Int))) (go_keep) (fail)
          go_upto_region 16 with fail
          go_region_held3 (fun W' => W'.cell? ⟨X, 4, none⟩ = some (.slice (some ⟨ge, oe, none⟩) 5 ec) ∧ W'.cell? ⟨ge, oe + 12, none⟩ = some (.int .u8 (kdn i : Int)) ∧ W'.cell? ⟨ge, oe + 1, none⟩ = some (.string ⟨#[112]⟩) ∧ W'.cell? ⟨g + 1 + 1, i, none⟩ = some (.int .i64 (rkn i : Int)) ∧ W'.cell? ⟨g + 1 + 1, k, none⟩ = some (.int .i64 (rkn k : Int))) (go_keep) (fail)
          go_wp2
          go_ret
          exact ⟨rfl, by first | exact FB.out | exact FB.out.drew | exact FB.out.drew.drew.drew⟩
        · go_upto_region 13 with fail
          go_region_held3 (fun W' => W'.cell? ⟨g + 1 + 1, i, none⟩ = some (.int .i64 (rkn i : Int)) ∧ W'.cell? ⟨g + 1 + 1, k, none⟩ = some (.int .i64 (rkn k : Int))) (go_keep) (fail)
          go_upto_region 15 with fail
          go_region_held3 (fun W' => W'.cell? ⟨X, 4, none⟩ = some (.slice (some ⟨ge, oe, none⟩) 5 ec) ∧ W'.cell? ⟨ge, oe + 6, none⟩ = some (.int .u8 (K2 : Int)) ∧ W'.cell? ⟨g + 1, i, none⟩ = some (.int .u8 (kdn i : Int))) (go_keep) (fail)
          go_upto_region 16 with fail
          go_region_held3 (fun W' => W'.cell? ⟨X, 4, none⟩ = some (.slice (some ⟨ge, oe, none⟩) 5 ec) ∧ W'.cell? ⟨ge, oe + 12, none⟩ = some (.int .u8 (kdn i : Int)) ∧ W'.cell? ⟨ge, oe + 1, none⟩ = some (.string ⟨#[112]⟩) ∧ W'.cell? ⟨g + 1 + 1, i, none⟩ = some (.int .i64 (rkn i : Int)) ∧ W'.cell? ⟨g + 1 + 1, k, none⟩ = some (.int .i64 (rkn k : Int))) (go_keep) (fail)
          go_wp2
          go_ret
          exact ⟨rfl, by first | exact FB.out | exact FB.out.drew | exact FB.out.drew.drew.drew⟩
      · have c4k' : w6.cell? ⟨ge, oe + 12, none⟩ = some (.int .u8 (kdn k : Int)) := by rw [if_neg hlt] at c4k; exact c4k
        have qlt : ¬ ((rkn i : Nat) : Int) < ((rkn k : Nat) : Int) := by omega
        have qge : ((rkn k : Nat) : Int) ≤ ((rkn i : Nat) : Int) := by omega
        have q2 : ((K2 : Int) == ((kdn i : Nat) : Int)) = true := by
          rw [decide_eq_true (by omega : rkn k ≤ rkn i)] at t2
          have : K2 = kdn i := of_decide_eq_true t2
          rw [this]
          simp
        clear hlt t2 c4k
        rcases q8 with q8 | ⟨q8, q9⟩
        · go_upto_region 13 with fail
          go_region_held3 (fun W' => W'.cell? ⟨g + 1 + 1, i, none⟩ = some (.int .i64 (rkn i : Int)) ∧ W'.cell? ⟨g + 1 + 1, k, none⟩ = some (.int .i64 (rkn k : Int))) (go_keep) (fail)
          go_upto_region 15 with fail
          go_region_held3 (fun W' => W'.cell? ⟨X, 4, none⟩ = some (.slice (some ⟨ge, oe, none⟩) 5 ec) ∧ W'.cell? ⟨ge, oe + 6, none⟩ = some (.int .u8 (K2 : Int)) ∧ W'.cell? ⟨g + 1, i, none⟩ = some (.int .u8 (kdn i : Int))) (go_keep) (fail)
          go_upto_region 16 with fail
          go_region_held3 (fun W' => W'.cell? ⟨X, 4, none⟩ = some (.slice (some ⟨ge, oe, none⟩) 5 ec) ∧ W'.cell? ⟨ge, oe + 12, none⟩ = some (.int .u8 (kdn k : Int)) ∧ W'.cell? ⟨ge, oe + 1, none⟩ = some (.string ⟨#[112]⟩) ∧ W'.cell? ⟨g + 1 + 1, i, none⟩ = some (.int .i64 (rkn i : Int)) ∧ W'.cell? ⟨g + 1 + 1, k, none⟩ = some (.int .i64 (rkn k : Int))) (go_keep) (fail)
          go_wp2
          go_ret
          exact ⟨rfl, by first | exact FB.out | exact FB.out.drew | exact FB.out.drew.drew.drew⟩
        · go_upto_region 13 with fail
          go_region_held3 (fun W' => W'.cell? ⟨g + 1 + 1, i, none⟩ = some (.int .i64 (rkn i : Int)) ∧ W'.cell? ⟨g + 1 + 1, k, none⟩ = some (.int .i64 (rkn k : Int))) (go_keep) (fail)
          go_upto_region 15 with fail
          go_region_held3 (fun W' => W'.cell? ⟨X, 4, none⟩ = some (.slice (some ⟨ge, oe, none⟩) 5 ec) ∧ W'.cell? ⟨ge, oe + 6, none⟩ = some (.int .u8 (K2 : Int)) ∧ W'.cell? ⟨g + 1, i, none⟩ = some (.int .u8 (kdn i : Int))) (go_keep) (fail)
          go_upto_region 16 with fail
          go_region_held3 (fun W' => W'.cell? ⟨X, 4, none⟩ = some (.slice (some ⟨ge, oe, none⟩) 5 ec) ∧ W'.cell? ⟨ge, oe + 12, none⟩ = some (.int .u8 (kdn k : Int)) ∧ W'.cell? ⟨ge, oe + 1, none⟩ = some (.string ⟨#[112]⟩) ∧ W'.cell? ⟨g + 1 + 1, i, none⟩ = some (.int .i64 (rkn i : Int)) ∧ W'.cell? ⟨g + 1 + 1, k, none⟩ = some (.int .i64 (rkn k : Int))) (go_keep) (fail)
          go_wp2
          go_ret
          exact ⟨rfl, by first | exact FB.out | exact FB.out.drew | exact FB.out.drew.drew.drew⟩
end Ps
end Go.Proofs.YtocnjmndiogdmaaGreatDoor
