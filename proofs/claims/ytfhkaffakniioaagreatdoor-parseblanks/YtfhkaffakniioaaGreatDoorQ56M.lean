/- Several texts, joined: PyH, PyI, PyJ, PyK, PyL -/
import Derived.Test.YtfhkaffakniioaaGreatDoorPyEM
import Derived.Test.YtfhkaffakniioaaGreatDoorQ64M
import Derived.Test.YtfhkaffakniioaaGreatDoorQ47M
/- CREATE TABLE, CREATE INDEX, printed: walked. -/
namespace Go.Proofs.YtfhkaffakniioaaGreatDoor
open Go.RowKit
namespace Ps
set_option maxHeartbeats 8000000 in
set_option maxRecDepth 100000 in
theorem words1_c (x : St) (ia ea : Option Addr) (ic ec : Nat) (w : World) (h1 : x.kind = 1) : Calls Tryz.prog 24 #[.agg #[.int .u8 (x.kind : Int), .string (Lx.bs x.table), .string (Lx.bs x.field), .slice ia x.items.length ic, .slice ea x.expr.length ec, .bool x.history, .bool x.desc]] w fun e w' => ∃ a, e = .returned (.slice a 2 2) ∧ Hid (Below w.heap.size w w' ∧ SR w' a (wordsTx x)) := by
  obtain ⟨w1, hw1⟩ : ∃ w1, w1 = w.alloc (.cells #[.int .u8 (x.kind : Int), .string (Lx.bs x.table), .string (Lx.bs x.field), .slice ia x.items.length ic, .slice ea x.expr.length ec, .bool x.history, .bool x.desc] 26) := ⟨_, rfl⟩
  obtain ⟨T, hT⟩ : ∃ T, T = w.heap.size := ⟨_, rfl⟩
  have X1 : Hid (w1.heap[T]? = some (.cells #[.int .u8 (x.kind : Int), .string (Lx.bs x.table), .string (Lx.bs x.field), .slice ia x.items.length ic, .slice ea x.expr.length ec, .bool x.history, .bool x.desc] 26 (0, 0)) ∧ Below w.heap.size w w1) := ⟨by rw [hw1, hT]; exact heap_alloc_new w _, by rw [hw1]; exact bnew _ _⟩
  have YC : Hid (∀ r v, (#[.int .u8 (x.kind : Int), .string (Lx.bs x.table), .string (Lx.bs x.field), .slice ia x.items.length ic, .slice ea x.expr.length ec, .bool x.history, .bool x.desc] : Array Value)[r]? = some v → w1.cell? ⟨T, r, none⟩ = some v) := fun r v hv => by rw [cell_of_row _ _ _ _ _ _ X1.out.1]; exact hv
  have y0 := YC.out 0 _ rfl
  have y1 := YC.out 1 _ rfl
  have y2 := YC.out 2 _ rfl
  have k1 : ((x.kind : Int) == 1) = true := by rw [h1]; rfl
  have HW : Hid (wordsTx x = [[67, 82, 69, 65, 84, 69, 32, 84, 65, 66, 76, 69], x.table]) := by
    show _ = _
    rw [wordsTx, if_pos h1]
  obtain ⟨w2, hw2⟩ : ∃ w2, w2 = w1.alloc (.cells #[.string ⟨#[67, 82, 69, 65, 84, 69, 32, 84, 65, 66, 76, 69]⟩, .string (Lx.bs x.table)] 9) := ⟨_, rfl⟩
  obtain ⟨g, hg⟩ : ∃ g, g = w1.heap.size := ⟨_, rfl⟩
  have X2 : Hid (Below w.heap.size w w2 ∧ SR w2 (some ⟨g, 0, none⟩) (wordsTx x)) := by
    have h := heap_alloc_new w1 (.cells #[.string ⟨#[67, 82, 69, 65, 84, 69, 32, 84, 65, 66, 76, 69]⟩, .string (Lx.bs x.table)] 9)
    rw [← hw2, ← hg] at h
    refine ⟨X1.out.2.trans (by rw [hw2]; exact (bnew w1 _).mono X1.out.2.size), ?_⟩
    rw [HW.out]
    refine SR.made h fun j t ht => ?_
    match j, ht with
    | 0, ht => cases ht; rfl
    | 1, ht => cases ht; rfl
  clear h1
  go_enter Tryz.func24, Tryz.ntmps24
  go_upto_region 1 with fail
  rw [← hw1, ← hT]
  clear hw1 hT
  go_wp2
  rw [← hw2, ← hg]
  clear hw2 hg
  go_ret
  exact ⟨_, rfl, X2.out⟩
set_option maxHeartbeats 8000000 in
set_option maxRecDepth 100000 in
theorem words2_c (x : St) (ia ea : Option Addr) (ic ec : Nat) (w : World) (h2 : x.kind = 2) (hf : x.field.length ≤ 4611686018427387904) : Calls Tryz.prog 24 #[.agg #[.int .u8 (x.kind : Int), .string (Lx.bs x.table), .string (Lx.bs x.field), .slice ia x.items.length ic, .slice ea x.expr.length ec, .bool x.history, .bool x.desc]] w fun e w' => ∃ a, e = .returned (.slice a 3 3) ∧ Hid (Below w.heap.size w w' ∧ SR w' a (wordsTx x)) := by
  obtain ⟨w1, hw1⟩ : ∃ w1, w1 = w.alloc (.cells #[.int .u8 (x.kind : Int), .string (Lx.bs x.table), .string (Lx.bs x.field), .slice ia x.items.length ic, .slice ea x.expr.length ec, .bool x.history, .bool x.desc] 26) := ⟨_, rfl⟩
  obtain ⟨T, hT⟩ : ∃ T, T = w.heap.size := ⟨_, rfl⟩
  have X1 : Hid (w1.heap[T]? = some (.cells #[.int .u8 (x.kind : Int), .string (Lx.bs x.table), .string (Lx.bs x.field), .slice ia x.items.length ic, .slice ea x.expr.length ec, .bool x.history, .bool x.desc] 26 (0, 0)) ∧ Below w.heap.size w w1) := ⟨by rw [hw1, hT]; exact heap_alloc_new w _, by rw [hw1]; exact bnew _ _⟩
  have YC : Hid (∀ r v, (#[.int .u8 (x.kind : Int), .string (Lx.bs x.table), .string (Lx.bs x.field), .slice ia x.items.length ic, .slice ea x.expr.length ec, .bool x.history, .bool x.desc] : Array Value)[r]? = some v → w1.cell? ⟨T, r, none⟩ = some v) := fun r v hv => by rw [cell_of_row _ _ _ _ _ _ X1.out.1]; exact hv
  have y0 := YC.out 0 _ rfl
  have y1 := YC.out 1 _ rfl
  have y2 := YC.out 2 _ rfl
  have k1 : ((x.kind : Int) == 1) = false := by rw [h2]; rfl
  have k2 : ((x.kind : Int) == 2) = true := by rw [h2]; rfl
  have a1 := add_s (a := ⟨#[40]⟩) (b := Lx.bs x.field) (x := [40]) (y := x.field) rfl rfl (by show 1 + x.field.length ≤ _; omega)
  have a2 := add_s (a := Lx.bs ([40] ++ x.field)) (b := ⟨#[41]⟩) (x := [40] ++ x.field) (y := [41]) rfl rfl (by rw [List.length_append]; show 1 + x.field.length + 1 ≤ _; omega)
  obtain ⟨z1, hz1⟩ : ∃ z, z = Lx.bs ([40] ++ x.field) := ⟨_, rfl⟩
  obtain ⟨z2, hz2⟩ : ∃ z, z = Lx.bs ([40] ++ x.field ++ [41]) := ⟨_, rfl⟩
  rw [← hz1] at a1 a2
  rw [← hz2] at a2
  have HW : Hid (wordsTx x = [[67, 82, 69, 65, 84, 69, 32, 73, 78, 68, 69, 88, 32, 79, 78], x.table, [40] ++ x.field ++ [41]]) := by
    show _ = _
    rw [wordsTx, if_neg (by omega), if_pos h2]
  obtain ⟨w2, hw2⟩ : ∃ w2, w2 = w1.alloc (.cells #[.string ⟨#[67, 82, 69, 65, 84, 69, 32, 73, 78, 68, 69, 88, 32, 79, 78]⟩, .string (Lx.bs x.table), .string z2] 9) := ⟨_, rfl⟩
  obtain ⟨g, hg⟩ : ∃ g, g = w1.heap.size := ⟨_, rfl⟩
  have X2 : Hid (Below w.heap.size w w2 ∧ SR w2 (some ⟨g, 0, none⟩) (wordsTx x)) := by
    have h := heap_alloc_new w1 (.cells #[.string ⟨#[67, 82, 69, 65, 84, 69, 32, 73, 78, 68, 69, 88, 32, 79, 78]⟩, .string (Lx.bs x.table), .string z2] 9)
    rw [← hw2, ← hg] at h
    refine ⟨X1.out.2.trans (by rw [hw2]; exact (bnew w1 _).mono X1.out.2.size), ?_⟩
    rw [HW.out]
    refine SR.made h fun j t ht => ?_
    match j, ht with
    | 0, ht => cases ht; rfl
    | 1, ht => cases ht; rfl
    | 2, ht => cases ht; rw [hz2]; rfl
  clear h2 hf hz1 hz2
  go_enter Tryz.func24, Tryz.ntmps24
  go_upto_region 1 with fail
  rw [← hw1, ← hT]
  clear hw1 hT
  go_wp2
  rw [← hw2, ← hg]
  clear hw2 hg
  go_ret
  exact ⟨_, rfl, X2.out⟩
end Ps
end Go.Proofs.YtfhkaffakniioaaGreatDoor
/- DELETE, printed: walked. -/
namespace Go.Proofs.YtfhkaffakniioaaGreatDoor
open Go.RowKit
namespace Ps
theorem SR.src {W : World} {a : Option Addr} {l : List Bs} (h : SR W a l) : SrcC W a (l.map fun t => Value.string (Lx.bs t)) := fun j u hu => by
  rw [List.getElem?_map, Option.map_eq_some_iff] at hu
  obtain ⟨t, ht, rfl⟩ := hu
  exact h j t ht
theorem own_made2 (W : World) (B : Nat) (hB : B ≤ W.heap.size) (a b : Value) : (W.alloc (.cells #[a, b] 9)).ownsRow B 9 1 (.slice (some ⟨W.heap.size, 0, none⟩) 2 2) 2 [a, b] :=
  ⟨rfl, .inr ⟨_, 2, #[a, b], rfl, hB, heap_alloc_new W _, Nat.le_refl _, by decide, rfl, rfl⟩⟩
theorem SrcC.new {W : World} {a : Option Addr} {l : List Value} (h : SrcC W a l) (o : Obj) : SrcC (W.alloc o) a l := h.call (bnew W o)
set_option maxHeartbeats 8000000 in
set_option maxRecDepth 100000 in
theorem words5_c (x : St) (ia ea : Option Addr) (ic ec : Nat) (w : World) (h5 : x.kind = 5) (hr : rightC x.expr = true) (hx : FitX x) (hm : StM w ia ea x) (hL : HasL w) (hO : HasO w) : Calls Tryz.prog 24 #[.agg #[.int .u8 (x.kind : Int), .string (Lx.bs x.table), .string (Lx.bs x.field), .slice ia x.items.length ic, .slice ea x.expr.length ec, .bool x.history, .bool x.desc]] w fun e w' => ∃ a c, e = .returned (.slice a (wordsTx x).length c) ∧ Hid (Below w.heap.size w w' ∧ SR w' a (wordsTx x) ∧ (wordsTx x).length ≤ c ∧ c ≤ 9223372036854775807) := by
  obtain ⟨w1, hw1⟩ : ∃ w1, w1 = w.alloc (.cells #[.int .u8 (x.kind : Int), .string (Lx.bs x.table), .string (Lx.bs x.field), .slice ia x.items.length ic, .slice ea x.expr.length ec, .bool x.history, .bool x.desc] 26) := ⟨_, rfl⟩
  obtain ⟨T, hT⟩ : ∃ T, T = w.heap.size := ⟨_, rfl⟩
  have X1 : Hid (w1.heap[T]? = some (.cells #[.int .u8 (x.kind : Int), .string (Lx.bs x.table), .string (Lx.bs x.field), .slice ia x.items.length ic, .slice ea x.expr.length ec, .bool x.history, .bool x.desc] 26 (0, 0)) ∧ Below w.heap.size w w1) := ⟨by rw [hw1, hT]; exact heap_alloc_new w _, by rw [hw1]; exact bnew _ _⟩
  obtain ⟨m, hm0⟩ : ∃ m, m = (condTx x.expr).length := ⟨_, rfl⟩
  obtain ⟨L, hL0⟩ : ∃ L, L = (condTx x.expr).map fun t => Value.string (Lx.bs t) := ⟨_, rfl⟩
  have hm2 : m ≤ 2 := by
    rw [hm0, condTx]
    split
    · exact Nat.zero_le 2
    · exact Nat.le_refl 2
  have HLm : Hid (L.length = m * 1) := by show _ = _; rw [hL0, List.length_map, hm0, Nat.mul_one]
  have ones : Hid (∀ u ∈ L, u.oneCell' = true) := fun u hu => by
    rw [hL0] at hu
    obtain ⟨t, _, rfl⟩ := List.mem_map.1 hu
    rfl
  have fit : Hid (2 + m ≤ maxLen ∧ (2 + m) * 16 ≤ 140737488355328) := ⟨Nat.le_trans (show 2 + m ≤ 4 by omega) (by decide), by omega⟩
  have CC : Hid (∀ W, Below w1.heap.size w1 W → Calls Tryz.prog 47 #[.slice ea x.expr.length ec] W fun e w' => ∃ y cc, e = .returned (.slice y m cc) ∧ Hid (Below W.heap.size W w' ∧ SrcC w' y L)) := fun W hW => by
    have hB := X1.out.2.trans (hW.mono X1.out.2.size)
    refine (condition_c x.expr ea _ ec W (fun h0 => cond_right hr h0) rfl (hm.exp.call hB) hx.expr.2 (hL.stays hB) (hO.stays hB)).mono ?_
    rintro e w' ⟨a, c, rfl, G⟩
    obtain ⟨hb, a', c', hv, _, _, sr⟩ := G.out
    cases hv
    exact ⟨a, c, by rw [hm0], hb, by rw [hL0]; exact sr.src⟩
  have HW : Hid (wordsTx x = [[68, 69, 76, 69, 84, 69, 32, 70, 82, 79, 77], x.table] ++ condTx x.expr) := by
    show _ = _
    rw [wordsTx, if_neg (by omega), if_neg (by omega), if_neg (by omega), if_neg (by omega), if_pos h5]
  have HM : Hid ((wordsTx x).length = 2 + m) := by show _ = _; rw [HW.out, List.length_append, ← hm0]; rfl
  have FIN : Hid (∀ (W5 : World) (b : Option Addr) (cap : Nat), Below w1.heap.size w1 W5 → W5.ownsRow w1.heap.size 9 1 (.slice b (2 + m) cap) (2 + m) ([.string ⟨#[68, 69, 76, 69, 84, 69, 32, 70, 82, 79, 77]⟩, .string (Lx.bs x.table)] ++ L) → Below w1.heap.size w1 W5 ∧ SR W5 b (wordsTx x) ∧ 2 + m ≤ cap ∧ cap ≤ 9223372036854775807) := fun W5 b cap hb hn => by
    have hT : OwnT W5 w1.heap.size (.slice b (2 + m) cap) (wordsTx x) := by
      unfold OwnT
      rw [HM.out, HW.out, List.map_append, ← hL0]
      exact hn
    obtain ⟨_, c1, c2, c3⟩ := hT.sr
    exact ⟨hb, c2, c1, Nat.le_trans c3 (by decide)⟩
  have k1 : ((x.kind : Int) == 1) = false := by rw [h5]; rfl
  have k2 : ((x.kind : Int) == 2) = false := by rw [h5]; rfl
  have k3 : ((x.kind : Int) == 3) = false := by rw [h5]; rfl
  have k4 : ((x.kind : Int) == 4) = false := by rw [h5]; rfl
  have k5 : ((x.kind : Int) == 5) = true := by rw [h5]; rfl
  have YA : Hid (∀ W, Below w1.heap.size w1 W → W.cell? ⟨T, 0, none⟩ = some (.int .u8 (x.kind : Int)) ∧ W.cell? ⟨T, 1, none⟩ = some (.string (Lx.bs x.table)) ∧ W.cell? ⟨T, 4, none⟩ = some (.slice ea x.expr.length ec)) := fun W hW => by
    have r := (hW.block T (row_lt X1.out.1)).trans X1.out.1
    exact ⟨by rw [cell_of_row _ _ _ _ _ _ r]; rfl, by rw [cell_of_row _ _ _ _ _ _ r]; rfl, by rw [cell_of_row _ _ _ _ _ _ r]; rfl⟩
  obtain ⟨y0, y1, y4⟩ := YA.out w1 (Below.refl _ _)
  have HD : Hid (Below w1.heap.size w1 w1.drew) := (Below.refl _ _).drew
  obtain ⟨i0, hi, hz0, hz1, hz2⟩ := info_partsP infoStr
  clear h5 hr hx hm hL hO hm0 hL0 hm2
  go_enter Tryz.func24, Tryz.ntmps24
  go_upto_region 1 with fail
  rw [← hw1, ← hT]
  clear hw1 hT
  go_upto_region 11 with fail
  clear k1 k2 k3 k4 k5
  go_region_held3 (fun W' => W'.cell? ⟨T, 0, none⟩ = some (.int .u8 (x.kind : Int)) ∧ W'.cell? ⟨T, 1, none⟩ = some (.string (Lx.bs x.table)) ∧ W'.cell? ⟨T, 4, none⟩ = some (.slice ea x.expr.length ec)) (go_keep) (first
    | (go_at_call 47; refine (CC.out _ HD.out).mono ?_; rintro e w4 ⟨y, cc, rfl, G4⟩
       have X4 : Hid (Below w1.heap.size w1 w4) := (HD.out.trans (G4.out.1.mono HD.out.size))
       obtain ⟨y0, y1, y4⟩ := YA.out w4 X4.out)
    | (go_at_call 47; refine (CC.out _ (HD.out.alloc HD.out.size _)).mono ?_; rintro e w4 ⟨y, cc, rfl, G4⟩
       have X4 : Hid (Below w1.heap.size w1 w4) := ((HD.out.alloc HD.out.size _).trans (G4.out.1.mono (HD.out.alloc HD.out.size _).size))
       obtain ⟨y0, y1, y4⟩ := YA.out w4 X4.out)
    | (refine step_append_any (by rfl) _ _ _ (by rfl) w1.heap.size 9 i0 _ 1 16 Tryz.underlying50 hi hz0 hz1 hz2 rfl (by omega) _ _ _ (by rfl) (own_callL (own_made2 w1.drew w1.heap.size (Nat.le_refl _) _ _) G4.out.1) y m cc L (by rfl) HLm.out (G4.out.2) ones.out fit.out.1 fit.out.2 (X4.out).size ?_; intro b cap w5 hown5 hb5 hk5
       have X5 : Hid (Below w1.heap.size w1 w5 ∧ SR w5 b (wordsTx x) ∧ 2 + m ≤ cap ∧ cap ≤ 9223372036854775807) := (FIN.out w5 b cap ((X4.out).trans hb5) hown5)
       obtain ⟨y0, y1, y4⟩ := YA.out w5 X5.out.1
       clear hown5 hb5 hk5)
    | (refine step_append_any (by rfl) _ _ _ (by rfl) w1.heap.size 9 i0 _ 1 16 Tryz.underlying50 hi hz0 hz1 hz2 rfl (by omega) _ _ _ (by rfl) (own_made2 w4 w1.heap.size X4.out.size _ _) y m cc L (by rfl) HLm.out (G4.out.2.new _) ones.out fit.out.1 fit.out.2 (X4.out.alloc X4.out.size _).size ?_; intro b cap w5 hown5 hb5 hk5
       have X5 : Hid (Below w1.heap.size w1 w5 ∧ SR w5 b (wordsTx x) ∧ 2 + m ≤ cap ∧ cap ≤ 9223372036854775807) := (FIN.out w5 b cap ((X4.out.alloc X4.out.size _).trans hb5) hown5)
       obtain ⟨y0, y1, y4⟩ := YA.out w5 X5.out.1
       clear hown5 hb5 hk5)
    )
  all_goals
    have X6 : Hid (Below w.heap.size w w5) := X1.out.2.trans (X5.out.1.mono X1.out.2.size)
    clear y0 y1 y4
    go_wp2
    go_ret
    exact ⟨b, cap, by rw [HM.out]; rfl, X6.out, X5.out.2.1, by rw [HM.out]; exact X5.out.2.2.1, X5.out.2.2.2⟩
end Ps
end Go.Proofs.YtfhkaffakniioaaGreatDoor
/- INSERT, UPDATE, printed: walked. -/
namespace Go.Proofs.YtfhkaffakniioaaGreatDoor
open Go.RowKit
namespace Ps
set_option maxHeartbeats 8000000 in
set_option maxRecDepth 100000 in
theorem words3_c (x : St) (ia ea : Option Addr) (ic ec : Nat) (w : World) (h3 : x.kind = 3) (hr : rightE x.expr = true) (hx : FitX x) (hm : StM w ia ea x) (hL : HasL w) (hO : HasO w) : Calls Tryz.prog 24 #[.agg #[.int .u8 (x.kind : Int), .string (Lx.bs x.table), .string (Lx.bs x.field), .slice ia x.items.length ic, .slice ea x.expr.length ec, .bool x.history, .bool x.desc]] w fun e w' => ∃ a, e = .returned (.slice a 3 3) ∧ Hid (Below w.heap.size w w' ∧ SR w' a (wordsTx x)) := by
  obtain ⟨w1, hw1⟩ : ∃ w1, w1 = w.alloc (.cells #[.int .u8 (x.kind : Int), .string (Lx.bs x.table), .string (Lx.bs x.field), .slice ia x.items.length ic, .slice ea x.expr.length ec, .bool x.history, .bool x.desc] 26) := ⟨_, rfl⟩
  obtain ⟨T, hT⟩ : ∃ T, T = w.heap.size := ⟨_, rfl⟩
  have X1 : Hid (w1.heap[T]? = some (.cells #[.int .u8 (x.kind : Int), .string (Lx.bs x.table), .string (Lx.bs x.field), .slice ia x.items.length ic, .slice ea x.expr.length ec, .bool x.history, .bool x.desc] 26 (0, 0)) ∧ Below w.heap.size w w1) := ⟨by rw [hw1, hT]; exact heap_alloc_new w _, by rw [hw1]; exact bnew _ _⟩
  have HD : Hid (Below w1.heap.size w1 w1.drew) := (Below.refl _ _).drew
  obtain ⟨st, hst⟩ : ∃ st, st = shownE x.expr := ⟨_, rfl⟩
  have CS : Hid (∀ W, Below w1.heap.size w1 W → Calls Tryz.prog 27 #[.slice ea x.expr.length ec] W fun e w' => e = .returned (.string (Lx.bs st)) ∧ Below W.heap.size W w') := fun W hW => by
    have hB := X1.out.2.trans (hW.mono X1.out.2.size)
    rw [hst]
    exact shown_c x.expr ea _ ec W hr rfl (hm.exp.call hB) hx.expr.2 (hL.stays hB) (hO.stays hB)
  have HW : Hid (wordsTx x = [[73, 78, 83, 69, 82, 84, 32, 73, 78, 84, 79], x.table, st]) := by
    show _ = _
    rw [wordsTx, if_neg (by omega), if_neg (by omega), if_pos h3, hst]
  have k1 : ((x.kind : Int) == 1) = false := by rw [h3]; rfl
  have k2 : ((x.kind : Int) == 2) = false := by rw [h3]; rfl
  have k3 : ((x.kind : Int) == 3) = true := by rw [h3]; rfl
  have YA : Hid (∀ W, Below w1.heap.size w1 W → W.cell? ⟨T, 0, none⟩ = some (.int .u8 (x.kind : Int)) ∧ W.cell? ⟨T, 1, none⟩ = some (.string (Lx.bs x.table)) ∧ W.cell? ⟨T, 4, none⟩ = some (.slice ea x.expr.length ec)) := fun W hW => by
    have r := (hW.block T (row_lt X1.out.1)).trans X1.out.1
    exact ⟨by rw [cell_of_row _ _ _ _ _ _ r]; rfl, by rw [cell_of_row _ _ _ _ _ _ r]; rfl, by rw [cell_of_row _ _ _ _ _ _ r]; rfl⟩
  obtain ⟨y0, y1, y4⟩ := YA.out w1 (Below.refl _ _)
  clear h3 hr hx hm hL hO hst
  go_enter Tryz.func24, Tryz.ntmps24
  go_upto_region 1 with fail
  rw [← hw1, ← hT]
  clear hw1 hT
  go_upto_region 7 with fail
  clear k1 k2 k3
  go_region_held3 (fun W' => W'.cell? ⟨T, 0, none⟩ = some (.int .u8 (x.kind : Int)) ∧ W'.cell? ⟨T, 1, none⟩ = some (.string (Lx.bs x.table)) ∧ W'.cell? ⟨T, 4, none⟩ = some (.slice ea x.expr.length ec)) (go_keep) (first
    | (go_at_call 27; refine (CS.out _ HD.out).mono ?_; rintro e w4 ⟨rfl, hb4⟩
       have X4 : Hid (Below w1.heap.size w1 w4) := (HD.out.trans (hb4.mono HD.out.size))
       obtain ⟨y0, y1, y4⟩ := YA.out w4 X4.out)
    )
  all_goals
    obtain ⟨w5, hw5⟩ : ∃ w5, w5 = w4.alloc (.cells #[.string ⟨#[73, 78, 83, 69, 82, 84, 32, 73, 78, 84, 79]⟩, .string (Lx.bs x.table), .string (Lx.bs st)] 9) := ⟨_, rfl⟩
    obtain ⟨g, hg⟩ : ∃ g, g = w4.heap.size := ⟨_, rfl⟩
    have X5 : Hid (Below w.heap.size w w5 ∧ SR w5 (some ⟨g, 0, none⟩) (wordsTx x)) := by
      have h := heap_alloc_new w4 (.cells #[.string ⟨#[73, 78, 83, 69, 82, 84, 32, 73, 78, 84, 79]⟩, .string (Lx.bs x.table), .string (Lx.bs st)] 9)
      rw [← hw5, ← hg] at h
      have hb := X1.out.2.trans (X4.out.mono X1.out.2.size)
      refine ⟨hb.trans (by rw [hw5]; exact (bnew w4 _).mono hb.size), ?_⟩
      rw [HW.out]
      refine SR.made h fun j t ht => ?_
      match j, ht with
      | 0, ht => cases ht; rfl
      | 1, ht => cases ht; rfl
      | 2, ht => cases ht; rfl
    clear y0 y1 y4
    rw [← hw5, ← hg]
    clear hw5 hg
    go_wp2
    go_ret
    exact ⟨_, rfl, X5.out⟩
set_option maxHeartbeats 8000000 in
set_option maxRecDepth 100000 in
theorem words4_c (x : St) (ia ea : Option Addr) (ic ec : Nat) (w : World) (h5 : x.kind = 4) (hi4 : rightIts x.items = true) (hr : rightC x.expr = true) (hx : FitX x) (hm : StM w ia ea x) (hL : HasL w) (hO : HasO w) : Calls Tryz.prog 24 #[.agg #[.int .u8 (x.kind : Int), .string (Lx.bs x.table), .string (Lx.bs x.field), .slice ia x.items.length ic, .slice ea x.expr.length ec, .bool x.history, .bool x.desc]] w fun e w' => ∃ a c, e = .returned (.slice a (wordsTx x).length c) ∧ Hid (Below w.heap.size w w' ∧ SR w' a (wordsTx x) ∧ (wordsTx x).length ≤ c ∧ c ≤ 9223372036854775807) := by
  obtain ⟨w1, hw1⟩ : ∃ w1, w1 = w.alloc (.cells #[.int .u8 (x.kind : Int), .string (Lx.bs x.table), .string (Lx.bs x.field), .slice ia x.items.length ic, .slice ea x.expr.length ec, .bool x.history, .bool x.desc] 26) := ⟨_, rfl⟩
  obtain ⟨T, hT⟩ : ∃ T, T = w.heap.size := ⟨_, rfl⟩
  have X1 : Hid (w1.heap[T]? = some (.cells #[.int .u8 (x.kind : Int), .string (Lx.bs x.table), .string (Lx.bs x.field), .slice ia x.items.length ic, .slice ea x.expr.length ec, .bool x.history, .bool x.desc] 26 (0, 0)) ∧ Below w.heap.size w w1) := ⟨by rw [hw1, hT]; exact heap_alloc_new w _, by rw [hw1]; exact bnew _ _⟩
  obtain ⟨ss, hss⟩ : ∃ ss, ss = join [44, 32] (itemsTx true x.items) := ⟨_, rfl⟩
  have CS : Hid (∀ W, Below w1.heap.size w1 W → Calls Tryz.prog 46 #[.slice ia x.items.length ic] W fun e w' => e = .returned (.string (Lx.bs ss)) ∧ Below W.heap.size W w') := fun W hW => by
    have hB := X1.out.2.trans (hW.mono X1.out.2.size)
    rw [hss]
    exact sets_c x.items ia _ ic W rfl (its_ok hi4 hx.items.2) (hm.its.call hB) (hL.stays hB) (hO.stays hB)
  obtain ⟨m, hm0⟩ : ∃ m, m = (condTx x.expr).length := ⟨_, rfl⟩
  obtain ⟨L, hL0⟩ : ∃ L, L = (condTx x.expr).map fun t => Value.string (Lx.bs t) := ⟨_, rfl⟩
  have hm2 : m ≤ 2 := by
    rw [hm0, condTx]
    split
    · exact Nat.zero_le 2
    · exact Nat.le_refl 2
  have HLm : Hid (L.length = m * 1) := by show _ = _; rw [hL0, List.length_map, hm0, Nat.mul_one]
  have ones : Hid (∀ u ∈ L, u.oneCell' = true) := fun u hu => by
    rw [hL0] at hu
    obtain ⟨t, _, rfl⟩ := List.mem_map.1 hu
    rfl
  have fit : Hid (4 + m ≤ maxLen ∧ (4 + m) * 16 ≤ 140737488355328) := ⟨Nat.le_trans (show 4 + m ≤ 6 by omega) (by decide), by omega⟩
  have CC : Hid (∀ W, Below w1.heap.size w1 W → Calls Tryz.prog 47 #[.slice ea x.expr.length ec] W fun e w' => ∃ y cc, e = .returned (.slice y m cc) ∧ Hid (Below W.heap.size W w' ∧ SrcC w' y L)) := fun W hW => by
    have hB := X1.out.2.trans (hW.mono X1.out.2.size)
    refine (condition_c x.expr ea _ ec W (fun h0 => cond_right hr h0) rfl (hm.exp.call hB) hx.expr.2 (hL.stays hB) (hO.stays hB)).mono ?_
    rintro e w' ⟨a, c, rfl, G⟩
    obtain ⟨hb, a', c', hv, _, _, sr⟩ := G.out
    cases hv
    exact ⟨a, c, by rw [hm0], hb, by rw [hL0]; exact sr.src⟩
  have HW : Hid (wordsTx x = [[85, 80, 68, 65, 84, 69], x.table, [83, 69, 84], ss] ++ condTx x.expr) := by
    show _ = _
    rw [wordsTx, if_neg (by omega), if_neg (by omega), if_neg (by omega), if_pos h5, hss]
  have HM : Hid ((wordsTx x).length = 4 + m) := by show _ = _; rw [HW.out, List.length_append, ← hm0]; rfl
  have FIN : Hid (∀ (W5 : World) (b : Option Addr) (cap : Nat), Below w1.heap.size w1 W5 → W5.ownsRow w1.heap.size 9 1 (.slice b (4 + m) cap) (4 + m) ([.string ⟨#[85, 80, 68, 65, 84, 69]⟩, .string (Lx.bs x.table), .string ⟨#[83, 69, 84]⟩, .string (Lx.bs ss)] ++ L) → Below w1.heap.size w1 W5 ∧ SR W5 b (wordsTx x) ∧ 4 + m ≤ cap ∧ cap ≤ 9223372036854775807) := fun W5 b cap hb hn => by
    have hT : OwnT W5 w1.heap.size (.slice b (4 + m) cap) (wordsTx x) := by
      unfold OwnT
      rw [HM.out, HW.out, List.map_append, ← hL0]
      exact hn
    obtain ⟨_, c1, c2, c3⟩ := hT.sr
    exact ⟨hb, c2, c1, Nat.le_trans c3 (by decide)⟩
  have k1 : ((x.kind : Int) == 1) = false := by rw [h5]; rfl
  have k2 : ((x.kind : Int) == 2) = false := by rw [h5]; rfl
  have k3 : ((x.kind : Int) == 3) = false := by rw [h5]; rfl
  have k4 : ((x.kind : Int) == 4) = true := by rw [h5]; rfl
  have YA : Hid (∀ W, Below w1.heap.size w1 W → W.cell? ⟨T, 0, none⟩ = some (.int .u8 (x.kind : Int)) ∧ W.cell? ⟨T, 1, none⟩ = some (.string (Lx.bs x.table)) ∧ W.cell? ⟨T, 3, none⟩ = some (.slice ia x.items.length ic) ∧ W.cell? ⟨T, 4, none⟩ = some (.slice ea x.expr.length ec)) := fun W hW => by
    have r := (hW.block T (row_lt X1.out.1)).trans X1.out.1
    exact ⟨by rw [cell_of_row _ _ _ _ _ _ r]; rfl, by rw [cell_of_row _ _ _ _ _ _ r]; rfl, by rw [cell_of_row _ _ _ _ _ _ r]; rfl, by rw [cell_of_row _ _ _ _ _ _ r]; rfl⟩
  obtain ⟨y0, y1, y3, y4⟩ := YA.out w1 (Below.refl _ _)
  have HD : Hid (Below w1.heap.size w1 w1.drew) := (Below.refl _ _).drew
  obtain ⟨i0, hi, hz0, hz1, hz2⟩ := info_partsP infoStr
  clear h5 hi4 hr hx hm hL hO hm0 hL0 hm2 hss
  go_enter Tryz.func24, Tryz.ntmps24
  go_upto_region 1 with fail
  rw [← hw1, ← hT]
  clear hw1 hT
  go_upto_region 9 with fail
  clear k1 k2 k3 k4
  go_region_held3 (fun W' => W'.cell? ⟨T, 0, none⟩ = some (.int .u8 (x.kind : Int)) ∧ W'.cell? ⟨T, 1, none⟩ = some (.string (Lx.bs x.table)) ∧ W'.cell? ⟨T, 3, none⟩ = some (.slice ia x.items.length ic) ∧ W'.cell? ⟨T, 4, none⟩ = some (.slice ea x.expr.length ec)) (go_keep) (first
    | (go_at_call 46; refine (CS.out _ HD.out).mono ?_; rintro e w3 ⟨rfl, hb3⟩
       have X3 : Hid (Below w1.heap.size w1 w3) := (HD.out.trans (hb3.mono HD.out.size))
       obtain ⟨y0, y1, y3, y4⟩ := YA.out w3 X3.out)
    | (go_at_call 47; refine (CC.out _ X3.out).mono ?_; rintro e w4 ⟨y, cc, rfl, G4⟩
       have X4 : Hid (Below w1.heap.size w1 w4) := (X3.out.trans (G4.out.1.mono X3.out.size))
       obtain ⟨y0, y1, y3, y4⟩ := YA.out w4 X4.out)
    | (go_at_call 47; refine (CC.out _ (X3.out.alloc X3.out.size _)).mono ?_; rintro e w4 ⟨y, cc, rfl, G4⟩
       have X4 : Hid (Below w1.heap.size w1 w4) := ((X3.out.alloc X3.out.size _).trans (G4.out.1.mono (X3.out.alloc X3.out.size _).size))
       obtain ⟨y0, y1, y3, y4⟩ := YA.out w4 X4.out)
    | (refine step_append_any (by rfl) _ _ _ (by rfl) w1.heap.size 9 i0 _ 1 16 Tryz.underlying50 hi hz0 hz1 hz2 rfl (by omega) _ _ _ (by rfl) (own_callL (own_made w3 w1.heap.size X3.out.size _ _ _ _) G4.out.1) y m cc L (by rfl) HLm.out (G4.out.2) ones.out fit.out.1 fit.out.2 (X4.out).size ?_; intro b cap w5 hown5 hb5 hk5
       have X5 : Hid (Below w1.heap.size w1 w5 ∧ SR w5 b (wordsTx x) ∧ 4 + m ≤ cap ∧ cap ≤ 9223372036854775807) := (FIN.out w5 b cap ((X4.out).trans hb5) hown5)
       obtain ⟨y0, y1, y3, y4⟩ := YA.out w5 X5.out.1
       clear hown5 hb5 hk5)
    | (refine step_append_any (by rfl) _ _ _ (by rfl) w1.heap.size 9 i0 _ 1 16 Tryz.underlying50 hi hz0 hz1 hz2 rfl (by omega) _ _ _ (by rfl) (own_made w4 w1.heap.size X4.out.size _ _ _ _) y m cc L (by rfl) HLm.out (G4.out.2.new _) ones.out fit.out.1 fit.out.2 (X4.out.alloc X4.out.size _).size ?_; intro b cap w5 hown5 hb5 hk5
       have X5 : Hid (Below w1.heap.size w1 w5 ∧ SR w5 b (wordsTx x) ∧ 4 + m ≤ cap ∧ cap ≤ 9223372036854775807) := (FIN.out w5 b cap ((X4.out.alloc X4.out.size _).trans hb5) hown5)
       obtain ⟨y0, y1, y3, y4⟩ := YA.out w5 X5.out.1
       clear hown5 hb5 hk5)
    )
  all_goals
    have X6 : Hid (Below w.heap.size w w5) := X1.out.2.trans (X5.out.1.mono X1.out.2.size)
    clear y0 y1 y3 y4
    go_wp2
    go_ret
    exact ⟨b, cap, by rw [HM.out]; rfl, X6.out, X5.out.2.1, by rw [HM.out]; exact X5.out.2.2.1, X5.out.2.2.2⟩
end Ps
end Go.Proofs.YtfhkaffakniioaaGreatDoor
/- SELECT, printed: walked. -/
namespace Go.Proofs.YtfhkaffakniioaaGreatDoor
open Go.RowKit
namespace Ps
set_option maxHeartbeats 8000000 in
set_option maxRecDepth 100000 in
theorem words6g_c (x : St) (ia ea : Option Addr) (ic ec : Nat) (w : World) (hx : FitX x) (hr : rightX x = true) (h6 : x.kind = 6) (hm : StM w ia ea x) (hL : HasL w) (hO : HasO w) : Calls Tryz.prog 24 #[.agg #[.int .u8 (x.kind : Int), .string (Lx.bs x.table), .string (Lx.bs x.field), .slice ia x.items.length ic, .slice ea x.expr.length ec, .bool x.history, .bool x.desc]] w fun e w' => ∃ a c, e = .returned (.slice a (wordsTx x).length c) ∧ Hid (Below w.heap.size w w' ∧ SR w' a (wordsTx x) ∧ (wordsTx x).length ≤ c ∧ c ≤ 9223372036854775807) := by
  obtain ⟨w1, hw1⟩ : ∃ w1, w1 = w.alloc (.cells #[.int .u8 (x.kind : Int), .string (Lx.bs x.table), .string (Lx.bs x.field), .slice ia x.items.length ic, .slice ea x.expr.length ec, .bool x.history, .bool x.desc] 26) := ⟨_, rfl⟩
  obtain ⟨T, hT⟩ : ∃ T, T = w.heap.size := ⟨_, rfl⟩
  have X1 : Hid (w1.heap[T]? = some (.cells #[.int .u8 (x.kind : Int), .string (Lx.bs x.table), .string (Lx.bs x.field), .slice ia x.items.length ic, .slice ea x.expr.length ec, .bool x.history, .bool x.desc] 26 (0, 0)) ∧ Below w.heap.size w w1) := ⟨by rw [hw1, hT]; exact heap_alloc_new w _, by rw [hw1]; exact bnew _ _⟩
  have tl := row_lt X1.out.1
  obtain ⟨sr1, sr2⟩ := select_right hr h6
  have hok := its_ok sr1 hx.items.2
  obtain ⟨wt, hwt⟩ : ∃ wt, wt = whatTx x.items := ⟨_, rfl⟩
  obtain ⟨ft, hft⟩ : ∃ ft, ft = fromTx x := ⟨_, rfl⟩
  obtain ⟨m, hm0⟩ : ∃ m, m = (condTx x.expr).length := ⟨_, rfl⟩
  obtain ⟨L, hL0⟩ : ∃ L, L = (condTx x.expr).map fun t => Value.string (Lx.bs t) := ⟨_, rfl⟩
  obtain ⟨k, hk0⟩ : ∃ k, k = (orderTx x).length := ⟨_, rfl⟩
  obtain ⟨M, hM0⟩ : ∃ M, M = (orderTx x).map fun t => Value.string (Lx.bs t) := ⟨_, rfl⟩
  have hm2 : m ≤ 2 := by
    rw [hm0, condTx]
    split
    · exact Nat.zero_le 2
    · exact Nat.le_refl 2
  have hk3 : k ≤ 3 := by
    rw [hk0, orderTx]
    split
    · exact Nat.zero_le 3
    · split
      · exact Nat.le_refl 3
      · exact (by decide : 2 ≤ 3)
  have HLm : Hid (L.length = m * 1 ∧ M.length = k * 1) := ⟨by rw [hL0, List.length_map, hm0, Nat.mul_one], by rw [hM0, List.length_map, hk0, Nat.mul_one]⟩
  have ones : Hid ((∀ u ∈ L, u.oneCell' = true) ∧ (∀ u ∈ M, u.oneCell' = true)) := ⟨fun u hu => by
    rw [hL0] at hu
    obtain ⟨t, _, rfl⟩ := List.mem_map.1 hu
    rfl, fun u hu => by
    rw [hM0] at hu
    obtain ⟨t, _, rfl⟩ := List.mem_map.1 hu
    rfl⟩
  have fit : Hid ((4 + m ≤ maxLen ∧ (4 + m) * 16 ≤ 140737488355328) ∧ (4 + m + k ≤ maxLen ∧ (4 + m + k) * 16 ≤ 140737488355328)) := ⟨⟨Nat.le_trans (show 4 + m ≤ 6 by omega) (by decide), by omega⟩, Nat.le_trans (show 4 + m + k ≤ 9 by omega) (by decide), by omega⟩
  have CW : Hid (∀ W, Below w1.heap.size w1 W → Calls Tryz.prog 48 #[.slice ia x.items.length ic] W fun e w' => e = .returned (.string (Lx.bs wt)) ∧ Below W.heap.size W w') := fun W hW => by
    have hB := X1.out.2.trans (hW.mono X1.out.2.size)
    rw [hwt]
    exact what_c x.items ia _ ic W rfl hok (hm.its.call hB) (hL.stays hB) (hO.stays hB)
  have CF : Hid (∀ W, Calls Tryz.prog 49 #[.agg #[.int .u8 (x.kind : Int), .string (Lx.bs x.table), .string (Lx.bs x.field), .slice ia x.items.length ic, .slice ea x.expr.length ec, .bool x.history, .bool x.desc]] W fun e w' => e = .returned (.string (Lx.bs ft)) ∧ Below W.heap.size W w') := fun W => by
    rw [hft]
    exact from_c x ia ea ic ec W (by have := nm_table hr; omega)
  have CC : Hid (∀ W, Below w1.heap.size w1 W → Calls Tryz.prog 47 #[.slice ea x.expr.length ec] W fun e w' => ∃ y cc, e = .returned (.slice y m cc) ∧ Hid (Below W.heap.size W w' ∧ SrcC w' y L)) := fun W hW => by
    have hB := X1.out.2.trans (hW.mono X1.out.2.size)
    refine (condition_c x.expr ea _ ec W (fun h0 => cond_right sr2 h0) rfl (hm.exp.call hB) hx.expr.2 (hL.stays hB) (hO.stays hB)).mono ?_
    rintro e w' ⟨a, c, rfl, G⟩
    obtain ⟨hb, a', c', hv, _, _, sr⟩ := G.out
    cases hv
    exact ⟨a, c, by rw [hm0], hb, by rw [hL0]; exact sr.src⟩
  have CO : Hid (∀ W, Calls Tryz.prog 50 #[.agg #[.int .u8 (x.kind : Int), .string (Lx.bs x.table), .string (Lx.bs x.field), .slice ia x.items.length ic, .slice ea x.expr.length ec, .bool x.history, .bool x.desc]] W fun e w' => ∃ y cc, e = .returned (.slice y k cc) ∧ Hid (Below W.heap.size W w' ∧ SrcC w' y M)) := fun W => by
    refine (order_c x ia ea ic ec W).mono ?_
    rintro e w' ⟨a, c, rfl, G⟩
    obtain ⟨hb, a', c', hv, _, _, sr⟩ := G.out
    cases hv
    exact ⟨a, c, by rw [hk0], hb, by rw [hM0]; exact sr.src⟩
  have HW : Hid (wordsTx x = [[83, 69, 76, 69, 67, 84], wt, [70, 82, 79, 77], ft] ++ condTx x.expr ++ orderTx x) := by
    show _ = _
    rw [wordsTx, if_neg (by omega), if_neg (by omega), if_neg (by omega), if_neg (by omega), if_neg (by omega), hwt, hft]
  have HM : Hid ((wordsTx x).length = 4 + m + k) := by show _ = _; rw [HW.out, List.length_append, List.length_append, ← hm0, ← hk0]; rfl
  have FIN : Hid (∀ (W5 : World) (b : Option Addr) (cap : Nat), W5.ownsRow w1.heap.size 9 1 (.slice b (4 + m + k) cap) (4 + m + k) ([.string ⟨#[83, 69, 76, 69, 67, 84]⟩, .string (Lx.bs wt), .string ⟨#[70, 82, 79, 77]⟩, .string (Lx.bs ft)] ++ L ++ M) → SR W5 b (wordsTx x) ∧ 4 + m + k ≤ cap ∧ cap ≤ 9223372036854775807) := fun W5 b cap hn => by
    have hT : OwnT W5 w1.heap.size (.slice b (4 + m + k) cap) (wordsTx x) := by
      unfold OwnT
      rw [HM.out, HW.out, List.map_append, List.map_append, ← hL0, ← hM0]
      exact hn
    obtain ⟨_, c1, c2, c3⟩ := hT.sr
    exact ⟨c2, c1, Nat.le_trans c3 (by decide)⟩
  have k1 : ((x.kind : Int) == 1) = false := by rw [h6]; rfl
  have k2 : ((x.kind : Int) == 2) = false := by rw [h6]; rfl
  have k3 : ((x.kind : Int) == 3) = false := by rw [h6]; rfl
  have k4 : ((x.kind : Int) == 4) = false := by rw [h6]; rfl
  have k5 : ((x.kind : Int) == 5) = false := by rw [h6]; rfl
  have YC : Hid (∀ W, Below w1.heap.size w1 W → ∀ r v, (#[.int .u8 (x.kind : Int), .string (Lx.bs x.table), .string (Lx.bs x.field), .slice ia x.items.length ic, .slice ea x.expr.length ec, .bool x.history, .bool x.desc] : Array Value)[r]? = some v → W.cell? ⟨T, r, none⟩ = some v) := fun W hW r v hv => by rw [cell_of_row _ _ _ _ _ _ ((hW.block T (row_lt X1.out.1)).trans X1.out.1)]; exact hv
  have YA : Hid (∀ W, Below w1.heap.size w1 W → W.cell? ⟨T, 0, none⟩ = some (.int .u8 (x.kind : Int)) ∧ W.cell? ⟨T, 1, none⟩ = some (.string (Lx.bs x.table)) ∧ W.cell? ⟨T, 2, none⟩ = some (.string (Lx.bs x.field)) ∧ W.cell? ⟨T, 3, none⟩ = some (.slice ia x.items.length ic) ∧ W.cell? ⟨T, 4, none⟩ = some (.slice ea x.expr.length ec) ∧ W.cell? ⟨T, 5, none⟩ = some (.bool x.history) ∧ W.cell? ⟨T, 6, none⟩ = some (.bool x.desc)) := fun W hW => ⟨YC.out W hW 0 _ rfl, YC.out W hW 1 _ rfl, YC.out W hW 2 _ rfl, YC.out W hW 3 _ rfl, YC.out W hW 4 _ rfl, YC.out W hW 5 _ rfl, YC.out W hW 6 _ rfl⟩
  have y0 := YC.out w1 (Below.refl _ _) 0 _ rfl
  clear hx hr h6 hm hL hO sr1 sr2 hok hwt hft hm0 hL0 hk0 hM0 hm2 hk3
  go_enter Tryz.func24, Tryz.ntmps24
  go_upto_region 1 with fail
  rw [← hw1, ← hT]
  clear hw1 hT
  go_upto_region 12 with fail
  clear k1 k2 k3 k4 k5
  have y1 := YC.out w1 (Below.refl _ _) 1 _ rfl
  have y2 := YC.out w1 (Below.refl _ _) 2 _ rfl
  have y3 := YC.out w1 (Below.refl _ _) 3 _ rfl
  have y4 := YC.out w1 (Below.refl _ _) 4 _ rfl
  have y5 := YC.out w1 (Below.refl _ _) 5 _ rfl
  have y6 := YC.out w1 (Below.refl _ _) 6 _ rfl
  obtain ⟨i0, hi, hz0, hz1, hz2⟩ := info_partsP infoStr
  go_region_held3 (fun W' => W'.cell? ⟨T, 0, none⟩ = some (.int .u8 (x.kind : Int)) ∧ W'.cell? ⟨T, 1, none⟩ = some (.string (Lx.bs x.table)) ∧ W'.cell? ⟨T, 2, none⟩ = some (.string (Lx.bs x.field)) ∧ W'.cell? ⟨T, 3, none⟩ = some (.slice ia x.items.length ic) ∧ W'.cell? ⟨T, 4, none⟩ = some (.slice ea x.expr.length ec) ∧ W'.cell? ⟨T, 5, none⟩ = some (.bool x.history) ∧ W'.cell? ⟨T, 6, none⟩ = some (.bool x.desc)) (go_keep) (first
    | (go_at_call 48; refine (CW.out _ ?_).mono ?_; (first | exact Below.refl _ _ | exact (Below.refl _ _).drew); rintro e w2 ⟨rfl, hb2⟩
       have X2 : Hid (Below w1.heap.size w1 w2) := ((Below.refl w1.heap.size w1).drew.trans hb2)
       obtain ⟨y0, y1, y2, y3, y4, y5, y6⟩ := YA.out w2 X2.out)
    | (go_at_call 49; refine (CF.out _).mono ?_; rintro e w3 ⟨rfl, hb3⟩
       have X3 : Hid (Below w1.heap.size w1 w3) := (X2.out.trans (hb3.mono X2.out.size))
       obtain ⟨y0, y1, y2, y3, y4, y5, y6⟩ := YA.out w3 X3.out)
    | (go_at_call 47; refine (CC.out _ ?_).mono ?_; (first | exact X3.out | exact X3.out.trans ((bnew w3 _).mono X3.out.size)); rintro e w4 ⟨y, cc, rfl, G4⟩
       have X4 : Hid (Below w1.heap.size w1 w4) := (by first | exact X3.out.trans (G4.out.1.mono X3.out.size) | exact (X3.out.trans ((bnew w3 _).mono X3.out.size)).trans (G4.out.1.mono (Nat.le_trans X3.out.size (bnew w3 _).size)))
       obtain ⟨y0, y1, y2, y3, y4, y5, y6⟩ := YA.out w4 X4.out)
    | (refine step_append_any (by rfl) _ _ _ (by rfl) w1.heap.size 9 i0 _ 1 16 Tryz.underlying50 hi hz0 hz1 hz2 rfl (by omega) _ _ _ (by rfl) (own_callL (own_made w3 w1.heap.size X3.out.size _ _ _ _) G4.out.1) y m cc L (by rfl) HLm.out.1 (G4.out.2) ones.out.1 fit.out.1.1 fit.out.1.2 (X4.out).size ?_; intro b cap w5 hown5 hb5 hk5
       have X5 : Hid (Below w1.heap.size w1 w5 ∧ w5.ownsRow w1.heap.size 9 1 (.slice b (4 + m) cap) (4 + m) ([.string ⟨#[83, 69, 76, 69, 67, 84]⟩, .string (Lx.bs wt), .string ⟨#[70, 82, 79, 77]⟩, .string (Lx.bs ft)] ++ L)) := ⟨(X4.out).trans hb5, hown5⟩
       obtain ⟨y0, y1, y2, y3, y4, y5, y6⟩ := YA.out w5 X5.out.1
       clear hown5 hb5 hk5)
    | (refine step_append_any (by rfl) _ _ _ (by rfl) w1.heap.size 9 i0 _ 1 16 Tryz.underlying50 hi hz0 hz1 hz2 rfl (by omega) _ _ _ (by rfl) (own_made w4 w1.heap.size X4.out.size _ _ _ _) y m cc L (by rfl) HLm.out.1 (G4.out.2.new _) ones.out.1 fit.out.1.1 fit.out.1.2 (X4.out.alloc X4.out.size _).size ?_; intro b cap w5 hown5 hb5 hk5
       have X5 : Hid (Below w1.heap.size w1 w5 ∧ w5.ownsRow w1.heap.size 9 1 (.slice b (4 + m) cap) (4 + m) ([.string ⟨#[83, 69, 76, 69, 67, 84]⟩, .string (Lx.bs wt), .string ⟨#[70, 82, 79, 77]⟩, .string (Lx.bs ft)] ++ L)) := ⟨(X4.out.alloc X4.out.size _).trans hb5, hown5⟩
       obtain ⟨y0, y1, y2, y3, y4, y5, y6⟩ := YA.out w5 X5.out.1
       clear hown5 hb5 hk5)
    )
  all_goals
    go_wp2_with fail
    refine (CO.out _).mono ?_
    rintro e w6 ⟨y2, c2, rfl, G6⟩
    have X6 : Hid (Below w1.heap.size w1 w6 ∧ w6.ownsRow w1.heap.size 9 1 (.slice b (4 + m) cap) (4 + m) ([.string ⟨#[83, 69, 76, 69, 67, 84]⟩, .string (Lx.bs wt), .string ⟨#[70, 82, 79, 77]⟩, .string (Lx.bs ft)] ++ L)) := ⟨X5.out.1.trans (G6.out.1.mono X5.out.1.size), own_callL X5.out.2 G6.out.1⟩
    clear y0 y1 y3 y4 y5 y6
    go_wp2_with (at_builtin; refine wpList_append_any rfl _ _ 50 rfl w1.heap.size 9 i0 _ 1 16 Tryz.underlying50 hi hz0 hz1 hz2 rfl (by decide) _ _ _ rfl X6.out.2 _ _ _ M rfl HLm.out.2 G6.out.2 ones.out.2 fit.out.2.1 fit.out.2.2 X6.out.1.size ?_)
    intro b7 c7 w7 hown7 hb7 _
    have X7 := hidp (FIN.out w7 b7 c7 hown7)
    have X7w : Hid (Below w.heap.size w w7) := X1.out.2.trans ((X6.out.1.trans hb7).mono X1.out.2.size)
    clear hown7 hb7
    go_wp2
    go_ret
    exact ⟨b7, c7, by rw [HM.out]; rfl, X7w.out, X7.out.1, by rw [HM.out]; exact X7.out.2.1, X7.out.2.2⟩
end Ps
end Go.Proofs.YtfhkaffakniioaaGreatDoor
/- Print, of whatever statement: walked whole. -/
namespace Go.Proofs.YtfhkaffakniioaaGreatDoor
open Go.RowKit
namespace Ps
theorem sets_len {l : List It} (h : ItOK l) : (join [44, 32] (itemsTx true l)).length ≤ 39000000 := by
  have h1 := tot_join [44, 32] (itemsTx true l)
  have h2 := tot_bound (itemsTx true l) 600000 (items_len h true)
  have e : (itemsTx true l).length = l.length := by rw [itemsTx, List.length_map]
  have e2 : [(44 : UInt8), 32].length = 2 := rfl
  have h3 : l.length * 600000 ≤ 64 * 600000 := Nat.mul_le_mul_right _ h.few
  have h4 := h.few
  rw [e] at h1 h2
  rw [e2] at h1
  omega
theorem cond_len {l : List Sp} (h : rightC l = true) (hf : fitE l) : (condTx l).length ≤ 2 ∧ ∀ t ∈ condTx l, t.length ≤ 39000000 := by
  by_cases h0 : l = []
  · rw [condTx, if_pos h0]
    exact ⟨Nat.zero_le _, fun t ht => (by cases ht)⟩
  · have h3 := shown_len (cond_right h h0) hf.2
    rw [condTx, if_neg h0]
    refine ⟨Nat.le_refl 2, fun t ht => ?_⟩
    rcases List.mem_cons.1 ht with rfl | ht
    · exact (by decide : 5 ≤ 39000000)
    rcases List.mem_cons.1 ht with rfl | ht
    · omega
    · cases ht
theorem two_few {a b : List Bs} {n m : Nat} (h1 : a.length ≤ n ∧ ∀ t ∈ a, t.length ≤ 39000000) (h2 : b.length ≤ m ∧ ∀ t ∈ b, t.length ≤ 39000000) : (a ++ b).length ≤ n + m ∧ ∀ t ∈ a ++ b, t.length ≤ 39000000 :=
  ⟨by rw [List.length_append]; omega, fun t ht => (List.mem_append.1 ht).elim (h1.2 t) (h2.2 t)⟩
theorem one_few {t : Bs} (h : t.length ≤ 39000000) : [t].length ≤ 1 ∧ ∀ u ∈ [t], u.length ≤ 39000000 := ⟨Nat.le_refl 1, fun u hu => by
  rcases List.mem_cons.1 hu with rfl | hu
  · exact h
  · cases hu⟩
theorem kinds_right {x : St} (h : rightX x = true) : x.table.length ≤ 64 ∧ (x.kind = 1 ∨ (x.kind = 2 ∧ x.field.length ≤ 64) ∨ (x.kind = 3 ∧ rightE x.expr = true) ∨ (x.kind = 4 ∧ rightIts x.items = true ∧ rightC x.expr = true) ∨ (x.kind = 5 ∧ rightC x.expr = true) ∨ (x.kind = 6 ∧ x.field.length ≤ 64 ∧ rightIts x.items = true ∧ rightC x.expr = true)) := by
  refine ⟨nm_table h, ?_⟩
  rw [rightX, Bool.and_eq_true] at h
  have h2 := h.2
  by_cases k1 : x.kind = 1
  · exact .inl k1
  rw [if_neg k1] at h2
  by_cases k2 : x.kind = 2
  · rw [if_pos k2, Bool.and_eq_true, Bool.and_eq_true] at h2
    exact .inr (.inl ⟨k2, nm_len h2.1.1⟩)
  rw [if_neg k2] at h2
  by_cases k3 : x.kind = 3
  · rw [if_pos k3, Bool.and_eq_true, Bool.and_eq_true] at h2
    exact .inr (.inr (.inl ⟨k3, h2.1.2⟩))
  rw [if_neg k3] at h2
  by_cases k4 : x.kind = 4
  · rw [if_pos k4, Bool.and_eq_true, Bool.and_eq_true] at h2
    exact .inr (.inr (.inr (.inl ⟨k4, h2.1.2, h2.2⟩)))
  rw [if_neg k4] at h2
  by_cases k5 : x.kind = 5
  · rw [if_pos k5, Bool.and_eq_true] at h2
    exact .inr (.inr (.inr (.inr (.inl ⟨k5, h2.2⟩))))
  rw [if_neg k5] at h2
  by_cases k6 : x.kind = 6
  · rw [if_pos k6, Bool.and_eq_true, Bool.and_eq_true, Bool.or_eq_true, Bool.and_eq_true, decide_eq_true_iff] at h2
    refine .inr (.inr (.inr (.inr (.inr ⟨k6, ?_, h2.1.2, h2.2⟩))))
    rcases h2.1.1 with q | ⟨q, _⟩
    · exact nm_len q
    · rw [q]; exact Nat.zero_le _
  · rw [if_neg k6] at h2; cases h2
theorem words_few {x : St} (hx : FitX x) (h : rightX x = true) : (wordsTx x).length ≤ 9 ∧ ∀ t ∈ wordsTx x, t.length ≤ 39000000 := by
  obtain ⟨ht, hk⟩ := kinds_right h
  have hT := one_few (t := x.table) (by omega)
  have le : ∀ {a : List Bs} {n : Nat}, n ≤ 9 → (a.length ≤ n ∧ ∀ t ∈ a, t.length ≤ 39000000) → a.length ≤ 9 ∧ ∀ t ∈ a, t.length ≤ 39000000 := fun hn q => ⟨Nat.le_trans q.1 hn, q.2⟩
  have lit : ∀ l : Bs, l.length ≤ 20 → [l].length ≤ 1 ∧ ∀ u ∈ [l], u.length ≤ 39000000 := fun l hl => one_few (by omega)
  rcases hk with k | ⟨k, q⟩ | ⟨k, q⟩ | ⟨k, q1, q2⟩ | ⟨k, q⟩ | ⟨k, q, q1, q2⟩
  · rw [wordsTx, if_pos k]
    exact le (by decide) (two_few (lit [67, 82, 69, 65, 84, 69, 32, 84, 65, 66, 76, 69] (by decide)) hT)
  · rw [wordsTx, if_neg (by omega), if_pos k]
    exact le (by decide) (two_few (lit [67, 82, 69, 65, 84, 69, 32, 73, 78, 68, 69, 88, 32, 79, 78] (by decide)) (two_few hT (one_few (t := [40] ++ x.field ++ [41]) (by rw [List.length_append, List.length_append]; show 1 + x.field.length + 1 ≤ _; omega))))
  · rw [wordsTx, if_neg (by omega), if_neg (by omega), if_pos k]
    have h3 := shown_len q hx.expr.2
    exact le (by decide) (two_few (lit [73, 78, 83, 69, 82, 84, 32, 73, 78, 84, 79] (by decide)) (two_few hT (one_few (t := shownE x.expr) (by omega))))
  · rw [wordsTx, if_neg (by omega), if_neg (by omega), if_neg (by omega), if_pos k]
    have h3 := sets_len (its_ok q1 hx.items.2)
    exact le (by decide) (two_few (two_few (lit [85, 80, 68, 65, 84, 69] (by decide)) (two_few hT (two_few (lit [83, 69, 84] (by decide)) (one_few h3)))) (cond_len q2 hx.expr))
  · rw [wordsTx, if_neg (by omega), if_neg (by omega), if_neg (by omega), if_neg (by omega), if_pos k]
    exact le (by decide) (two_few (two_few (lit [68, 69, 76, 69, 84, 69, 32, 70, 82, 79, 77] (by decide)) hT) (cond_len q hx.expr))
  · rw [wordsTx, if_neg (by omega), if_neg (by omega), if_neg (by omega), if_neg (by omega), if_neg (by omega)]
    have h1 := what_len (its_ok q1 hx.items.2)
    have h4 : (fromTx x).length ≤ 39000000 := by
      rw [fromTx]
      split
      · rw [List.length_append, List.length_append]
        show 8 + x.table.length + 1 ≤ _
        omega
      · omega
    have h5 : (orderTx x).length ≤ 3 ∧ ∀ t ∈ orderTx x, t.length ≤ 39000000 := by
      have f1 := one_few (t := x.field) (by omega)
      have f0 := lit [79, 82, 68, 69, 82, 32, 66, 89] (by decide)
      rw [orderTx]
      split
      · exact ⟨Nat.zero_le _, fun t ht => (by cases ht)⟩
      · split
        · exact two_few f0 (two_few f1 (lit [68, 69, 83, 67] (by decide)))
        · have := two_few f0 f1
          exact ⟨Nat.le_trans this.1 (by decide), this.2⟩
    exact le (by decide) (two_few (two_few (two_few (lit [83, 69, 76, 69, 67, 84] (by decide)) (two_few (one_few h1) (two_few (lit [70, 82, 79, 77] (by decide)) (one_few h4)))) (cond_len q2 hx.expr)) h5)
theorem words_c (x : St) (ia ea : Option Addr) (ic ec : Nat) (w : World) (hx : FitX x) (hr : rightX x = true) (hm : StM w ia ea x) (hL : HasL w) (hO : HasO w) : Calls Tryz.prog 24 #[.agg #[.int .u8 (x.kind : Int), .string (Lx.bs x.table), .string (Lx.bs x.field), .slice ia x.items.length ic, .slice ea x.expr.length ec, .bool x.history, .bool x.desc]] w fun e w' => ∃ a c, e = .returned (.slice a (wordsTx x).length c) ∧ Hid (Below w.heap.size w w' ∧ SR w' a (wordsTx x) ∧ (wordsTx x).length ≤ c ∧ c ≤ 9223372036854775807) := by
  obtain ⟨_, hk⟩ := kinds_right hr
  rcases hk with k | ⟨k, q⟩ | ⟨k, q⟩ | ⟨k, q1, q2⟩ | ⟨k, q⟩ | ⟨k, q, q1, q2⟩
  · refine (words1_c x ia ea ic ec w k).mono ?_
    rintro e w' ⟨a, rfl, G⟩
    have hn : (wordsTx x).length = 2 := by rw [wordsTx, if_pos k]; rfl
    rw [hn]
    exact ⟨a, 2, rfl, G.out.1, G.out.2, Nat.le_refl _, by decide⟩
  · refine (words2_c x ia ea ic ec w k (by omega)).mono ?_
    rintro e w' ⟨a, rfl, G⟩
    have hn : (wordsTx x).length = 3 := by rw [wordsTx, if_neg (by omega), if_pos k]; rfl
    rw [hn]
    exact ⟨a, 3, rfl, G.out.1, G.out.2, Nat.le_refl _, by decide⟩
  · refine (words3_c x ia ea ic ec w k q hx hm hL hO).mono ?_
    rintro e w' ⟨a, rfl, G⟩
    have hn : (wordsTx x).length = 3 := by rw [wordsTx, if_neg (by omega), if_neg (by omega), if_pos k]; rfl
    rw [hn]
    exact ⟨a, 3, rfl, G.out.1, G.out.2, Nat.le_refl _, by decide⟩
  · exact words4_c x ia ea ic ec w k q1 q2 hx hm hL hO
  · exact words5_c x ia ea ic ec w k q hx hm hL hO
  · exact words6g_c x ia ea ic ec w hx hr k hm hL hO
set_option maxHeartbeats 8000000 in
set_option maxRecDepth 100000 in
theorem printt_c (x : St) (ia ea : Option Addr) (ic ec : Nat) (w : World) (hx : FitX x) (hr : rightX x = true) (hm : StM w ia ea x) (hL : HasL w) (hO : HasO w) : Calls Tryz.prog 7 #[.agg #[.int .u8 (x.kind : Int), .string (Lx.bs x.table), .string (Lx.bs x.field), .slice ia x.items.length ic, .slice ea x.expr.length ec, .bool x.history, .bool x.desc]] w fun e w' => e = .returned (.tuple #[.string (Lx.bs (printX x)), .int .i64 0]) ∧ Below w.heap.size w w' := by
  obtain ⟨w1, hw1⟩ : ∃ w1, w1 = w.alloc (.cells #[.int .u8 (x.kind : Int), .string (Lx.bs x.table), .string (Lx.bs x.field), .slice ia x.items.length ic, .slice ea x.expr.length ec, .bool x.history, .bool x.desc] 26) := ⟨_, rfl⟩
  obtain ⟨T, hT⟩ : ∃ T, T = w.heap.size := ⟨_, rfl⟩
  have X1 : Hid (w1.heap[T]? = some (.cells #[.int .u8 (x.kind : Int), .string (Lx.bs x.table), .string (Lx.bs x.field), .slice ia x.items.length ic, .slice ea x.expr.length ec, .bool x.history, .bool x.desc] 26 (0, 0)) ∧ Below w.heap.size w w1) := ⟨by rw [hw1, hT]; exact heap_alloc_new w _, by rw [hw1]; exact bnew _ _⟩
  have CK : Hid (Calls Tryz.prog 14 #[.agg #[.int .u8 (x.kind : Int), .string (Lx.bs x.table), .string (Lx.bs x.field), .slice ia x.items.length ic, .slice ea x.expr.length ec, .bool x.history, .bool x.desc]] w1 fun e w' => e = .returned (.int .i64 0) ∧ Below w1.heap.size w1 w') := by
    have h := checkX_c x ia ea ic ec w1 hx (hm.call X1.out.2) (hL.stays X1.out.2)
    rw [if_pos hr] at h
    exact h
  have CW : Hid (∀ W, Below w1.heap.size w1 W → Calls Tryz.prog 24 #[.agg #[.int .u8 (x.kind : Int), .string (Lx.bs x.table), .string (Lx.bs x.field), .slice ia x.items.length ic, .slice ea x.expr.length ec, .bool x.history, .bool x.desc]] W fun e w' => ∃ a c, e = .returned (.slice a (wordsTx x).length c) ∧ Hid (Below W.heap.size W w' ∧ SR w' a (wordsTx x) ∧ (wordsTx x).length ≤ c ∧ c ≤ 9223372036854775807)) := fun W hW => by
    have hB := X1.out.2.trans (hW.mono X1.out.2.size)
    exact words_c x ia ea ic ec W hx hr (hm.call hB) (hL.stays hB) (hO.stays hB)
  have HF := hidp (words_few hx hr)
  obtain ⟨t, ht⟩ : ∃ t, t = printX x := ⟨_, rfl⟩
  have CJ : Hid (∀ W a c, SR W a (wordsTx x) → (wordsTx x).length ≤ c → c ≤ 9223372036854775807 → Calls Tryz.prog 23 #[.slice a (wordsTx x).length c, .string ⟨#[32]⟩] W fun e w' => e = .returned (.string (Lx.bs t)) ∧ Below W.heap.size W w') := fun W a c hs h1 h2 => by
    have h9 := HF.out.1
    have h := join_g 39000000 [32] (wordsTx x) a _ c W rfl (by omega) h1 h2 hs (by decide) HF.out.2 (Nat.le_trans (Nat.mul_le_mul_right _ (show (wordsTx x).length + 1 ≤ 10 by omega)) (by decide))
    rw [ht, printX, if_pos hr]
    exact h
  have YC : Hid (∀ W, Below w1.heap.size w1 W → ∀ r v, (#[.int .u8 (x.kind : Int), .string (Lx.bs x.table), .string (Lx.bs x.field), .slice ia x.items.length ic, .slice ea x.expr.length ec, .bool x.history, .bool x.desc] : Array Value)[r]? = some v → W.cell? ⟨T, r, none⟩ = some v) := fun W hW r v hv => by rw [cell_of_row _ _ _ _ _ _ ((hW.block T (row_lt X1.out.1)).trans X1.out.1)]; exact hv
  have YA : Hid (∀ W, Below w1.heap.size w1 W → W.cell? ⟨T, 0, none⟩ = some (.int .u8 (x.kind : Int)) ∧ W.cell? ⟨T, 1, none⟩ = some (.string (Lx.bs x.table)) ∧ W.cell? ⟨T, 2, none⟩ = some (.string (Lx.bs x.field)) ∧ W.cell? ⟨T, 3, none⟩ = some (.slice ia x.items.length ic) ∧ W.cell? ⟨T, 4, none⟩ = some (.slice ea x.expr.length ec) ∧ W.cell? ⟨T, 5, none⟩ = some (.bool x.history) ∧ W.cell? ⟨T, 6, none⟩ = some (.bool x.desc)) := fun W hW => ⟨YC.out W hW 0 _ rfl, YC.out W hW 1 _ rfl, YC.out W hW 2 _ rfl, YC.out W hW 3 _ rfl, YC.out W hW 4 _ rfl, YC.out W hW 5 _ rfl, YC.out W hW 6 _ rfl⟩
  obtain ⟨y0, y1, y2, y3, y4, y5, y6⟩ := YA.out w1 (Below.refl _ _)
  rw [← ht]
  clear ht hx hr hm hL hO HF
  go_enter Tryz.func7, Tryz.ntmps7
  go_upto_region 1 with fail
  rw [← hw1, ← hT]
  clear hw1 hT
  go_wp2_with fail
  refine (CK.out).mono ?_
  rintro e w2 ⟨rfl, hb2⟩
  have X2 := hidp hb2
  obtain ⟨y0, y1, y2, y3, y4, y5, y6⟩ := YA.out w2 X2.out
  clear hb2 CK
  go_wp2_with fail
  refine (CW.out _ X2.out).mono ?_
  rintro e w3 ⟨a, c, rfl, G3⟩
  clear CW y0 y1 y2 y3 y4 y5 y6
  go_wp2_with fail
  refine (CJ.out _ _ _ G3.out.2.1 G3.out.2.2.1 G3.out.2.2.2).mono ?_
  rintro e w4 ⟨rfl, hb4⟩
  have X4 : Hid (Below w.heap.size w w4) := X1.out.2.trans ((X2.out.trans ((G3.out.1.trans (hb4.mono G3.out.1.size)).mono X2.out.size)).mono X1.out.2.size)
  clear hb4 CJ
  go_wp2
  go_ret2
  exact ⟨rfl, X4.out⟩
set_option maxHeartbeats 8000000 in
set_option maxRecDepth 100000 in
theorem printf_c (x : St) (ia ea : Option Addr) (ic ec : Nat) (w : World) (hx : FitX x) (hr : rightX x = false) (hm : StM w ia ea x) (hL : HasL w) : Calls Tryz.prog 7 #[.agg #[.int .u8 (x.kind : Int), .string (Lx.bs x.table), .string (Lx.bs x.field), .slice ia x.items.length ic, .slice ea x.expr.length ec, .bool x.history, .bool x.desc]] w fun e w' => e = .returned (.tuple #[.string ⟨#[]⟩, .int .i64 13]) ∧ Below w.heap.size w w' := by
  obtain ⟨w1, hw1⟩ : ∃ w1, w1 = w.alloc (.cells #[.int .u8 (x.kind : Int), .string (Lx.bs x.table), .string (Lx.bs x.field), .slice ia x.items.length ic, .slice ea x.expr.length ec, .bool x.history, .bool x.desc] 26) := ⟨_, rfl⟩
  obtain ⟨T, hT⟩ : ∃ T, T = w.heap.size := ⟨_, rfl⟩
  have X1 : Hid (w1.heap[T]? = some (.cells #[.int .u8 (x.kind : Int), .string (Lx.bs x.table), .string (Lx.bs x.field), .slice ia x.items.length ic, .slice ea x.expr.length ec, .bool x.history, .bool x.desc] 26 (0, 0)) ∧ Below w.heap.size w w1) := ⟨by rw [hw1, hT]; exact heap_alloc_new w _, by rw [hw1]; exact bnew _ _⟩
  have CK : Hid (Calls Tryz.prog 14 #[.agg #[.int .u8 (x.kind : Int), .string (Lx.bs x.table), .string (Lx.bs x.field), .slice ia x.items.length ic, .slice ea x.expr.length ec, .bool x.history, .bool x.desc]] w1 fun e w' => e = .returned (.int .i64 13) ∧ Below w1.heap.size w1 w') := by
    have h := checkX_c x ia ea ic ec w1 hx (hm.call X1.out.2) (hL.stays X1.out.2)
    rw [if_neg (by rw [hr]; decide)] at h
    exact h
  have YC : Hid (∀ W, Below w1.heap.size w1 W → ∀ r v, (#[.int .u8 (x.kind : Int), .string (Lx.bs x.table), .string (Lx.bs x.field), .slice ia x.items.length ic, .slice ea x.expr.length ec, .bool x.history, .bool x.desc] : Array Value)[r]? = some v → W.cell? ⟨T, r, none⟩ = some v) := fun W hW r v hv => by rw [cell_of_row _ _ _ _ _ _ ((hW.block T (row_lt X1.out.1)).trans X1.out.1)]; exact hv
  have YA : Hid (∀ W, Below w1.heap.size w1 W → W.cell? ⟨T, 0, none⟩ = some (.int .u8 (x.kind : Int)) ∧ W.cell? ⟨T, 1, none⟩ = some (.string (Lx.bs x.table)) ∧ W.cell? ⟨T, 2, none⟩ = some (.string (Lx.bs x.field)) ∧ W.cell? ⟨T, 3, none⟩ = some (.slice ia x.items.length ic) ∧ W.cell? ⟨T, 4, none⟩ = some (.slice ea x.expr.length ec) ∧ W.cell? ⟨T, 5, none⟩ = some (.bool x.history) ∧ W.cell? ⟨T, 6, none⟩ = some (.bool x.desc)) := fun W hW => ⟨YC.out W hW 0 _ rfl, YC.out W hW 1 _ rfl, YC.out W hW 2 _ rfl, YC.out W hW 3 _ rfl, YC.out W hW 4 _ rfl, YC.out W hW 5 _ rfl, YC.out W hW 6 _ rfl⟩
  obtain ⟨y0, y1, y2, y3, y4, y5, y6⟩ := YA.out w1 (Below.refl _ _)
  clear hx hr hm hL
  go_enter Tryz.func7, Tryz.ntmps7
  go_upto_region 1 with fail
  rw [← hw1, ← hT]
  clear hw1 hT
  go_wp2_with fail
  refine (CK.out).mono ?_
  rintro e w2 ⟨rfl, hb2⟩
  have X2 := hidp hb2
  obtain ⟨y0, y1, y2, y3, y4, y5, y6⟩ := YA.out w2 X2.out
  clear hb2 CK
  go_wp2
  go_ret2
  exact ⟨rfl, X1.out.2.trans (X2.out.mono X1.out.2.size)⟩
theorem print_c (x : St) (ia ea : Option Addr) (ic ec : Nat) (w : World) (hx : FitX x) (hm : StM w ia ea x) (hL : HasL w) (hO : HasO w) : Calls Tryz.prog 7 #[.agg #[.int .u8 (x.kind : Int), .string (Lx.bs x.table), .string (Lx.bs x.field), .slice ia x.items.length ic, .slice ea x.expr.length ec, .bool x.history, .bool x.desc]] w fun e w' => e = .returned (.tuple #[.string (Lx.bs (printX x)), .int .i64 (if rightX x = true then 0 else 13)]) ∧ Below w.heap.size w w' := by
  by_cases hr : rightX x = true
  · rw [if_pos hr]
    exact printt_c x ia ea ic ec w hx hr hm hL hO
  · have e : printX x = [] := by rw [printX, if_neg hr]
    rw [if_neg hr, e]
    exact printf_c x ia ea ic ec w hx (eq_false_of_ne_true hr) hm hL
end Ps
end Go.Proofs.YtfhkaffakniioaaGreatDoor
