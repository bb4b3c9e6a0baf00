/- Several texts, joined: PyF, PyG -/
import Derived.Test.YtfhkaffakniioaaGreatDoorPyEM
import Derived.Test.YtfhkaffakniioaaGreatDoorPrXM
/- A SELECT with a condition, printed: walked whole. -/
namespace Go.Proofs.YtfhkaffakniioaaGreatDoor
open Go.RowKit
namespace Ps
theorem words6_few {x : St} (hx : FitX x) (hr : rightX x = true) (h6 : x.kind = 6) (he : x.expr ≠ []) (hfd : x.field = []) : (wordsTx x).length = 6 ∧ ∀ t ∈ wordsTx x, t.length ≤ 39000000 := by
  obtain ⟨sr1, sr2⟩ := select_right hr h6
  have hok := its_ok sr1 hx.items.2
  have h1 := what_len hok
  have h2 := nm_table hr
  have h3 := shown_len (cond_right sr2 he) hx.expr.2
  have e : wordsTx x = [[83, 69, 76, 69, 67, 84], whatTx x.items, [70, 82, 79, 77], fromTx x, [87, 72, 69, 82, 69], shownE x.expr] := by
    rw [wordsTx, if_neg (by omega), if_neg (by omega), if_neg (by omega), if_neg (by omega), if_neg (by omega), orderTx, if_pos hfd, condTx, if_neg he]
    rfl
  have h4 : (fromTx x).length ≤ 39000000 := by
    rw [fromTx]
    split
    · rw [List.length_append, List.length_append]
      show 8 + x.table.length + 1 ≤ _
      omega
    · omega
  rw [e]
  refine ⟨rfl, fun t ht => ?_⟩
  rcases List.mem_cons.1 ht with rfl | ht
  · exact (by decide : 6 ≤ 39000000)
  rcases List.mem_cons.1 ht with rfl | ht
  · exact h1
  rcases List.mem_cons.1 ht with rfl | ht
  · exact (by decide : 4 ≤ 39000000)
  rcases List.mem_cons.1 ht with rfl | ht
  · exact h4
  rcases List.mem_cons.1 ht with rfl | ht
  · exact (by decide : 5 ≤ 39000000)
  rcases List.mem_cons.1 ht with rfl | ht
  · omega
  · cases ht
set_option maxHeartbeats 8000000 in
set_option maxRecDepth 100000 in
theorem print6_c (x : St) (ia ea : Option Addr) (ic ec : Nat) (w : World) (hx : FitX x) (hr : rightX x = true) (h6 : x.kind = 6) (he : x.expr ≠ []) (hfd : x.field = []) (hm : StM w ia ea x) (hL : HasL w) (hO : HasO w) : Calls Tryz.prog 7 #[.agg #[.int .u8 (x.kind : Int), .string (Lx.bs x.table), .string (Lx.bs x.field), .slice ia x.items.length ic, .slice ea x.expr.length ec, .bool x.history, .bool x.desc]] w fun e w' => e = .returned (.tuple #[.string (Lx.bs (printX x)), .int .i64 0]) ∧ Below w.heap.size w w' := by
  obtain ⟨w1, hw1⟩ : ∃ w1, w1 = w.alloc (.cells #[.int .u8 (x.kind : Int), .string (Lx.bs x.table), .string (Lx.bs x.field), .slice ia x.items.length ic, .slice ea x.expr.length ec, .bool x.history, .bool x.desc] 26) := ⟨_, rfl⟩
  obtain ⟨T, hT⟩ : ∃ T, T = w.heap.size := ⟨_, rfl⟩
  have X1 : Hid (w1.heap[T]? = some (.cells #[.int .u8 (x.kind : Int), .string (Lx.bs x.table), .string (Lx.bs x.field), .slice ia x.items.length ic, .slice ea x.expr.length ec, .bool x.history, .bool x.desc] 26 (0, 0)) ∧ Below w.heap.size w w1) := ⟨by rw [hw1, hT]; exact heap_alloc_new w _, by rw [hw1]; exact bnew _ _⟩
  have CK : Hid (Calls Tryz.prog 14 #[.agg #[.int .u8 (x.kind : Int), .string (Lx.bs x.table), .string (Lx.bs x.field), .slice ia x.items.length ic, .slice ea x.expr.length ec, .bool x.history, .bool x.desc]] w1 fun e w' => e = .returned (.int .i64 0) ∧ Below w1.heap.size w1 w') := by
    have h := checkX_c x ia ea ic ec w1 hx (hm.call X1.out.2) (hL.stays X1.out.2)
    rw [if_pos hr] at h
    exact h
  have CW : Hid (∀ W, Below w1.heap.size w1 W → Calls Tryz.prog 24 #[.agg #[.int .u8 (x.kind : Int), .string (Lx.bs x.table), .string (Lx.bs x.field), .slice ia x.items.length ic, .slice ea x.expr.length ec, .bool x.history, .bool x.desc]] W fun e w' => ∃ a c, e = .returned (.slice a 6 c) ∧ Hid (Below W.heap.size W w' ∧ SR w' a (wordsTx x) ∧ 6 ≤ c ∧ c ≤ 9223372036854775807)) := fun W hW => by
    have hB := X1.out.2.trans (hW.mono X1.out.2.size)
    exact words6_c x ia ea ic ec W hx hr h6 he hfd (hm.call hB) (hL.stays hB) (hO.stays hB)
  have HF := hidp (words6_few hx hr h6 he hfd)
  obtain ⟨t, ht⟩ : ∃ t, t = printX x := ⟨_, rfl⟩
  have CJ : Hid (∀ W a c, SR W a (wordsTx x) → 6 ≤ c → c ≤ 9223372036854775807 → Calls Tryz.prog 23 #[.slice a 6 c, .string ⟨#[32]⟩] W fun e w' => e = .returned (.string (Lx.bs t)) ∧ Below W.heap.size W w') := fun W a c hs h1 h2 => by
    have h := join_g 39000000 [32] (wordsTx x) a 6 c W HF.out.1.symm (by decide) h1 h2 hs (by decide) HF.out.2 (by decide)
    rw [ht, printX, if_pos hr]
    exact h
  have YC : Hid (∀ W, Below w1.heap.size w1 W → ∀ r v, (#[.int .u8 (x.kind : Int), .string (Lx.bs x.table), .string (Lx.bs x.field), .slice ia x.items.length ic, .slice ea x.expr.length ec, .bool x.history, .bool x.desc] : Array Value)[r]? = some v → W.cell? ⟨T, r, none⟩ = some v) := fun W hW r v hv => by rw [cell_of_row _ _ _ _ _ _ ((hW.block T (row_lt X1.out.1)).trans X1.out.1)]; exact hv
  have YA : Hid (∀ W, Below w1.heap.size w1 W → W.cell? ⟨T, 0, none⟩ = some (.int .u8 (x.kind : Int)) ∧ W.cell? ⟨T, 1, none⟩ = some (.string (Lx.bs x.table)) ∧ W.cell? ⟨T, 2, none⟩ = some (.string (Lx.bs x.field)) ∧ W.cell? ⟨T, 3, none⟩ = some (.slice ia x.items.length ic) ∧ W.cell? ⟨T, 4, none⟩ = some (.slice ea x.expr.length ec) ∧ W.cell? ⟨T, 5, none⟩ = some (.bool x.history) ∧ W.cell? ⟨T, 6, none⟩ = some (.bool x.desc)) := fun W hW => ⟨YC.out W hW 0 _ rfl, YC.out W hW 1 _ rfl, YC.out W hW 2 _ rfl, YC.out W hW 3 _ rfl, YC.out W hW 4 _ rfl, YC.out W hW 5 _ rfl, YC.out W hW 6 _ rfl⟩
  obtain ⟨y0, y1, y2, y3, y4, y5, y6⟩ := YA.out w1 (Below.refl _ _)
  rw [← ht]
  clear ht hx hr h6 he hfd hm hL hO HF
  go_enter Tryz.func7, Tryz.ntmps7
  go_upto_region 1 with fail
  rw [← hw1, ← hT]
  clear hw1 hT
  go_wp2_with fail
  refine (CK.out).mono ?_
  rintro e w2 ⟨rfl, hb2⟩
  have X2 := hidp hb2
  obtain ⟨y0, y1, y2, y3, y4, y5, y6⟩ := YA.out w2 X2.out
  clear hb2 CK
  go_wp2_with fail
  refine (CW.out _ X2.out).mono ?_
  rintro e w3 ⟨a, c, rfl, G3⟩
  clear CW y0 y1 y2 y3 y4 y5 y6
  go_wp2_with fail
  refine (CJ.out _ _ _ G3.out.2.1 G3.out.2.2.1 G3.out.2.2.2).mono ?_
  rintro e w4 ⟨rfl, hb4⟩
  have X4 : Hid (Below w.heap.size w w4) := X1.out.2.trans ((X2.out.trans ((G3.out.1.trans (hb4.mono G3.out.1.size)).mono X2.out.size)).mono X1.out.2.size)
  clear hb4 CJ
  go_wp2
  go_ret2
  exact ⟨rfl, X4.out⟩
end Ps
end Go.Proofs.YtfhkaffakniioaaGreatDoor
/- That a text is read and printed: lives answers true. -/
namespace Go.Proofs.YtfhkaffakniioaaGreatDoor
open Go.RowKit
namespace Ps
def in1 : Bs := [115, 101, 108, 101, 99, 116, 32, 97, 32, 43, 32, 49, 32, 97, 115, 32, 120, 32, 102, 114, 111, 109, 32, 116, 32, 119, 104, 101, 114, 101, 32, 110, 111, 116, 32, 98, 32, 61, 32, 50, 32, 97, 110, 100, 32, 99, 32, 105, 115, 32, 110, 117, 108, 108]
def in2 : Bs := [67, 82, 69, 65, 84, 69, 32, 84, 65, 66, 76, 69, 32, 55]
def out1 : Bs := [83, 69, 76, 69, 67, 84, 32, 40, 97, 32, 43, 32, 49, 41, 32, 65, 83, 32, 120, 32, 70, 82, 79, 77, 32, 116, 32, 87, 72, 69, 82, 69, 32, 40, 40, 78, 79, 84, 32, 40, 98, 32, 61, 32, 50, 41, 41, 32, 65, 78, 68, 32, 40, 99, 32, 73, 83, 32, 78, 85, 76, 76, 41, 41]
theorem in2_f : (parseX in2).2 = (13, 13) := by decide +kernel
theorem in1_f : (parseX in1).2 = (0, 0) ∧ (parseX in1).1.kind = 6 ∧ (parseX in1).1.field = [] ∧ (parseX in1).1.expr.length = 7 ∧ ((parseX in1).1.expr[3]?).map (·.kind) = some 10 ∧ rightX (parseX in1).1 = true ∧ printX (parseX in1).1 = out1 := by decide +kernel
set_option maxHeartbeats 8000000 in
set_option maxRecDepth 100000 in
theorem lives_c (w : World) (hO : HasO w) (hL : HasL w) : Calls Tryz.prog 13 #[] w fun e w' => e = .returned (.bool true) ∧ Below w.heap.size w w' := by
  obtain ⟨x, hx⟩ : ∃ x, x = (parseX in1).1 := ⟨_, rfl⟩
  obtain ⟨z, hz⟩ : ∃ z, z = (parseX in2).1 := ⟨_, rfl⟩
  have F1 := hidp in1_f
  rw [← hx] at F1
  obtain ⟨f0, f1, f2, f3, f4, f5, f6⟩ := F1.out
  have CP1 : Hid (Calls Tryz.prog 20 #[.string ⟨#[115, 101, 108, 101, 99, 116, 32, 97, 32, 43, 32, 49, 32, 97, 115, 32, 120, 32, 102, 114, 111, 109, 32, 116, 32, 119, 104, 101, 114, 101, 32, 110, 111, 116, 32, 98, 32, 61, 32, 50, 32, 97, 110, 100, 32, 99, 32, 105, 115, 32, 110, 117, 108, 108]⟩] w fun e w' => ∃ ia ic ea ec, e = .returned (.tuple #[.agg #[.int .u8 6, .string (Lx.bs x.table), .string (Lx.bs x.field), .slice ia x.items.length ic, .slice ea 7 ec, .bool x.history, .bool x.desc], .int .i64 0, .int .i64 0]) ∧ Hid (Below w.heap.size w w' ∧ StM w' ia ea x ∧ FitX x)) := by
    refine (parse_c in1 (by decide) w hO hL).mono ?_
    rintro e w' ⟨ia, ic, ea, ec, rfl, G⟩
    rw [← hx] at G ⊢
    refine ⟨ia, ic, ea, ec, ?_, G.out.1, G.out.2.1, G.out.2.2.1⟩
    rw [stv, f1, f3, f0]
    rfl
  have CP2 : Hid (∀ W, Below w.heap.size w W → Calls Tryz.prog 20 #[.string ⟨#[67, 82, 69, 65, 84, 69, 32, 84, 65, 66, 76, 69, 32, 55]⟩] W fun e w' => ∃ ja jc fa fc, e = .returned (.tuple #[.agg #[.int .u8 (z.kind : Int), .string (Lx.bs z.table), .string (Lx.bs z.field), .slice ja z.items.length jc, .slice fa z.expr.length fc, .bool z.history, .bool z.desc], .int .i64 13, .int .i64 13]) ∧ Below W.heap.size W w') := fun W hW => by
    refine (parse_c in2 (by decide) W (hO.stays hW) (hL.stays hW)).mono ?_
    rintro e w' ⟨ia, ic, ea, ec, rfl, G⟩
    refine ⟨ia, ic, ea, ec, ?_, G.out.1⟩
    rw [← hz, stv, in2_f]
    rfl
  have CQ : Hid (∀ W ia ic ea ec, Below w.heap.size w W → FitX x → StM W ia ea x → Calls Tryz.prog 7 #[.agg #[.int .u8 6, .string (Lx.bs x.table), .string (Lx.bs x.field), .slice ia x.items.length ic, .slice ea 7 ec, .bool x.history, .bool x.desc]] W fun e w' => e = .returned (.tuple #[.string ⟨#[83, 69, 76, 69, 67, 84, 32, 40, 97, 32, 43, 32, 49, 41, 32, 65, 83, 32, 120, 32, 70, 82, 79, 77, 32, 116, 32, 87, 72, 69, 82, 69, 32, 40, 40, 78, 79, 84, 32, 40, 98, 32, 61, 32, 50, 41, 41, 32, 65, 78, 68, 32, 40, 99, 32, 73, 83, 32, 78, 85, 76, 76, 41, 41]⟩, .int .i64 0]) ∧ Below W.heap.size W w') := fun W ia ic ea ec hW hf hm => by
    have h := print6_c x ia ea ic ec W hf f5 f1 (fun e => by rw [e] at f3; cases f3) f2 hm (hL.stays hW) (hO.stays hW)
    rw [f1, f3, f6] at h
    exact h
  clear f0 f1 f2 f3 f4 f5 f6
  clear hx hz hO hL
  go_enter Tryz.func13, Tryz.ntmps13
  go_wp2_with fail
  refine (CP1.out).mono ?_
  rintro e w1 ⟨ia, ic, ea, ec, rfl, G1⟩
  obtain ⟨w2, hw2⟩ : ∃ w2, w2 = w1.alloc (.cells #[.int .u8 6, .string (Lx.bs x.table), .string (Lx.bs x.field), .slice ia x.items.length ic, .slice ea 7 ec, .bool x.history, .bool x.desc] 26) := ⟨_, rfl⟩
  obtain ⟨T, hT⟩ : ∃ T, T = w1.heap.size := ⟨_, rfl⟩
  have X2 : Hid (w2.heap[T]? = some (.cells #[.int .u8 6, .string (Lx.bs x.table), .string (Lx.bs x.field), .slice ia x.items.length ic, .slice ea 7 ec, .bool x.history, .bool x.desc] 26 (0, 0)) ∧ Below w.heap.size w w2 ∧ StM w2 ia ea x ∧ FitX x) := by
    have hb : Below w1.heap.size w1 w2 := by rw [hw2]; exact bnew _ _
    exact ⟨by rw [hw2, hT]; exact heap_alloc_new w1 _, G1.out.1.trans (hb.mono G1.out.1.size), G1.out.2.1.call hb, G1.out.2.2⟩
  have YC : Hid (∀ W, Below w2.heap.size w2 W → ∀ r v, (#[.int .u8 6, .string (Lx.bs x.table), .string (Lx.bs x.field), .slice ia x.items.length ic, .slice ea 7 ec, .bool x.history, .bool x.desc] : Array Value)[r]? = some v → W.cell? ⟨T, r, none⟩ = some v) := fun W hW r v hv => by rw [cell_of_row _ _ _ _ _ _ ((hW.block T (row_lt X2.out.1)).trans X2.out.1)]; exact hv
  have y0 := YC.out w2 (Below.refl _ _) 0 _ rfl
  have y1 := YC.out w2 (Below.refl _ _) 1 _ rfl
  have y2 := YC.out w2 (Below.refl _ _) 2 _ rfl
  have y3 := YC.out w2 (Below.refl _ _) 3 _ rfl
  have y4 := YC.out w2 (Below.refl _ _) 4 _ rfl
  have y5 := YC.out w2 (Below.refl _ _) 5 _ rfl
  have y6 := YC.out w2 (Below.refl _ _) 6 _ rfl
  clear CP1 G1
  go_upto_region 2 with fail
  rw [← hw2, ← hT]
  clear hw2 hT
  go_wp2_with fail
  refine (CQ.out _ _ _ _ _ X2.out.2.1 X2.out.2.2.2 X2.out.2.2.1).mono ?_
  rintro e w3 ⟨rfl, hb3⟩
  have X3 : Hid (Below w2.heap.size w2 w3 ∧ Below w.heap.size w w3) := ⟨hb3, X2.out.2.1.trans (hb3.mono X2.out.2.1.size)⟩
  clear hb3 CQ y0 y1 y2 y3 y4 y5 y6
  go_wp2_with fail
  refine (CP2.out _ X3.out.2).mono ?_
  rintro e w4 ⟨ja, jc, fa, fc, rfl, hb4⟩
  obtain ⟨w5, hw5⟩ : ∃ w5, w5 = w4.alloc (.cells #[.int .u8 (z.kind : Int), .string (Lx.bs z.table), .string (Lx.bs z.field), .slice ja z.items.length jc, .slice fa z.expr.length fc, .bool z.history, .bool z.desc] 26) := ⟨_, rfl⟩
  have X5 : Hid (Below w2.heap.size w2 w5 ∧ Below w.heap.size w w5) := by
    have hb : Below w4.heap.size w4 w5 := by rw [hw5]; exact bnew _ _
    have hb2 := hb4.trans (hb.mono hb4.size)
    exact ⟨X3.out.1.trans (hb2.mono X3.out.1.size), X3.out.2.trans (hb2.mono X3.out.2.size)⟩
  have HE : Hid (∃ g o, ea = some ⟨g, o, none⟩ ∧ w5.cell? ⟨g, o + 9, none⟩ = some (.int .u8 10)) := by
    obtain ⟨p, hp, hk⟩ : ∃ p, x.expr[3]? = some p ∧ p.kind = 10 := by
      have h := F1.out.2.2.2.2.1
      cases e : x.expr[3]? with
      | none => rw [e] at h; cases h
      | some p => rw [e] at h; exact ⟨p, rfl, Option.some.inj h⟩
    obtain ⟨g, o, e, c0, _⟩ := (X2.out.2.2.1.call X5.out.1).exp 3 p hp
    exact ⟨g, o, e, by rw [hk] at c0; exact c0⟩
  obtain ⟨g, o, rfl, c9⟩ := HE.out
  have y4 := YC.out w5 X5.out.1 4 _ rfl
  clear hb4 CP2 F1 X2 X3 HE
  go_upto_region 4 with fail
  rw [← hw5]
  clear hw5
  go_wp2
  go_ret
  exact ⟨rfl, X5.out.2⟩
end Ps
end Go.Proofs.YtfhkaffakniioaaGreatDoor
