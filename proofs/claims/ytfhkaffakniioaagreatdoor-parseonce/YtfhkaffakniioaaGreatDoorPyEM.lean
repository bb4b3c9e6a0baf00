/- A SELECT with a condition, printed: walked. -/
import Derived.Test.YtfhkaffakniioaaGreatDoorQ62M
import Derived.Deep.Upon
import Derived.Deep.AppendLies
import Derived.Deep.RegionHeld3
import Derived.Lib.AppendZeros
namespace Go.Proofs.YtfhkaffakniioaaGreatDoor
open Go.RowKit
namespace Ps
theorem nm_table {x : St} (h : rightX x = true) : x.table.length ≤ 64 := by
  rw [rightX, Bool.and_eq_true, Bool.and_eq_true] at h
  exact nm_len h.1.1
theorem its_ok {l : List It} (h : rightIts l = true) (hf : ∀ i ∈ l, fitE i.expr) : ItOK l := by
  rw [rightIts, Bool.and_eq_true, Bool.and_eq_true, decide_eq_true_iff, List.all_eq_true] at h
  refine ⟨h.1.1, h.1.2, fun i hi => (hf i hi).2, fun i hi => nm_len (areNs_nm _ _ h.2 i.name (List.mem_map_of_mem hi))⟩
theorem select_right {x : St} (h : rightX x = true) (h6 : x.kind = 6) : rightIts x.items = true ∧ rightC x.expr = true := by
  rw [rightX, Bool.and_eq_true] at h
  have h2 := h.2
  rw [if_neg (by omega), if_neg (by omega), if_neg (by omega), if_neg (by omega), if_neg (by omega), if_pos h6, Bool.and_eq_true, Bool.and_eq_true] at h2
  exact ⟨h2.1.2, h2.2⟩
theorem cond_right {l : List Sp} (h : rightC l = true) (h0 : l ≠ []) : rightE l = true := by
  rw [rightC, decide_eq_false h0] at h
  exact h
theorem what_len {l : List It} (h : ItOK l) : (whatTx l).length ≤ 39000000 := by
  rw [whatTx]
  split
  · exact (by decide : 1 ≤ 39000000)
  · have h1 := tot_join [44, 32] (itemsTx false l)
    have h2 := tot_bound (itemsTx false l) 600000 (items_len h false)
    have e : (itemsTx false l).length = l.length := by rw [itemsTx, List.length_map]
    have e2 : [(44 : UInt8), 32].length = 2 := rfl
    have h3 : l.length * 600000 ≤ 64 * 600000 := Nat.mul_le_mul_right _ h.few
    have h4 := h.few
    rw [e] at h1 h2
    rw [e2] at h1
    omega
theorem append_nil_s (W : World) (ty : TypeId) (b : Option Addr) (n c : Nat) (h : n ≤ c) : (Builtin.append_ #[50, 50] ty #[.slice b n c, .slice none 0 0]).run Tryz.prog W = .ok (.slice b n c) W := by
  obtain ⟨i0, hi, _, _, _⟩ := info_partsP infoStr
  exact run_append_nothing W 50 50 ty 9 i0 Tryz.underlying50 hi b n c h _ (Src.ofNil W Tryz.underlying50 0)
theorem own_made (W : World) (B : Nat) (hB : B ≤ W.heap.size) (a b c d : Value) : (W.alloc (.cells #[a, b, c, d] 9)).ownsRow B 9 1 (.slice (some ⟨W.heap.size, 0, none⟩) 4 4) 4 [a, b, c, d] :=
  ⟨rfl, .inr ⟨_, 4, #[a, b, c, d], rfl, hB, heap_alloc_new W _, Nat.le_refl _, by decide, rfl, rfl⟩⟩
theorem cell_new {W : World} {p : Addr} {v : Value} (o : Obj) (h : W.cell? p = some v) : (W.alloc o).cell? p = some v := by
  exact (World.cell?_alloc_some W p o (by rw [h]; rfl)).trans h
theorem two_cells {W : World} {g o : Nat} {x y : Value} (h0 : W.cell? ⟨g, o, none⟩ = some x) (h1 : W.cell? ⟨g, o + 1, none⟩ = some y) : ∀ j u, [x, y][j]? = some u → W.cell? ((⟨g, o, none⟩ : Addr).add j) = some u := fun j u hu =>
  match j, hu with
  | 0, hu => by cases hu; exact h0
  | 1, hu => by cases hu; exact h1
set_option maxHeartbeats 2000000 in
theorem order_nil_c (x : St) (hx : x.field = []) (ia ea : Option Addr) (ic ec : Nat) (w : World) : Calls Tryz.prog 50 #[.agg #[.int .u8 (x.kind : Int), .string (Lx.bs x.table), .string (Lx.bs x.field), .slice ia x.items.length ic, .slice ea x.expr.length ec, .bool x.history, .bool x.desc]] w fun e w' => e = .returned (.slice none 0 0) ∧ Below w.heap.size w w' := by
  obtain ⟨w1, hw1⟩ : ∃ w1, w1 = w.alloc (.cells #[.int .u8 (x.kind : Int), .string (Lx.bs x.table), .string (Lx.bs x.field), .slice ia x.items.length ic, .slice ea x.expr.length ec, .bool x.history, .bool x.desc] 26) := ⟨_, rfl⟩
  obtain ⟨T, hT⟩ : ∃ T, T = w.heap.size := ⟨_, rfl⟩
  have X1 : Hid (w1.heap[T]? = some (.cells #[.int .u8 (x.kind : Int), .string (Lx.bs x.table), .string (Lx.bs x.field), .slice ia x.items.length ic, .slice ea x.expr.length ec, .bool x.history, .bool x.desc] 26 (0, 0)) ∧ Below w.heap.size w w1) := ⟨by rw [hw1, hT]; exact heap_alloc_new w _, by rw [hw1]; exact bnew _ _⟩
  have YC : Hid (∀ r v, (#[.int .u8 (x.kind : Int), .string (Lx.bs x.table), .string (Lx.bs x.field), .slice ia x.items.length ic, .slice ea x.expr.length ec, .bool x.history, .bool x.desc] : Array Value)[r]? = some v → w1.cell? ⟨T, r, none⟩ = some v) := fun r v hv => by rw [cell_of_row _ _ _ _ _ _ X1.out.1]; exact hv
  have y2 := YC.out 2 _ rfl
  obtain ⟨s, hs⟩ : ∃ s, s = Lx.bs x.field := ⟨_, rfl⟩
  have fq : (s.toList == []) = true := by rw [hs, Lx.bs_toList, hx]; rfl
  show Calls Tryz.prog 50 _ w _
  rw [← hs] at y2
  clear hs hx
  go_enter Tryz.func50, Tryz.ntmps50
  go_upto_region 1 with fail
  rw [← hw1, ← hT]
  clear hw1 hT
  go_wp2
  go_ret
  exact ⟨rfl, X1.out.2⟩
set_option maxHeartbeats 8000000 in
set_option maxRecDepth 100000 in
theorem words6_c (x : St) (ia ea : Option Addr) (ic ec : Nat) (w : World) (hx : FitX x) (hr : rightX x = true) (h6 : x.kind = 6) (he : x.expr ≠ []) (hfd : x.field = []) (hm : StM w ia ea x) (hL : HasL w) (hO : HasO w) : Calls Tryz.prog 24 #[.agg #[.int .u8 (x.kind : Int), .string (Lx.bs x.table), .string (Lx.bs x.field), .slice ia x.items.length ic, .slice ea x.expr.length ec, .bool x.history, .bool x.desc]] w fun e w' => ∃ a c, e = .returned (.slice a 6 c) ∧ Hid (Below w.heap.size w w' ∧ SR w' a (wordsTx x) ∧ 6 ≤ c ∧ c ≤ 9223372036854775807) := by
  obtain ⟨w1, hw1⟩ : ∃ w1, w1 = w.alloc (.cells #[.int .u8 (x.kind : Int), .string (Lx.bs x.table), .string (Lx.bs x.field), .slice ia x.items.length ic, .slice ea x.expr.length ec, .bool x.history, .bool x.desc] 26) := ⟨_, rfl⟩
  obtain ⟨T, hT⟩ : ∃ T, T = w.heap.size := ⟨_, rfl⟩
  have X1 : Hid (w1.heap[T]? = some (.cells #[.int .u8 (x.kind : Int), .string (Lx.bs x.table), .string (Lx.bs x.field), .slice ia x.items.length ic, .slice ea x.expr.length ec, .bool x.history, .bool x.desc] 26 (0, 0)) ∧ Below w.heap.size w w1) := ⟨by rw [hw1, hT]; exact heap_alloc_new w _, by rw [hw1]; exact bnew _ _⟩
  have tl := row_lt X1.out.1
  obtain ⟨sr1, sr2⟩ := select_right hr h6
  have hok := its_ok sr1 hx.items.2
  obtain ⟨wt, hwt⟩ : ∃ wt, wt = whatTx x.items := ⟨_, rfl⟩
  obtain ⟨ft, hft⟩ : ∃ ft, ft = fromTx x := ⟨_, rfl⟩
  obtain ⟨st, hst⟩ : ∃ st, st = shownE x.expr := ⟨_, rfl⟩
  have CW : Hid (∀ W, Below w1.heap.size w1 W → Calls Tryz.prog 48 #[.slice ia x.items.length ic] W fun e w' => e = .returned (.string (Lx.bs wt)) ∧ Below W.heap.size W w') := fun W hW => by
    have hB := X1.out.2.trans (hW.mono X1.out.2.size)
    rw [hwt]
    exact what_c x.items ia _ ic W rfl hok (hm.its.call hB) (hL.stays hB) (hO.stays hB)
  have CF : Hid (∀ W, Calls Tryz.prog 49 #[.agg #[.int .u8 (x.kind : Int), .string (Lx.bs x.table), .string (Lx.bs x.field), .slice ia x.items.length ic, .slice ea x.expr.length ec, .bool x.history, .bool x.desc]] W fun e w' => e = .returned (.string (Lx.bs ft)) ∧ Below W.heap.size W w') := fun W => by
    rw [hft]
    exact from_c x ia ea ic ec W (by have := nm_table hr; omega)
  have CC : Hid (∀ W, Below w1.heap.size w1 W → Calls Tryz.prog 47 #[.slice ea x.expr.length ec] W fun e w' => ∃ g o cc, e = .returned (.slice (some ⟨g, o, none⟩) 2 cc) ∧ Hid (Below W.heap.size W w' ∧ w'.cell? ⟨g, o, none⟩ = some (.string ⟨#[87, 72, 69, 82, 69]⟩) ∧ w'.cell? ⟨g, o + 1, none⟩ = some (.string (Lx.bs st)))) := fun W hW => by
    have hB := X1.out.2.trans (hW.mono X1.out.2.size)
    have h := condition_c x.expr ea _ ec W (fun h0 => cond_right sr2 h0) rfl (hm.exp.call hB) hx.expr.2 (hL.stays hB) (hO.stays hB)
    have e : condTx x.expr = [[87, 72, 69, 82, 69], st] := by rw [condTx, if_neg he, hst]
    rw [e] at h
    refine h.mono ?_
    rintro e w' ⟨a, c, rfl, G⟩
    obtain ⟨hb, a', c', hv, _, _, sr⟩ := G.out
    obtain ⟨g, o, e0, q0⟩ := sr 0 _ rfl
    obtain ⟨g1, o1, e1, q1⟩ := sr 1 _ rfl
    rw [e0] at e1
    cases e1
    cases hv
    rw [e0]
    exact ⟨g, o, _, rfl, hb, q0, q1⟩
  have CO : Hid (∀ W, Calls Tryz.prog 50 #[.agg #[.int .u8 (x.kind : Int), .string (Lx.bs x.table), .string (Lx.bs x.field), .slice ia x.items.length ic, .slice ea x.expr.length ec, .bool x.history, .bool x.desc]] W fun e w' => e = .returned (.slice none 0 0) ∧ Below W.heap.size W w') := fun W => order_nil_c x hfd ia ea ic ec W
  have HW : Hid (wordsTx x = [[83, 69, 76, 69, 67, 84], wt, [70, 82, 79, 77], ft] ++ [[87, 72, 69, 82, 69], st]) := by
    show _ = _
    rw [wordsTx, if_neg (by omega), if_neg (by omega), if_neg (by omega), if_neg (by omega), if_neg (by omega), orderTx, if_pos hfd, condTx, if_neg he, hwt, hft, hst]
    rfl
  have FIN : Hid (∀ (W4 W5 : World) (gr gg cap : Nat), Below w1.heap.size w1 W4 → w1.heap.size ≤ gr → W4.grownBy W5 (some gr) → W5.ownsRow w1.heap.size 9 1 (.slice (some ⟨gg, 0, none⟩) (4 + 2) cap) (4 + 2) ([.string ⟨#[83, 69, 76, 69, 67, 84]⟩, .string (Lx.bs wt), .string ⟨#[70, 82, 79, 77]⟩, .string (Lx.bs ft)] ++ [.string ⟨#[87, 72, 69, 82, 69]⟩, .string (Lx.bs st)]) → Below w1.heap.size w1 W5 ∧ SR W5 (some ⟨gg, 0, none⟩) (wordsTx x) ∧ 6 ≤ cap ∧ cap ≤ 9223372036854775807) := fun W4 W5 gr gg cap hb hgr hg hn => by
    have hT : OwnT W5 w1.heap.size (.slice (some ⟨gg, 0, none⟩) 6 cap) (wordsTx x) := by rw [HW.out]; exact hn
    obtain ⟨_, c1, c2, c3⟩ := hT.sr
    exact ⟨hb.grown hg hb.size (fun q hq => by cases hq; exact hgr), c2, c1, Nat.le_trans c3 (by decide)⟩
  have k1 : ((x.kind : Int) == 1) = false := by rw [h6]; rfl
  have k2 : ((x.kind : Int) == 2) = false := by rw [h6]; rfl
  have k3 : ((x.kind : Int) == 3) = false := by rw [h6]; rfl
  have k4 : ((x.kind : Int) == 4) = false := by rw [h6]; rfl
  have k5 : ((x.kind : Int) == 5) = false := by rw [h6]; rfl
  have YC : Hid (∀ W, Below w1.heap.size w1 W → ∀ r v, (#[.int .u8 (x.kind : Int), .string (Lx.bs x.table), .string (Lx.bs x.field), .slice ia x.items.length ic, .slice ea x.expr.length ec, .bool x.history, .bool x.desc] : Array Value)[r]? = some v → W.cell? ⟨T, r, none⟩ = some v) := fun W hW r v hv => by rw [cell_of_row _ _ _ _ _ _ ((hW.block T (row_lt X1.out.1)).trans X1.out.1)]; exact hv
  have YA : Hid (∀ W, Below w1.heap.size w1 W → W.cell? ⟨T, 0, none⟩ = some (.int .u8 (x.kind : Int)) ∧ W.cell? ⟨T, 1, none⟩ = some (.string (Lx.bs x.table)) ∧ W.cell? ⟨T, 2, none⟩ = some (.string (Lx.bs x.field)) ∧ W.cell? ⟨T, 3, none⟩ = some (.slice ia x.items.length ic) ∧ W.cell? ⟨T, 4, none⟩ = some (.slice ea x.expr.length ec) ∧ W.cell? ⟨T, 5, none⟩ = some (.bool x.history) ∧ W.cell? ⟨T, 6, none⟩ = some (.bool x.desc)) := fun W hW => ⟨YC.out W hW 0 _ rfl, YC.out W hW 1 _ rfl, YC.out W hW 2 _ rfl, YC.out W hW 3 _ rfl, YC.out W hW 4 _ rfl, YC.out W hW 5 _ rfl, YC.out W hW 6 _ rfl⟩
  have y0 := YC.out w1 (Below.refl _ _) 0 _ rfl
  clear hx hr h6 he hfd hm hL hO sr1 sr2 hok hwt hft hst
  go_enter Tryz.func24, Tryz.ntmps24
  go_upto_region 1 with fail
  rw [← hw1, ← hT]
  clear hw1 hT
  go_upto_region 12 with fail
  clear k1 k2 k3 k4 k5
  have y1 := YC.out w1 (Below.refl _ _) 1 _ rfl
  have y2 := YC.out w1 (Below.refl _ _) 2 _ rfl
  have y3 := YC.out w1 (Below.refl _ _) 3 _ rfl
  have y4 := YC.out w1 (Below.refl _ _) 4 _ rfl
  have y5 := YC.out w1 (Below.refl _ _) 5 _ rfl
  have y6 := YC.out w1 (Below.refl _ _) 6 _ rfl
  obtain ⟨i0, hi, hz0, hz1, hz2⟩ := info_partsP infoStr
  go_region_held3 (fun W' => W'.cell? ⟨T, 0, none⟩ = some (.int .u8 (x.kind : Int)) ∧ W'.cell? ⟨T, 1, none⟩ = some (.string (Lx.bs x.table)) ∧ W'.cell? ⟨T, 2, none⟩ = some (.string (Lx.bs x.field)) ∧ W'.cell? ⟨T, 3, none⟩ = some (.slice ia x.items.length ic) ∧ W'.cell? ⟨T, 4, none⟩ = some (.slice ea x.expr.length ec) ∧ W'.cell? ⟨T, 5, none⟩ = some (.bool x.history) ∧ W'.cell? ⟨T, 6, none⟩ = some (.bool x.desc)) (go_keep) (first
    | (go_at_call 48; refine (CW.out _ ?_).mono ?_; (first | exact Below.refl _ _ | exact (Below.refl _ _).drew); rintro e w2 ⟨rfl, hb2⟩
       have X2 : Hid (Below w1.heap.size w1 w2) := ((Below.refl w1.heap.size w1).drew.trans hb2)
       obtain ⟨y0, y1, y2, y3, y4, y5, y6⟩ := YA.out w2 X2.out)
    | (go_at_call 49; refine (CF.out _).mono ?_; rintro e w3 ⟨rfl, hb3⟩
       have X3 : Hid (Below w1.heap.size w1 w3) := (X2.out.trans (hb3.mono X2.out.size))
       obtain ⟨y0, y1, y2, y3, y4, y5, y6⟩ := YA.out w3 X3.out)
    | (go_at_call 47; refine (CC.out _ ?_).mono ?_; (first | exact X3.out | exact X3.out.trans ((bnew w3 _).mono X3.out.size)); rintro e w4 ⟨g, o, cc, rfl, G4⟩
       have X4 : Hid (Below w1.heap.size w1 w4) := (by first | exact X3.out.trans (G4.out.1.mono X3.out.size) | exact (X3.out.trans ((bnew w3 _).mono X3.out.size)).trans (G4.out.1.mono (Nat.le_trans X3.out.size (bnew w3 _).size)))
       obtain ⟨y0, y1, y2, y3, y4, y5, y6⟩ := YA.out w4 X4.out)
    | (refine step_append_lies _ (by rfl) _ _ _ (by rfl) w1.heap.size 9 i0 _ 1 16 Tryz.underlying50 hi hz0 hz1 hz2 rfl (by omega) _ _ _ (by rfl) (own_callL (own_made w3 _ X3.out.size _ _ _ _) G4.out.1) ⟨g, o, none⟩ 2 cc [.string ⟨#[87, 72, 69, 82, 69]⟩, .string (Lx.bs st)] (by rfl) (by rfl) (two_cells G4.out.2.1 G4.out.2.2) (by simp [Value.oneCell']) (by omega) (by decide) (by decide) (X4.out.size) (w4.heap.size) (by simp) ?_; intro gg cap w5 hown5 hgrow5 hat5 hglt5
       have X5 : Hid (Below w1.heap.size w1 w5 ∧ SR w5 (some ⟨gg, 0, none⟩) (wordsTx x) ∧ 6 ≤ cap ∧ cap ≤ 9223372036854775807) := (FIN.out w4 w5 w3.heap.size gg cap (X4.out) (X3.out.size) hgrow5 hown5)
       obtain ⟨y0, y1, y2, y3, y4, y5, y6⟩ := YA.out w5 X5.out.1
       clear hown5 hgrow5 hat5 hglt5)
    | (refine step_append_lies _ (by rfl) _ _ _ (by rfl) w1.heap.size 9 i0 _ 1 16 Tryz.underlying50 hi hz0 hz1 hz2 rfl (by omega) _ _ _ (by rfl) (own_made w4 _ X4.out.size _ _ _ _) ⟨g, o, none⟩ 2 cc [.string ⟨#[87, 72, 69, 82, 69]⟩, .string (Lx.bs st)] (by rfl) (by rfl) (two_cells (cell_new _ G4.out.2.1) (cell_new _ G4.out.2.2)) (by simp [Value.oneCell']) (by omega) (by decide) (by decide) (Nat.le_trans X4.out.size (bnew w4 _).size) ((w4.heap.size + 1)) (by simp) ?_; intro gg cap w5 hown5 hgrow5 hat5 hglt5
       have X5 : Hid (Below w1.heap.size w1 w5 ∧ SR w5 (some ⟨gg, 0, none⟩) (wordsTx x) ∧ 6 ≤ cap ∧ cap ≤ 9223372036854775807) := (FIN.out (w4.alloc (.cells #[.string ⟨#[83, 69, 76, 69, 67, 84]⟩, .string (Lx.bs wt), .string ⟨#[70, 82, 79, 77]⟩, .string (Lx.bs ft)] 9)) w5 w4.heap.size gg cap (X4.out.trans ((bnew w4 _).mono X4.out.size)) (X4.out.size) hgrow5 hown5)
       obtain ⟨y0, y1, y2, y3, y4, y5, y6⟩ := YA.out w5 X5.out.1
       clear hown5 hgrow5 hat5 hglt5)
    )
  all_goals
    go_wp2_with fail
    refine (CO.out _).mono ?_
    rintro e w6 ⟨rfl, hb6⟩
    have X6 : Hid (Below w.heap.size w w6 ∧ SR w6 (some ⟨gg, 0, none⟩) (wordsTx x)) := ⟨X1.out.2.trans ((X5.out.1.trans (hb6.mono X5.out.1.size)).mono X1.out.2.size), X5.out.2.1.call hb6⟩
    go_wp2_with (at_builtin; refine Lib.wpList_append_run _ rfl _ _ _ _ rfl _ _ rfl rfl _ _ (append_nil_s _ _ _ _ _ X5.out.2.2.1) ?_)
    go_ret
    exact ⟨_, _, rfl, X6.out.1, X6.out.2, X5.out.2.2⟩
end Ps
end Go.Proofs.YtfhkaffakniioaaGreatDoor
