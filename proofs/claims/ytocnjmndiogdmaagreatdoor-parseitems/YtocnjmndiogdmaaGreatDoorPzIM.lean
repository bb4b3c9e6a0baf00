/- An item more: the law ParseItems, walked. -/
import Derived.Test.YtocnjmndiogdmaaGreatDoorPzAM
import Derived.Test.YtocnjmndiogdmaaGreatDoorQ47M
namespace Go.Proofs.YtocnjmndiogdmaaGreatDoor
open Go.RowKit
namespace Ps
theorem areNs_app (a : Bs) : ∀ (l d : List Bs), areNs d (l ++ [a]) = (areNs d l && isNm a && !(d ++ l).contains a)
  | [], d => by
    rw [List.nil_append, List.append_nil, areNs, areNs, areNs, Bool.and_true, Bool.true_and]
  | x :: r, d => by
    rw [List.cons_append, areNs, areNs_app a r, areNs, List.append_assoc, List.singleton_append]
    cases isNm x <;> cases d.contains x <;> cases areNs (d ++ [x]) r <;> rfl
theorem its_app {l : List It} {i : It} (h : rightIts l = true) : rightIts (l ++ [i]) = (rightE i.expr && isNm i.name && !(l.map It.name).contains i.name && decide (l.length + 1 ≤ 64)) := by
  rw [rightIts, Bool.and_eq_true, Bool.and_eq_true] at h
  rw [rightIts, List.length_append, List.length_singleton, List.all_append, h.1.2, List.map_append, List.map_singleton, areNs_app, h.2, List.nil_append, List.all_cons, List.all_nil]
  cases decide (l.length + 1 ≤ 64) <;> cases rightE i.expr <;> cases isNm i.name <;> cases (l.map It.name).contains i.name <;> rfl
def stOne (i : It) : St := ⟨4, [116], [], [i], [], false, false⟩
theorem one_right (i : It) : rightX (stOne i) = (rightE i.expr && isNm i.name) := by
  have e1 : isNm [116] = true := by decide +kernel
  have e2 : rightIts [i] = (rightE i.expr && isNm i.name) := by
    rw [rightIts, List.all_cons, List.all_nil, List.map_singleton, areNs, areNs]
    show (decide (1 ≤ 64) && (rightE i.expr && true) && (isNm i.name && !([] : List Bs).contains i.name && true)) = _
    cases rightE i.expr <;> cases isNm i.name <;> rfl
  have e3 : rightX (stOne i) = (isNm [116] && (decide ((4 : Nat) = 6) || (!false && !false)) && (decide (([] : Bs) = []) && !decide ([i] = []) && rightIts [i] && rightC [])) := rfl
  rw [e3, e1, e2, decide_eq_false (by simp : ¬ [i] = [])]
  cases rightE i.expr <;> cases isNm i.name <;> rfl
def stMore (x : St) (i : It) : St := { x with items := x.items ++ [i] }
theorem more_right {x : St} {i : It} (h : rightX x = true) (hk : x.kind = 4 ∨ x.kind = 6) : rightX (stMore x i) = (rightX (stOne i) && !(x.items.map It.name).contains i.name && decide (x.items.length + 1 ≤ 64)) := by
  have hne : decide (x.items ++ [i] = []) = false := decide_eq_false (by simp)
  rw [one_right, rightX]
  rw [rightX, Bool.and_eq_true, Bool.and_eq_true] at h
  obtain ⟨⟨h1, h2⟩, h3⟩ := h
  show (isNm x.table && (decide (x.kind = 6) || (!x.history && !x.desc)) && (if x.kind = 1 then decide (x.field = []) && decide (x.items ++ [i] = []) && decide (x.expr = []) else if x.kind = 2 then isNm x.field && decide (x.items ++ [i] = []) && decide (x.expr = []) else if x.kind = 3 then decide (x.field = []) && decide (x.items ++ [i] = []) && rightE x.expr && closedE x.expr else if x.kind = 4 then decide (x.field = []) && !decide (x.items ++ [i] = []) && rightIts (x.items ++ [i]) && rightC x.expr else if x.kind = 5 then decide (x.field = []) && decide (x.items ++ [i] = []) && rightC x.expr else if x.kind = 6 then (isNm x.field || (decide (x.field = []) && !x.desc)) && rightIts (x.items ++ [i]) && rightC x.expr else false)) = _
  rw [h1, h2]
  rcases hk with k | k
  · rw [if_neg (by omega), if_neg (by omega), if_neg (by omega), if_pos k] at h3 ⊢
    rw [Bool.and_eq_true, Bool.and_eq_true, Bool.and_eq_true] at h3
    rw [its_app h3.1.2, h3.1.1.1, h3.2, hne]
    cases rightE i.expr <;> cases isNm i.name <;> cases (x.items.map It.name).contains i.name <;> cases decide (x.items.length + 1 ≤ 64) <;> rfl
  · rw [if_neg (by omega), if_neg (by omega), if_neg (by omega), if_neg (by omega), if_neg (by omega), if_pos k] at h3 ⊢
    rw [Bool.and_eq_true, Bool.and_eq_true] at h3
    rw [its_app h3.1.2, h3.1.1, h3.2]
    cases rightE i.expr <;> cases isNm i.name <;> cases (x.items.map It.name).contains i.name <;> cases decide (x.items.length + 1 ≤ 64) <;> rfl
theorem known_step {l : List It} {j : Nat} {p : It} (h : l[j]? = some p) (t : Bs) : ((l.take (j + 1)).map It.name).contains t = (((l.take j).map It.name).contains t || decide (p.name = t)) := by
  rw [List.take_add_one, h, Option.toList_some, List.map_append, List.map_singleton]
  simp only [List.contains_eq_mem, List.mem_append, List.mem_singleton, Bool.decide_or]
  rw [decide_eq_decide.2 (eq_comm : t = p.name ↔ p.name = t)]
theorem src_row {W : World} {g : Nat} {C : Array Value} {t : TypeId} (h : W.heap[g]? = some (.cells C t (0, 0))) : SrcC W (some ⟨g, 0, none⟩) C.toList := fun j u hu => ⟨_, 0, rfl, by
  rw [Nat.zero_add, cell_of_row _ _ _ _ _ _ h, ← Array.getElem?_toList]
  exact hu⟩
theorem own_set {W : World} {B size n : Nat} {t : TypeId} {v : Value} {L : List Value} (h : W.ownsRow B t size v n L) (p : Addr) (hp : p.block < B) (u : Value) : (W.setCell p u).ownsRow B t size v n L := by
  refine ⟨h.1, ?_⟩
  rcases h.2 with q | ⟨g, cap, cur, e, hb, hr, q⟩
  · exact .inl q
  · exact .inr ⟨g, cap, cur, e, hb, (heap_setCell_other _ _ _ _ (by omega)).trans hr, q⟩
theorem own_ne {g k n c : Nat} (h : g ≠ k) : (Value.slice (some ⟨g, 0, none⟩) n c).ownBlock ≠ some k := fun q => h (Option.some.inj q)
theorem name_eq (s t : Bs) : ((Lx.bs s).toList == (Lx.bs t).toList) = decide (s = t) := by
  rw [Lx.bs_toList, Lx.bs_toList]
  by_cases h : s = t
  · rw [h, decide_eq_true rfl]; simp
  · rw [decide_eq_false h]; simpa using h
set_option maxHeartbeats 4000000 in
set_option maxRecDepth 100000 in
theorem items_w (x : St) (i : It) (ia ea na : Option Addr) (ic ec nc n : Nat) (w : World) (hn : n = x.items.length) (hO : HasO w) (hL : HasL w) (hx : FitX x) (hm : StM w ia ea x) (hic : n ≤ ic) (h40 : n * 40 ≤ 140737488351232) (hf : fitE i.expr) (hS : Sts w na i.expr) : Calls Tryz.prog 4 #[.agg #[.int .u8 (x.kind : Int), .string (Lx.bs x.table), .string (Lx.bs x.field), .slice ia n ic, .slice ea x.expr.length ec, .bool x.history, .bool x.desc], .agg #[.string (Lx.bs i.name), .slice na i.expr.length nc]] w fun e w' => e = .returned (.bool true) ∧ Below w.heap.size w w' := by
  obtain ⟨w1, hw1⟩ : ∃ w1, w1 = w.alloc (.cells #[.int .u8 (x.kind : Int), .string (Lx.bs x.table), .string (Lx.bs x.field), .slice ia n ic, .slice ea x.expr.length ec, .bool x.history, .bool x.desc] 34) := ⟨_, rfl⟩
  obtain ⟨T, hT⟩ : ∃ T, T = w.heap.size := ⟨_, rfl⟩
  obtain ⟨w2, hw2⟩ : ∃ w2, w2 = w1.alloc (.cells #[.string (Lx.bs i.name), .slice na i.expr.length nc] 36) := ⟨_, rfl⟩
  obtain ⟨U, hU⟩ : ∃ U, U = T + 1 := ⟨_, rfl⟩
  have X2 : Hid (w2.heap[T]? = some (.cells #[.int .u8 (x.kind : Int), .string (Lx.bs x.table), .string (Lx.bs x.field), .slice ia n ic, .slice ea x.expr.length ec, .bool x.history, .bool x.desc] 34 (0, 0)) ∧ w2.heap[U]? = some (.cells #[.string (Lx.bs i.name), .slice na i.expr.length nc] 36 (0, 0)) ∧ Below w.heap.size w w2) := by
    have b1 : Below w.heap.size w w1 := by rw [hw1]; exact bnew _ _
    have b2 : Below w1.heap.size w1 w2 := by rw [hw2]; exact bnew _ _
    have r1 : w1.heap[T]? = some (.cells #[.int .u8 (x.kind : Int), .string (Lx.bs x.table), .string (Lx.bs x.field), .slice ia n ic, .slice ea x.expr.length ec, .bool x.history, .bool x.desc] 34 (0, 0)) := by rw [hw1, hT]; exact heap_alloc_new w _
    have eU : U = w1.heap.size := by rw [hU, hT, hw1]; simp
    exact ⟨(b2.block T (row_lt r1)).trans r1, by rw [hw2, eU]; exact heap_alloc_new w1 _, b1.trans (b2.mono b1.size)⟩
  have LV : Hid (Calls Tryz.prog 6 #[] w2 fun e w' => e = .returned (.bool true) ∧ Below w2.heap.size w2 w') := lives_c w2 (hO.stays X2.out.2.2) (hL.stays X2.out.2.2)
  have CK : Hid (∀ W, Below w2.heap.size w2 W → Calls Tryz.prog 10 #[.agg #[.int .u8 (x.kind : Int), .string (Lx.bs x.table), .string (Lx.bs x.field), .slice ia n ic, .slice ea x.expr.length ec, .bool x.history, .bool x.desc]] W fun e w' => e = .returned (.int .i64 (if rightX x = true then 0 else 13)) ∧ Below W.heap.size W w') := fun W hW => by
    have hB := X2.out.2.2.trans (hW.mono X2.out.2.2.size)
    rw [hn]
    exact checkX_c x ia ea ic ec W hx (hm.call hB) (hL.stays hB)
  obtain ⟨one, hone⟩ : ∃ one, one = rightX (stOne i) := ⟨_, rfl⟩
  have C1 : Hid (∀ W g, Below w2.heap.size w2 W → W.heap[g]? = some (.cells #[.string (Lx.bs i.name), .slice na i.expr.length nc] 36 (0, 0)) → Calls Tryz.prog 10 #[.agg #[.int .u8 4, .string ⟨#[116]⟩, .string ⟨#[]⟩, .slice (some ⟨g, 0, none⟩) 1 1, .slice none 0 0, .bool false, .bool false]] W fun e w' => e = .returned (.int .i64 (if one = true then 0 else 13)) ∧ Below W.heap.size W w') := fun W g hW hg => by
    have hB := X2.out.2.2.trans (hW.mono X2.out.2.2.size)
    rw [hone]
    refine checkX_c (stOne i) (some ⟨g, 0, none⟩) none 1 0 W ⟨⟨by show 1 ≤ _; decide, fun p hp => ?_⟩, by show 0 ≤ _; decide, fun p hp => by cases hp⟩ ⟨fun j p hp => ?_, Sts.nil _ _⟩ (hL.stays hB)
    · rcases List.mem_cons.1 hp with rfl | hp
      · exact hf
      · cases hp
    · match j, hp with
      | 0, hp =>
        cases hp
        exact ⟨g, 0, na, nc, rfl, by rw [cell_of_row _ _ _ _ _ _ hg]; rfl, by rw [cell_of_row _ _ _ _ _ _ hg]; rfl, hS.call hB⟩
  obtain ⟨ry, hry⟩ : ∃ ry, ry = rightX (stMore x i) := ⟨_, rfl⟩
  have CY : Hid (∀ W b cap, Below w2.heap.size w2 W → Itm W b (x.items ++ [i]) → Calls Tryz.prog 10 #[.agg #[.int .u8 (x.kind : Int), .string (Lx.bs x.table), .string (Lx.bs x.field), .slice b (n + 1) cap, .slice ea x.expr.length ec, .bool x.history, .bool x.desc]] W fun e w' => e = .returned (.int .i64 (if ry = true then 0 else 13)) ∧ Below W.heap.size W w') := fun W b cap hW hI => by
    have hB := X2.out.2.2.trans (hW.mono X2.out.2.2.size)
    have e : n + 1 = (stMore x i).items.length := by show _ = (x.items ++ [i]).length; rw [List.length_append, List.length_singleton]; omega
    rw [hry, e]
    refine checkX_c (stMore x i) b ea cap ec W ⟨⟨?_, fun p hp => ?_⟩, hx.expr⟩ ⟨hI, hm.exp.call hB⟩ (hL.stays hB)
    · rw [← e]; omega
    · rcases List.mem_append.1 hp with hp | hp
      · exact hx.items.2 p hp
      · rcases List.mem_cons.1 hp with rfl | hp
        · exact hf
        · cases hp
  have HI : Hid (∀ W, Below w2.heap.size w2 W → Itm W ia x.items ∧ Sts W na i.expr) := fun W hW => by
    have hB := X2.out.2.2.trans (hW.mono X2.out.2.2.size)
    exact ⟨hm.its.call hB, hS.call hB⟩
  have HN : Hid (n = x.items.length ∧ n ≤ ic ∧ n * 40 ≤ 140737488351232) := ⟨hn, hic, h40⟩
  have HR : Hid (rightX x = true → (x.kind = 4 ∨ x.kind = 6) → ry = (one && !(x.items.map It.name).contains i.name && decide (n + 1 ≤ 64))) := fun h1 h2 => by
    rw [hry, hone, hn]
    exact more_right h1 h2
  have YA : Hid (∀ W, Below w2.heap.size w2 W → W.cell? ⟨T, 0, none⟩ = some (.int .u8 (x.kind : Int)) ∧ W.cell? ⟨T, 1, none⟩ = some (.string (Lx.bs x.table)) ∧ W.cell? ⟨T, 2, none⟩ = some (.string (Lx.bs x.field)) ∧ W.cell? ⟨T, 3, none⟩ = some (.slice ia n ic) ∧ W.cell? ⟨T, 4, none⟩ = some (.slice ea x.expr.length ec) ∧ W.cell? ⟨T, 5, none⟩ = some (.bool x.history) ∧ W.cell? ⟨T, 6, none⟩ = some (.bool x.desc)) := fun W hW => by
    have r := (hW.block T (row_lt X2.out.1)).trans X2.out.1
    have c : ∀ k v, (#[.int .u8 (x.kind : Int), .string (Lx.bs x.table), .string (Lx.bs x.field), .slice ia n ic, .slice ea x.expr.length ec, .bool x.history, .bool x.desc] : Array Value)[k]? = some v → W.cell? ⟨T, k, none⟩ = some v := fun k v hv => by rw [cell_of_row _ _ _ _ _ _ r]; exact hv
    exact ⟨c 0 _ rfl, c 1 _ rfl, c 2 _ rfl, c 3 _ rfl, c 4 _ rfl, c 5 _ rfl, c 6 _ rfl⟩
  have UA : Hid (∀ W, Below w2.heap.size w2 W → W.cell? ⟨U, 0, none⟩ = some (.string (Lx.bs i.name)) ∧ W.cell? ⟨U, 1, none⟩ = some (.slice na i.expr.length nc)) := fun W hW => by
    have r := (hW.block U (row_lt X2.out.2.1)).trans X2.out.2.1
    exact ⟨by rw [cell_of_row _ _ _ _ _ _ r]; rfl, by rw [cell_of_row _ _ _ _ _ _ r]; rfl⟩
  have Xw : Hid (Below w.heap.size w w2) := X2.out.2.2
  have XT : Hid (T < w2.heap.size ∧ U < w2.heap.size) := ⟨row_lt X2.out.1, row_lt X2.out.2.1⟩
  obtain ⟨i0, hi, hz0, hz1, hz2⟩ := info_partsP infoItem
  clear hn hO hL hx hm hic h40 hf hS hone hry X2
  go_enter Tryz.func4, Tryz.ntmps4
  go_upto_region 1 with fail
  rw [← hw1, ← hT, ← hw2, ← hU]
  clear hw1 hT hw2 hU
  go_wp2_with fail
  refine (LV.out).mono ?_
  rintro e w3 ⟨rfl, hb3⟩
  have X3 := hidp hb3
  clear hb3 LV
  obtain ⟨y0, y1, y2, y3, y4, y5, y6⟩ := YA.out w3 X3.out
  go_wp2_with fail
  refine (CK.out w3 X3.out).mono ?_
  rintro e w4 ⟨rfl, hb4⟩
  have X4 : Hid (Below w2.heap.size w2 w4) := X3.out.trans (hb4.mono X3.out.size)
  clear hb4 CK y0 y1 y2 y3 y4 y5 y6
  obtain ⟨y0, y1, y2, y3, y4, y5, y6⟩ := YA.out w4 X4.out
  obtain ⟨rx, hrx⟩ : ∃ rx, rx = rightX x := ⟨_, rfl⟩
  rw [← hrx] at HR ⊢
  clear hrx
  cases rx with
  | false =>
    rw [if_neg (by decide)]
    go_wp2
    go_ret
    exact ⟨rfl, Xw.out.trans (X4.out.mono Xw.out.size)⟩
  | true =>
  rw [if_pos rfl]
  by_cases hk : x.kind = 4 ∨ x.kind = 6
  · have HRR := hidp (HR.out rfl hk)
    have kk : (((x.kind : Int) != 4) = false) ∨ (((x.kind : Int) != 4) = true ∧ ((x.kind : Int) != 6) = false) := by
      rcases hk with k | k
      · left; rw [k]; rfl
      · right; rw [k]; exact ⟨rfl, rfl⟩
    clear hk HR
    rcases kk with k4 | ⟨k4, k6⟩
    · go_wp2
      go_loopw [5, 28] (fun v q wr => ∃ (j : Nat) (b : Bool), j ≤ n ∧ q = .int .i64 j ∧ v = .bool b ∧ Hid (Below w2.heap.size w2 wr ∧ b = ((x.items.take j).map It.name).contains i.name)) (fun _ q _ => n - (intOf q).toNat)
      case atStart => exact ⟨0, false, Nat.zero_le _, rfl, rfl, X4.out, rfl⟩
      case round =>
        obtain ⟨j, b, hj, rfl, rfl, HJ⟩ := hrel
        clear y0 y1 y2 y3 y4 y5 y6
        by_cases hlt : j < n
        · have q0 : (j : Int) < (n : Int) := by omega
          have q1 : (0 : Int) ≤ (j : Int) := by omega
          obtain ⟨p, hp⟩ : ∃ p, x.items[j]? = some p := ⟨_, List.getElem?_eq_getElem (by have := HN.out.1; omega)⟩
          obtain ⟨g, o, pa, pc, rfl, c0, c1, _⟩ := (HI.out wr HJ.out.1).1 j p hp
          obtain ⟨c, hc⟩ : ∃ c, c = decide (p.name = i.name) := ⟨_, rfl⟩
          have HK : Hid (((x.items.take (j + 1)).map It.name).contains i.name = (b || c) ∧ j < n) := ⟨by rw [known_step hp, HJ.out.2, hc], hlt⟩
          have t0 : ((Lx.bs p.name).toList == (Lx.bs i.name).toList) = c := by rw [name_eq, hc]
          obtain ⟨w5, hw5⟩ : ∃ w5, w5 = wr.alloc (.cells #[.string (Lx.bs p.name), .slice pa p.expr.length pc] 36) := ⟨_, rfl⟩
          obtain ⟨O, hO⟩ : ∃ O, O = wr.heap.size := ⟨_, rfl⟩
          have X5 : Hid (w5.heap[O]? = some (.cells #[.string (Lx.bs p.name), .slice pa p.expr.length pc] 36 (0, 0)) ∧ Below w2.heap.size w2 w5) := ⟨by rw [hw5, hO]; exact heap_alloc_new wr _, by rw [hw5]; exact HJ.out.1.alloc HJ.out.1.size _⟩
          have n0 : w5.cell? ⟨O, 0, none⟩ = some (.string (Lx.bs p.name)) := by rw [cell_of_row _ _ _ _ _ _ X5.out.1]; rfl
          obtain ⟨u0, u1⟩ := UA.out w5 X5.out.2
          obtain ⟨j1, hj1⟩ : ∃ j1, j1 = j + 1 := ⟨_, rfl⟩
          have HJ1 : Hid (j1 = j + 1) := hj1
          have HV : Hid (IntKind.i64.wrap ((j : Int) + 1) = (j1 : Int) ∧ wrap64 ((j : Int) + 1) = (j1 : Int)) := wrp (by omega) (by have := HN.out; omega)
          rw [← hj1] at HK
          clear hc hp hlt hj hj1 hz1 hz2
          go_upto_region 9 with fail
          rw [← hw5, ← hO]
          clear hw5 hO c0 c1
          cases b
          all_goals
            obtain ⟨v1, v2⟩ := HV.out
            go_wp2
            clear v1 v2
            go_roundw
          all_goals first
            | (simp only [intOf]; have := HJ1.out; have := HK.out; omega)
            | exact ⟨j1, _, by have := HJ1.out; have := HK.out; omega, rfl, rfl, X5.out.2, by rw [HK.out.1]; simp⟩
            | ((repeat apply Exists.intro); exact ⟨⟨j1, _, by have := HJ1.out; have := HK.out; omega, rfl, rfl, X5.out.2, by rw [HK.out.1]; simp⟩, rfl⟩)
        · have q0 : ¬ (j : Int) < (n : Int) := by omega
          have HB : Hid (b = (x.items.map It.name).contains i.name) := by show _ = _; rw [HJ.out.2, List.take_of_length_le (by have := HN.out.1; omega)]
          obtain ⟨u0, u1⟩ := UA.out wr HJ.out.1
          obtain ⟨w5, hw5⟩ : ∃ w5, w5 = wr.alloc (.cells #[.string (Lx.bs i.name), .slice na i.expr.length nc] 36) := ⟨_, rfl⟩
          obtain ⟨g5, hg5⟩ : ∃ g5, g5 = wr.heap.size := ⟨_, rfl⟩
          have X5 : Hid (w5.heap[g5]? = some (.cells #[.string (Lx.bs i.name), .slice na i.expr.length nc] 36 (0, 0)) ∧ Below w2.heap.size w2 w5) := ⟨by rw [hw5, hg5]; exact heap_alloc_new wr _, by rw [hw5]; exact HJ.out.1.alloc HJ.out.1.size _⟩
          obtain ⟨ro, hro⟩ : ∃ ro : Int, ro = if one = true then 0 else 13 := ⟨_, rfl⟩
          have qo : (ro == 0) = one := by rw [hro]; cases one <;> rfl
          have CO := hidp (C1.out w5 g5 X5.out.2 X5.out.1)
          rw [← hro] at CO
          clear hro hlt hj C1
          go_wp2_with fail
          rw [← hw5, ← hg5]
          clear hw5 hg5
          refine (CO.out).mono ?_
          rintro e w6 ⟨rfl, hb6⟩
          have X6 : Hid (Below w2.heap.size w2 w6) := X5.out.2.trans (hb6.mono X5.out.2.size)
          clear hb6 CO u0 u1 q0
          obtain ⟨y0, y1, y2, y3, y4, y5, y6⟩ := YA.out w6 X6.out
          obtain ⟨w7, hw7⟩ : ∃ w7, w7 = w6.alloc (.cells #[.int .u8 (x.kind : Int), .string (Lx.bs x.table), .string (Lx.bs x.field), .slice ia n ic, .slice ea x.expr.length ec, .bool x.history, .bool x.desc] 34) := ⟨_, rfl⟩
          obtain ⟨Y, hY⟩ : ∃ Y, Y = w6.heap.size := ⟨_, rfl⟩
          have HY : Hid (w7.heap[Y]? = some (.cells #[.int .u8 (x.kind : Int), .string (Lx.bs x.table), .string (Lx.bs x.field), .slice ia n ic, .slice ea x.expr.length ec, .bool x.history, .bool x.desc] 34 (0, 0)) ∧ Y < w7.heap.size ∧ Below w6.heap.size w6 w7 ∧ Y = w6.heap.size) := by
            have r : w7.heap[Y]? = some (.cells #[.int .u8 (x.kind : Int), .string (Lx.bs x.table), .string (Lx.bs x.field), .slice ia n ic, .slice ea x.expr.length ec, .bool x.history, .bool x.desc] 34 (0, 0)) := by rw [hw7, hY]; exact heap_alloc_new w6 _
            exact ⟨r, row_lt r, by rw [hw7]; exact bnew _ _, hY⟩
          have X7 : Hid (Below w2.heap.size w2 w7) := X6.out.trans (HY.out.2.2.1.mono X6.out.size)
          go_upto_region 13 with fail
          rw [← hw7, ← hY]
          clear hw7 hY y0 y1 y2 y3 y4 y5 y6
          have XA : Hid (∀ W, Below w7.heap.size w7 W → W.cell? ⟨T, 3, none⟩ = some (.slice ia n ic) ∧ W.cell? ⟨U, 0, none⟩ = some (.string (Lx.bs i.name)) ∧ W.cell? ⟨U, 1, none⟩ = some (.slice na i.expr.length nc)) := fun W hW => by
            have hB := X7.out.trans (hW.mono X7.out.size)
            exact ⟨(YA.out W hB).2.2.2.1, (UA.out W hB).1, (UA.out W hB).2⟩
          have ZR : Hid (∀ W, Below w7.heap.size w7 W → W.heap[Y]? = some (.cells #[.int .u8 (x.kind : Int), .string (Lx.bs x.table), .string (Lx.bs x.field), .slice ia n ic, .slice ea x.expr.length ec, .bool x.history, .bool x.desc] 34 (0, 0))) := fun W hW => (hW.block Y HY.out.2.1).trans HY.out.1
          have ZA : Hid (∀ W, Below w7.heap.size w7 W → W.cell? ⟨Y, 0, none⟩ = some (.int .u8 (x.kind : Int)) ∧ W.cell? ⟨Y, 1, none⟩ = some (.string (Lx.bs x.table)) ∧ W.cell? ⟨Y, 2, none⟩ = some (.string (Lx.bs x.field)) ∧ W.cell? ⟨Y, 3, none⟩ = some (.slice ia n ic) ∧ W.cell? ⟨Y, 4, none⟩ = some (.slice ea x.expr.length ec) ∧ W.cell? ⟨Y, 5, none⟩ = some (.bool x.history) ∧ W.cell? ⟨Y, 6, none⟩ = some (.bool x.desc)) := fun W hW => by
            have c : ∀ k v, (#[.int .u8 (x.kind : Int), .string (Lx.bs x.table), .string (Lx.bs x.field), .slice ia n ic, .slice ea x.expr.length ec, .bool x.history, .bool x.desc] : Array Value)[k]? = some v → W.cell? ⟨Y, k, none⟩ = some v := fun k v hv => by rw [cell_of_row _ _ _ _ _ _ (ZR.out W hW)]; exact hv
            exact ⟨c 0 _ rfl, c 1 _ rfl, c 2 _ rfl, c 3 _ rfl, c 4 _ rfl, c 5 _ rfl, c 6 _ rfl⟩
          have ZF : Hid (∀ W, Below w7.heap.size w7 W → ∀ r, W.frozen? ⟨Y, r, none⟩ = false) := fun W hW r => by simp [World.frozen?, ZR.out W hW]
          have ny1 : ¬ Y = T := by have := HY.out.2.2.2; have := X6.out.size; have := XT.out; omega
          have ny2 : ¬ Y = U := by have := HY.out.2.2.2; have := X6.out.size; have := XT.out; omega
          have ny3 : ¬ T = Y := fun e => ny1 e.symm
          have ny4 : ¬ U = Y := fun e => ny2 e.symm
          have HLX : Hid (∃ L : List (It × Value), L.map (·.1) = x.items ∧ ItL w2 L ∧ SrcC w2 ia (ics L)) := (HI.out w2 (Below.refl _ _)).1.list
          obtain ⟨L, hL1, hL2, hL3⟩ := HLX.out
          have hLl : L.length = n := by rw [HN.out.1, ← hL1, List.length_map]
          have HLn : Hid ((ics L).length = n * 2) := by show _ = _; rw [ics_len, hLl]
          have ones : Hid ((∀ u ∈ ics L, u.oneCell' = true) ∧ (∀ u ∈ [Value.string (Lx.bs i.name), .slice na i.expr.length nc], u.oneCell' = true)) := ⟨ics_one hL2, by simp [Value.oneCell']⟩
          have fit : Hid ((0 + n ≤ maxLen ∧ (0 + n) * 40 ≤ 140737488355328) ∧ (n + 1 ≤ maxLen ∧ (n + 1) * 40 ≤ 140737488355328)) := by
            have h1 := HN.out.2.2
            have e9 : maxLen = 9223372036854775807 := by decide
            refine ⟨⟨?_, ?_⟩, ?_, ?_⟩ <;> omega
          have SRC : Hid (∀ W, Below w7.heap.size w7 W → SrcC W ia (ics L)) := fun W hW => hL3.call (X7.out.trans (hW.mono X7.out.size))
          have FIN : Hid (∀ W b cap, Below w7.heap.size w7 W → W.ownsRow w7.heap.size 36 2 (.slice b (n + 1) cap) (n + 1) (ics L ++ [.string (Lx.bs i.name), .slice na i.expr.length nc]) → ∀ v, Itm (W.setCell ⟨Y, 3, none⟩ v) b (x.items ++ [i])) := fun W b cap hW hown v => by
            have hB : Below w6.heap.size w6 (W.setCell ⟨Y, 3, none⟩ v) := (HY.out.2.2.1.trans (hW.mono HY.out.2.2.1.size)).setCell (by show w6.heap.size ≤ Y; rw [HY.out.2.2.2]; exact Nat.le_refl _) _
            have hB2 := X6.out.trans (hB.mono X6.out.size)
            have e : ics L ++ [Value.string (Lx.bs i.name), .slice na i.expr.length nc] = ics (L ++ [(i, .slice na i.expr.length nc)]) := by
              rw [ics, ics, List.flatMap_append, List.flatMap_singleton]
            rw [e] at hown
            have hm := own_itm (own_set hown ⟨Y, 3, none⟩ (by show Y < _; exact HY.out.2.1) v) ((hL2.call hB2).more (fun q hq => by
              rcases List.mem_cons.1 hq with rfl | hq
              · exact ⟨na, nc, rfl, (HI.out _ hB2).2⟩
              · cases hq))
            rw [List.map_append, hL1] at hm
            exact hm
          have HD : Hid (Below w7.heap.size w7 w7.drew) := (Below.refl _ _).drew
          have HBR : Hid (((w7.drew.alloc (.cells #[] 36)).alloc (.cells #[.string (Lx.bs i.name), .slice na i.expr.length nc] 36)).heap[w7.heap.size + 1]? = some (.cells #[.string (Lx.bs i.name), .slice na i.expr.length nc] 36 (0, 0)) ∧ w7.heap.size + 1 < ((w7.drew.alloc (.cells #[] 36)).alloc (.cells #[.string (Lx.bs i.name), .slice na i.expr.length nc] 36)).heap.size ∧ ((w7.drew.alloc (.cells #[.string (Lx.bs i.name), .slice na i.expr.length nc] 36)).alloc (.cells #[] 36)).ownsRow w7.heap.size 36 2 (.slice (some ⟨w7.heap.size + 1, 0, none⟩) 0 0) 0 [] ∧ ((w7.drew.alloc (.cells #[.string (Lx.bs i.name), .slice na i.expr.length nc] 36)).alloc (.cells #[] 36)).heap[w7.heap.size]? = some (.cells #[.string (Lx.bs i.name), .slice na i.expr.length nc] 36 (0, 0)) ∧ w7.heap.size < ((w7.drew.alloc (.cells #[.string (Lx.bs i.name), .slice na i.expr.length nc] 36)).alloc (.cells #[] 36)).heap.size) := by
            have e1 : (w7.drew.alloc (.cells #[] 36)).heap.size = w7.heap.size + 1 := by simp
            have e2 : (w7.drew.alloc (.cells #[.string (Lx.bs i.name), .slice na i.expr.length nc] 36)).heap.size = w7.heap.size + 1 := by simp
            have h1 := heap_alloc_new (w7.drew.alloc (.cells #[] 36)) (.cells #[.string (Lx.bs i.name), .slice na i.expr.length nc] 36)
            have h2 := own_none (w7.drew.alloc (.cells #[.string (Lx.bs i.name), .slice na i.expr.length nc] 36)) w7.heap.size (by rw [e2]; exact Nat.le_succ _) 36 2
            have h3 := heap_alloc_new w7.drew (.cells #[.string (Lx.bs i.name), .slice na i.expr.length nc] 36)
            rw [e1] at h1
            rw [e2] at h2
            exact ⟨h1, by simp, h2, ((bnew (w7.drew.alloc (.cells #[.string (Lx.bs i.name), .slice na i.expr.length nc] 36)) (.cells #[] 36)).block w7.heap.size (by rw [e2]; exact Nat.lt_succ_self _)).trans h3, by simp; omega⟩
          obtain ⟨y3, u0, u1⟩ := XA.out w7 (Below.refl _ _)
          clear hL1 hL2 hL3 hLl HLX
          go_region_held3 (fun W' => W'.cell? ⟨T, 3, none⟩ = some (.slice ia n ic) ∧ W'.cell? ⟨U, 0, none⟩ = some (.string (Lx.bs i.name)) ∧ W'.cell? ⟨U, 1, none⟩ = some (.slice na i.expr.length nc)) (go_keep) (first
            | (refine step_append_any (by rfl) _ _ _ (by rfl) w7.heap.size 36 i0 _ 2 40 Tryz.underlying32 hi hz0 hz1 hz2 rfl (by omega) _ _ _ (by rfl) (own_none w7.drew w7.heap.size (Nat.le_refl _) 36 2) ia n ic (ics L) (by rfl) HLn.out (SRC.out _ (HD.out.alloc HD.out.size _)) ones.out.1 fit.out.1.1 fit.out.1.2 (HD.out.alloc HD.out.size _).size ?_; intro b8 cap8 w8 hown8 hb8 hk8
               have X8 : Hid (Below w7.heap.size w7 w8 ∧ w8.ownsRow w7.heap.size 36 2 (.slice b8 n cap8) n (ics L)) := ⟨(HD.out.alloc HD.out.size _).trans hb8, (by rw [Nat.zero_add, List.nil_append] at hown8; exact hown8)⟩
               have K8 := hidp hk8
               obtain ⟨y3, u0, u1⟩ := XA.out w8 X8.out.1
               clear hown8 hb8 hk8)
            | (refine step_append_any (by rfl) _ _ _ (by rfl) w7.heap.size 36 i0 _ 2 40 Tryz.underlying32 hi hz0 hz1 hz2 rfl (by omega) _ _ _ (by rfl) (own_callL (own_none w7.drew w7.heap.size (Nat.le_refl _) 36 2) (bnew _ _)) ia n ic (ics L) (by rfl) HLn.out (SRC.out _ ((HD.out.alloc HD.out.size _).alloc (HD.out.alloc HD.out.size _).size _)) ones.out.1 fit.out.1.1 fit.out.1.2 ((HD.out.alloc HD.out.size _).alloc (HD.out.alloc HD.out.size _).size _).size ?_; intro b8 cap8 w8 hown8 hb8 hk8
               have X8 : Hid (Below w7.heap.size w7 w8 ∧ w8.ownsRow w7.heap.size 36 2 (.slice b8 n cap8) n (ics L)) := ⟨((HD.out.alloc HD.out.size _).alloc (HD.out.alloc HD.out.size _).size _).trans hb8, (by rw [Nat.zero_add, List.nil_append] at hown8; exact hown8)⟩
               have K8 := hidp hk8
               obtain ⟨y3, u0, u1⟩ := XA.out w8 X8.out.1
               clear hown8 hb8 hk8)
            | (refine step_append_any (by rfl) _ _ _ (by rfl) w7.heap.size 36 i0 _ 2 40 Tryz.underlying32 hi hz0 hz1 hz2 rfl (by omega) _ _ _ (by rfl) (HBR.out.2.2.1) ia n ic (ics L) (by rfl) HLn.out (SRC.out _ ((HD.out.alloc HD.out.size _).alloc (HD.out.alloc HD.out.size _).size _)) ones.out.1 fit.out.1.1 fit.out.1.2 ((HD.out.alloc HD.out.size _).alloc (HD.out.alloc HD.out.size _).size _).size ?_; intro b8 cap8 w8 hown8 hb8 hk8
               have X8 : Hid (Below w7.heap.size w7 w8 ∧ w8.ownsRow w7.heap.size 36 2 (.slice b8 n cap8) n (ics L)) := ⟨((HD.out.alloc HD.out.size _).alloc (HD.out.alloc HD.out.size _).size _).trans hb8, (by rw [Nat.zero_add, List.nil_append] at hown8; exact hown8)⟩
               have K8 := hidp hk8
               obtain ⟨y3, u0, u1⟩ := XA.out w8 X8.out.1
               clear hown8 hb8 hk8)
            | (refine step_append_any (by rfl) _ _ _ (by rfl) w7.heap.size 36 i0 _ 2 40 Tryz.underlying32 hi hz0 hz1 hz2 rfl (by omega) _ _ _ (by rfl) (own_callL X8.out.2 (bnew _ _)) (some ⟨w8.heap.size, 0, none⟩) 1 1 [.string (Lx.bs i.name), .slice na i.expr.length nc] (by rfl) (by rfl) (src_new w8 #[.string (Lx.bs i.name), .slice na i.expr.length nc] 36) ones.out.2 fit.out.2.1 fit.out.2.2 (X8.out.1.alloc X8.out.1.size _).size ?_; intro b9 cap9 w9 hown9 hb9 hk9
               have X9 : Hid (Below w7.heap.size w7 w9 ∧ ∀ v, Itm (w9.setCell ⟨Y, 3, none⟩ v) b9 (x.items ++ [i])) := ⟨(X8.out.1.alloc X8.out.1.size _).trans hb9, FIN.out w9 b9 cap9 ((X8.out.1.alloc X8.out.1.size _).trans hb9) hown9⟩
               obtain ⟨y3, u0, u1⟩ := XA.out w9 X9.out.1
               obtain ⟨z0, z1, z2, z3, z4, z5, z6⟩ := ZA.out w9 X9.out.1
               have rf := ZF.out w9 X9.out.1
               have rl : Y < w9.heap.size := Nat.lt_of_lt_of_le HY.out.2.1 X9.out.1.size
               clear hown9 hb9 hk9)
            | (refine step_append_any (by rfl) _ _ _ (by rfl) w7.heap.size 36 i0 _ 2 40 Tryz.underlying32 hi hz0 hz1 hz2 rfl (by omega) _ _ _ (by rfl) (show w8.ownsRow w7.heap.size 36 2 (.slice b8 (0 + n) cap8) (0 + n) (ics L) from by rw [Nat.zero_add]; exact X8.out.2) (some ⟨w7.heap.size + 1, 0, none⟩) 1 1 [.string (Lx.bs i.name), .slice na i.expr.length nc] (by rfl) (by rfl) (src_row ((K8.out _ HBR.out.2.1 (own_ne (Nat.ne_of_lt (Nat.lt_succ_self _)))).trans HBR.out.1)) ones.out.2 (by rw [Nat.zero_add]; exact fit.out.2.1) (by rw [Nat.zero_add]; exact fit.out.2.2) (X8.out.1).size ?_; intro b9 cap9 w9 hown9 hb9 hk9
               have X9 : Hid (Below w7.heap.size w7 w9 ∧ ∀ v, Itm (w9.setCell ⟨Y, 3, none⟩ v) b9 (x.items ++ [i])) := ⟨(X8.out.1).trans hb9, FIN.out w9 b9 cap9 ((X8.out.1).trans hb9) (by rw [Nat.zero_add] at hown9; exact hown9)⟩
               obtain ⟨y3, u0, u1⟩ := XA.out w9 X9.out.1
               obtain ⟨z0, z1, z2, z3, z4, z5, z6⟩ := ZA.out w9 X9.out.1
               have rf := ZF.out w9 X9.out.1
               have rl : Y < w9.heap.size := Nat.lt_of_lt_of_le HY.out.2.1 X9.out.1.size
               clear hown9 hb9 hk9)
            | (refine step_append_any (by rfl) _ _ _ (by rfl) w7.heap.size 36 i0 _ 2 40 Tryz.underlying32 hi hz0 hz1 hz2 rfl (by omega) _ _ _ (by rfl) (show w8.ownsRow w7.heap.size 36 2 (.slice b8 (0 + n) cap8) (0 + n) (ics L) from by rw [Nat.zero_add]; exact X8.out.2) (some ⟨w7.heap.size, 0, none⟩) 1 1 [.string (Lx.bs i.name), .slice na i.expr.length nc] (by rfl) (by rfl) (src_row ((K8.out _ HBR.out.2.2.2.2 (own_ne (Nat.ne_of_gt (Nat.lt_succ_self _)))).trans HBR.out.2.2.2.1)) ones.out.2 (by rw [Nat.zero_add]; exact fit.out.2.1) (by rw [Nat.zero_add]; exact fit.out.2.2) (X8.out.1).size ?_; intro b9 cap9 w9 hown9 hb9 hk9
               have X9 : Hid (Below w7.heap.size w7 w9 ∧ ∀ v, Itm (w9.setCell ⟨Y, 3, none⟩ v) b9 (x.items ++ [i])) := ⟨(X8.out.1).trans hb9, FIN.out w9 b9 cap9 ((X8.out.1).trans hb9) (by rw [Nat.zero_add] at hown9; exact hown9)⟩
               obtain ⟨y3, u0, u1⟩ := XA.out w9 X9.out.1
               obtain ⟨z0, z1, z2, z3, z4, z5, z6⟩ := ZA.out w9 X9.out.1
               have rf := ZF.out w9 X9.out.1
               have rl : Y < w9.heap.size := Nat.lt_of_lt_of_le HY.out.2.1 X9.out.1.size
               clear hown9 hb9 hk9)
          )
          all_goals
            obtain ⟨w10, hw10⟩ : ∃ w10, w10 = w9.setCell ⟨Y, 3, none⟩ (.slice b9 (n + 1) cap9) := ⟨_, rfl⟩
            have X10 : Hid (w10.heap[Y]? = some (.cells #[.int .u8 (x.kind : Int), .string (Lx.bs x.table), .string (Lx.bs x.field), .slice b9 (n + 1) cap9, .slice ea x.expr.length ec, .bool x.history, .bool x.desc] 34 (0, 0)) ∧ Below w6.heap.size w6 w10 ∧ Itm w10 b9 (x.items ++ [i])) := by
              rw [hw10]
              exact ⟨heap_setCell_same w9 _ 3 _ 34 _ (ZR.out w9 X9.out.1), (HY.out.2.2.1.trans (X9.out.1.mono HY.out.2.2.1.size)).setCell (by show w6.heap.size ≤ Y; rw [HY.out.2.2.2]; exact Nat.le_refl _) _, X9.out.2 _⟩
            have X11 : Hid (Below w2.heap.size w2 w10) := X6.out.trans (X10.out.2.1.mono X6.out.size)
            have c : ∀ k v, (#[.int .u8 (x.kind : Int), .string (Lx.bs x.table), .string (Lx.bs x.field), .slice b9 (n + 1) cap9, .slice ea x.expr.length ec, .bool x.history, .bool x.desc] : Array Value)[k]? = some v → w10.cell? ⟨Y, k, none⟩ = some v := fun k v hv => by rw [cell_of_row _ _ _ _ _ _ X10.out.1]; exact hv
            have v0 := c 0 _ rfl
            have v1 := c 1 _ rfl
            have v2 := c 2 _ rfl
            have v3 := c 3 _ rfl
            have v4 := c 4 _ rfl
            have v5 := c 5 _ rfl
            have v6 := c 6 _ rfl
            obtain ⟨r2, hr2⟩ : ∃ r2 : Int, r2 = if ry = true then 0 else 13 := ⟨_, rfl⟩
            have q2 : (r2 == 0) = ry := by rw [hr2]; cases ry <;> rfl
            have CY1 := hidp (CY.out w10 b9 cap9 X11.out X10.out.2.2)
            rw [← hr2] at CY1
            clear y3 u0 u1 z0 z1 z2 z3 z4 z5 z6 rf rl c hr2 K8 CY ny1 ny2 ny3 ny4
            rw [← hw10]
            clear hw10
            go_wp2_with fail
            refine (CY1.out).mono ?_
            rintro e w11 ⟨rfl, hb11⟩
            have X12 : Hid (Below w2.heap.size w2 w11 ∧ w11.heap[Y]? = some (.cells #[.int .u8 (x.kind : Int), .string (Lx.bs x.table), .string (Lx.bs x.field), .slice b9 (n + 1) cap9, .slice ea x.expr.length ec, .bool x.history, .bool x.desc] 34 (0, 0))) := ⟨X11.out.trans (hb11.mono X11.out.size), (hb11.block Y (row_lt X10.out.1)).trans X10.out.1⟩
            have v3 : w11.cell? ⟨Y, 3, none⟩ = some (.slice b9 (n + 1) cap9) := by rw [cell_of_row _ _ _ _ _ _ X12.out.2]; rfl
            clear hb11 CY1
            have q3 : ((n : Int) + 1 ≤ 64) ∨ ¬ ((n : Int) + 1 ≤ 64) := by omega
            rcases q3 with q3 | q3
            · have HE : Hid (ry = (one && !b)) := by show _ = _; rw [HRR.out, ← HB.out, decide_eq_true (by omega), Bool.and_true]
              cases one <;> cases b
              · obtain rfl : ry = false := HE.out
                go_wp2
                go_ret
                exact ⟨rfl, Xw.out.trans (X12.out.1.mono Xw.out.size)⟩
              · obtain rfl : ry = false := HE.out
                go_wp2
                go_ret
                exact ⟨rfl, Xw.out.trans (X12.out.1.mono Xw.out.size)⟩
              · obtain rfl : ry = true := HE.out
                go_wp2
                go_ret
                exact ⟨rfl, Xw.out.trans (X12.out.1.mono Xw.out.size)⟩
              · obtain rfl : ry = false := HE.out
                go_wp2
                go_ret
                exact ⟨rfl, Xw.out.trans (X12.out.1.mono Xw.out.size)⟩
            · have HE : Hid (ry = false) := by show _ = _; rw [HRR.out, decide_eq_false (by omega), Bool.and_false]
              obtain rfl : ry = false := HE.out
              cases one <;> cases b
              all_goals
                go_wp2
                go_ret
                first
                  | exact ⟨rfl, Xw.out.trans (X12.out.1.mono Xw.out.size)⟩
                  | exact ⟨by show Ending.returned (.bool (!decide ((n : Int) + 1 ≤ 64))) = _; rw [decide_eq_false (by omega)]; rfl, Xw.out.trans (X12.out.1.mono Xw.out.size)⟩
    · go_wp2
      go_loopw [5, 28] (fun v q wr => ∃ (j : Nat) (b : Bool), j ≤ n ∧ q = .int .i64 j ∧ v = .bool b ∧ Hid (Below w2.heap.size w2 wr ∧ b = ((x.items.take j).map It.name).contains i.name)) (fun _ q _ => n - (intOf q).toNat)
      case atStart => exact ⟨0, false, Nat.zero_le _, rfl, rfl, X4.out, rfl⟩
      case round =>
        obtain ⟨j, b, hj, rfl, rfl, HJ⟩ := hrel
        clear y0 y1 y2 y3 y4 y5 y6
        by_cases hlt : j < n
        · have q0 : (j : Int) < (n : Int) := by omega
          have q1 : (0 : Int) ≤ (j : Int) := by omega
          obtain ⟨p, hp⟩ : ∃ p, x.items[j]? = some p := ⟨_, List.getElem?_eq_getElem (by have := HN.out.1; omega)⟩
          obtain ⟨g, o, pa, pc, rfl, c0, c1, _⟩ := (HI.out wr HJ.out.1).1 j p hp
          obtain ⟨c, hc⟩ : ∃ c, c = decide (p.name = i.name) := ⟨_, rfl⟩
          have HK : Hid (((x.items.take (j + 1)).map It.name).contains i.name = (b || c) ∧ j < n) := ⟨by rw [known_step hp, HJ.out.2, hc], hlt⟩
          have t0 : ((Lx.bs p.name).toList == (Lx.bs i.name).toList) = c := by rw [name_eq, hc]
          obtain ⟨w5, hw5⟩ : ∃ w5, w5 = wr.alloc (.cells #[.string (Lx.bs p.name), .slice pa p.expr.length pc] 36) := ⟨_, rfl⟩
          obtain ⟨O, hO⟩ : ∃ O, O = wr.heap.size := ⟨_, rfl⟩
          have X5 : Hid (w5.heap[O]? = some (.cells #[.string (Lx.bs p.name), .slice pa p.expr.length pc] 36 (0, 0)) ∧ Below w2.heap.size w2 w5) := ⟨by rw [hw5, hO]; exact heap_alloc_new wr _, by rw [hw5]; exact HJ.out.1.alloc HJ.out.1.size _⟩
          have n0 : w5.cell? ⟨O, 0, none⟩ = some (.string (Lx.bs p.name)) := by rw [cell_of_row _ _ _ _ _ _ X5.out.1]; rfl
          obtain ⟨u0, u1⟩ := UA.out w5 X5.out.2
          obtain ⟨j1, hj1⟩ : ∃ j1, j1 = j + 1 := ⟨_, rfl⟩
          have HJ1 : Hid (j1 = j + 1) := hj1
          have HV : Hid (IntKind.i64.wrap ((j : Int) + 1) = (j1 : Int) ∧ wrap64 ((j : Int) + 1) = (j1 : Int)) := wrp (by omega) (by have := HN.out; omega)
          rw [← hj1] at HK
          clear hc hp hlt hj hj1 hz1 hz2
          go_upto_region 9 with fail
          rw [← hw5, ← hO]
          clear hw5 hO c0 c1
          cases b
          all_goals
            obtain ⟨v1, v2⟩ := HV.out
            go_wp2
            clear v1 v2
            go_roundw
          all_goals first
            | (simp only [intOf]; have := HJ1.out; have := HK.out; omega)
            | exact ⟨j1, _, by have := HJ1.out; have := HK.out; omega, rfl, rfl, X5.out.2, by rw [HK.out.1]; simp⟩
            | ((repeat apply Exists.intro); exact ⟨⟨j1, _, by have := HJ1.out; have := HK.out; omega, rfl, rfl, X5.out.2, by rw [HK.out.1]; simp⟩, rfl⟩)
        · have q0 : ¬ (j : Int) < (n : Int) := by omega
          have HB : Hid (b = (x.items.map It.name).contains i.name) := by show _ = _; rw [HJ.out.2, List.take_of_length_le (by have := HN.out.1; omega)]
          obtain ⟨u0, u1⟩ := UA.out wr HJ.out.1
          obtain ⟨w5, hw5⟩ : ∃ w5, w5 = wr.alloc (.cells #[.string (Lx.bs i.name), .slice na i.expr.length nc] 36) := ⟨_, rfl⟩
          obtain ⟨g5, hg5⟩ : ∃ g5, g5 = wr.heap.size := ⟨_, rfl⟩
          have X5 : Hid (w5.heap[g5]? = some (.cells #[.string (Lx.bs i.name), .slice na i.expr.length nc] 36 (0, 0)) ∧ Below w2.heap.size w2 w5) := ⟨by rw [hw5, hg5]; exact heap_alloc_new wr _, by rw [hw5]; exact HJ.out.1.alloc HJ.out.1.size _⟩
          obtain ⟨ro, hro⟩ : ∃ ro : Int, ro = if one = true then 0 else 13 := ⟨_, rfl⟩
          have qo : (ro == 0) = one := by rw [hro]; cases one <;> rfl
          have CO := hidp (C1.out w5 g5 X5.out.2 X5.out.1)
          rw [← hro] at CO
          clear hro hlt hj C1
          go_wp2_with fail
          rw [← hw5, ← hg5]
          clear hw5 hg5
          refine (CO.out).mono ?_
          rintro e w6 ⟨rfl, hb6⟩
          have X6 : Hid (Below w2.heap.size w2 w6) := X5.out.2.trans (hb6.mono X5.out.2.size)
          clear hb6 CO u0 u1 q0
          obtain ⟨y0, y1, y2, y3, y4, y5, y6⟩ := YA.out w6 X6.out
          obtain ⟨w7, hw7⟩ : ∃ w7, w7 = w6.alloc (.cells #[.int .u8 (x.kind : Int), .string (Lx.bs x.table), .string (Lx.bs x.field), .slice ia n ic, .slice ea x.expr.length ec, .bool x.history, .bool x.desc] 34) := ⟨_, rfl⟩
          obtain ⟨Y, hY⟩ : ∃ Y, Y = w6.heap.size := ⟨_, rfl⟩
          have HY : Hid (w7.heap[Y]? = some (.cells #[.int .u8 (x.kind : Int), .string (Lx.bs x.table), .string (Lx.bs x.field), .slice ia n ic, .slice ea x.expr.length ec, .bool x.history, .bool x.desc] 34 (0, 0)) ∧ Y < w7.heap.size ∧ Below w6.heap.size w6 w7 ∧ Y = w6.heap.size) := by
            have r : w7.heap[Y]? = some (.cells #[.int .u8 (x.kind : Int), .string (Lx.bs x.table), .string (Lx.bs x.field), .slice ia n ic, .slice ea x.expr.length ec, .bool x.history, .bool x.desc] 34 (0, 0)) := by rw [hw7, hY]; exact heap_alloc_new w6 _
            exact ⟨r, row_lt r, by rw [hw7]; exact bnew _ _, hY⟩
          have X7 : Hid (Below w2.heap.size w2 w7) := X6.out.trans (HY.out.2.2.1.mono X6.out.size)
          go_upto_region 13 with fail
          rw [← hw7, ← hY]
          clear hw7 hY y0 y1 y2 y3 y4 y5 y6
          have XA : Hid (∀ W, Below w7.heap.size w7 W → W.cell? ⟨T, 3, none⟩ = some (.slice ia n ic) ∧ W.cell? ⟨U, 0, none⟩ = some (.string (Lx.bs i.name)) ∧ W.cell? ⟨U, 1, none⟩ = some (.slice na i.expr.length nc)) := fun W hW => by
            have hB := X7.out.trans (hW.mono X7.out.size)
            exact ⟨(YA.out W hB).2.2.2.1, (UA.out W hB).1, (UA.out W hB).2⟩
          have ZR : Hid (∀ W, Below w7.heap.size w7 W → W.heap[Y]? = some (.cells #[.int .u8 (x.kind : Int), .string (Lx.bs x.table), .string (Lx.bs x.field), .slice ia n ic, .slice ea x.expr.length ec, .bool x.history, .bool x.desc] 34 (0, 0))) := fun W hW => (hW.block Y HY.out.2.1).trans HY.out.1
          have ZA : Hid (∀ W, Below w7.heap.size w7 W → W.cell? ⟨Y, 0, none⟩ = some (.int .u8 (x.kind : Int)) ∧ W.cell? ⟨Y, 1, none⟩ = some (.string (Lx.bs x.table)) ∧ W.cell? ⟨Y, 2, none⟩ = some (.string (Lx.bs x.field)) ∧ W.cell? ⟨Y, 3, none⟩ = some (.slice ia n ic) ∧ W.cell? ⟨Y, 4, none⟩ = some (.slice ea x.expr.length ec) ∧ W.cell? ⟨Y, 5, none⟩ = some (.bool x.history) ∧ W.cell? ⟨Y, 6, none⟩ = some (.bool x.desc)) := fun W hW => by
            have c : ∀ k v, (#[.int .u8 (x.kind : Int), .string (Lx.bs x.table), .string (Lx.bs x.field), .slice ia n ic, .slice ea x.expr.length ec, .bool x.history, .bool x.desc] : Array Value)[k]? = some v → W.cell? ⟨Y, k, none⟩ = some v := fun k v hv => by rw [cell_of_row _ _ _ _ _ _ (ZR.out W hW)]; exact hv
            exact ⟨c 0 _ rfl, c 1 _ rfl, c 2 _ rfl, c 3 _ rfl, c 4 _ rfl, c 5 _ rfl, c 6 _ rfl⟩
          have ZF : Hid (∀ W, Below w7.heap.size w7 W → ∀ r, W.frozen? ⟨Y, r, none⟩ = false) := fun W hW r => by simp [World.frozen?, ZR.out W hW]
          have ny1 : ¬ Y = T := by have := HY.out.2.2.2; have := X6.out.size; have := XT.out; omega
          have ny2 : ¬ Y = U := by have := HY.out.2.2.2; have := X6.out.size; have := XT.out; omega
          have ny3 : ¬ T = Y := fun e => ny1 e.symm
          have ny4 : ¬ U = Y := fun e => ny2 e.symm
          have HLX : Hid (∃ L : List (It × Value), L.map (·.1) = x.items ∧ ItL w2 L ∧ SrcC w2 ia (ics L)) := (HI.out w2 (Below.refl _ _)).1.list
          obtain ⟨L, hL1, hL2, hL3⟩ := HLX.out
          have hLl : L.length = n := by rw [HN.out.1, ← hL1, List.length_map]
          have HLn : Hid ((ics L).length = n * 2) := by show _ = _; rw [ics_len, hLl]
          have ones : Hid ((∀ u ∈ ics L, u.oneCell' = true) ∧ (∀ u ∈ [Value.string (Lx.bs i.name), .slice na i.expr.length nc], u.oneCell' = true)) := ⟨ics_one hL2, by simp [Value.oneCell']⟩
          have fit : Hid ((0 + n ≤ maxLen ∧ (0 + n) * 40 ≤ 140737488355328) ∧ (n + 1 ≤ maxLen ∧ (n + 1) * 40 ≤ 140737488355328)) := by
            have h1 := HN.out.2.2
            have e9 : maxLen = 9223372036854775807 := by decide
            refine ⟨⟨?_, ?_⟩, ?_, ?_⟩ <;> omega
          have SRC : Hid (∀ W, Below w7.heap.size w7 W → SrcC W ia (ics L)) := fun W hW => hL3.call (X7.out.trans (hW.mono X7.out.size))
          have FIN : Hid (∀ W b cap, Below w7.heap.size w7 W → W.ownsRow w7.heap.size 36 2 (.slice b (n + 1) cap) (n + 1) (ics L ++ [.string (Lx.bs i.name), .slice na i.expr.length nc]) → ∀ v, Itm (W.setCell ⟨Y, 3, none⟩ v) b (x.items ++ [i])) := fun W b cap hW hown v => by
            have hB : Below w6.heap.size w6 (W.setCell ⟨Y, 3, none⟩ v) := (HY.out.2.2.1.trans (hW.mono HY.out.2.2.1.size)).setCell (by show w6.heap.size ≤ Y; rw [HY.out.2.2.2]; exact Nat.le_refl _) _
            have hB2 := X6.out.trans (hB.mono X6.out.size)
            have e : ics L ++ [Value.string (Lx.bs i.name), .slice na i.expr.length nc] = ics (L ++ [(i, .slice na i.expr.length nc)]) := by
              rw [ics, ics, List.flatMap_append, List.flatMap_singleton]
            rw [e] at hown
            have hm := own_itm (own_set hown ⟨Y, 3, none⟩ (by show Y < _; exact HY.out.2.1) v) ((hL2.call hB2).more (fun q hq => by
              rcases List.mem_cons.1 hq with rfl | hq
              · exact ⟨na, nc, rfl, (HI.out _ hB2).2⟩
              · cases hq))
            rw [List.map_append, hL1] at hm
            exact hm
          have HD : Hid (Below w7.heap.size w7 w7.drew) := (Below.refl _ _).drew
          have HBR : Hid (((w7.drew.alloc (.cells #[] 36)).alloc (.cells #[.string (Lx.bs i.name), .slice na i.expr.length nc] 36)).heap[w7.heap.size + 1]? = some (.cells #[.string (Lx.bs i.name), .slice na i.expr.length nc] 36 (0, 0)) ∧ w7.heap.size + 1 < ((w7.drew.alloc (.cells #[] 36)).alloc (.cells #[.string (Lx.bs i.name), .slice na i.expr.length nc] 36)).heap.size ∧ ((w7.drew.alloc (.cells #[.string (Lx.bs i.name), .slice na i.expr.length nc] 36)).alloc (.cells #[] 36)).ownsRow w7.heap.size 36 2 (.slice (some ⟨w7.heap.size + 1, 0, none⟩) 0 0) 0 [] ∧ ((w7.drew.alloc (.cells #[.string (Lx.bs i.name), .slice na i.expr.length nc] 36)).alloc (.cells #[] 36)).heap[w7.heap.size]? = some (.cells #[.string (Lx.bs i.name), .slice na i.expr.length nc] 36 (0, 0)) ∧ w7.heap.size < ((w7.drew.alloc (.cells #[.string (Lx.bs i.name), .slice na i.expr.length nc] 36)).alloc (.cells #[] 36)).heap.size) := by
            have e1 : (w7.drew.alloc (.cells #[] 36)).heap.size = w7.heap.size + 1 := by simp
            have e2 : (w7.drew.alloc (.cells #[.string (Lx.bs i.name), .slice na i.expr.length nc] 36)).heap.size = w7.heap.size + 1 := by simp
            have h1 := heap_alloc_new (w7.drew.alloc (.cells #[] 36)) (.cells #[.string (Lx.bs i.name), .slice na i.expr.length nc] 36)
            have h2 := own_none (w7.drew.alloc (.cells #[.string (Lx.bs i.name), .slice na i.expr.length nc] 36)) w7.heap.size (by rw [e2]; exact Nat.le_succ _) 36 2
            have h3 := heap_alloc_new w7.drew (.cells #[.string (Lx.bs i.name), .slice na i.expr.length nc] 36)
            rw [e1] at h1
            rw [e2] at h2
            exact ⟨h1, by simp, h2, ((bnew (w7.drew.alloc (.cells #[.string (Lx.bs i.name), .slice na i.expr.length nc] 36)) (.cells #[] 36)).block w7.heap.size (by rw [e2]; exact Nat.lt_succ_self _)).trans h3, by simp; omega⟩
          obtain ⟨y3, u0, u1⟩ := XA.out w7 (Below.refl _ _)
          clear hL1 hL2 hL3 hLl HLX
          go_region_held3 (fun W' => W'.cell? ⟨T, 3, none⟩ = some (.slice ia n ic) ∧ W'.cell? ⟨U, 0, none⟩ = some (.string (Lx.bs i.name)) ∧ W'.cell? ⟨U, 1, none⟩ = some (.slice na i.expr.length nc)) (go_keep) (first
            | (refine step_append_any (by rfl) _ _ _ (by rfl) w7.heap.size 36 i0 _ 2 40 Tryz.underlying32 hi hz0 hz1 hz2 rfl (by omega) _ _ _ (by rfl) (own_none w7.drew w7.heap.size (Nat.le_refl _) 36 2) ia n ic (ics L) (by rfl) HLn.out (SRC.out _ (HD.out.alloc HD.out.size _)) ones.out.1 fit.out.1.1 fit.out.1.2 (HD.out.alloc HD.out.size _).size ?_; intro b8 cap8 w8 hown8 hb8 hk8
               have X8 : Hid (Below w7.heap.size w7 w8 ∧ w8.ownsRow w7.heap.size 36 2 (.slice b8 n cap8) n (ics L)) := ⟨(HD.out.alloc HD.out.size _).trans hb8, (by rw [Nat.zero_add, List.nil_append] at hown8; exact hown8)⟩
               have K8 := hidp hk8
               obtain ⟨y3, u0, u1⟩ := XA.out w8 X8.out.1
               clear hown8 hb8 hk8)
            | (refine step_append_any (by rfl) _ _ _ (by rfl) w7.heap.size 36 i0 _ 2 40 Tryz.underlying32 hi hz0 hz1 hz2 rfl (by omega) _ _ _ (by rfl) (own_callL (own_none w7.drew w7.heap.size (Nat.le_refl _) 36 2) (bnew _ _)) ia n ic (ics L) (by rfl) HLn.out (SRC.out _ ((HD.out.alloc HD.out.size _).alloc (HD.out.alloc HD.out.size _).size _)) ones.out.1 fit.out.1.1 fit.out.1.2 ((HD.out.alloc HD.out.size _).alloc (HD.out.alloc HD.out.size _).size _).size ?_; intro b8 cap8 w8 hown8 hb8 hk8
               have X8 : Hid (Below w7.heap.size w7 w8 ∧ w8.ownsRow w7.heap.size 36 2 (.slice b8 n cap8) n (ics L)) := ⟨((HD.out.alloc HD.out.size _).alloc (HD.out.alloc HD.out.size _).size _).trans hb8, (by rw [Nat.zero_add, List.nil_append] at hown8; exact hown8)⟩
               have K8 := hidp hk8
               obtain ⟨y3, u0, u1⟩ := XA.out w8 X8.out.1
               clear hown8 hb8 hk8)
            | (refine step_append_any (by rfl) _ _ _ (by rfl) w7.heap.size 36 i0 _ 2 40 Tryz.underlying32 hi hz0 hz1 hz2 rfl (by omega) _ _ _ (by rfl) (HBR.out.2.2.1) ia n ic (ics L) (by rfl) HLn.out (SRC.out _ ((HD.out.alloc HD.out.size _).alloc (HD.out.alloc HD.out.size _).size _)) ones.out.1 fit.out.1.1 fit.out.1.2 ((HD.out.alloc HD.out.size _).alloc (HD.out.alloc HD.out.size _).size _).size ?_; intro b8 cap8 w8 hown8 hb8 hk8
               have X8 : Hid (Below w7.heap.size w7 w8 ∧ w8.ownsRow w7.heap.size 36 2 (.slice b8 n cap8) n (ics L)) := ⟨((HD.out.alloc HD.out.size _).alloc (HD.out.alloc HD.out.size _).size _).trans hb8, (by rw [Nat.zero_add, List.nil_append] at hown8; exact hown8)⟩
               have K8 := hidp hk8
               obtain ⟨y3, u0, u1⟩ := XA.out w8 X8.out.1
               clear hown8 hb8 hk8)
            | (refine step_append_any (by rfl) _ _ _ (by rfl) w7.heap.size 36 i0 _ 2 40 Tryz.underlying32 hi hz0 hz1 hz2 rfl (by omega) _ _ _ (by rfl) (own_callL X8.out.2 (bnew _ _)) (some ⟨w8.heap.size, 0, none⟩) 1 1 [.string (Lx.bs i.name), .slice na i.expr.length nc] (by rfl) (by rfl) (src_new w8 #[.string (Lx.bs i.name), .slice na i.expr.length nc] 36) ones.out.2 fit.out.2.1 fit.out.2.2 (X8.out.1.alloc X8.out.1.size _).size ?_; intro b9 cap9 w9 hown9 hb9 hk9
               have X9 : Hid (Below w7.heap.size w7 w9 ∧ ∀ v, Itm (w9.setCell ⟨Y, 3, none⟩ v) b9 (x.items ++ [i])) := ⟨(X8.out.1.alloc X8.out.1.size _).trans hb9, FIN.out w9 b9 cap9 ((X8.out.1.alloc X8.out.1.size _).trans hb9) hown9⟩
               obtain ⟨y3, u0, u1⟩ := XA.out w9 X9.out.1
               obtain ⟨z0, z1, z2, z3, z4, z5, z6⟩ := ZA.out w9 X9.out.1
               have rf := ZF.out w9 X9.out.1
               have rl : Y < w9.heap.size := Nat.lt_of_lt_of_le HY.out.2.1 X9.out.1.size
               clear hown9 hb9 hk9)
            | (refine step_append_any (by rfl) _ _ _ (by rfl) w7.heap.size 36 i0 _ 2 40 Tryz.underlying32 hi hz0 hz1 hz2 rfl (by omega) _ _ _ (by rfl) (show w8.ownsRow w7.heap.size 36 2 (.slice b8 (0 + n) cap8) (0 + n) (ics L) from by rw [Nat.zero_add]; exact X8.out.2) (some ⟨w7.heap.size + 1, 0, none⟩) 1 1 [.string (Lx.bs i.name), .slice na i.expr.length nc] (by rfl) (by rfl) (src_row ((K8.out _ HBR.out.2.1 (own_ne (Nat.ne_of_lt (Nat.lt_succ_self _)))).trans HBR.out.1)) ones.out.2 (by rw [Nat.zero_add]; exact fit.out.2.1) (by rw [Nat.zero_add]; exact fit.out.2.2) (X8.out.1).size ?_; intro b9 cap9 w9 hown9 hb9 hk9
               have X9 : Hid (Below w7.heap.size w7 w9 ∧ ∀ v, Itm (w9.setCell ⟨Y, 3, none⟩ v) b9 (x.items ++ [i])) := ⟨(X8.out.1).trans hb9, FIN.out w9 b9 cap9 ((X8.out.1).trans hb9) (by rw [Nat.zero_add] at hown9; exact hown9)⟩
               obtain ⟨y3, u0, u1⟩ := XA.out w9 X9.out.1
               obtain ⟨z0, z1, z2, z3, z4, z5, z6⟩ := ZA.out w9 X9.out.1
               have rf := ZF.out w9 X9.out.1
               have rl : Y < w9.heap.size := Nat.lt_of_lt_of_le HY.out.2.1 X9.out.1.size
               clear hown9 hb9 hk9)
            | (refine step_append_any (by rfl) _ _ _ (by rfl) w7.heap.size 36 i0 _ 2 40 Tryz.underlying32 hi hz0 hz1 hz2 rfl (by omega) _ _ _ (by rfl) (show w8.ownsRow w7.heap.size 36 2 (.slice b8 (0 + n) cap8) (0 + n) (ics L) from by rw [Nat.zero_add]; exact X8.out.2) (some ⟨w7.heap.size, 0, none⟩) 1 1 [.string (Lx.bs i.name), .slice na i.expr.length nc] (by rfl) (by rfl) (src_row ((K8.out _ HBR.out.2.2.2.2 (own_ne (Nat.ne_of_gt (Nat.lt_succ_self _)))).trans HBR.out.2.2.2.1)) ones.out.2 (by rw [Nat.zero_add]; exact fit.out.2.1) (by rw [Nat.zero_add]; exact fit.out.2.2) (X8.out.1).size ?_; intro b9 cap9 w9 hown9 hb9 hk9
               have X9 : Hid (Below w7.heap.size w7 w9 ∧ ∀ v, Itm (w9.setCell ⟨Y, 3, none⟩ v) b9 (x.items ++ [i])) := ⟨(X8.out.1).trans hb9, FIN.out w9 b9 cap9 ((X8.out.1).trans hb9) (by rw [Nat.zero_add] at hown9; exact hown9)⟩
               obtain ⟨y3, u0, u1⟩ := XA.out w9 X9.out.1
               obtain ⟨z0, z1, z2, z3, z4, z5, z6⟩ := ZA.out w9 X9.out.1
               have rf := ZF.out w9 X9.out.1
               have rl : Y < w9.heap.size := Nat.lt_of_lt_of_le HY.out.2.1 X9.out.1.size
               clear hown9 hb9 hk9)
          )
          all_goals
            obtain ⟨w10, hw10⟩ : ∃ w10, w10 = w9.setCell ⟨Y, 3, none⟩ (.slice b9 (n + 1) cap9) := ⟨_, rfl⟩
            have X10 : Hid (w10.heap[Y]? = some (.cells #[.int .u8 (x.kind : Int), .string (Lx.bs x.table), .string (Lx.bs x.field), .slice b9 (n + 1) cap9, .slice ea x.expr.length ec, .bool x.history, .bool x.desc] 34 (0, 0)) ∧ Below w6.heap.size w6 w10 ∧ Itm w10 b9 (x.items ++ [i])) := by
              rw [hw10]
              exact ⟨heap_setCell_same w9 _ 3 _ 34 _ (ZR.out w9 X9.out.1), (HY.out.2.2.1.trans (X9.out.1.mono HY.out.2.2.1.size)).setCell (by show w6.heap.size ≤ Y; rw [HY.out.2.2.2]; exact Nat.le_refl _) _, X9.out.2 _⟩
            have X11 : Hid (Below w2.heap.size w2 w10) := X6.out.trans (X10.out.2.1.mono X6.out.size)
            have c : ∀ k v, (#[.int .u8 (x.kind : Int), .string (Lx.bs x.table), .string (Lx.bs x.field), .slice b9 (n + 1) cap9, .slice ea x.expr.length ec, .bool x.history, .bool x.desc] : Array Value)[k]? = some v → w10.cell? ⟨Y, k, none⟩ = some v := fun k v hv => by rw [cell_of_row _ _ _ _ _ _ X10.out.1]; exact hv
            have v0 := c 0 _ rfl
            have v1 := c 1 _ rfl
            have v2 := c 2 _ rfl
            have v3 := c 3 _ rfl
            have v4 := c 4 _ rfl
            have v5 := c 5 _ rfl
            have v6 := c 6 _ rfl
            obtain ⟨r2, hr2⟩ : ∃ r2 : Int, r2 = if ry = true then 0 else 13 := ⟨_, rfl⟩
            have q2 : (r2 == 0) = ry := by rw [hr2]; cases ry <;> rfl
            have CY1 := hidp (CY.out w10 b9 cap9 X11.out X10.out.2.2)
            rw [← hr2] at CY1
            clear y3 u0 u1 z0 z1 z2 z3 z4 z5 z6 rf rl c hr2 K8 CY ny1 ny2 ny3 ny4
            rw [← hw10]
            clear hw10
            go_wp2_with fail
            refine (CY1.out).mono ?_
            rintro e w11 ⟨rfl, hb11⟩
            have X12 : Hid (Below w2.heap.size w2 w11 ∧ w11.heap[Y]? = some (.cells #[.int .u8 (x.kind : Int), .string (Lx.bs x.table), .string (Lx.bs x.field), .slice b9 (n + 1) cap9, .slice ea x.expr.length ec, .bool x.history, .bool x.desc] 34 (0, 0))) := ⟨X11.out.trans (hb11.mono X11.out.size), (hb11.block Y (row_lt X10.out.1)).trans X10.out.1⟩
            have v3 : w11.cell? ⟨Y, 3, none⟩ = some (.slice b9 (n + 1) cap9) := by rw [cell_of_row _ _ _ _ _ _ X12.out.2]; rfl
            clear hb11 CY1
            have q3 : ((n : Int) + 1 ≤ 64) ∨ ¬ ((n : Int) + 1 ≤ 64) := by omega
            rcases q3 with q3 | q3
            · have HE : Hid (ry = (one && !b)) := by show _ = _; rw [HRR.out, ← HB.out, decide_eq_true (by omega), Bool.and_true]
              cases one <;> cases b
              · obtain rfl : ry = false := HE.out
                go_wp2
                go_ret
                exact ⟨rfl, Xw.out.trans (X12.out.1.mono Xw.out.size)⟩
              · obtain rfl : ry = false := HE.out
                go_wp2
                go_ret
                exact ⟨rfl, Xw.out.trans (X12.out.1.mono Xw.out.size)⟩
              · obtain rfl : ry = true := HE.out
                go_wp2
                go_ret
                exact ⟨rfl, Xw.out.trans (X12.out.1.mono Xw.out.size)⟩
              · obtain rfl : ry = false := HE.out
                go_wp2
                go_ret
                exact ⟨rfl, Xw.out.trans (X12.out.1.mono Xw.out.size)⟩
            · have HE : Hid (ry = false) := by show _ = _; rw [HRR.out, decide_eq_false (by omega), Bool.and_false]
              obtain rfl : ry = false := HE.out
              cases one <;> cases b
              all_goals
                go_wp2
                go_ret
                first
                  | exact ⟨rfl, Xw.out.trans (X12.out.1.mono Xw.out.size)⟩
                  | exact ⟨by show Ending.returned (.bool (!decide ((n : Int) + 1 ≤ 64))) = _; rw [decide_eq_false (by omega)]; rfl, Xw.out.trans (X12.out.1.mono Xw.out.size)⟩
  · have k4 : ((x.kind : Int) != 4) = true := by simp; omega
    have k6 : ((x.kind : Int) != 6) = true := by simp; omega
    clear hk HR
    go_wp2
    go_ret
    exact ⟨rfl, Xw.out.trans (X4.out.mono Xw.out.size)⟩
end Ps
end Go.Proofs.YtocnjmndiogdmaaGreatDoor
