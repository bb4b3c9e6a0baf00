/- Several texts, joined: CloneF, CloneG -/
import Derived.Test.YtkigenldiinioaaGreatDoorQ10M
/- cloneField, walked: a field in memory of its own. -/
namespace Go.Proofs.YtkigenldiinioaaGreatDoor
open Go.RowKit
open Vl (V)
/-- seven cells in a block of their own -/
def Row7 (w : World) (g : Nat) (v0 v1 v2 v3 v4 v5 v6 : Value) : Prop := g < w.heap.size ∧ w.heap[g]? = some (.cells #[v0, v1, v2, v3, v4, v5, v6] 62 (0, 0))
theorem Row7.call {w w' : World} {g : Nat} {v0 v1 v2 v3 v4 v5 v6 : Value} (h : Row7 w g v0 v1 v2 v3 v4 v5 v6) (hb : Below w.heap.size w w') : Row7 w' g v0 v1 v2 v3 v4 v5 v6 :=
  ⟨Nat.lt_of_lt_of_le h.1 hb.size, (hb.block _ h.1).trans h.2⟩
theorem Row7.cells {w : World} {g : Nat} {v0 v1 v2 v3 v4 v5 v6 : Value} (h : Row7 w g v0 v1 v2 v3 v4 v5 v6) : w.cell? ⟨g, 0, none⟩ = some v0 ∧ w.cell? ⟨g, 1, none⟩ = some v1 ∧ w.cell? ⟨g, 2, none⟩ = some v2 ∧ w.cell? ⟨g, 3, none⟩ = some v3 ∧ w.cell? ⟨g, 4, none⟩ = some v4 ∧ w.cell? ⟨g, 5, none⟩ = some v5 ∧ w.cell? ⟨g, 6, none⟩ = some v6 := by
  refine ⟨?_, ?_, ?_, ?_, ?_, ?_, ?_⟩ <;> (rw [cell_of_row _ _ _ _ _ _ h.2]; rfl)
theorem Row7.free {w : World} {g : Nat} {v0 v1 v2 v3 v4 v5 v6 : Value} (h : Row7 w g v0 v1 v2 v3 v4 v5 v6) (r : Nat) : w.frozen? ⟨g, r, none⟩ = false := row_freeV h.2 r
set_option maxHeartbeats 4000000 in
set_option maxRecDepth 100000 in
theorem field38 (m : ByteArray) (hm : m.size ≤ 140737488351232) (x : V) (w : World) (c0 c1 c2 c3 c4 c5 : Value) (H : Nat) (hH : H ≤ w.heap.size) (hx : Rep w H x (.agg #[c0, c1, c2, c3, c4, c5]))
    (E : ∀ (W : World) (va : Value), H ≤ W.heap.size → Rep W H x va → Calls Tryz.prog 75 #[va] W fun e w' => ∃ v', e = .returned v' ∧ Below W.heap.size W w' ∧ RepA w' (fun g => W.heap.size ≤ g ∧ g < w'.heap.size) x v') :
    Calls Tryz.prog 97 #[.agg #[.string m, c0, c1, c2, c3, c4, c5]] w fun e w' => ∃ d0 d1 d2 d3 d4 d5, e = .returned (.agg #[.string m, d0, d1, d2, d3, d4, d5]) ∧ Below w.heap.size w w' ∧ RepA w' (fun g => w.heap.size ≤ g ∧ g < w'.heap.size) x (.agg #[d0, d1, d2, d3, d4, d5]) := by
  obtain ⟨xk, xb, xn, xs, xa, xl, xc, ya, yl, yc, rfl, rfl, rfl, rfl, rfl, rfl⟩ := rep_form hx
  have C34 : Hid (∀ W, Below w.heap.size w W → Calls Tryz.prog 75 #[.agg #[.int .u8 (xk : Int), .bool xb, .int .i64 xn, .string xs, .slice xa xl xc, .slice ya yl yc]] W fun e w' => ∃ v', e = .returned v' ∧ Below W.heap.size W w' ∧ RepA w' (fun g => W.heap.size ≤ g ∧ g < w'.heap.size) x v') := fun W hW =>
    E W _ (by have := hW.size; omega) (rep_stays (hW.mono hH) (Nat.le_refl _) x _ hx)
  clear E hx
  go_enter Tryz.func97, Tryz.ntmps97
  go_wp2
  obtain ⟨w1, hw1⟩ : ∃ w1, w1 = (w.alloc (.cells #[.string m, .int .u8 (xk : Int), .bool xb, .int .i64 xn, .string xs, .slice xa xl xc, .slice ya yl yc] 62)).alloc (.cells #[.string ⟨#[]⟩, .int .u8 0, .bool false, .int .i64 0, .string ⟨#[]⟩, .slice none 0 0, .slice none 0 0] 62) := ⟨_, rfl⟩
  have HB1 : Hid (Below w.heap.size w w1) := by rw [hw1]; exact below_new2 _ _ _
  have R1 : Hid (Row7 w1 w.heap.size (.string m) (.int .u8 (xk : Int)) (.bool xb) (.int .i64 xn) (.string xs) (.slice xa xl xc) (.slice ya yl yc)) := by
    show Row7 _ _ _ _ _ _ _ _ _
    rw [hw1]; exact ⟨by simp; omega, (Below.heap_alloc _ _ _ (by simp)).trans (heap_alloc_new w _)⟩
  have S1 : Hid (Row7 w1 (w.heap.size + 1) (.string ⟨#[]⟩) (.int .u8 0) (.bool false) (.int .i64 0) (.string ⟨#[]⟩) (.slice none 0 0) (.slice none 0 0)) := by
    show Row7 _ _ _ _ _ _ _ _ _
    rw [hw1]; exact ⟨by simp, by have := heap_alloc_new (w.alloc (.cells #[.string m, .int .u8 (xk : Int), .bool xb, .int .i64 xn, .string xs, .slice xa xl xc, .slice ya yl yc] 62)) (.cells #[.string ⟨#[]⟩, .int .u8 0, .bool false, .int .i64 0, .string ⟨#[]⟩, .slice none 0 0, .slice none 0 0] 62); simpa using this⟩
  rw [← hw1]
  clear hw1
  obtain ⟨p0, p1, p2, p3, p4, p5, p6⟩ := R1.out.cells
  go_region_with (first
    | (go_at_call 94; refine (text50 m _ hm).mono ?_; rintro e w2 ⟨rfl, hb2⟩
       have HB2 : Hid (Below w1.heap.size w1 w2) := (Below.refl _ _).drew.trans (by exact hb2)
       have R2 : Hid (Row7 w2 w.heap.size (.string m) (.int .u8 (xk : Int)) (.bool xb) (.int .i64 xn) (.string xs) (.slice xa xl xc) (.slice ya yl yc)) := R1.out.call HB2.out
       obtain ⟨q0, q1, q2, q3, q4, q5, q6⟩ := R2.out.cells)
    | (go_at_call 75; refine (C34.out _ (HB1.out.trans (HB2.out.mono HB1.out.size))).mono ?_; rintro e w3 ⟨v', rfl, hb3, hr3⟩
       obtain ⟨zk, zb, zn, zs, za, zl, zc, ta, tl, tc, rfl⟩ := repA_form hr3
       have S3 : Hid (Row7 w3 (w.heap.size + 1) (.string ⟨#[]⟩) (.int .u8 0) (.bool false) (.int .i64 0) (.string ⟨#[]⟩) (.slice none 0 0) (.slice none 0 0)) := (S1.out.call HB2.out).call (by exact hb3)
       obtain ⟨r0, r1, r2, r3, r4, r5, r6⟩ := S3.out.cells
       have fz := S3.out.free
       have hlt3 := S3.out.1
       have HB3 : Hid (Below w2.heap.size w2 w3) := (by exact hb3)
       have HR3 : Hid (RepA w3 (fun g => w2.heap.size ≤ g ∧ g < w3.heap.size) x (.agg #[.int .u8 (zk : Int), .bool zb, .int .i64 zn, .string zs, .slice za zl zc, .slice ta tl tc])) := (by exact hr3)))
  all_goals
    have hsz2 : w.heap.size + 1 < w2.heap.size := Nat.lt_of_lt_of_le S1.out.1 HB2.out.size
    have hst := heap_setCells_put (w.heap.size + 1) 62 [.string m, .int .u8 (zk : Int), .bool zb, .int .i64 zn, .string zs, .slice za zl zc, .slice ta tl tc] 0 w3 _ S3.out.2
    have hbl : Below w.heap.size w (w3.setCells (w.heap.size + 1) 0 [.string m, .int .u8 (zk : Int), .bool zb, .int .i64 zn, .string zs, .slice za zl zc, .slice ta tl tc]) :=
      below_setCellsV (by omega) _ _ (HB1.out.trans ((HB2.out.trans (HB3.out.mono HB2.out.size)).mono HB1.out.size))
    have hrep : RepA (w3.setCells (w.heap.size + 1) 0 [.string m, .int .u8 (zk : Int), .bool zb, .int .i64 zn, .string zs, .slice za zl zc, .slice ta tl tc]) (fun g => w.heap.size ≤ g ∧ g < (w3.setCells (w.heap.size + 1) 0 [.string m, .int .u8 (zk : Int), .bool zb, .int .i64 zn, .string zs, .slice za zl zc, .slice ta tl tc]).heap.size) x (.agg #[.int .u8 (zk : Int), .bool zb, .int .i64 zn, .string zs, .slice za zl zc, .slice ta tl tc]) :=
      repA_stays (fun g hg => heap_setCells_neV _ g (by omega) _ _ _) (fun g hg => ⟨by omega, by rw [size_setCellsV']; exact hg.2⟩) x _ HR3.out
    have HST : Hid _ := hst
    have HBL : Hid _ := hbl
    have HREP : Hid _ := hrep
    clear hst hbl hrep p0 p1 p2 p3 p4 p5 p6 q0 q1 q2 q3 q4 q5 q6 r0 r1 r2 r3 r4 r5 r6
    go_wp2
    exact bodyPost_ret (v := .agg #[.string m, .int .u8 (zk : Int), .bool zb, .int .i64 zn, .string zs, .slice za zl zc, .slice ta tl tc]) (results_cell_row rfl _ _ (w.heap.size + 1) 62 #[.string m, .int .u8 (zk : Int), .bool zb, .int .i64 zn, .string zs, .slice za zl zc, .slice ta tl tc] (0, 0) _ rfl HST.out Tryz.underlying62 rfl info44) rfl ⟨_, _, _, _, _, _, rfl, HBL.out, HREP.out⟩
end Go.Proofs.YtkigenldiinioaaGreatDoor
/- cloneList at fields, and clone itself, walked: whatever a value is, its clone is the value in memory of its own. -/
namespace Go.Proofs.YtkigenldiinioaaGreatDoor
open Go.RowKit
open Vl (V)
/-- the first j fields are cloned -/
def DoneF (wr : World) (G na j : Nat) (l : List (ByteArray × V)) : Prop := G < wr.heap.size ∧ ∃ C, wr.heap[G]? = some (.cells C 62 (0, 0)) ∧ C.size = na * 7 ∧
  ∀ (i : Nat) (m : ByteArray) (x : V), i < j → l[i]? = some (m, x) → wr.cell? ⟨G, i * 7, none⟩ = some (.string m) ∧ ∃ c0 c1 c2 c3 c4 c5, Six wr G (i * 7 + 1) c0 c1 c2 c3 c4 c5 ∧ RepA wr (fun g => G < g ∧ g < wr.heap.size) x (.agg #[c0, c1, c2, c3, c4, c5])
theorem DoneF.call {wr w' : World} {G na j : Nat} {l : List (ByteArray × V)} (h : DoneF wr G na j l) (hb : Below wr.heap.size wr w') : DoneF w' G na j l := by
  obtain ⟨h1, C, h2, h3, h4⟩ := h
  refine ⟨Nat.lt_of_lt_of_le h1 hb.size, C, (hb.block _ h1).trans h2, h3, fun i m x hi hx => ?_⟩
  obtain ⟨a0, c0, c1, c2, c3, c4, c5, a1, a2⟩ := h4 i m x hi hx
  exact ⟨(cell_block (hb.block _ h1)).trans a0, c0, c1, c2, c3, c4, c5, a1.block (hb.block _ h1), repA_stays (fun g hg => hb.block g hg.2) (fun g hg => ⟨hg.1, Nat.lt_of_lt_of_le hg.2 hb.size⟩) x _ a2⟩
theorem DoneF.put {wr : World} {G na j : Nat} {l : List (ByteArray × V)} (h : DoneF wr G na j l) (hj : j < na) {m : ByteArray} {x : V} (hx : l[j]? = some (m, x)) {A : Nat → Prop} (hA : ∀ g, A g → G < g ∧ g < wr.heap.size) {c0 c1 c2 c3 c4 c5 : Value} (hr : RepA wr A x (.agg #[c0, c1, c2, c3, c4, c5])) :
    DoneF (wr.setCells G (j * 7) [.string m, c0, c1, c2, c3, c4, c5]) G na (j + 1) l := by
  obtain ⟨h1, C, h2, h3, h4⟩ := h
  have hrow := heap_setCells_put G 62 [.string m, c0, c1, c2, c3, c4, c5] (j * 7) wr C h2
  have hsz : j * 7 + [.string m, c0, c1, c2, c3, c4, c5].length ≤ C.size := by rw [h3]; simp only [List.length_cons, List.length_nil]; omega
  refine ⟨by rw [size_setCellsV']; exact h1, _, hrow, by rw [putAll_size]; exact h3, fun i p y hi hy => ?_⟩
  by_cases hij : i < j
  · obtain ⟨a0, d0, d1, d2, d3, d4, d5, a1, a2⟩ := h4 i p y hij hy
    have e : ∀ r, r < 7 → (wr.setCells G (j * 7) [.string m, c0, c1, c2, c3, c4, c5]).cell? ⟨G, i * 7 + r, none⟩ = wr.cell? ⟨G, i * 7 + r, none⟩ := fun r hr => by
      rw [cell_of_row _ _ _ _ _ _ hrow, cell_of_row _ _ _ _ _ _ h2]
      exact putAll_other _ _ _ _ (by omega)
    refine ⟨(e 0 (by omega)).trans a0, d0, d1, d2, d3, d4, d5, ?_, repA_stays (fun g hg => heap_setCells_neV G g (by omega) _ _ _) (fun g hg => by rw [size_setCellsV']; exact hg) y _ a2⟩
    obtain ⟨b0, b1, b2, b3, b4, b5⟩ := a1
    exact ⟨(e 1 (by omega)).trans b0, (e 2 (by omega)).trans b1, (e 3 (by omega)).trans b2, (e 4 (by omega)).trans b3, (e 5 (by omega)).trans b4, (e 6 (by omega)).trans b5⟩
  · have hij' : i = j := by omega
    subst hij'
    rw [hx] at hy
    cases hy
    have e : ∀ (r : Nat) (v : Value), [.string m, c0, c1, c2, c3, c4, c5][r]? = some v → (wr.setCells G (i * 7) [.string m, c0, c1, c2, c3, c4, c5]).cell? ⟨G, i * 7 + r, none⟩ = some v := fun r v hv => by
      rw [cell_of_row _ _ _ _ _ _ hrow]
      exact putAll_at _ _ _ r v hsz hv
    exact ⟨e 0 _ rfl, c0, c1, c2, c3, c4, c5, ⟨e 1 _ rfl, e 2 _ rfl, e 3 _ rfl, e 4 _ rfl, e 5 _ rfl, e 6 _ rfl⟩, repA_stays (fun g hg => heap_setCells_neV G g (by have := hA g hg; omega) _ _ _) (fun g hg => by rw [size_setCellsV']; exact hA g hg) x _ hr⟩
theorem DoneF.slot {wr : World} {G na j : Nat} {l : List (ByteArray × V)} (h : DoneF wr G na j l) (hj : j < na) (r : Nat) (hr : r < 7) : ∃ v, wr.cell? ⟨G, j * 7 + r, none⟩ = some v := by
  obtain ⟨h1, C, h2, h3, h4⟩ := h
  rw [cell_of_row _ _ _ _ _ _ h2]
  exact ⟨C[j * 7 + r]'(by rw [h3]; omega), Array.getElem?_eq_getElem _⟩
set_option maxHeartbeats 4000000 in
set_option maxRecDepth 100000 in
theorem clones52 (l : List (ByteArray × V)) (hms : Vl.smallF l) (hs : l.length ≤ 1466015503668) (ao : Option Addr) (ac : Nat) (w : World) (H : Nat) (hH : H ≤ w.heap.size) (hA : LiesF w H ao l)
    (E : ∀ x ∈ l, ∀ (W : World) (va : Value), H ≤ W.heap.size → Rep W H x.2 va → Calls Tryz.prog 75 #[va] W fun e w' => ∃ v', e = .returned v' ∧ Below W.heap.size W w' ∧ RepA w' (fun g => W.heap.size ≤ g ∧ g < w'.heap.size) x.2 v')
    (hp : 0 < l.length) :
    Calls Tryz.prog 96 #[.slice ao l.length ac, .func (.func 97) #[] #[]] w fun e w' => e = .returned (.slice (some ⟨w.heap.size, 0, none⟩) l.length l.length) ∧ Below w.heap.size w w' ∧ DoneF w' w.heap.size l.length l.length l := by
  have HE : Hid (∀ x ∈ l, ∀ (W : World) (va : Value), H ≤ W.heap.size → Rep W H x.2 va → Calls Tryz.prog 75 #[va] W fun e w' => ∃ v', e = .returned v' ∧ Below W.heap.size W w' ∧ RepA w' (fun g => W.heap.size ≤ g ∧ g < w'.heap.size) x.2 v') := E
  obtain ⟨na, hna⟩ : ∃ n, n = l.length := ⟨_, rfl⟩
  have HNA : Hid (na = l.length) := hna
  have HA : Hid (0 < l.length → ∃ g o, ao = some ⟨g, o, none⟩ ∧ g < H ∧ RepF w H g o l) := hA.2
  rw [← hna] at hs hp ⊢
  obtain ⟨M, hM, hmk⟩ := make24 na hs
  have hz : ((na : Int) == 0) = false := by simp; omega
  have HMS : Hid (Vl.smallF l) := hms
  clear E hA hna hms
  go_enter Tryz.func96, Tryz.ntmps96
  go_wp2
  have HD0 : Hid (DoneF (w.alloc (.cells M 62)) w.heap.size na 0 l) := ⟨by simp, M, heap_alloc_new w _, hM, fun i m x hi => by omega⟩
  have HB0 : Hid (Below w.heap.size w (w.alloc (.cells M 62))) := below_new _ _
  obtain ⟨w1, hw1⟩ : ∃ w1, w1 = w.alloc (.cells M 62) := ⟨_, rfl⟩
  rw [← hw1] at HD0 HB0 ⊢
  clear hw1 hmk hM
  go_loopw [16] (fun i wr => ∃ j : Nat, j ≤ na ∧ i = .int .i64 j ∧ Below w.heap.size w wr ∧ DoneF wr w.heap.size na j l) (fun i _ => na - (intOf i).toNat)
  case atStart => exact ⟨0, Nat.zero_le _, rfl, HB0.out, HD0.out⟩
  case round =>
    obtain ⟨j, hj, rfl, hb, hd⟩ := hrel
    have HBW : Hid (Below w.heap.size w wr) := hb
    have HD : Hid (DoneF wr w.heap.size na j l) := hd
    by_cases hlt : j < na
    · have ha : j < l.length := by rw [← HNA.out]; omega
      obtain ⟨g, o, rfl, hg, hr⟩ := HA.out (by omega)
      obtain ⟨⟨m, x⟩, hx⟩ : ∃ x, l[j]? = some x := ⟨_, List.getElem?_eq_getElem ha⟩
      obtain ⟨dm, _, c0, c1, c2, c3, c4, c5, ⟨d0, d1, d2, d3, d4, d5⟩, hrx⟩ := repF_at l o (repF_stays (hb.mono hH) (Nat.le_refl _) hg l o hr) j m x hx
      rw [show o + j * 7 + 1 + 1 = o + j * 7 + 2 by omega] at d1
      rw [show o + j * 7 + 1 + 2 = o + j * 7 + 3 by omega] at d2
      rw [show o + j * 7 + 1 + 3 = o + j * 7 + 4 by omega] at d3
      rw [show o + j * 7 + 1 + 4 = o + j * 7 + 5 by omega] at d4
      rw [show o + j * 7 + 1 + 5 = o + j * 7 + 6 by omega] at d5
      obtain ⟨xk, xb, xn, xs, xa, xl, xc, ya, yl, yc, rfl, rfl, rfl, rfl, rfl, rfl⟩ := rep_form hrx
      have C38 : Hid (∀ W, Below wr.heap.size wr W → Calls Tryz.prog 97 #[.agg #[.string m, .int .u8 (xk : Int), .bool xb, .int .i64 xn, .string xs, .slice xa xl xc, .slice ya yl yc]] W fun e w' => ∃ d0 d1 d2 d3 d4 d5, e = .returned (.agg #[.string m, d0, d1, d2, d3, d4, d5]) ∧ Below W.heap.size W w' ∧ RepA w' (fun g => W.heap.size ≤ g ∧ g < w'.heap.size) x (.agg #[d0, d1, d2, d3, d4, d5])) := fun W hW =>
        field38 m (Vl.smallF_mem l (m, x) HMS.out (List.mem_of_getElem? hx)).1 x W _ _ _ _ _ _ H (by have := hW.size; have := hb.size; omega) (rep_stays (hW.mono (by have := hb.size; omega)) (Nat.le_refl _) x _ hrx) (HE.out (m, x) (List.mem_of_getElem? hx))
      have HX : Hid (l[j]? = some (m, x)) := hx
      clear hrx hr HA hx hb hd ha
      go_wp2_with fail
      refine (C38.out _ (below_new _ _)).mono ?_
      rintro e w3 ⟨z0, z1, z2, z3, z4, z5, rfl, hb3, hr3⟩
      obtain ⟨zk, zb, zn, zs, za, zl, zc, ta, tl, tc, hz⟩ := repA_form hr3
      simp only [Value.agg.injEq, Array.mk.injEq, List.cons.injEq, and_true] at hz
      obtain ⟨rfl, rfl, rfl, rfl, rfl, rfl⟩ := hz
      have HB3 : Hid (Below wr.heap.size wr w3) := (below_new _ _).trans (hb3.mono (below_new _ _).size)
      have HD3 : Hid (DoneF w3 w.heap.size na j l) := HD.out.call HB3.out
      have HN : Hid (DoneF (w3.setCells w.heap.size (j * 7) [.string m, .int .u8 (zk : Int), .bool zb, .int .i64 zn, .string zs, .slice za zl zc, .slice ta tl tc]) w.heap.size na (j + 1) l) :=
        HD3.out.put hlt HX.out (A := fun g => (wr.alloc _).heap.size ≤ g ∧ g < w3.heap.size) (fun g hg => ⟨by have h1 := hg.1; have h2 := HD.out.1; simp at h1; omega, hg.2⟩) hr3
      have HBN : Hid (Below w.heap.size w (w3.setCells w.heap.size (j * 7) [.string m, .int .u8 (zk : Int), .bool zb, .int .i64 zn, .string zs, .slice za zl zc, .slice ta tl tc])) := below_setCellsV (Nat.le_refl _) _ _ (HBW.out.trans (HB3.out.mono HBW.out.size))
      obtain ⟨f0, e0⟩ := HD3.out.slot hlt 0 (by omega)
      obtain ⟨f1, e1⟩ := HD3.out.slot hlt 1 (by omega)
      obtain ⟨f2, e2⟩ := HD3.out.slot hlt 2 (by omega)
      obtain ⟨f3, e3⟩ := HD3.out.slot hlt 3 (by omega)
      obtain ⟨f4, e4⟩ := HD3.out.slot hlt 4 (by omega)
      obtain ⟨f5, e5⟩ := HD3.out.slot hlt 5 (by omega)
      obtain ⟨f6, e6⟩ := HD3.out.slot hlt 6 (by omega)
      rw [Nat.add_zero] at e0
      have fz : ∀ r, w3.frozen? ⟨w.heap.size, r, none⟩ = false := by obtain ⟨_, C, h2, _⟩ := HD3.out; exact row_freeV h2
      have hlt3 : w.heap.size < w3.heap.size := HD3.out.1
      clear hb3 hr3 dm d0 d1 d2 d3 d4 d5
      go_wp2
      go_roundw
      case rel => exact ⟨j + 1, by omega, by go_num, HBN.out, HN.out⟩
      case measure => simp [intOf]; omega
    · have hj' : j = na := by omega
      subst hj'
      go_wp2
      exact ⟨rfl, _, results_tmp (by rfl) _ _ _, rfl, HBW.out, HD.out⟩
theorem DoneL.lies {w : World} {G na : Nat} {l : List V} (h : DoneL w G na l.length l) : RepLA w (fun g => G < g ∧ g < w.heap.size) G 0 l := by
  obtain ⟨_, C, _, _, h4⟩ := h
  refine repLA_mk l 0 fun j x hx => ?_
  have := h4 j x (List.getElem?_eq_some_iff.1 hx).1 hx
  rw [Nat.zero_add]
  exact this
theorem DoneF.lies {w : World} {G na : Nat} {l : List (ByteArray × V)} (hm : Vl.smallF l) (h : DoneF w G na l.length l) : RepFA w (fun g => G < g ∧ g < w.heap.size) G 0 l := by
  obtain ⟨_, C, _, _, h4⟩ := h
  refine repFA_mk l 0 fun j m x hx => ?_
  obtain ⟨a, b⟩ := h4 j m x (List.getElem?_eq_some_iff.1 hx).1 hx
  rw [Nat.zero_add]
  have hml : m.size ≤ 140737488351232 := (Vl.smallF_mem l (m, x) hm (List.mem_of_getElem? hx)).1
  exact ⟨a, by unfold maxLen; omega, b⟩
end Go.Proofs.YtkigenldiinioaaGreatDoor
