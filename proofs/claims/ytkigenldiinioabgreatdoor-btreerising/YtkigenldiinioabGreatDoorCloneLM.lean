/- cloneList at values, walked: a list in memory of its own, whatever the parts' own clones are. -/
import Derived.Test.YtkigenldiinioabGreatDoorRepAM
import Derived.Test.YtkigenldiinioabGreatDoorShelf
namespace Go.Proofs.YtkigenldiinioabGreatDoor
open Go.RowKit
open Vl (V)
namespace Vl
mutual
/-- texts and lists that are not too long for a machine -/
def small : V → Prop
  | ⟨_, _, _, s, l, f⟩ => s.size ≤ 140737488351232 ∧ l.length ≤ 1759218604390 ∧ f.length ≤ 1466015503668 ∧ smallL l ∧ smallF f
def smallL : List V → Prop
  | [] => True
  | x :: r => small x ∧ smallL r
def smallF : List (ByteArray × V) → Prop
  | [] => True
  | (m, x) :: r => m.size ≤ 140737488351232 ∧ small x ∧ smallF r
end
theorem smallL_mem : ∀ (l : List V) (x : V), smallL l → x ∈ l → small x
  | [], _, _, h => by cases h
  | y :: r, x, hs, h => by
    rw [smallL] at hs
    cases List.mem_cons.1 h with
    | inl e => rw [e]; exact hs.1
    | inr e => exact smallL_mem r x hs.2 e
theorem smallF_mem : ∀ (l : List (ByteArray × V)) (x : ByteArray × V), smallF l → x ∈ l → x.1.size ≤ 140737488351232 ∧ small x.2
  | [], _, _, h => by cases h
  | (m, y) :: r, x, hs, h => by
    rw [smallF] at hs
    cases List.mem_cons.1 h with
    | inl e => rw [e]; exact ⟨hs.1, hs.2.1⟩
    | inr e => exact smallF_mem r x hs.2.2 e
end Vl
set_option maxHeartbeats 1000000 in
theorem text50 (s : ByteArray) (w : World) (hs : s.size ≤ 140737488351232) : Calls Tryz.prog 88 #[.string s] w fun e w' => e = .returned (.string s) ∧ Below w.heap.size w w' := by
  go_enter Tryz.func88, Tryz.ntmps88
  go_wp2_with (go_at_call 103; refine (Tryz.stringslite_Clone s _ (by omega)).mono ?_; rintro e w' ⟨rfl, hb⟩)
  go_ret
  exact ⟨rfl, hb⟩
theorem info26' : (Tryz.prog.info? 27).map (fun i => (i.zero, i.size, i.bytes)) = some (some (.agg #[.int .u8 0, .bool false, .int .i64 0, .string ⟨#[]⟩, .slice none 0 0, .slice none 0 0]), 6, 80) := by kernel_rfl
theorem info44' : (Tryz.prog.info? 93).map (fun i => (i.zero, i.size, i.bytes)) = some (some (.agg #[.string ⟨#[]⟩, .int .u8 0, .bool false, .int .i64 0, .string ⟨#[]⟩, .slice none 0 0, .slice none 0 0]), 7, 96) := by kernel_rfl
theorem info_parts {e : TypeId} {z : Value} {n b : Nat} (h : (Tryz.prog.info? e).map (fun i => (i.zero, i.size, i.bytes)) = some (some z, n, b)) : ∃ i, Tryz.prog.info? e = some i ∧ i.zero = some z ∧ i.size = n ∧ i.bytes = b := by
  cases hi : Tryz.prog.info? e with
  | none => simp [hi] at h
  | some i =>
    rw [hi] at h
    simp only [Option.map_some, Option.some.injEq, Prod.mk.injEq] at h
    exact ⟨i, rfl, h.1, h.2.1, h.2.2⟩
theorem make23 (n : Nat) (hn : n ≤ 1759218604390) : ∃ M : Array Value, M.size = n * 6 ∧ ∀ u : World, (Instr.makeSlice 24 (.int .i64 (n : Int)) (.int .i64 (n : Int))).run Tryz.prog u = .ok (.slice (some ⟨u.heap.size, 0, none⟩) n n) (u.alloc (.cells M 27)) := by
  obtain ⟨i0, hi, hz0, hz1, hz2⟩ := info_parts info26'
  obtain ⟨z, hz⟩ : ∃ z : Value, z = .agg #[.int .u8 0, .bool false, .int .i64 0, .string ⟨#[]⟩, .slice none 0 0, .slice none 0 0] := ⟨_, rfl⟩
  rw [← hz] at hz0
  refine ⟨madeCells z.cells (n * 6), size_madeCells _ _, fun u => ?_⟩
  have h := run_make (P := Tryz.prog) u 24 27 i0 _ Tryz.underlying24 hi hz0 .i64 .i64 (n : Int) (n : Int) (by omega) (by omega) (by rw [hz2]; omega) (by omega)
  rw [show (n : Int).toNat = n by omega, hz1] at h
  exact h
theorem make24 (n : Nat) (hn : n ≤ 1466015503668) : ∃ M : Array Value, M.size = n * 7 ∧ ∀ u : World, (Instr.makeSlice 25 (.int .i64 (n : Int)) (.int .i64 (n : Int))).run Tryz.prog u = .ok (.slice (some ⟨u.heap.size, 0, none⟩) n n) (u.alloc (.cells M 93)) := by
  obtain ⟨i0, hi, hz0, hz1, hz2⟩ := info_parts info44'
  obtain ⟨z, hz⟩ : ∃ z : Value, z = .agg #[.string ⟨#[]⟩, .int .u8 0, .bool false, .int .i64 0, .string ⟨#[]⟩, .slice none 0 0, .slice none 0 0] := ⟨_, rfl⟩
  rw [← hz] at hz0
  refine ⟨madeCells z.cells (n * 7), size_madeCells _ _, fun u => ?_⟩
  have h := run_make (P := Tryz.prog) u 25 93 i0 _ Tryz.underlying25 hi hz0 .i64 .i64 (n : Int) (n : Int) (by omega) (by omega) (by rw [hz2]; omega) (by omega)
  rw [show (n : Int).toNat = n by omega, hz1] at h
  exact h
/-- the first j parts are cloned -/
def DoneL (wr : World) (G na j : Nat) (l : List V) : Prop := G < wr.heap.size ∧ ∃ C, wr.heap[G]? = some (.cells C 27 (0, 0)) ∧ C.size = na * 6 ∧
  ∀ (i : Nat) (x : V), i < j → l[i]? = some x → ∃ c0 c1 c2 c3 c4 c5, Six wr G (i * 6) c0 c1 c2 c3 c4 c5 ∧ RepA wr (fun g => G < g ∧ g < wr.heap.size) x (.agg #[c0, c1, c2, c3, c4, c5])
theorem DoneL.call {wr w' : World} {G na j : Nat} {l : List V} (h : DoneL wr G na j l) (hb : Below wr.heap.size wr w') : DoneL w' G na j l := by
  obtain ⟨h1, C, h2, h3, h4⟩ := h
  refine ⟨Nat.lt_of_lt_of_le h1 hb.size, C, (hb.block _ h1).trans h2, h3, fun i x hi hx => ?_⟩
  obtain ⟨c0, c1, c2, c3, c4, c5, a1, a2⟩ := h4 i x hi hx
  exact ⟨c0, c1, c2, c3, c4, c5, a1.block (hb.block _ h1), repA_stays (fun g hg => hb.block g hg.2) (fun g hg => ⟨hg.1, Nat.lt_of_lt_of_le hg.2 hb.size⟩) x _ a2⟩
theorem DoneL.put {wr : World} {G na j : Nat} {l : List V} (h : DoneL wr G na j l) (hj : j < na) {x : V} (hx : l[j]? = some x) {A : Nat → Prop} (hA : ∀ g, A g → G < g ∧ g < wr.heap.size) {c0 c1 c2 c3 c4 c5 : Value} (hr : RepA wr A x (.agg #[c0, c1, c2, c3, c4, c5])) :
    DoneL (wr.setCells G (j * 6) [c0, c1, c2, c3, c4, c5]) G na (j + 1) l := by
  obtain ⟨h1, C, h2, h3, h4⟩ := h
  have hrow := heap_setCells_put G 27 [c0, c1, c2, c3, c4, c5] (j * 6) wr C h2
  have hsz : j * 6 + [c0, c1, c2, c3, c4, c5].length ≤ C.size := by rw [h3]; simp only [List.length_cons, List.length_nil]; omega
  refine ⟨by rw [size_setCellsV']; exact h1, _, hrow, by rw [putAll_size]; exact h3, fun i y hi hy => ?_⟩
  by_cases hij : i < j
  · obtain ⟨d0, d1, d2, d3, d4, d5, a1, a2⟩ := h4 i y hij hy
    refine ⟨d0, d1, d2, d3, d4, d5, ?_, repA_stays (fun g hg => heap_setCells_neV G g (by omega) _ _ _) (fun g hg => by rw [size_setCellsV']; exact hg) y _ a2⟩
    obtain ⟨b0, b1, b2, b3, b4, b5⟩ := a1
    have e : ∀ r, r < 6 → (wr.setCells G (j * 6) [c0, c1, c2, c3, c4, c5]).cell? ⟨G, i * 6 + r, none⟩ = wr.cell? ⟨G, i * 6 + r, none⟩ := fun r hr => by
      rw [cell_of_row _ _ _ _ _ _ hrow, cell_of_row _ _ _ _ _ _ h2]
      exact putAll_other _ _ _ _ (by omega)
    exact ⟨(e 0 (by omega)).trans b0, (e 1 (by omega)).trans b1, (e 2 (by omega)).trans b2, (e 3 (by omega)).trans b3, (e 4 (by omega)).trans b4, (e 5 (by omega)).trans b5⟩
  · have hij' : i = j := by omega
    subst hij'
    rw [hx] at hy
    cases hy
    have e : ∀ (r : Nat) (v : Value), [c0, c1, c2, c3, c4, c5][r]? = some v → (wr.setCells G (i * 6) [c0, c1, c2, c3, c4, c5]).cell? ⟨G, i * 6 + r, none⟩ = some v := fun r v hv => by
      rw [cell_of_row _ _ _ _ _ _ hrow]
      exact putAll_at _ _ _ r v hsz hv
    refine ⟨c0, c1, c2, c3, c4, c5, ⟨e 0 _ rfl, e 1 _ rfl, e 2 _ rfl, e 3 _ rfl, e 4 _ rfl, e 5 _ rfl⟩, repA_stays (fun g hg => heap_setCells_neV G g (by have := hA g hg; omega) _ _ _) (fun g hg => by rw [size_setCellsV']; exact hA g hg) x _ hr⟩
theorem DoneL.slot {wr : World} {G na j : Nat} {l : List V} (h : DoneL wr G na j l) (hj : j < na) (r : Nat) (hr : r < 6) : ∃ v, wr.cell? ⟨G, j * 6 + r, none⟩ = some v := by
  obtain ⟨h1, C, h2, h3, h4⟩ := h
  rw [cell_of_row _ _ _ _ _ _ h2]
  exact ⟨C[j * 6 + r]'(by rw [h3]; omega), Array.getElem?_eq_getElem _⟩
set_option maxHeartbeats 4000000 in
set_option maxRecDepth 100000 in
theorem clones51 (l : List V) (hs : l.length ≤ 1759218604390) (ao : Option Addr) (ac : Nat) (w : World) (H : Nat) (hH : H ≤ w.heap.size) (hA : LiesL w H ao l)
    (E : ∀ x ∈ l, ∀ (W : World) (va : Value), H ≤ W.heap.size → Rep W H x va → Calls Tryz.prog 66 #[va] W fun e w' => ∃ v', e = .returned v' ∧ Below W.heap.size W w' ∧ RepA w' (fun g => W.heap.size ≤ g ∧ g < w'.heap.size) x v')
    (hp : 0 < l.length) :
    Calls Tryz.prog 89 #[.slice ao l.length ac, .func (.func 66) #[] #[]] w fun e w' => e = .returned (.slice (some ⟨w.heap.size, 0, none⟩) l.length l.length) ∧ Below w.heap.size w w' ∧ DoneL w' w.heap.size l.length l.length l := by
  have HE : Hid (∀ x ∈ l, ∀ (W : World) (va : Value), H ≤ W.heap.size → Rep W H x va → Calls Tryz.prog 66 #[va] W fun e w' => ∃ v', e = .returned v' ∧ Below W.heap.size W w' ∧ RepA w' (fun g => W.heap.size ≤ g ∧ g < w'.heap.size) x v') := E
  obtain ⟨na, hna⟩ : ∃ n, n = l.length := ⟨_, rfl⟩
  have HNA : Hid (na = l.length) := hna
  have HA : Hid (0 < l.length → ∃ g o, ao = some ⟨g, o, none⟩ ∧ g < H ∧ RepL w H g o l) := hA.2
  rw [← hna] at hs hp ⊢
  obtain ⟨M, hM, hmk⟩ := make23 na hs
  have hz : ((na : Int) == 0) = false := by simp; omega
  clear E hA hna
  go_enter Tryz.func89, Tryz.ntmps89
  go_wp2
  have HD0 : Hid (DoneL (w.alloc (.cells M 27)) w.heap.size na 0 l) := ⟨by simp, M, heap_alloc_new w _, hM, fun i x hi => by omega⟩
  have HB0 : Hid (Below w.heap.size w (w.alloc (.cells M 27))) := below_new _ _
  obtain ⟨w1, hw1⟩ : ∃ w1, w1 = w.alloc (.cells M 27) := ⟨_, rfl⟩
  rw [← hw1] at HD0 HB0 ⊢
  clear hw1 hmk hM
  go_loopw [16] (fun i wr => ∃ j : Nat, j ≤ na ∧ i = .int .i64 j ∧ Below w.heap.size w wr ∧ DoneL wr w.heap.size na j l) (fun i _ => na - (intOf i).toNat)
  case atStart => exact ⟨0, Nat.zero_le _, rfl, HB0.out, HD0.out⟩
  case round =>
    obtain ⟨j, hj, rfl, hb, hd⟩ := hrel
    have HBW : Hid (Below w.heap.size w wr) := hb
    have HD : Hid (DoneL wr w.heap.size na j l) := hd
    by_cases hlt : j < na
    · have ha : j < l.length := by rw [← HNA.out]; omega
      obtain ⟨g, o, rfl, hg, hr⟩ := HA.out (by omega)
      obtain ⟨x, hx⟩ : ∃ x, l[j]? = some x := ⟨_, List.getElem?_eq_getElem ha⟩
      obtain ⟨c0, c1, c2, c3, c4, c5, ⟨d0, d1, d2, d3, d4, d5⟩, hrx⟩ := repL_at l o (repL_stays (hb.mono hH) (Nat.le_refl _) hg l o hr) j x hx
      obtain ⟨xk, xb, xn, xs, xa, xl, xc, ya, yl, yc, rfl, rfl, rfl, rfl, rfl, rfl⟩ := rep_form hrx
      have C34 : Hid (∀ W, Below wr.heap.size wr W → Calls Tryz.prog 66 #[.agg #[.int .u8 (xk : Int), .bool xb, .int .i64 xn, .string xs, .slice xa xl xc, .slice ya yl yc]] W fun e w' => ∃ v', e = .returned v' ∧ Below W.heap.size W w' ∧ RepA w' (fun g => W.heap.size ≤ g ∧ g < w'.heap.size) x v') := fun W hW =>
        HE.out x (List.mem_of_getElem? hx) W _ (by have := hW.size; have := hb.size; omega) (rep_stays (hW.mono (by have := hb.size; omega)) (Nat.le_refl _) x _ hrx)
      have HX : Hid (l[j]? = some x) := hx
      clear hrx hr HA hx hb hd ha
      go_wp2_with fail
      refine (C34.out _ (below_new _ _)).mono ?_
      rintro e w3 ⟨v', rfl, hb3, hr3⟩
      obtain ⟨zk, zb, zn, zs, za, zl, zc, ta, tl, tc, rfl⟩ := repA_form hr3
      have HB3 : Hid (Below wr.heap.size wr w3) := (below_new _ _).trans (hb3.mono (below_new _ _).size)
      have HD3 : Hid (DoneL w3 w.heap.size na j l) := HD.out.call HB3.out
      have HN : Hid (DoneL (w3.setCells w.heap.size (j * 6) [.int .u8 (zk : Int), .bool zb, .int .i64 zn, .string zs, .slice za zl zc, .slice ta tl tc]) w.heap.size na (j + 1) l) :=
        HD3.out.put hlt HX.out (A := fun g => (wr.alloc _).heap.size ≤ g ∧ g < w3.heap.size) (fun g hg => ⟨by have h1 := hg.1; have h2 := HD.out.1; simp at h1; omega, hg.2⟩) hr3
      have HBN : Hid (Below w.heap.size w (w3.setCells w.heap.size (j * 6) [.int .u8 (zk : Int), .bool zb, .int .i64 zn, .string zs, .slice za zl zc, .slice ta tl tc])) := below_setCellsV (Nat.le_refl _) _ _ (HBW.out.trans (HB3.out.mono HBW.out.size))
      obtain ⟨f0, e0⟩ := HD3.out.slot hlt 0 (by omega)
      obtain ⟨f1, e1⟩ := HD3.out.slot hlt 1 (by omega)
      obtain ⟨f2, e2⟩ := HD3.out.slot hlt 2 (by omega)
      obtain ⟨f3, e3⟩ := HD3.out.slot hlt 3 (by omega)
      obtain ⟨f4, e4⟩ := HD3.out.slot hlt 4 (by omega)
      obtain ⟨f5, e5⟩ := HD3.out.slot hlt 5 (by omega)
      rw [Nat.add_zero] at e0
      have fz : ∀ r, w3.frozen? ⟨w.heap.size, r, none⟩ = false := by obtain ⟨_, C, h2, _⟩ := HD3.out; exact row_freeV h2
      have hlt3 : w.heap.size < w3.heap.size := HD3.out.1
      clear hb3 hr3 d0 d1 d2 d3 d4 d5
      go_wp2
      go_roundw
      case rel => exact ⟨j + 1, by omega, by go_num, HBN.out, HN.out⟩
      case measure => simp [intOf]; omega
    · have hj' : j = na := by omega
      subst hj'
      go_wp2
      exact ⟨rfl, _, results_tmp (by rfl) _ _ _, rfl, HBW.out, HD.out⟩
end Go.Proofs.YtkigenldiinioabGreatDoor
