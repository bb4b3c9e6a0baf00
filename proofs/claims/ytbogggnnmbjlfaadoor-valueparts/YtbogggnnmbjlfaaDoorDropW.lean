/- slices.DeleteFunc and Drop, walked. -/
import Derived.Test.YtbogggnnmbjlfaaDoorFind
import Derived.Test.YtbogggnnmbjlfaaDoorPutG
import Derived.Test.YtbogggnnmbjlfaaDoorPutsM
import Derived.Test.YtbogggnnmbjlfaaDoorStepW
namespace Go.Proofs.YtbogggnnmbjlfaaDoor
open Go.RowKit
open Vl (V)
set_option maxHeartbeats 4000000 in
set_option maxRecDepth 100000 in
theorem index57 (name : ByteArray) (P : Nat) (f : List (ByteArray × V)) (ao : Option Addr) (ac : Nat) (w : World) (H : Nat) (hH : H ≤ w.heap.size) (hA : LiesF w H ao f) (hP : P < w.heap.size) (hp : w.cell? ⟨P, 0, none⟩ = some (.string name)) :
    Calls Tryd.prog 66 #[.slice ao f.length ac, .func (.func 63) #[] #[.pointer (some ⟨P, 0, none⟩)]] w fun e w' => e = .returned (.int .i64 (if Vl.place (fun m => decide (m = name)) f < f.length then ((Vl.place (fun m => decide (m = name)) f : Nat) : Int) else -1)) ∧ Below w.heap.size w w' := by
  obtain ⟨na, hna⟩ : ∃ n, n = f.length := ⟨_, rfl⟩
  have h1 := maxLen_lt hA.1
  have HNA : Hid (na = f.length) := hna
  have HA : Hid (0 < f.length → ∃ g o, ao = some ⟨g, o, none⟩ ∧ g < H ∧ RepF w H g o f) := hA.2
  have HP : Hid (P < w.heap.size ∧ w.cell? ⟨P, 0, none⟩ = some (.string name)) := ⟨hP, hp⟩
  obtain ⟨r, hr⟩ : ∃ r : Int, r = if Vl.place (fun m => decide (m = name)) f < f.length then ((Vl.place (fun m => decide (m = name)) f : Nat) : Int) else -1 := ⟨_, rfl⟩
  have HR : Hid (r = if Vl.place (fun m => decide (m = name)) f < f.length then ((Vl.place (fun m => decide (m = name)) f : Nat) : Int) else -1) := hr
  rw [← hr]
  rw [← hna] at h1 ⊢
  clear hA hna hP hp hr
  go_enter Tryd.func66, Tryd.ntmps66
  go_wp2
  go_loopw [8] (fun i wr => ∃ j : Nat, j ≤ na ∧ i = .int .i64 j ∧ Below w.heap.size w wr ∧ ∀ (i : Nat) (m : ByteArray) (x : V), i < j → f[i]? = some (m, x) → (decide (m = name)) = false) (fun i _ => na - (intOf i).toNat)
  case atStart => exact ⟨0, Nat.zero_le _, rfl, Below.refl _ _, fun i m x h => by omega⟩
  case round =>
    obtain ⟨j, hj, rfl, hb, hz⟩ := hrel
    have HZ : Hid (∀ (i : Nat) (m : ByteArray) (x : V), i < j → f[i]? = some (m, x) → (decide (m = name)) = false) := hz
    have HBW : Hid (Below w.heap.size w wr) := hb
    by_cases hlt : j < na
    · have ha : j < f.length := by rw [← HNA.out]; omega
      obtain ⟨g, o, rfl, hg, hr⟩ := HA.out (by omega)
      obtain ⟨⟨m, x⟩, hx⟩ : ∃ x, f[j]? = some x := ⟨_, List.getElem?_eq_getElem ha⟩
      obtain ⟨dm, _, c0, c1, c2, c3, c4, c5, ⟨d0, d1, d2, d3, d4, d5⟩, hrx⟩ := repF_at f o (repF_stays (hb.mono hH) (Nat.le_refl _) hg f o hr) j m x hx
      rw [show o + j * 7 + 1 + 1 = o + j * 7 + 2 by omega] at d1
      rw [show o + j * 7 + 1 + 2 = o + j * 7 + 3 by omega] at d2
      rw [show o + j * 7 + 1 + 3 = o + j * 7 + 4 by omega] at d3
      rw [show o + j * 7 + 1 + 4 = o + j * 7 + 5 by omega] at d4
      rw [show o + j * 7 + 1 + 5 = o + j * 7 + 6 by omega] at d5
      obtain ⟨c, hc⟩ : ∃ c, c = (decide (m = name)) := ⟨_, rfl⟩
      have HC : Hid (c = (decide (m = name))) := hc
      have hform := rep_form hrx
      obtain ⟨xk, xb, xn, xs, xa, xl, xc, ya, yl, yc, rfl, rfl, rfl, rfl, rfl, rfl⟩ := hform
      have CP : Hid (∀ W, Below w.heap.size w W → Calls Tryd.prog 63 #[.agg #[.string m, .int .u8 (xk : Int), .bool xb, .int .i64 xn, .string xs, .slice xa xl xc, .slice ya yl yc], .pointer (some ⟨P, 0, none⟩)] W fun e w' => e = .returned (.bool c) ∧ Below W.heap.size W w') := fun W hW => by
        rw [hc]
        exact is53 m name _ _ _ _ _ _ ⟨xk, xb, xn, xs, xa, xl, xc, ya, yl, yc, rfl, rfl, rfl, rfl, rfl, rfl⟩ W P ((hW.cell (p := ⟨P, 0, none⟩) HP.out.1).trans HP.out.2) (Nat.lt_of_lt_of_le HP.out.1 hW.size)
      have HX : Hid (f[j]? = some (m, x)) := hx
      clear hrx hr HA hx hc hb hz ha
      go_wp2_with fail
      refine (CP.out _ HBW.out).mono ?_
      rintro e w3 ⟨rfl, hb3⟩
      have HB3 : Hid (Below w.heap.size w w3) := HBW.out.trans (hb3.mono HBW.out.size)
      clear hb3 dm d0 d1 d2 d3 d4 d5
      cases c
      · go_wp2
        go_roundw
        case rel =>
          refine ⟨j + 1, by omega, by go_num, HB3.out, fun i m' x' hi hx' => ?_⟩
          by_cases hij : i < j
          · exact HZ.out i m' x' hij hx'
          · have hij' : i = j := by omega
            subst hij'
            have h1 := HX.out
            rw [hx'] at h1
            cases h1
            exact HC.out.symm
        case measure => simp [intOf]; omega
      · go_wp2
        exact ⟨rfl, _, results_tmp (by rfl) _ _ _, by rw [HR.out, Vl.place_at _ f j m x HZ.out HX.out HC.out.symm, if_pos (by rw [← HNA.out]; exact hlt)]; rfl, HB3.out⟩
    · have hall : Vl.place (fun m => decide (m = name)) f = na := by
        rw [HNA.out]
        exact Vl.place_none _ f fun i m x hx => HZ.out i m x (by have h1 := (List.getElem?_eq_some_iff.1 hx).1; have h2 := HNA.out; omega) hx
      have HALL : Hid (Vl.place (fun m => decide (m = name)) f = na) := hall
      clear hall
      go_wp2
      exact ⟨rfl, _, results_tmp (by rfl) _ _ _, by rw [HR.out, HALL.out, if_neg (by rw [HNA.out]; omega)]; rfl, HBW.out⟩
end Go.Proofs.YtbogggnnmbjlfaaDoor
/- clear of elements of several cells; a field in a row, what a store elsewhere leaves of it. -/
namespace Go.Proofs.YtbogggnnmbjlfaaDoor
open Go.RowKit
open Vl (V)
theorem run_clear_wide {P : Program} (w : World) (t e ty : TypeId) (z : Value) (ht : P.underlying t = some (.slice e)) (hv : ∀ w, (zeroValue e).run P w = .ok z w) (b o n c : Nat) (hn : 0 < n)
    (hc : ∀ j, j < n * z.cells.size → (w.cell? ⟨b, o + j, none⟩).isSome = true) (hf : ∀ j, j < n * z.cells.size → w.frozen? ⟨b, o + j, none⟩ = false) (h1 : ∀ v ∈ (Builtin.zeroCells z.cells n).toList, v.oneCell' = true) :
    (Builtin.clear_ #[t] ty #[.slice (some ⟨b, o, none⟩) n c]).run P w = .ok (.tuple #[]) (w.setCells b o (Builtin.zeroCells z.cells n).toList) := by
  have hl : (Builtin.zeroCells z.cells n).toList.length = n * z.cells.size := by rw [Array.length_toList, size_zeroCells']
  have hst := run_storeCells_cells (P := P) b o (Builtin.zeroCells z.cells n).toList 0 w (by rw [hl]; simpa using hc) (by rw [hl]; simpa using hf) h1
  obtain ⟨k, rfl⟩ : ∃ k, n = k + 1 := ⟨n - 1, by omega⟩
  simp [Builtin.clear_, run_underlying ht, hv, hst]
/-- a field at a place of a row -/
def Fld (W : World) (F G q : Nat) (m : ByteArray) (x : V) : Prop := W.cell? ⟨F, q * 7, none⟩ = some (.string m) ∧ ∃ c0 c1 c2 c3 c4 c5, Six W F (q * 7 + 1) c0 c1 c2 c3 c4 c5 ∧ RepA W (fun g => F < g ∧ g < G) x (.agg #[c0, c1, c2, c3, c4, c5])
theorem Fld.same {W W' : World} {F G q : Nat} {m : ByteArray} {x : V} (h : Fld W F G q m x) (hc : ∀ r, r < 7 → W'.cell? ⟨F, q * 7 + r, none⟩ = W.cell? ⟨F, q * 7 + r, none⟩) (hb : ∀ g, F < g → g < G → W'.heap[g]? = W.heap[g]?) : Fld W' F G q m x := by
  obtain ⟨a0, c0, c1, c2, c3, c4, c5, ⟨d0, d1, d2, d3, d4, d5⟩, a2⟩ := h
  exact ⟨(hc 0 (by omega)).trans a0, c0, c1, c2, c3, c4, c5, ⟨(hc 1 (by omega)).trans d0, (hc 2 (by omega)).trans d1, (hc 3 (by omega)).trans d2, (hc 4 (by omega)).trans d3, (hc 5 (by omega)).trans d4, (hc 6 (by omega)).trans d5⟩, repA_stays (fun g hg => hb g hg.1 hg.2) (fun _ hg => hg) x _ a2⟩
/-- cells stored from a place on: what lies elsewhere in the row stays -/
theorem Fld.out {W : World} {F G q p : Nat} {C : Array Value} {vs : List Value} {m : ByteArray} {x : V} (h : Fld W F G q m x) (hC : W.heap[F]? = some (.cells C 39 (0, 0))) (hq : q * 7 + 7 ≤ p ∨ p + vs.length ≤ q * 7) : Fld (W.setCells F p vs) F G q m x := by
  have hrow := heap_setCells_put F 39 vs p W C hC
  refine h.same (fun r hr => ?_) (fun g hg _ => heap_setCells_ne F g (by omega) _ _ _)
  rw [cell_of_row _ _ _ _ _ _ hrow, cell_of_row _ _ _ _ _ _ hC]
  exact putAll_other _ _ _ _ (by omega)
/-- a field stored at a place -/
theorem Fld.put {W : World} {F G p : Nat} {C : Array Value} {m : ByteArray} {x : V} {c0 c1 c2 c3 c4 c5 : Value} (hC : W.heap[F]? = some (.cells C 39 (0, 0))) (hp : p * 7 + 7 ≤ C.size) (hr : RepA W (fun g => F < g ∧ g < G) x (.agg #[c0, c1, c2, c3, c4, c5])) : Fld (W.setCells F (p * 7) [.string m, c0, c1, c2, c3, c4, c5]) F G p m x := by
  have hrow := heap_setCells_put F 39 [.string m, c0, c1, c2, c3, c4, c5] (p * 7) W C hC
  have e : ∀ (r : Nat) (v : Value), [.string m, c0, c1, c2, c3, c4, c5][r]? = some v → (W.setCells F (p * 7) [.string m, c0, c1, c2, c3, c4, c5]).cell? ⟨F, p * 7 + r, none⟩ = some v := fun r v hv => by
    rw [cell_of_row _ _ _ _ _ _ hrow]
    exact putAll_at _ _ _ r v (by simp only [List.length_cons, List.length_nil]; omega) hv
  exact ⟨e 0 _ rfl, c0, c1, c2, c3, c4, c5, ⟨e 1 _ rfl, e 2 _ rfl, e 3 _ rfl, e 4 _ rfl, e 5 _ rfl, e 6 _ rfl⟩, repA_stays (fun g hg => heap_setCells_ne F g (by omega) _ _ _) (fun _ hg => hg) x _ hr⟩
end Go.Proofs.YtbogggnnmbjlfaaDoor
/- For slices.DeleteFunc: what stays when one row turns; those that stay of the first fields. -/
namespace Go.Proofs.YtbogggnnmbjlfaaDoor
open Go.RowKit
open Vl (V)
/-- nothing turned but one row; new blocks came -/
structure KP (w w' : World) (F : Nat) : Prop where
  below : Below F w w'
  size : w.heap.size ≤ w'.heap.size
  same : ∀ g, g ≠ F → g < w.heap.size → w'.heap[g]? = w.heap[g]?
theorem KP.call {w W W' : World} {F : Nat} (h : KP w W F) (hF : F < w.heap.size) (hb : Below W.heap.size W W') : KP w W' F :=
  ⟨h.below.trans (hb.mono (by have := h.size; omega)), Nat.le_trans h.size hb.size, fun g hg hl => (hb.block g (by have := h.size; omega)).trans (h.same g hg hl)⟩
theorem KP.set {w W : World} {F : Nat} (h : KP w W F) (o : Nat) (vs : List Value) : KP w (W.setCells F o vs) F :=
  ⟨below_setCells (Nat.le_refl _) _ _ h.below, by rw [size_setCells']; exact h.size, fun g hg hl => (heap_setCells_ne F g hg _ _ _).trans (h.same g hg hl)⟩
theorem KP.refl (w : World) (F : Nat) : KP w w F := ⟨Below.refl _ _, Nat.le_refl _, fun _ _ _ => rfl⟩
namespace Vl
theorem drop_take (name : ByteArray) (f : List (ByteArray × V)) (j : Nat) (m : ByteArray) (x : V) (h : f[j]? = some (m, x)) : dropF (f.take (j + 1)) name = dropF (f.take j) name ++ (if m = name then [] else [(m, x)]) := by
  rw [List.take_add_one, h, dropF, dropF, List.filter_append]
  congr 1
  by_cases hm : m = name
  · rw [if_pos hm]; simp [hm]
  · rw [if_neg hm]; simp [hm]
theorem drop_low (name : ByteArray) (f : List (ByteArray × V)) : dropF (f.take (place (fun m => decide (m = name)) f)) name = f.take (place (fun m => decide (m = name)) f) := by
  rw [dropF, List.filter_eq_self]
  intro a ha
  obtain ⟨i, hi⟩ := List.getElem?_of_mem ha
  have h1 : i < place (fun m => decide (m = name)) f := by have := (List.getElem?_eq_some_iff.1 hi).1; rw [List.length_take] at this; omega
  rw [List.getElem?_take_of_lt h1] at hi
  have h2 : i < f.length := (List.getElem?_eq_some_iff.1 hi).1
  have h3 := List.not_of_lt_findIdx (p := fun b : ByteArray × V => decide (b.1 = name)) (xs := f) h1
  rw [List.getElem?_eq_getElem h2] at hi
  have h4 := Option.some.inj hi
  rw [h4] at h3
  simpa using h3
end Vl
end Go.Proofs.YtbogggnnmbjlfaaDoor
/- How far slices.DeleteFunc has come at fields and a name: those that stay of the first ones, and those that are still to come. -/
namespace Go.Proofs.YtbogggnnmbjlfaaDoor
open Go.RowKit
open Vl (V)
/-- a of the first b fields stay -/
structure DL (w W : World) (F G : Nat) (f : List (ByteArray × V)) (name : ByteArray) (a b : Nat) : Prop where
  keep : KP w W F
  row : ∃ C, W.heap[F]? = some (.cells C 39 (0, 0)) ∧ C.size = f.length * 7
  many : a = (Vl.dropF (f.take b) name).length
  low : ∀ (q : Nat) (m : ByteArray) (x : V), (Vl.dropF (f.take b) name)[q]? = some (m, x) → Fld W F G q m x
  high : ∀ (q : Nat) (m : ByteArray) (x : V), b ≤ q → f[q]? = some (m, x) → Fld W F G q m x
section
variable {w W W' : World} {F G : Nat} {f : List (ByteArray × V)} {name : ByteArray} {a b : Nat}
theorem DL.call (h : DL w W F G f name a b) (hF : F < w.heap.size) (hG : G ≤ w.heap.size) (hb : Below W.heap.size W W') : DL w W' F G f name a b := by
  have hs := h.keep.size
  have e : ∀ g, g < w.heap.size → W'.heap[g]? = W.heap[g]? := fun g hg => hb.block g (by omega)
  have k : ∀ q m x, Fld W F G q m x → Fld W' F G q m x := fun q m x hx => hx.same (fun r _ => cell_block (e F hF)) (fun g _ hg => e g (by omega))
  obtain ⟨C, h1, h2⟩ := h.row
  exact ⟨h.keep.call hF hb, ⟨C, (e F hF).trans h1, h2⟩, h.many, fun q m x hx => k q m x (h.low q m x hx), fun q m x hq hx => k q m x (h.high q m x hq hx)⟩
theorem DL.skip (h : DL w W F G f name a b) {m : ByteArray} {x : V} (hx : f[b]? = some (m, x)) (hm : m = name) : DL w W F G f name a (b + 1) := by
  have e : Vl.dropF (f.take (b + 1)) name = Vl.dropF (f.take b) name := by rw [Vl.drop_take name f b m x hx, if_pos hm, List.append_nil]
  exact ⟨h.keep, h.row, by rw [e]; exact h.many, by rw [e]; exact h.low, fun q m x hq hx => h.high q m x (by omega) hx⟩
theorem DL.put (h : DL w W F G f name a b) (hab : a < b) {m : ByteArray} {x : V} (hx : f[b]? = some (m, x)) (hm : ¬ m = name) {c0 c1 c2 c3 c4 c5 : Value} (hr : RepA W (fun g => F < g ∧ g < G) x (.agg #[c0, c1, c2, c3, c4, c5])) :
    DL w (W.setCells F (a * 7) [.string m, c0, c1, c2, c3, c4, c5]) F G f name (a + 1) (b + 1) := by
  have e : Vl.dropF (f.take (b + 1)) name = Vl.dropF (f.take b) name ++ [(m, x)] := by rw [Vl.drop_take name f b m x hx, if_neg hm]
  have hbl : b < f.length := (List.getElem?_eq_some_iff.1 hx).1
  obtain ⟨C, h1, h2⟩ := h.row
  have hrow := heap_setCells_put F 39 [.string m, c0, c1, c2, c3, c4, c5] (a * 7) W C h1
  refine ⟨h.keep.set _ _, ⟨_, hrow, by rw [putAll_size]; exact h2⟩, by rw [e, List.length_append, ← h.many]; rfl, fun q m' x' hq => ?_, fun q m' x' hq hx' => ?_⟩
  · rw [e] at hq
    by_cases hqa : q < a
    · rw [List.getElem?_append_left (by rw [← h.many]; exact hqa)] at hq
      exact (h.low q m' x' hq).out h1 (Or.inl (by omega))
    · rw [List.getElem?_append_right (by rw [← h.many]; omega), ← h.many] at hq
      have hq0 : q - a = 0 := by
        have := (List.getElem?_eq_some_iff.1 hq).1
        simp at this
        exact this
      rw [hq0] at hq
      simp only [List.getElem?_cons_zero, Option.some.injEq, Prod.mk.injEq] at hq
      obtain ⟨rfl, rfl⟩ := hq
      have hqe : q = a := by omega
      subst hqe
      exact Fld.put h1 (by rw [h2]; omega) hr
  · exact (h.high q m' x' (by omega) hx').out h1 (Or.inr (by simp only [List.length_cons, List.length_nil]; omega))
/-- the room behind those that stay is cleared -/
theorem DL.clear (h : DL w W F G f name a b) (vs : List Value) : KP w (W.setCells F (a * 7) vs) F ∧ (∃ C, (W.setCells F (a * 7) vs).heap[F]? = some (.cells C 39 (0, 0)) ∧ C.size = f.length * 7) ∧ ∀ (q : Nat) (m : ByteArray) (x : V), (Vl.dropF (f.take b) name)[q]? = some (m, x) → Fld (W.setCells F (a * 7) vs) F G q m x := by
  obtain ⟨C, h1, h2⟩ := h.row
  refine ⟨h.keep.set _ _, ⟨_, heap_setCells_put F 39 vs (a * 7) W C h1, by rw [putAll_size]; exact h2⟩, fun q m x hx => (h.low q m x hx).out h1 (Or.inl ?_)⟩
  have := (List.getElem?_eq_some_iff.1 hx).1
  rw [← h.many] at this
  omega
theorem DL.start {C : Array Value} (hC : w.heap[F]? = some (.cells C 39 (0, 0))) (hs : C.size = f.length * 7) (hf : ∀ (q : Nat) (m : ByteArray) (x : V), f[q]? = some (m, x) → Fld w F G q m x) (hp : Vl.place (fun m => decide (m = name)) f < f.length) :
    DL w w F G f name (Vl.place (fun m => decide (m = name)) f) (Vl.place (fun m => decide (m = name)) f + 1) := by
  obtain ⟨y, hy⟩ := place_name name f hp
  have e : Vl.dropF (f.take (Vl.place (fun m => decide (m = name)) f + 1)) name = f.take (Vl.place (fun m => decide (m = name)) f) := by rw [Vl.drop_take name f _ name y hy, if_pos rfl, List.append_nil, Vl.drop_low]
  refine ⟨KP.refl _ _, ⟨C, hC, hs⟩, by rw [e, List.length_take]; omega, fun q m x hq => ?_, fun q m x _ hx => hf q m x hx⟩
  rw [e] at hq
  have hq' := (List.getElem?_eq_some_iff.1 hq).1
  rw [List.length_take] at hq'
  rw [List.getElem?_take_of_lt (by omega)] at hq
  exact hf q m x hq
/-- the cells of the field that comes next, and where the row's other cells may be stored -/
theorem DL.next (h : DL w W F G f name a b) {m : ByteArray} {x : V} (hx : f[b]? = some (m, x)) : Fld W F G b m x := h.high b m x (Nat.le_refl _) hx
theorem DL.cells (h : DL w W F G f name a b) : (∀ r, W.frozen? ⟨F, r, none⟩ = false) ∧ ∀ q, q < f.length * 7 → ∃ v, W.cell? ⟨F, q, none⟩ = some v := by
  obtain ⟨C, h1, h2⟩ := h.row
  refine ⟨row_free h1, fun q hq => ?_⟩
  rw [cell_of_row _ _ _ _ _ _ h1]
  exact ⟨C[q]'(by rw [h2]; exact hq), Array.getElem?_eq_getElem _⟩
end
end Go.Proofs.YtbogggnnmbjlfaaDoor
/- slices.DeleteFunc at fields and a name, walked: the fields of that name are gone, the others stay in their order. -/
namespace Go.Proofs.YtbogggnnmbjlfaaDoor
open Go.RowKit
open Vl (V)
set_option maxHeartbeats 4000000 in
set_option maxRecDepth 100000 in
theorem delete41 (name : ByteArray) (P : Nat) (f : List (ByteArray × V)) (F G : Nat) (w : World) (hFG : F < G) (hG : G ≤ w.heap.size) (hD : DF w F G f) (hl : f.length ≤ maxLen) (hm : ∀ a ∈ f, a.1.size ≤ maxLen) (hP : P < w.heap.size) (hPF : P ≠ F) (hp : w.cell? ⟨P, 0, none⟩ = some (.string name)) (hin : Vl.place (fun m => decide (m = name)) f < f.length) :
    Calls Tryd.prog 38 #[.slice (some ⟨F, 0, none⟩) f.length f.length, .func (.func 63) #[] #[.pointer (some ⟨P, 0, none⟩)]] w fun e w' => e = .returned (.slice (some ⟨F, 0, none⟩) (Vl.dropF f name).length f.length) ∧ KP w w' F ∧ (∃ C, w'.heap[F]? = some (.cells C 39 (0, 0)) ∧ C.size = f.length * 7) ∧ ∀ (q : Nat) (m : ByteArray) (x : V), (Vl.dropF f name)[q]? = some (m, x) → Fld w' F G q m x := by
  have hF : F < w.heap.size := hD.1
  have C57 : Hid (∀ W, Below w.heap.size w W → Calls Tryd.prog 66 #[.slice (some ⟨F, 0, none⟩) f.length f.length, .func (.func 63) #[] #[.pointer (some ⟨P, 0, none⟩)]] W fun e w' => e = .returned (.int .i64 (Vl.place (fun m => decide (m = name)) f : Nat)) ∧ Below W.heap.size W w') := fun W hW => by
    have h1 := index57 name P f (some ⟨F, 0, none⟩) f.length W G (by have := hW.size; omega) (LF.lies (M := F) (G := G) (fc := f.length) (Or.inr ⟨by omega, F, rfl, rfl, Nat.le_refl _, hFG, hD.agree hFG (fun g _ hg => hW.block g (by omega)) hW.size⟩) hl hm) (Nat.lt_of_lt_of_le hP hW.size) ((hW.cell (p := ⟨P, 0, none⟩) hP).trans hp)
    rw [if_pos hin] at h1
    exact h1
  have S0 : Hid (DL w w F G f name (Vl.place (fun m => decide (m = name)) f) (Vl.place (fun m => decide (m = name)) f + 1)) := by
    obtain ⟨_, C, h2, h3, h4⟩ := hD
    exact DL.start h2 h3 (fun q m x hx => h4 q m x hx) hin
  obtain ⟨na, hna⟩ : ∃ n, n = f.length := ⟨_, rfl⟩
  obtain ⟨p, hpp⟩ : ∃ p, p = Vl.place (fun m => decide (m = name)) f := ⟨_, rfl⟩
  have HNA : Hid (na = f.length) := hna
  have HF : Hid (F < w.heap.size ∧ G ≤ w.heap.size) := ⟨hF, hG⟩
  have HP : Hid (P < w.heap.size ∧ P ≠ F ∧ w.cell? ⟨P, 0, none⟩ = some (.string name)) := ⟨hP, hPF, hp⟩
  obtain ⟨kk, hkk⟩ : ∃ k, k = (Vl.dropF f name).length := ⟨_, rfl⟩
  have HKK : Hid (kk = (Vl.dropF f name).length) := hkk
  have hmax := maxLen_lt hl
  rw [← hna] at C57 hmax ⊢
  rw [← hpp] at C57 S0
  rw [← hkk]
  have hpn : p < na := by rw [hpp, hna]; exact hin
  clear hD hl hm hP hPF hp hin hF hG hFG hna hpp hkk
  have hw1 : IntKind.i64.wrap ((p : Int) + 1) = ((p + 1 : Nat) : Int) := by rw [IntKind.wrap_i64]; omega
  go_enter Tryd.func38, Tryd.ntmps38
  go_wp2_with fail
  refine (C57.out _ (Below.refl _ _)).mono ?_
  rintro e w1 ⟨rfl, hb1⟩
  have S1 : Hid (DL w w1 F G f name p (p + 1)) := S0.out.call HF.out.1 HF.out.2 hb1
  clear hb1 C57 S0
  have hne : ¬ ((p : Int) = -1) := by omega
  go_wp2
  clear hw1
  go_loopw [5, 6] (fun i j wr => ∃ a b : Nat, i = .int .i64 a ∧ j = .int .i64 b ∧ a < b ∧ b ≤ na ∧ DL w wr F G f name a b) (fun _ j _ => na - (intOf j).toNat)
  case atStart => exact ⟨p, p + 1, rfl, by go_num, by omega, by omega, S1.out⟩
  case round =>
    obtain ⟨a, b, rfl, rfl, hab, hbn, hS⟩ := hrel
    have S : Hid (DL w wr F G f name a b) := hS
    clear hS S1
    by_cases hlt : b < na
    · have hbl : b < f.length := by rw [← HNA.out]; exact hlt
      obtain ⟨⟨m, x⟩, hx⟩ : ∃ y, f[b]? = some y := ⟨_, List.getElem?_eq_getElem hbl⟩
      obtain ⟨d, c0, c1, c2, c3, c4, c5, ⟨d0, d1, d2, d3, d4, d5⟩, hrx⟩ := S.out.next hx
      rw [show b * 7 + 1 + 1 = b * 7 + 2 by omega] at d1
      rw [show b * 7 + 1 + 2 = b * 7 + 3 by omega] at d2
      rw [show b * 7 + 1 + 3 = b * 7 + 4 by omega] at d3
      rw [show b * 7 + 1 + 4 = b * 7 + 5 by omega] at d4
      rw [show b * 7 + 1 + 5 = b * 7 + 6 by omega] at d5
      obtain ⟨xk, xb, xn, xs, xa, xl, xc, ya, yl, yc, hf⟩ := repA_form hrx
      simp only [Value.agg.injEq, Array.mk.injEq, List.cons.injEq, and_true] at hf
      obtain ⟨rfl, rfl, rfl, rfl, rfl, rfl⟩ := hf
      have HX : Hid (f[b]? = some (m, x)) := hx
      have HRX : Hid (RepA wr (fun g => F < g ∧ g < G) x (.agg #[.int .u8 (xk : Int), .bool xb, .int .i64 xn, .string xs, .slice xa xl xc, .slice ya yl yc])) := hrx
      have HFW : Hid (F < wr.heap.size) := by have h1 := HF.out.1; have h2 := S.out.keep.size; show _ < _; omega
      clear hx hrx hbl
      go_upto_region 8 with fail
      obtain ⟨w2, hw2⟩ : ∃ w2, w2 = wr.alloc (.cells #[.string m, .int .u8 (xk : Int), .bool xb, .int .i64 xn, .string xs, .slice xa xl xc, .slice ya yl yc] 39) := ⟨_, rfl⟩
      obtain ⟨B, hB⟩ : ∃ B, B = wr.heap.size := ⟨_, rfl⟩
      have HR : Hid (Row7 w2 B (.string m) (.int .u8 (xk : Int)) (.bool xb) (.int .i64 xn) (.string xs) (.slice xa xl xc) (.slice ya yl yc)) := by
        show Row7 _ _ _ _ _ _ _ _ _
        rw [hw2, hB]; exact ⟨by simp, heap_alloc_new wr _⟩
      have S2 : Hid (DL w w2 F G f name a b) := S.out.call HF.out.1 HF.out.2 (by rw [hw2]; exact below_new _ _)
      have HX2 : Hid (RepA w2 (fun g => F < g ∧ g < G) x (.agg #[.int .u8 (xk : Int), .bool xb, .int .i64 xn, .string xs, .slice xa xl xc, .slice ya yl yc])) := by
        refine repA_stays (fun g hg => ?_) (fun _ hg => hg) x _ HRX.out
        rw [hw2]; exact Below.heap_alloc _ _ _ (by have h1 := HF.out.2; have h2 := S.out.keep.size; omega)
      have HFB : Hid (F < B) := by rw [hB]; exact HFW.out
      rw [← hw2, ← hB]
      clear hw2 hB d d0 d1 d2 d3 d4 d5 S HRX HFW
      obtain ⟨r0, r1, r2, r3, r4, r5, r6⟩ := HR.out.cells
      obtain ⟨c, hc⟩ : ∃ c, c = (decide (m = name)) := ⟨_, rfl⟩
      have HC : Hid (c = (decide (m = name))) := hc
      have CP : Hid (Calls Tryd.prog 63 #[.agg #[.string m, .int .u8 (xk : Int), .bool xb, .int .i64 xn, .string xs, .slice xa xl xc, .slice ya yl yc], .pointer (some ⟨P, 0, none⟩)] w2 fun e w' => e = .returned (.bool c) ∧ Below w2.heap.size w2 w') := by
        rw [hc]
        refine is53 m name _ _ _ _ _ _ ⟨xk, xb, xn, xs, xa, xl, xc, ya, yl, yc, rfl, rfl, rfl, rfl, rfl, rfl⟩ w2 P ?_ ?_
        · exact (cell_block (S2.out.keep.same P HP.out.2.1 HP.out.1)).trans HP.out.2.2
        · exact Nat.lt_of_lt_of_le HP.out.1 S2.out.keep.size
      clear hc
      go_wp2_with fail
      refine CP.out.mono ?_
      rintro e w3 ⟨rfl, hb3⟩
      have S3 : Hid (DL w w3 F G f name a b) := S2.out.call HF.out.1 HF.out.2 hb3
      have HR3 : Hid (Row7 w3 B (.string m) (.int .u8 (xk : Int)) (.bool xb) (.int .i64 xn) (.string xs) (.slice xa xl xc) (.slice ya yl yc)) := HR.out.call hb3
      have HX3 : Hid (RepA w3 (fun g => F < g ∧ g < G) x (.agg #[.int .u8 (xk : Int), .bool xb, .int .i64 xn, .string xs, .slice xa xl xc, .slice ya yl yc])) := repA_stays (fun g hg => hb3.block g (by have h1 := HF.out.2; have h2 := S2.out.keep.size; omega)) (fun _ hg => hg) x _ HX2.out
      clear hb3 CP S2 HR HX2 r0 r1 r2 r3 r4 r5 r6
      cases c
      · have hne2 : ¬ m = name := of_decide_eq_false HC.out.symm
        have HNE : Hid (¬ m = name) := hne2
        obtain ⟨r0, r1, r2, r3, r4, r5, r6⟩ := HR3.out.cells
        have hlB := HR3.out.1
        obtain ⟨fz, cz⟩ := S3.out.cells
        have hal : a < na := by omega
        obtain ⟨q0, e0⟩ := cz (a * 7) (by rw [← HNA.out]; omega)
        obtain ⟨q1, e1⟩ := cz (a * 7 + 1) (by rw [← HNA.out]; omega)
        obtain ⟨q2, e2⟩ := cz (a * 7 + 2) (by rw [← HNA.out]; omega)
        obtain ⟨q3, e3⟩ := cz (a * 7 + 3) (by rw [← HNA.out]; omega)
        obtain ⟨q4, e4⟩ := cz (a * 7 + 4) (by rw [← HNA.out]; omega)
        obtain ⟨q5, e5⟩ := cz (a * 7 + 5) (by rw [← HNA.out]; omega)
        obtain ⟨q6, e6⟩ := cz (a * 7 + 6) (by rw [← HNA.out]; omega)
        clear cz hne2
        have S4 : Hid (DL w (w3.setCells F (a * 7) [.string m, .int .u8 (xk : Int), .bool xb, .int .i64 xn, .string xs, .slice xa xl xc, .slice ya yl yc]) F G f name (a + 1) (b + 1)) := S3.out.put hab HX.out HNE.out HX3.out
        go_wp2
        go_roundw
        case rel =>
          first | exact ⟨a + 1, b + 1, by go_num, by go_num, by omega, by omega, S4.out⟩ | ((repeat apply Exists.intro); exact ⟨⟨a + 1, b + 1, by go_num, by go_num, by omega, by omega, S4.out⟩, rfl⟩)
        case measure => simp [intOf]; omega
      · have hm : m = name := of_decide_eq_true HC.out.symm
        have S4 : Hid (DL w w3 F G f name a (b + 1)) := S3.out.skip HX.out hm
        clear hm
        go_wp2
        go_roundw
        case rel =>
          first | exact ⟨a, b + 1, rfl, by go_num, by omega, by omega, S4.out⟩ | ((repeat apply Exists.intro); exact ⟨⟨a, b + 1, rfl, by go_num, by omega, by omega, S4.out⟩, rfl⟩)
        case measure => simp [intOf]; omega
    · have hbe : b = na := by omega
      subst hbe
      have hal : a < b := hab
      have hkk : a = kk := by rw [HKK.out, S.out.many, HNA.out, List.take_length]
      subst hkk
      obtain ⟨i0, hi0, hz0, hz1, hz2⟩ := info_parts info44'
      obtain ⟨z, hz⟩ : ∃ z : Value, z = .agg #[.string ⟨#[]⟩, .int .u8 0, .bool false, .int .i64 0, .string ⟨#[]⟩, .slice none 0 0, .slice none 0 0] := ⟨_, rfl⟩
      have hzc : z.cells.size = 7 := by rw [hz]; rfl
      obtain ⟨vs, hvs⟩ : ∃ vs, vs = (Builtin.zeroCells z.cells (b - a)).toList := ⟨_, rfl⟩
      have hcl : ∀ ty, (Builtin.clear_ #[24] ty #[.slice (some ⟨F, a * 7, none⟩) (b - a) (b - a)]).run Tryd.prog wr = .ok (.tuple #[]) (wr.setCells F (a * 7) vs) := fun ty => by
        rw [hvs]
        obtain ⟨fz, cz⟩ := S.out.cells
        refine run_clear_wide wr 24 39 ty z Tryd.underlying24 (fun W => ?_) F (a * 7) (b - a) (b - a) (by omega) (fun j hj => ?_) (fun j hj => fz _) (fun v hv => ?_)
        · rw [hz]; simp [zeroValue, typeInfo, hi0, hz0]
        · rw [hzc] at hj
          obtain ⟨v, hv⟩ := cz (a * 7 + j) (by rw [← HNA.out]; omega)
          rw [hv]; rfl
        · rw [Array.mem_toList_iff, Builtin.zeroCells] at hv
          obtain ⟨i, _, rfl⟩ := Array.mem_map.1 hv
          have h7 : i % z.cells.size < 7 := by rw [hzc]; exact Nat.mod_lt _ (by omega)
          generalize i % z.cells.size = r at h7
          rw [hz]
          match r, h7 with
          | 0, _ => rfl
          | 1, _ => rfl
          | 2, _ => rfl
          | 3, _ => rfl
          | 4, _ => rfl
          | 5, _ => rfl
          | 6, _ => rfl
      have E : Hid (KP w (wr.setCells F (a * 7) vs) F ∧ (∃ C, (wr.setCells F (a * 7) vs).heap[F]? = some (.cells C 39 (0, 0)) ∧ C.size = b * 7) ∧ ∀ (q : Nat) (m : ByteArray) (x : V), (Vl.dropF f name)[q]? = some (m, x) → Fld (wr.setCells F (a * 7) vs) F G q m x) := by
        have h1 := S.out.clear vs
        rw [HNA.out, List.take_length, ← HNA.out] at h1
        exact h1
      have hab2 : ¬ (b = a) := by omega
      have hab3 : a ≤ b := by omega
      clear hi0 hz0 hz1 hz2 hz hzc hvs S
      go_wp2
      exact ⟨rfl, _, results_tmp (by rfl) _ _ _, rfl, E.out⟩
end Go.Proofs.YtbogggnnmbjlfaaDoor
/- slices.DeleteFunc at fields and a name, whatever they are: what is answered lies in the same row. -/
namespace Go.Proofs.YtbogggnnmbjlfaaDoor
open Go.RowKit
open Vl (V)
set_option maxHeartbeats 4000000 in
set_option maxRecDepth 100000 in
theorem delete41_none (name : ByteArray) (P : Nat) (f : List (ByteArray × V)) (fo : Option Addr) (fc : Nat) (w : World) (G : Nat) (hG : G ≤ w.heap.size) (hL : LiesF w G fo f) (hP : P < w.heap.size) (hp : w.cell? ⟨P, 0, none⟩ = some (.string name)) (hno : ¬ Vl.place (fun m => decide (m = name)) f < f.length) :
    Calls Tryd.prog 38 #[.slice fo f.length fc, .func (.func 63) #[] #[.pointer (some ⟨P, 0, none⟩)]] w fun e w' => e = .returned (.slice fo f.length fc) ∧ Below w.heap.size w w' := by
  have C57 : Hid (Calls Tryd.prog 66 #[.slice fo f.length fc, .func (.func 63) #[] #[.pointer (some ⟨P, 0, none⟩)]] w fun e w' => e = .returned (.int .i64 (-1)) ∧ Below w.heap.size w w') := by
    have h1 := index57 name P f fo fc w G hG hL hP hp
    rw [if_neg hno] at h1
    exact h1
  obtain ⟨na, hna⟩ : ∃ n, n = f.length := ⟨_, rfl⟩
  rw [← hna] at C57 ⊢
  clear hL hP hp hno hna
  go_enter Tryd.func38, Tryd.ntmps38
  go_wp2_with fail
  refine C57.out.mono ?_
  rintro e w1 ⟨rfl, hb1⟩
  have HB : Hid (Below w.heap.size w w1) := hb1
  clear hb1 C57
  go_wp2
  exact ⟨rfl, _, results_tmp (by rfl) _ _ _, rfl, HB.out⟩
theorem Vl.drop_none (name : ByteArray) (f : List (ByteArray × V)) (h : ¬ Vl.place (fun m => decide (m = name)) f < f.length) : Vl.dropF f name = f := by
  have := Vl.drop_low name f
  rw [List.take_of_length_le (by omega)] at this
  exact this
theorem delete41_any (name : ByteArray) (P : Nat) (f : List (ByteArray × V)) (fo : Option Addr) (fc : Nat) (w : World) (M G : Nat) (hG : G ≤ w.heap.size) (hL : LF w M G fo fc f) (hl : f.length ≤ maxLen) (hm : ∀ a ∈ f, a.1.size ≤ maxLen) (hP : P < w.heap.size) (hPG : G ≤ P) (hp : w.cell? ⟨P, 0, none⟩ = some (.string name)) :
    Calls Tryd.prog 38 #[.slice fo f.length fc, .func (.func 63) #[] #[.pointer (some ⟨P, 0, none⟩)]] w fun e w' => e = .returned (.slice fo (Vl.dropF f name).length fc) ∧ w.heap.size ≤ w'.heap.size ∧ (M ≤ w.heap.size → Below M w w') ∧ (∀ g, (∀ F, fo = some ⟨F, 0, none⟩ → M ≤ F → F < G → g ≠ F) → g < w.heap.size → w'.heap[g]? = w.heap[g]?) ∧
      (0 < (Vl.dropF f name).length → ∃ F, fo = some ⟨F, 0, none⟩ ∧ M ≤ F ∧ F < G ∧ RepFA w' (fun g => F < g ∧ g < G) F 0 (Vl.dropF f name)) := by
  by_cases hin : Vl.place (fun m => decide (m = name)) f < f.length
  · rcases hL with ⟨e, _⟩ | ⟨h0, F, rfl, rfl, hMF, hFG, hD⟩
    · rw [e] at hin; simp at hin
    · refine (delete41 name P f F G w hFG hG hD hl hm hP (by omega) hp hin).mono ?_
      rintro e w' ⟨rfl, hK, ⟨C, hC1, hC2⟩, hF⟩
      refine ⟨rfl, hK.size, fun _ => hK.below.mono hMF, fun g hg hlt => hK.same g (hg F rfl hMF hFG) hlt, fun _ => ⟨F, rfl, hMF, hFG, repFA_mk _ 0 fun j m x hx => ?_⟩⟩
      obtain ⟨a0, c0, c1, c2, c3, c4, c5, a1, a2⟩ := hF j m x hx
      rw [Nat.zero_add]
      exact ⟨a0, hm (m, x) (Vl.dropF_mem f name _ (List.mem_of_getElem? hx)), c0, c1, c2, c3, c4, c5, a1, a2⟩
  · rw [Vl.drop_none name f hin]
    refine (delete41_none name P f fo fc w G hG (hL.lies hl hm) hP hp hin).mono ?_
    rintro e w' ⟨rfl, hb⟩
    refine ⟨rfl, hb.size, fun h => hb.mono h, fun g _ hlt => hb.block g hlt, fun h0 => ?_⟩
    rcases hL with ⟨e, _⟩ | ⟨_, F, rfl, rfl, hMF, hFG, hD⟩
    · rw [e] at h0; simp at h0
    · exact ⟨F, rfl, hMF, hFG, (hD.agree hFG (fun g _ hg => hb.block g (by omega)) hb.size).repFA hm⟩
end Go.Proofs.YtbogggnnmbjlfaaDoor
/- Drop, walked: the struct without the fields of that name, in memory of its own. -/
namespace Go.Proofs.YtbogggnnmbjlfaaDoor
open Go.RowKit
open Vl (V)
/-- where Drop's own variables lie: the answer, the clone -/
structure DG (w W : World) (M G : Nat) (b : Bool) (n : Int) (s : ByteArray) (l : List V) (f : List (ByteArray × V)) (ao : Option Addr) (lc : Nat) (fo : Option Addr) (fc : Nat) : Prop where
  below : Below w.heap.size w W
  res : Z6 W (w.heap.size + 1)
  out : Row6 W G (.int .u8 6) (.bool b) (.int .i64 n) (.string s) (.slice ao l.length lc) (.slice fo f.length fc)
  late : w.heap.size + 2 ≤ M
  le : M ≤ G
  li : LiesLA W (fun g => w.heap.size + 2 ≤ g ∧ g < M) ao lc l
  fi : LF W M G fo fc f
/-- what was made: the struct lies whole -/
def PX (w W : World) (G : Nat) (t : V) : Prop :=
  ∃ c0 c1 c2 c3 c4 c5, Row6 W G c0 c1 c2 c3 c4 c5 ∧ Z6 W (w.heap.size + 1) ∧ Below w.heap.size w W ∧ w.heap.size + 1 < G ∧
    RepA W (fun g => w.heap.size + 1 < g ∧ g < W.heap.size) t (.agg #[c0, c1, c2, c3, c4, c5])
section
variable {w W W' : World} {M G : Nat} {b : Bool} {n : Int} {s : ByteArray} {l : List V} {f : List (ByteArray × V)} {ao : Option Addr} {lc : Nat} {fo : Option Addr} {fc : Nat}
theorem DG.call (h : DG w W M G b n s l f ao lc fo fc) (hb : Below W.heap.size W W') : DG w W' M G b n s l f ao lc fo fc := by
  have hG := h.out.1
  have hM := h.le
  exact ⟨h.below.trans (hb.mono h.below.size), h.res.call hb, h.out.call hb, h.late, h.le, h.li.stays (fun g hg => hb.block g (by omega)) (fun g hg => hg), h.fi.agree (fun g _ hg => hb.block g (by omega)) hb.size⟩
theorem DG.start {w1 wa : World} {v0 v1 v2 v3 v4 v5 : Value} (hwa : wa = (w.alloc (.cells #[v0, v1, v2, v3, v4, v5] 26)).alloc (.cells #[.int .u8 0, .bool false, .int .i64 0, .string ⟨#[]⟩, .slice none 0 0, .slice none 0 0] 26))
    (hb : Below wa.heap.size wa w1) (hM1 : wa.heap.size ≤ M) (hM2 : M ≤ w1.heap.size) (hli : LiesLA w1 (fun g => wa.heap.size ≤ g ∧ g < M) ao lc l) (hfi : LiesFA w1 M fo fc f) :
    DG w (w1.alloc (.cells #[.int .u8 6, .bool b, .int .i64 n, .string s, .slice ao l.length lc, .slice fo f.length fc] 26)) M w1.heap.size b n s l f ao lc fo fc := by
  have hsz : wa.heap.size = w.heap.size + 1 + 1 := by rw [hwa]; simp
  have hba : Below w.heap.size w wa := by rw [hwa]; exact below_new2 _ _ _
  have za : Z6 wa (w.heap.size + 1) := by
    refine ⟨by omega, ?_⟩
    rw [hwa]
    have := heap_alloc_new (w.alloc (.cells #[v0, v1, v2, v3, v4, v5] 26)) (.cells #[.int .u8 0, .bool false, .int .i64 0, .string ⟨#[]⟩, .slice none 0 0, .slice none 0 0] 26)
    simpa using this
  have hb2 : Below wa.heap.size wa (w1.alloc (.cells #[.int .u8 6, .bool b, .int .i64 n, .string s, .slice ao l.length lc, .slice fo f.length fc] 26)) := hb.alloc hb.size _
  have hle := hb.size
  exact ⟨hba.trans (hb2.mono hba.size), za.call hb2, ⟨by simp, heap_alloc_new w1 _⟩, by omega, hM2, hli.stays (fun g hg => Below.heap_alloc _ _ _ (by omega)) (fun g hg => ⟨by omega, hg.2⟩), (LF.of hfi).agree (fun g _ hg => Below.heap_alloc _ _ _ hg) (by simp)⟩
/-- the fields were dropped, and the answer's slice laid -/
theorem PX.of (hS : DG w W M G b n s l f ao lc fo fc) (hl : l.length ≤ maxLen) (hf : f.length ≤ maxLen) (hk : (-9223372036854775808 ≤ n ∧ n < 9223372036854775808) ∧ s.size ≤ maxLen) {name : ByteArray}
    (hsz : W.heap.size ≤ W'.heap.size) (hB : Below M W W') (hsame : ∀ g, (∀ F, fo = some ⟨F, 0, none⟩ → M ≤ F → F < G → g ≠ F) → g < W.heap.size → W'.heap[g]? = W.heap[g]?)
    (hF : 0 < (Vl.dropF f name).length → ∃ F, fo = some ⟨F, 0, none⟩ ∧ M ≤ F ∧ F < G ∧ RepFA W' (fun g => F < g ∧ g < G) F 0 (Vl.dropF f name)) :
    Row6 W' G (.int .u8 6) (.bool b) (.int .i64 n) (.string s) (.slice ao l.length lc) (.slice fo f.length fc) ∧ Below w.heap.size w W' ∧
    PX w (W'.setCell ⟨G, 5, none⟩ (.slice fo (Vl.dropF f name).length fc)) G ⟨6, b, n, s, l, Vl.dropF f name⟩ := by
  have h1 := hS.late
  have h2 := hS.le
  have h3 := hS.out.1
  have hG' : W'.heap[G]? = W.heap[G]? := hsame G (fun F _ _ h => by omega) h3
  have hout : Row6 W' G (.int .u8 6) (.bool b) (.int .i64 n) (.string s) (.slice ao l.length lc) (.slice fo f.length fc) := ⟨by omega, hG'.trans hS.out.2⟩
  have hbl : Below w.heap.size w W' := hS.below.trans (hB.mono (by omega))
  have hs2 : (W'.setCell ⟨G, 5, none⟩ (.slice fo (Vl.dropF f name).length fc)).heap.size = W'.heap.size := by simp
  have e : ∀ k, k ≠ G → (W'.setCell ⟨G, 5, none⟩ (.slice fo (Vl.dropF f name).length fc)).heap[k]? = W'.heap[k]? := fun k hk => heap_setCell_other _ _ _ _ hk
  have hres : Z6 W' (w.heap.size + 1) := ⟨by have := hS.res.1; omega, (hsame _ (fun F _ hF _ => by omega) hS.res.1).trans hS.res.2⟩
  refine ⟨hout, hbl, _, _, _, _, _, _, hout.set5, hres.other _ _ _ (by omega), hbl.setCell (p := ⟨G, 5, none⟩) (by show w.heap.size ≤ G; omega) _, by omega, ?_⟩
  rw [RepA]
  refine ⟨ao, lc, fo, fc, rfl, by omega, hk.1, hk.2, hl, Nat.le_trans (Vl.dropF_len f name) hf, fun hp => ?_, fun hp => ?_⟩
  · rcases hS.li with ⟨e1, _⟩ | ⟨_, q, e1, _, e3, e4⟩
    · rw [e1] at hp; simp at hp
    · have lo : ∀ k, w.heap.size + 2 ≤ k ∧ k < M → (W'.setCell ⟨G, 5, none⟩ (.slice fo (Vl.dropF f name).length fc)).heap[k]? = W.heap[k]? := fun k hk => (e k (by omega)).trans (hsame k (fun F _ hF _ => by omega) (by omega))
      exact ⟨q, 0, e1, ⟨by omega, by rw [hs2]; omega⟩, repLA_stays lo (fun k hk => ⟨by omega, by rw [hs2]; omega⟩) (lo q e3) l 0 e4⟩
  · obtain ⟨F, hfo, hMF, hFG, hr⟩ := hF hp
    exact ⟨F, 0, hfo, ⟨by omega, by rw [hs2]; omega⟩, repFA_stays (fun k hk => e k (by omega)) (fun k hk => ⟨by omega, by rw [hs2]; omega⟩) (e F (by omega)) _ 0 hr⟩
end
theorem PX.answer {w wc : World} {t : V} {c0 c1 c2 c3 c4 c5 : Value} (hZ : Z6 wc (w.heap.size + 1)) (hB : Below w.heap.size w wc)
    (hrep : RepA wc (fun g => w.heap.size + 1 < g ∧ g < wc.heap.size) t (.agg #[c0, c1, c2, c3, c4, c5])) :
    (wc.setCells (w.heap.size + 1) 0 [c0, c1, c2, c3, c4, c5]).heap[w.heap.size + 1]? = some (.cells #[c0, c1, c2, c3, c4, c5] 26 (0, 0)) ∧
    Below w.heap.size w (wc.setCells (w.heap.size + 1) 0 [c0, c1, c2, c3, c4, c5]) ∧
    RepA (wc.setCells (w.heap.size + 1) 0 [c0, c1, c2, c3, c4, c5]) (fun g => w.heap.size ≤ g ∧ g < (wc.setCells (w.heap.size + 1) 0 [c0, c1, c2, c3, c4, c5]).heap.size) t (.agg #[c0, c1, c2, c3, c4, c5]) := by
  refine ⟨Z6.put hZ _ _ _ _ _ _, below_setCells (by omega) _ _ hB, ?_⟩
  rw [size_setCells']
  exact repA_stays (fun k hk => heap_setCells_ne _ k (by omega) _ _ _) (fun k hk => ⟨by omega, hk.2⟩) _ _ hrep
theorem results_drop (w : World) (G : Nat) (c0 c1 c2 c3 c4 c5 : Value) (h : w.heap[G]? = some (.cells #[c0, c1, c2, c3, c4, c5] 26 (0, 0))) (tmps : Array Value) (hp : tmps.getD 4 undef = .pointer (some ⟨G, 0, none⟩)) (n : Int) (hu : tmps.getD 5 undef = .int .i64 n) :
    (results Tryd.f14 tmps).run Tryd.prog w = .ok (.tuple #[.agg #[c0, c1, c2, c3, c4, c5], .int .i64 n]) w := by
  rw [results_row_tmp (fn := Tryd.f14) (p := 4) (u := 5) (ty := 26) (by rfl) _ w G 26 _ (0, 0) _ hp h Tryd.underlying26 rfl info26, hu]
set_option maxHeartbeats 16000000 in
set_option maxRecDepth 100000 in
theorem drop18 (name : ByteArray) (b : Bool) (n : Int) (s : ByteArray) (l : List V) (f : List (ByteArray × V)) (ht : Vl.small ⟨6, b, n, s, l, f⟩) (w : World) (H : Nat) (vt : Value) (hH : H ≤ w.heap.size) (hr : Rep w H ⟨6, b, n, s, l, f⟩ vt) :
    Calls Tryd.prog 14 #[vt, .string name] w fun e w' => ∃ v', e = .returned (.tuple #[v', .int .i64 0]) ∧ Below w.heap.size w w' ∧ RepA w' (fun g => w.heap.size ≤ g ∧ g < w'.heap.size) ⟨6, b, n, s, l, Vl.dropF f name⟩ v' := by
  have hr' := hr
  rw [Rep] at hr'
  obtain ⟨vo, vc, uo, uc, rfl, _, k2, k3, k4, k5, _, _⟩ := hr'
  have hm : ∀ a ∈ f, a.1.size ≤ maxLen := fun a ha => by
    rw [Vl.small] at ht
    have := (Vl.smallF_mem f a ht.2.2.2.2 ha).1
    unfold maxLen; omega
  have C34 : Hid (∀ W, Below w.heap.size w W → Calls Tryd.prog 31 #[.agg #[.int .u8 6, .bool b, .int .i64 n, .string s, .slice vo l.length vc, .slice uo f.length uc]] W fun e w' => ∃ (M : Nat) (ao : Option Addr) (lc : Nat) (fo : Option Addr) (fc : Nat), e = .returned (.agg #[.int .u8 6, .bool b, .int .i64 n, .string s, .slice ao l.length lc, .slice fo f.length fc]) ∧ Below W.heap.size W w' ∧ W.heap.size ≤ M ∧ M ≤ w'.heap.size ∧ LiesLA w' (fun g => W.heap.size ≤ g ∧ g < M) ao lc l ∧ LiesFA w' M fo fc f) := fun W hW =>
    (clone34 _ _ (Nat.le_refl _) ht W H _ (by have := hW.size; omega) (rep_stays (hW.mono hH) (Nat.le_refl _) _ _ hr)).mono fun e w' h => by
      obtain ⟨v', M, rfl, hb, hc⟩ := h
      obtain ⟨ao, lc, fo, fc, rfl, _, _, _, q1, q2, q3, q4⟩ := hc
      exact ⟨M, ao, lc, fo, fc, rfl, hb, q1, q2, q3, q4⟩
  have HM : Hid (∀ a ∈ f, a.1.size ≤ maxLen) := hm
  have HK : Hid ((-9223372036854775808 ≤ n ∧ n < 9223372036854775808) ∧ s.size ≤ maxLen) := ⟨k2, k3⟩
  have HLM : Hid (l.length ≤ maxLen) := k4
  have HFM : Hid (f.length ≤ maxLen) := k5
  obtain ⟨ll, hll⟩ : ∃ n, n = l.length := ⟨_, rfl⟩
  obtain ⟨fl, hfl'⟩ : ∃ n, n = f.length := ⟨_, rfl⟩
  obtain ⟨dl, hdl⟩ : ∃ n, n = (Vl.dropF f name).length := ⟨_, rfl⟩
  have HLL : Hid (ll = l.length) := hll
  have HFL : Hid (fl = f.length) := hfl'
  have HDL : Hid (dl = (Vl.dropF f name).length) := hdl
  rw [← hll, ← hfl'] at C34 ⊢
  obtain ⟨t', ht'⟩ : ∃ t' : V, t' = ⟨6, b, n, s, l, Vl.dropF f name⟩ := ⟨_, rfl⟩
  have HT : Hid (t' = ⟨6, b, n, s, l, Vl.dropF f name⟩) := ht'
  rw [← ht']
  clear hr hm k2 k3 k4 k5 hll hfl' hdl ht ht'
  go_enter Tryd.func14, Tryd.ntmps14
  go_wp2_with fail
  refine (C34.out _ (below_new2 _ _ _)).mono ?_
  rintro e w1 ⟨M, ao, lc, fo, fc, rfl, hb1, hM1, hM2, hli, hfi⟩
  have S2 : Hid (DG w (w1.alloc (.cells #[.int .u8 6, .bool b, .int .i64 n, .string s, .slice ao ll lc, .slice fo fl fc] 26)) M w1.heap.size b n s l f ao lc fo fc) := by
    have := DG.start (b := b) (n := n) (s := s) rfl hb1 hM1 hM2 hli hfi
    rw [← HLL.out, ← HFL.out] at this
    exact this
  clear hb1 hM1 hM2 hli hfi C34
  go_wp2
  obtain ⟨w2, hw2⟩ : ∃ w2, w2 = w1.alloc (.cells #[.int .u8 6, .bool b, .int .i64 n, .string s, .slice ao ll lc, .slice fo fl fc] 26) := ⟨_, rfl⟩
  obtain ⟨G, hG⟩ : ∃ G, G = w1.heap.size := ⟨_, rfl⟩
  rw [← hw2, ← hG] at S2 ⊢
  clear hw2 hG
  have c5 := S2.out.out.cells.2.2.2.2.2
  rw [← HFL.out] at c5
  have D41 : Hid (∀ W, DG w W M G b n s l f ao lc fo fc → ∀ P, G ≤ P → P < W.heap.size → W.cell? ⟨P, 0, none⟩ = some (.string name) → Calls Tryd.prog 38 #[.slice fo fl fc, .func (.func 63) #[] #[.pointer (some ⟨P, 0, none⟩)]] W fun e w' => e = .returned (.slice fo dl fc) ∧ Row6 w' G (.int .u8 6) (.bool b) (.int .i64 n) (.string s) (.slice ao ll lc) (.slice fo fl fc) ∧ Below w.heap.size w w' ∧ PX w (w'.setCell ⟨G, 5, none⟩ (.slice fo dl fc)) G t') := fun W hW P hP1 hP2 hp => by
    rw [HFL.out, HDL.out, HLL.out, HT.out]
    refine (delete41_any name P f fo fc W M G (Nat.le_of_lt hW.out.1) hW.fi HFM.out HM.out hP2 hP1 hp).mono ?_
    rintro e w' ⟨rfl, h1, h2, h3, h4⟩
    exact ⟨rfl, PX.of hW HLM.out HFM.out HK.out h1 (h2 (by have := hW.le; have := hW.out.1; omega)) h3 h4⟩
  have HGL : Hid (G < w2.heap.size) := S2.out.out.1
  go_cut [] from 13 to 18 (fun wx => PX w wx G t')
  case first =>
    go_region_with (first
      | (go_at_call 34; refine (named36 name _).mono ?_; rintro e w3 ⟨rfl, hw3⟩
         have S3 : Hid (DG w w3 M G b n s l f ao lc fo fc) := S2.out.call (by rw [hw3]; exact drew_new _ _)
         have HN3 : Hid (w2.heap.size < w3.heap.size ∧ w3.cell? ⟨w2.heap.size, 0, none⟩ = some (.string name)) := (by rw [hw3]; exact drew_name _ _)
         have c53 := S3.out.out.cells.2.2.2.2.2
         rw [← HFL.out] at c53
         clear hw3)
      | (go_at_call 38; refine (D41.out _ S3.out w2.heap.size (Nat.le_of_lt HGL.out) HN3.out.1 HN3.out.2).mono ?_; rintro e w4 ⟨rfl, hR4, hB4, hE4⟩
         have HE4 : Hid (PX w (w4.setCell ⟨G, 5, none⟩ (.slice fo dl fc)) G t') := hE4
         have c54 := hR4.cells.2.2.2.2.2
         have fz4 := hR4.free
         have lt4 := hR4.1
         clear hE4 hB4 hR4))
    all_goals
      go_wp2_with fail
      go_meet
      exact HE4.out
  case rest =>
    clear S2 D41 c5 HGL
    obtain ⟨c0, c1, c2, c3, c4, c5, hR, hZ, hB, hlt2, hrep⟩ := hcut
    obtain ⟨uk, ub, un, us, ua, ul, uc', va, vl, vc', hu⟩ := repA_form hrep
    simp only [Value.agg.injEq, Array.mk.injEq, List.cons.injEq, and_true] at hu
    obtain ⟨rfl, rfl, rfl, rfl, rfl, rfl⟩ := hu
    obtain ⟨p0, p1, p2, p3, p4, p5⟩ := hR.cells
    obtain ⟨q0, q1, q2, q3, q4, q5⟩ := Row6.cells hZ
    have fz := Row6.free hZ
    have hl1 := hR.1
    have hl2 := hZ.1
    obtain ⟨a1, a2, a3⟩ := PX.answer hZ hB hrep
    obtain ⟨w8, hw8⟩ : ∃ w8, w8 = wc.setCells (w.heap.size + 1) 0 [.int .u8 (uk : Int), .bool ub, .int .i64 un, .string us, .slice ua ul uc', .slice va vl vc'] := ⟨_, rfl⟩
    rw [← hw8] at a1 a2 a3
    have HW8 : Hid (w8 = wc.setCells (w.heap.size + 1) 0 [.int .u8 (uk : Int), .bool ub, .int .i64 un, .string us, .slice ua ul uc', .slice va vl vc']) := hw8
    have HA1 : Hid (w8.heap[w.heap.size + 1]? = some (.cells #[.int .u8 (uk : Int), .bool ub, .int .i64 un, .string us, .slice ua ul uc', .slice va vl vc'] 26 (0, 0))) := a1
    have HA2 : Hid (Below w.heap.size w w8) := a2
    have HA3 : Hid (RepA w8 (fun g => w.heap.size ≤ g ∧ g < w8.heap.size) t' (.agg #[.int .u8 (uk : Int), .bool ub, .int .i64 un, .string us, .slice ua ul uc', .slice va vl vc'])) := a3
    clear hw8 a1 a2 a3 hR hZ hB hrep
    go_wp2
    rw [sets6, ← HW8.out]
    exact bodyPost_ret (results_drop w8 (w.heap.size + 1) _ _ _ _ _ _ HA1.out _ (by rfl) 0 (by rfl)) rfl ⟨_, rfl, HA2.out, HA3.out⟩
end Go.Proofs.YtbogggnnmbjlfaaDoor
