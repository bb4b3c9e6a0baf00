/- What a walk knows of memory, as a list; what check says of parts; Get of one name. -/
import Derived.Test.YtbogggnnmbjlfaaDoorLivesW
import Derived.Test.YtbogggnnmbjlfaaDoorPutsM
import Derived.Test.YtbogggnnmbjlfaaDoorRSameA
/- What a walk knows of memory, as a list: boxes of six cells, values below a bound; calls and new blocks leave it. -/
namespace Go.Proofs.YtbogggnnmbjlfaaDoor
open Go.RowKit
open Vl (V)
inductive Fc
  | row (b : Nat) (c0 c1 c2 c3 c4 c5 : Value)
  | rep (K : Nat) (t : V) (v : Value)
def Fc.at (W : World) : Fc → Prop
  | .row b c0 c1 c2 c3 c4 c5 => Row6 W b c0 c1 c2 c3 c4 c5
  | .rep K t v => K ≤ W.heap.size ∧ Rep W K t v
/-- what is known of a world behind another one -/
structure Fs (w W : World) (L : List Fc) : Prop where
  below : Below w.heap.size w W
  t : HasT W
  facts : ∀ φ ∈ L, φ.at W
section
variable {w W W' : World} {L : List Fc}
theorem Fs.hid (h : Fs w W L) : Hid (Fs w W L) := h
theorem Fs.call (h : Fs w W L) (hb : Below W.heap.size W W') : Fs w W' L := by
  refine ⟨h.below.trans (hb.mono h.below.size), h.t.stays hb, fun φ hφ => ?_⟩
  have h1 := h.facts φ hφ
  cases φ with
  | row b c0 c1 c2 c3 c4 c5 => exact Row6.call h1 hb
  | rep K t v => exact ⟨Nat.le_trans h1.1 hb.size, rep_stays (hb.mono h1.1) (Nat.le_refl _) t v h1.2⟩
theorem Fs.row (h : Fs w W L) (i : Nat) {b : Nat} {c0 c1 c2 c3 c4 c5 : Value} (hi : L[i]? = some (.row b c0 c1 c2 c3 c4 c5)) : Row6 W b c0 c1 c2 c3 c4 c5 := h.facts _ (List.mem_of_getElem? hi)
theorem Fs.rep (h : Fs w W L) (i : Nat) {K : Nat} {t : V} {v : Value} (hi : L[i]? = some (.rep K t v)) : K ≤ W.heap.size ∧ Rep W K t v := h.facts _ (List.mem_of_getElem? hi)
/-- .. raised to the whole memory -/
theorem Fs.up (h : Fs w W L) (i : Nat) {K : Nat} {t : V} {v : Value} (hi : L[i]? = some (.rep K t v)) : Rep W W.heap.size t v := rep_stays (Below.refl _ _) (h.rep i hi).1 t v (h.rep i hi).2
theorem Fs.add (h : Fs w W L) {φ : Fc} (hφ : φ.at W) : Fs w W (φ :: L) := ⟨h.below, h.t, fun ψ hψ => by
  cases List.mem_cons.1 hψ with
  | inl e => rw [e]; exact hφ
  | inr e => exact h.facts ψ e⟩
/-- a value that was answered is laid into a new box -/
theorem Fs.box (h : Fs w W L) {t : V} {c0 c1 c2 c3 c4 c5 : Value} (hr : Rep W W.heap.size t (.agg #[c0, c1, c2, c3, c4, c5])) : Fs w (W.alloc (.cells #[c0, c1, c2, c3, c4, c5] 26)) (.row W.heap.size c0 c1 c2 c3 c4 c5 :: .rep W.heap.size t (.agg #[c0, c1, c2, c3, c4, c5]) :: L) := by
  refine Fs.add (Fs.add (h.call (below_new _ _)) ?_) ?_
  · exact ⟨(below_new _ _).size, rep_stays (below_new _ _) (Nat.le_refl _) t _ hr⟩
  · exact ⟨by simp, heap_alloc_new W _⟩
end
end Go.Proofs.YtbogggnnmbjlfaaDoor
/- For the law ValuePuts: what check says of a struct's parts; Get of one name, whatever it leads to. -/
namespace Go.Proofs.YtbogggnnmbjlfaaDoor
open Go.RowKit
open Vl (V)
namespace Vl
theorem drop_small {b : Bool} {n : Int} {s : ByteArray} {l : List V} {f : List (ByteArray × V)} (h : small ⟨6, b, n, s, l, f⟩) (a : ByteArray) : small ⟨6, b, n, s, l, dropF f a⟩ := by
  rw [small] at h ⊢
  exact ⟨h.1, h.2.1, Nat.le_trans (dropF_len f a) h.2.2.1, h.2.2.2.1, smallF_of _ fun y hy => smallF_mem f y h.2.2.2.2 (dropF_mem f a y hy)⟩
section
variable (u : ByteArray → Bool)
theorem check_parts {d : Nat} {b : Bool} {n : Int} {s : ByteArray} {l : List V} {f : List (ByteArray × V)} (h : check u d ⟨6, b, n, s, l, f⟩ = 0) : f.length ≤ 64 ∧ ∀ a ∈ f, nameErr u a.1 = 0 ∧ check u (d + 1) a.2 = 0 := by
  rw [check] at h
  by_cases c1 : alone u d ⟨6, b, n, s, l, f⟩ ≠ 0
  · rw [if_pos c1] at h; exact absurd h c1
  · rw [if_neg c1] at h
    by_cases c2 : checkL u (d + 1) l ≠ 0
    · rw [if_pos c2] at h; exact absurd h c2
    · rw [if_neg c2] at h
      refine ⟨?_, checkF_parts u (d + 1) f none h⟩
      rw [Decidable.not_not, alone] at c1
      split at c1
      · cases c1
      · split at c1
        · cases c1
        · split at c1
          · cases c1
          · split at c1
            · cases c1
            · rename_i k4; omega
theorem puts_dropped {b : Bool} {n : Int} {s : ByteArray} {l : List V} {f : List (ByteArray × V)} (h : check u 0 ⟨6, b, n, s, l, f⟩ = 0) (a : ByteArray) (x : V) : check u 0 ⟨6, b, n, s, l, dropF (putF f a x) a⟩ = 0 := by
  rw [drop_put]
  exact check_drop u h (check_parts u h).1 (check_parts u h).2 a
theorem puts_put {b : Bool} {n : Int} {s : ByteArray} {l : List V} {f : List (ByteArray × V)} (h : check u 0 ⟨6, b, n, s, l, f⟩ = 0) (a : ByteArray) (x : V) {b' : Bool} {n' : Int} {s' : ByteArray} {l' : List V} (h1 : check u 0 ⟨6, b', n', s', l', [(a, x)]⟩ = 0) (hl : (putF f a x).length ≤ 64) : check u 0 ⟨6, b, n, s, l, putF f a x⟩ = 0 := by
  have h2 := (check_parts u h1).2 (a, x) List.mem_cons_self
  exact check_put u h (check_parts u h).2 h2.1 h2.2 hl
end
end Vl
/-- null -/
def zV : V := ⟨0, false, 0, ⟨#[]⟩, [], []⟩
theorem rep_zV (w : World) (H : Nat) : Rep w H zV (.agg #[.int .u8 0, .bool false, .int .i64 0, .string ⟨#[]⟩, .slice none 0 0, .slice none 0 0]) := by
  rw [zV, Rep]
  exact ⟨none, 0, none, 0, rfl, by omega, by omega, by decide, by decide, by decide, fun h => by simp at h, fun h => by simp at h⟩
/-- Get of one name that lies in a new block -/
theorem get1 (t : V) (ht : Vl.small t) (m : ByteArray) (hm : m.size ≤ 140737488351232) (is : Bool) (y : V) (hy : (getV t [m]).isSome = is ∧ (getV t [m]).getD zV = y) (W : World) (hT : HasT W) (v : Value) (hR : Rep W W.heap.size t v) :
    Calls Tryd.prog 10 #[v, .slice (some ⟨W.heap.size, 0, none⟩) 1 1] (W.alloc (.cells #[.string m] 9)) fun e w' => ∃ (yk : Nat) (yb : Bool) (yn : Int) (ys : ByteArray) (ya : Option Addr) (yl yc : Nat) (yf : Option Addr) (ym yq : Nat), e = .returned (.tuple #[.agg #[.int .u8 (yk : Int), .bool yb, .int .i64 yn, .string ys, .slice ya yl yc, .slice yf ym yq], .bool is]) ∧ Below W.heap.size W w' ∧ Rep w' w'.heap.size y (.agg #[.int .u8 (yk : Int), .bool yb, .int .i64 yn, .string ys, .slice ya yl yc, .slice yf ym yq]) := by
  have hg := get16 t ht [m] (some ⟨W.heap.size, 0, none⟩) 1 (W.alloc (.cells #[.string m] 9)) (hT.stays (below_new _ _)) W.heap.size v (below_new _ _).size (rep_stays (below_new _ _) (Nat.le_refl _) _ _ hR)
    ⟨by simp [maxLen], fun s hs => by simp only [List.mem_cons, List.not_mem_nil, or_false] at hs; rw [hs]; exact hm, fun _ => ⟨W.heap.size, 0, rfl, by simp, fun j s hj => by
      match j, hj with
      | 0, hj => simp only [List.getElem?_cons_zero, Option.some.injEq] at hj; subst hj; rw [cell_of_row _ _ _ _ _ _ (heap_alloc_new W _)]; rfl
      | j + 1, hj => simp at hj⟩⟩
  refine hg.mono ?_
  rintro e w' ⟨hg, hb⟩
  have hb' : Below W.heap.size W w' := (below_new W _).trans (hb.mono (below_new W _).size)
  obtain ⟨rfl, rfl⟩ := hy
  cases ho : getV t [m] with
  | none =>
    rw [ho] at hg
    exact ⟨0, false, 0, ⟨#[]⟩, none, 0, 0, none, 0, 0, hg, hb', rep_zV _ _⟩
  | some y =>
    rw [ho] at hg
    obtain ⟨v', rfl, hr⟩ := hg
    obtain ⟨yk, yb, yn, ys, ya, yl, yc, yf, ym, yq, rfl⟩ := repA_form (rep_repA y _ hr)
    exact ⟨yk, yb, yn, ys, ya, yl, yc, yf, ym, yq, rfl, hb', hr⟩
theorem get_struct (b : Bool) (n : Int) (s : ByteArray) (l : List V) (f : List (ByteArray × V)) (m : ByteArray) : getV ⟨6, b, n, s, l, f⟩ [m] = Vl.look f m := by
  rw [getV, stepV, if_neg (by decide), if_pos rfl]
  show (match Vl.look f m with | some x => getV x [] | none => none) = Vl.look f m
  cases Vl.look f m with
  | none => rfl
  | some x => rfl
theorem get_put (b : Bool) (n : Int) (s : ByteArray) (l : List V) (f : List (ByteArray × V)) (m : ByteArray) (x : V) : getV ⟨6, b, n, s, l, Vl.putF f m x⟩ [m] = some x := by
  rw [get_struct]; exact Vl.put_got m x f
/-- two boxes of arguments, laid -/
theorem Fs.two {w : World} (hT : HasT w) {H : Nat} (hH : H ≤ w.heap.size) {t x : V} {a0 a1 a2 a3 a4 a5 b0 b1 b2 b3 b4 b5 : Value} (ht : Rep w H t (.agg #[a0, a1, a2, a3, a4, a5])) (hx : Rep w H x (.agg #[b0, b1, b2, b3, b4, b5])) :
    Fs w ((w.alloc (.cells #[a0, a1, a2, a3, a4, a5] 26)).alloc (.cells #[b0, b1, b2, b3, b4, b5] 26)) [.row w.heap.size a0 a1 a2 a3 a4 a5, .row (w.heap.size + 1) b0 b1 b2 b3 b4 b5, .rep H t (.agg #[a0, a1, a2, a3, a4, a5]), .rep H x (.agg #[b0, b1, b2, b3, b4, b5])] := by
  have h0 : Fs w w [] := ⟨Below.refl _ _, hT, fun φ h => by cases h⟩
  have h1 := ((Fs.add (Fs.add h0 (φ := .rep H x (.agg #[b0, b1, b2, b3, b4, b5])) ⟨hH, hx⟩) (φ := .rep H t (.agg #[a0, a1, a2, a3, a4, a5])) ⟨hH, ht⟩).call (below_new w (.cells #[a0, a1, a2, a3, a4, a5] 26))).call (below_new _ (.cells #[b0, b1, b2, b3, b4, b5] 26))
  refine Fs.add (Fs.add h1 (φ := .row (w.heap.size + 1) b0 b1 b2 b3 b4 b5) ?_) (φ := .row w.heap.size a0 a1 a2 a3 a4 a5) ?_
  · refine ⟨by simp, ?_⟩
    have := heap_alloc_new (w.alloc (.cells #[a0, a1, a2, a3, a4, a5] 26)) (.cells #[b0, b1, b2, b3, b4, b5] 26)
    simpa using this
  · exact ⟨by simp; omega, (Below.heap_alloc _ _ _ (by simp)).trans (heap_alloc_new w _)⟩
end Go.Proofs.YtbogggnnmbjlfaaDoor
