/- For the law ValuePuts: what check says of a struct's parts; Get of one name, whatever it leads to. -/
import Derived.Test.YtcgkoogdgagddaaDoorPutsM
import Derived.Test.YtcgkoogdgagddaaDoorFacts
import Derived.Test.YtcgkoogdgagddaaDoorRSameA
namespace Go.Proofs.YtcgkoogdgagddaaDoor
open Go.RowKit
open Vl (V)
namespace Vl
theorem drop_small {b : Bool} {n : Int} {s : ByteArray} {l : List V} {f : List (ByteArray × V)} (h : small ⟨6, b, n, s, l, f⟩) (a : ByteArray) : small ⟨6, b, n, s, l, dropF f a⟩ := by
  rw [small] at h ⊢
  exact ⟨h.1, h.2.1, Nat.le_trans (dropF_len f a) h.2.2.1, h.2.2.2.1, smallF_of _ fun y hy => smallF_mem f y h.2.2.2.2 (dropF_mem f a y hy)⟩
section
variable (u : ByteArray → Bool)
theorem check_parts {d : Nat} {b : Bool} {n : Int} {s : ByteArray} {l : List V} {f : List (ByteArray × V)} (h : check u d ⟨6, b, n, s, l, f⟩ = 0) : f.length ≤ 64 ∧ ∀ a ∈ f, nameErr u a.1 = 0 ∧ check u (d + 1) a.2 = 0 := by
  rw [check] at h
  by_cases c1 : alone u d ⟨6, b, n, s, l, f⟩ ≠ 0
  · rw [if_pos c1] at h; exact absurd h c1
  · rw [if_neg c1] at h
    by_cases c2 : checkL u (d + 1) l ≠ 0
    · rw [if_pos c2] at h; exact absurd h c2
    · rw [if_neg c2] at h
      refine ⟨?_, checkF_parts u (d + 1) f none h⟩
      rw [Decidable.not_not, alone] at c1
      split at c1
      · cases c1
      · split at c1
        · cases c1
        · split at c1
          · cases c1
          · split at c1
            · cases c1
            · rename_i k4; omega
theorem puts_dropped {b : Bool} {n : Int} {s : ByteArray} {l : List V} {f : List (ByteArray × V)} (h : check u 0 ⟨6, b, n, s, l, f⟩ = 0) (a : ByteArray) (x : V) : check u 0 ⟨6, b, n, s, l, dropF (putF f a x) a⟩ = 0 := by
  rw [drop_put]
  exact check_drop u h (check_parts u h).1 (check_parts u h).2 a
theorem puts_put {b : Bool} {n : Int} {s : ByteArray} {l : List V} {f : List (ByteArray × V)} (h : check u 0 ⟨6, b, n, s, l, f⟩ = 0) (a : ByteArray) (x : V) {b' : Bool} {n' : Int} {s' : ByteArray} {l' : List V} (h1 : check u 0 ⟨6, b', n', s', l', [(a, x)]⟩ = 0) (hl : (putF f a x).length ≤ 64) : check u 0 ⟨6, b, n, s, l, putF f a x⟩ = 0 := by
  have h2 := (check_parts u h1).2 (a, x) List.mem_cons_self
  exact check_put u h (check_parts u h).2 h2.1 h2.2 hl
end
end Vl
/-- null -/
def zV : V := ⟨0, false, 0, ⟨#[]⟩, [], []⟩
theorem rep_zV (w : World) (H : Nat) : Rep w H zV (.agg #[.int .u8 0, .bool false, .int .i64 0, .string ⟨#[]⟩, .slice none 0 0, .slice none 0 0]) := by
  rw [zV, Rep]
  exact ⟨none, 0, none, 0, rfl, by omega, by omega, by decide, by decide, by decide, fun h => by simp at h, fun h => by simp at h⟩
/-- Get of one name that lies in a new block -/
theorem get1 (t : V) (ht : Vl.small t) (m : ByteArray) (hm : m.size ≤ 140737488351232) (is : Bool) (y : V) (hy : (getV t [m]).isSome = is ∧ (getV t [m]).getD zV = y) (W : World) (hT : HasT W) (v : Value) (hR : Rep W W.heap.size t v) :
    Calls Tryd.prog 16 #[v, .slice (some ⟨W.heap.size, 0, none⟩) 1 1] (W.alloc (.cells #[.string m] 9)) fun e w' => ∃ (yk : Nat) (yb : Bool) (yn : Int) (ys : ByteArray) (ya : Option Addr) (yl yc : Nat) (yf : Option Addr) (ym yq : Nat), e = .returned (.tuple #[.agg #[.int .u8 (yk : Int), .bool yb, .int .i64 yn, .string ys, .slice ya yl yc, .slice yf ym yq], .bool is]) ∧ Below W.heap.size W w' ∧ Rep w' w'.heap.size y (.agg #[.int .u8 (yk : Int), .bool yb, .int .i64 yn, .string ys, .slice ya yl yc, .slice yf ym yq]) := by
  have hg := get16 t ht [m] (some ⟨W.heap.size, 0, none⟩) 1 (W.alloc (.cells #[.string m] 9)) (hT.stays (below_new _ _)) W.heap.size v (below_new _ _).size (rep_stays (below_new _ _) (Nat.le_refl _) _ _ hR)
    ⟨by simp [maxLen], fun s hs => by simp only [List.mem_cons, List.not_mem_nil, or_false] at hs; rw [hs]; exact hm, fun _ => ⟨W.heap.size, 0, rfl, by simp, fun j s hj => by
      match j, hj with
      | 0, hj => simp only [List.getElem?_cons_zero, Option.some.injEq] at hj; subst hj; rw [cell_of_row _ _ _ _ _ _ (heap_alloc_new W _)]; rfl
      | j + 1, hj => simp at hj⟩⟩
  refine hg.mono ?_
  rintro e w' ⟨hg, hb⟩
  have hb' : Below W.heap.size W w' := (below_new W _).trans (hb.mono (below_new W _).size)
  obtain ⟨rfl, rfl⟩ := hy
  cases ho : getV t [m] with
  | none =>
    rw [ho] at hg
    exact ⟨0, false, 0, ⟨#[]⟩, none, 0, 0, none, 0, 0, hg, hb', rep_zV _ _⟩
  | some y =>
    rw [ho] at hg
    obtain ⟨v', rfl, hr⟩ := hg
    obtain ⟨yk, yb, yn, ys, ya, yl, yc, yf, ym, yq, rfl⟩ := repA_form (rep_repA y _ hr)
    exact ⟨yk, yb, yn, ys, ya, yl, yc, yf, ym, yq, rfl, hb', hr⟩
theorem get_struct (b : Bool) (n : Int) (s : ByteArray) (l : List V) (f : List (ByteArray × V)) (m : ByteArray) : getV ⟨6, b, n, s, l, f⟩ [m] = Vl.look f m := by
  rw [getV, stepV, if_neg (by decide), if_pos rfl]
  show (match Vl.look f m with | some x => getV x [] | none => none) = Vl.look f m
  cases Vl.look f m with
  | none => rfl
  | some x => rfl
theorem get_put (b : Bool) (n : Int) (s : ByteArray) (l : List V) (f : List (ByteArray × V)) (m : ByteArray) (x : V) : getV ⟨6, b, n, s, l, Vl.putF f m x⟩ [m] = some x := by
  rw [get_struct]; exact Vl.put_got m x f
/-- two boxes of arguments, laid -/
theorem Fs.two {w : World} (hT : HasT w) {H : Nat} (hH : H ≤ w.heap.size) {t x : V} {a0 a1 a2 a3 a4 a5 b0 b1 b2 b3 b4 b5 : Value} (ht : Rep w H t (.agg #[a0, a1, a2, a3, a4, a5])) (hx : Rep w H x (.agg #[b0, b1, b2, b3, b4, b5])) :
    Fs w ((w.alloc (.cells #[a0, a1, a2, a3, a4, a5] 26)).alloc (.cells #[b0, b1, b2, b3, b4, b5] 26)) [.row w.heap.size a0 a1 a2 a3 a4 a5, .row (w.heap.size + 1) b0 b1 b2 b3 b4 b5, .rep H t (.agg #[a0, a1, a2, a3, a4, a5]), .rep H x (.agg #[b0, b1, b2, b3, b4, b5])] := by
  have h0 : Fs w w [] := ⟨Below.refl _ _, hT, fun φ h => by cases h⟩
  have h1 := ((Fs.add (Fs.add h0 (φ := .rep H x (.agg #[b0, b1, b2, b3, b4, b5])) ⟨hH, hx⟩) (φ := .rep H t (.agg #[a0, a1, a2, a3, a4, a5])) ⟨hH, ht⟩).call (below_new w (.cells #[a0, a1, a2, a3, a4, a5] 26))).call (below_new _ (.cells #[b0, b1, b2, b3, b4, b5] 26))
  refine Fs.add (Fs.add h1 (φ := .row (w.heap.size + 1) b0 b1 b2 b3 b4 b5) ?_) (φ := .row w.heap.size a0 a1 a2 a3 a4 a5) ?_
  · refine ⟨by simp, ?_⟩
    have := heap_alloc_new (w.alloc (.cells #[a0, a1, a2, a3, a4, a5] 26)) (.cells #[b0, b1, b2, b3, b4, b5] 26)
    simpa using this
  · exact ⟨by simp; omega, (Below.heap_alloc _ _ _ (by simp)).trans (heap_alloc_new w _)⟩
end Go.Proofs.YtcgkoogdgagddaaDoor
