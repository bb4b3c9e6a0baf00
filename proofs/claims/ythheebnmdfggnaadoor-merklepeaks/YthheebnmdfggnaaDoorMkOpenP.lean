/- Peaks handed in, opened. -/
import Derived.Test.YthheebnmdfggnaaDoorMkOpen
import Derived.ChangeSame
namespace Go.Proofs.YthheebnmdfggnaaDoor
open Go.ChangeShapes Go.WideShapes Go.ChangeAt Go.RowKit
theorem cellsP : Tryd.prog.cellsOf 24 = 2 := by kernel_rfl
theorem cellsS : Tryd.prog.cellsOf 22 = 1 := by kernel_rfl
theorem cells3 : Tryd.prog.cellsOf 3 = 1 := by kernel_rfl
set_option maxRecDepth 100000 in
/-- texts in a struct's cell -/
theorem open_slc {H : Type} {enc : TypeId × Value → H} {W : World} {base fuel : Nat} {sp : Nat → Bool} {held : Bool} {v : Value} {x : DataW H × List MemPlace}
    (hf : DataW.trod enc Tryd.prog W base sp held fuel 22 [v] = some x) :
    ∃ a n c l, v = .slice a n c ∧ n ≤ c ∧ l.length ≤ 9223372036854775807 ∧ Sl W W.heap.size (.slice a n c) l := by
  rcases open_strings Tryd.underlying22 Tryd.underlying9 cells9 hf with ⟨hcs, hx⟩ | ⟨a, len, cap, ss, hcs, _, hl, hm, hz', hx, hcell, _⟩
  · simp at hcs
    subst hcs
    exact ⟨none, 0, 0, [], rfl, Nat.le_refl _, by simp, .inl ⟨rfl, none, 0, rfl⟩⟩
  · simp at hcs
    subst hcs
    have hss : len ≤ ss.length := by rw [hz']; split <;> omega
    have hlen : (ss.take len).length = len := by rw [List.length_take]; omega
    unfold maxLen at hm
    by_cases h0 : 0 < ss.length
    · obtain ⟨b, off, spot⟩ := a
      have hspot : spot = none := by simpa [Addr.add] using World.cell?_spot (hcell 0 h0)
      subst hspot
      have hc : ∀ j, j < ss.length → W.cell? ⟨b, off + j, none⟩ = some (.string (ss.getD j ByteArray.empty)) := fun j hj => by rw [← Go.WideShapes.add_plain]; exact hcell j hj
      have hb : b < W.heap.size := by
        have h1 := hc 0 h0
        cases hh : W.heap[b]? with
        | none => simp [World.cell?, hh] at h1
        | some o => exact (Array.getElem?_eq_some_iff.1 hh).1
      refine ⟨_, len, cap, (ss.take len).map (fun s => s.data.toList), rfl, hl, by rw [List.length_map]; omega, .inr ⟨b, off, cap, by rw [List.length_map, hlen], hb, fun k x hk => ?_⟩⟩
      rw [List.getElem?_map, Option.map_eq_some_iff] at hk
      obtain ⟨s, hs, rfl⟩ := hk
      rw [List.getElem?_take] at hs
      split at hs
      · obtain ⟨hkl, e⟩ := List.getElem?_eq_some_iff.1 hs
        rw [hc k hkl, List.getD_eq_getElem?_getD, hs]
        simp [encS, bs_data]
      · cases hs
    · have e : ss = [] := List.eq_nil_of_length_eq_zero (by omega)
      have hl0 : len = 0 := by rw [e] at hss; simpa using hss
      subst hl0
      exact ⟨_, 0, cap, [], rfl, hl, by simp, .inl ⟨rfl, _, _, rfl⟩⟩
theorem array2 {cs : Array Value} (h : cs.size = 2) : ∃ c0 c1, cs = #[c0, c1] := by
  obtain ⟨l⟩ := cs
  match l, h with
  | [c0, c1], _ => exact ⟨c0, c1, rfl⟩
set_option maxRecDepth 100000 in
theorem open_peaks {H : Type} {enc : TypeId × Value → H} {W : World} {r : Reach} {b0 base : Nat} {sp : Nat → Bool} {held : Bool} {v : Value} {d : DataW H} {p : List MemPlace}
    (hv : Value.okWide Tryd.prog W r b0 24 v) (h : DataW.Trod enc Tryd.prog W base sp held 24 v d p) (_hz : ∀ n ∈ d.weights Tryd.prog 24, n ≤ 140737488351232) :
    ∃ (c : Int) (a : Option Addr) (n k : Nat) (l : List (List UInt8)), v = .agg #[.int .i64 c, .slice a n k] ∧ n ≤ k ∧ l.length ≤ 9223372036854775807 ∧ Sl W W.heap.size (.slice a n k) l ∧ True := by
  obtain ⟨cs, rfl, hsz⟩ := okWide_struct Tryd.underlying24 hv
  obtain ⟨c0, c1, rfl⟩ := array2 (hsz.trans cellsP)
  obtain ⟨fuel, hf⟩ := h
  obtain ⟨y0, y1, n, hx, _, h0, h1⟩ := trod_struct2 Tryd.underlying24 hf
  simp only [cellsS, cells3] at h0 h1
  obtain ⟨z, hc0, _, _⟩ := DataW.trod_int Tryd.underlying3 h0
  have e0 : c0 = .int .i64 z := by simpa [Value.cells] using hc0
  obtain ⟨a, k, c, l, e1, hk, hl, hS⟩ := open_slc (v := c1) (x := y1) (by simpa [Value.cells] using h1)
  subst e0 e1
  exact ⟨z, a, k, c, l, rfl, hk, hl, hS, trivial⟩
end Go.Proofs.YthheebnmdfggnaaDoor
