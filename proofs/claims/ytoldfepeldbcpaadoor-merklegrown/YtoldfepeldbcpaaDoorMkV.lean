/- A digest ahead of others; what a tree's growth is. -/
import Derived.Test.YtoldfepeldbcpaaDoorMkN
import Derived.Test.YtoldfepeldbcpaaDoorShelfI
namespace Go.Proofs.YtoldfepeldbcpaaDoor
open Go.RowKit
attribute [local go_sem ↓] Go.wp_at_zero Go.wp_at_succ
theorem size_zeros (n : Nat) : (Builtin.zeroCells (Value.string ⟨#[]⟩).cells n).size = n := by
  simp [Builtin.zeroCells, Value.cells]
theorem setCells_drew (b : Nat) : ∀ (vs : List Value) (o : Nat) (W : World), W.drew.setCells b o vs = (W.setCells b o vs).drew
  | [], _, _ => rfl
  | v :: r, o, W => by rw [World.setCells, World.setCells]; exact setCells_drew b r (o + 1) (W.setCell ⟨b, o, none⟩ v)
/-- what stands in a block into which a row and, ahead of it, one text were stored -/
theorem stored_sl {w : World} {g : Nat} {x : List UInt8} {l : List (List UInt8)} (hs : ∀ j, j < l.length + 1 → (w.cell? ⟨g, j, none⟩).isSome = true) :
    ((∀ k y, (x :: l)[k]? = some y → ((w.setCells g 0 [encS x]).setCells g 1 (scs l)).cell? ⟨g, 0 + k, none⟩ = some (encS y)) ∧
     (∀ k y, (x :: l)[k]? = some y → ((w.setCells g 1 (scs l)).setCells g 0 [encS x]).cell? ⟨g, 0 + k, none⟩ = some (encS y))) := by
  have hl := scs_length l
  refine ⟨fun k y hk => ?_, fun k y hk => ?_⟩
  · rw [Nat.zero_add]
    cases k with
    | zero =>
      simp at hk; subst hk
      rw [World.cell?_setCells_out g _ _ _ ⟨g, 0, none⟩ (fun _ _ => .inl (by simp))]
      have := World.cell?_setCells_in g [encS x] 0 w (fun j hj => by simp at hj; subst hj; exact hs 0 (by omega)) 0 (by simp)
      simpa using this
    | succ k =>
      have hk' : l[k]? = some y := by simpa using hk
      have hkl := (List.getElem?_eq_some_iff.1 hk').1
      have := World.cell?_setCells_in g (scs l) 1 (w.setCells g 0 [encS x]) (fun j hj => World.isSome_setCells g _ _ _ _ (hs (1 + j) (by omega))) k (by omega)
      rw [show k + 1 = 1 + k by omega, this]
      congr 1
      simp [scs, (List.getElem?_eq_some_iff.1 hk').2]
  · rw [Nat.zero_add]
    cases k with
    | zero =>
      simp at hk; subst hk
      have := World.cell?_setCells_in g [encS x] 0 (w.setCells g 1 (scs l)) (fun j hj => by simp at hj; subst hj; exact World.isSome_setCells g _ _ _ _ (hs 0 (by omega))) 0 (by simp)
      simpa using this
    | succ k =>
      have hk' : l[k]? = some y := by simpa using hk
      have hkl := (List.getElem?_eq_some_iff.1 hk').1
      rw [World.cell?_setCells_out g _ _ _ ⟨g, k + 1, none⟩ (fun _ _ => .inr (by simp))]
      have := World.cell?_setCells_in g (scs l) 1 w (fun j hj => hs (1 + j) (by omega)) k (by omega)
      rw [show k + 1 = 1 + k by omega, this]
      congr 1
      simp [scs, (List.getElem?_eq_some_iff.1 hk').2]
theorem scs_one {l : List (List UInt8)} : ∀ v ∈ scs l, v.oneCell' = true := by
  intro v hv
  simp only [scs, List.mem_map] at hv
  obtain ⟨x, _, rfl⟩ := hv
  rfl
theorem insert_c (base : Nat) (g n cap vb : Nat) (x : List UInt8) (l : List (List UInt8)) (hn : l.length = n) (h1 : 1 ≤ n) (h2 : n ≤ 1024) (w : World) (hb : base ≤ w.heap.size) (hO : w.ownsRow base 9 1 (.slice (some ⟨g, 0, none⟩) n cap) n (scs l)) (hV : w.heap[vb]? = some (.cells #[encS x] 9 (0, 0))) (hne : vb ≠ g) :
    Calls Tryd.prog 22 #[.slice (some ⟨g, 0, none⟩) n cap, .int .i64 0, .slice (some ⟨vb, 0, none⟩) 1 1] w fun e w' => ∃ a c, e = .returned (.slice a (n + 1) c) ∧ Sl w' w'.heap.size (.slice a (n + 1) c) (x :: l) ∧ Below base w w' := by
  have hcs : ∀ j v, (scs l)[j]? = some v → w.cell? ⟨g, 0 + j, none⟩ = some v := fun j v hj => by
    have hjl := (List.getElem?_eq_some_iff.1 hj).1
    rw [scs_length] at hjl
    rw [Nat.zero_add, hO.cellAt j (by omega)]; exact hj
  have hvs : ∀ j v, [encS x][j]? = some v → w.cell? ⟨vb, 0 + j, none⟩ = some v := fun j v hj => by
    rw [Nat.zero_add, cell_of_row w _ _ _ 9 (0, 0) hV]; simpa using hj
  have h1v : ∀ v ∈ [encS x], v.oneCell' = true := fun v hv => by simp at hv; subst hv; rfl
  rcases hO.2 with ⟨h, _⟩ | ⟨g', cap', cur, h, hg, hc, hcap, hm, hcs', _⟩
  · cases h
  · injection h with e1 e2 e3
    injection e1 with e1
    injection e1 with e1
    subst e1 e3
    by_cases hroom : cap < n + 1
    · refine (Tryd.slices_Insert_grow g 0 n cap 0 vb 0 1 1 (scs l) [encS x] w (by omega) (by omega) hcap hroom (by omega) (by rw [scs_length]; exact hn) rfl hcs hvs scs_one h1v).mono ?_
      rintro e w' ⟨rfl, rfl⟩
      refine ⟨_, _, rfl, .inr ⟨w.heap.size, 0, _, by rw [List.length_cons, hn], ?_, ?_⟩, ?_⟩
      · rw [size_setCells']; show _ < (World.setCells _ _ _ _).heap.size; rw [size_setCells']; show _ < (World.alloc _ _).heap.size; simp
      · intro k y hk
        show (World.setCells _ _ _ _).cell? _ = _
        rw [setCells_drew, World.cell?_drew]
        refine (stored_sl (w := (w.alloc _).drew) fun j hj => ?_).1 k y hk
        rw [World.cell?_drew, cell_of_row _ _ _ _ 9 (0, 0) (heap_alloc_new w _)]
        simp [size_zeros]
        omega
      · refine below_setCells hb _ _ ?_
        refine Below.drew ?_
        refine below_setCells hb _ _ ?_
        exact ((Below.refl _ _).alloc hb _).drew
    · refine (Tryd.slices_Insert_shift g 0 n cap 0 vb 0 1 1 (scs l) [encS x] w (by omega) (by omega) (by omega) (by unfold maxLen at hm; exact hm) hne (by rw [scs_length]; exact hn) rfl hcs ?_ ?_ hvs scs_one h1v 9 9 1 cur.size (by unfold World.shape?; rw [hV]; rfl) (by unfold World.shape?; rw [hc]) (by omega) (row_free hV _) (row_free hV _)).mono ?_
      · intro j hj
        rw [Nat.zero_add, cell_of_row w _ _ _ 9 (0, 0) hc]
        simp; omega
      · intro j _
        exact row_free hc _
      rintro e w' ⟨rfl, rfl⟩
      refine ⟨_, _, rfl, .inr ⟨g, 0, cap, by rw [List.length_cons, hn], ?_, ?_⟩, ?_⟩
      · rw [size_setCells', size_setCells']; exact (Array.getElem?_eq_some_iff.1 hc).1
      · refine (stored_sl (w := w.drew) fun j hj => ?_).2
        rw [World.cell?_drew, cell_of_row w _ _ _ 9 (0, 0) hc]
        simp; omega
      · exact below_setCells hg _ _ (below_setCells hg _ _ ((Below.refl _ _).drew))
end Go.Proofs.YtoldfepeldbcpaaDoor
