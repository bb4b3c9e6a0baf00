/- clone, walked: whatever a value is, its clone is the value in memory of its own. -/
import Derived.Test.YtkigenldiinioabGreatDoorCloneGM
namespace Go.Proofs.YtkigenldiinioabGreatDoor
open Go.RowKit
open Vl (V)
/-- six cells in a block of their own -/
def Row6 (w : World) (g : Nat) (v0 v1 v2 v3 v4 v5 : Value) : Prop := g < w.heap.size ∧ w.heap[g]? = some (.cells #[v0, v1, v2, v3, v4, v5] 27 (0, 0))
theorem Row6.call {w w' : World} {g : Nat} {v0 v1 v2 v3 v4 v5 : Value} (h : Row6 w g v0 v1 v2 v3 v4 v5) (hb : Below w.heap.size w w') : Row6 w' g v0 v1 v2 v3 v4 v5 :=
  ⟨Nat.lt_of_lt_of_le h.1 hb.size, (hb.block _ h.1).trans h.2⟩
theorem Row6.cells {w : World} {g : Nat} {v0 v1 v2 v3 v4 v5 : Value} (h : Row6 w g v0 v1 v2 v3 v4 v5) : w.cell? ⟨g, 0, none⟩ = some v0 ∧ w.cell? ⟨g, 1, none⟩ = some v1 ∧ w.cell? ⟨g, 2, none⟩ = some v2 ∧ w.cell? ⟨g, 3, none⟩ = some v3 ∧ w.cell? ⟨g, 4, none⟩ = some v4 ∧ w.cell? ⟨g, 5, none⟩ = some v5 := by
  refine ⟨?_, ?_, ?_, ?_, ?_, ?_⟩ <;> (rw [cell_of_row _ _ _ _ _ _ h.2]; rfl)
theorem Row6.free {w : World} {g : Nat} {v0 v1 v2 v3 v4 v5 : Value} (h : Row6 w g v0 v1 v2 v3 v4 v5) (r : Nat) : w.frozen? ⟨g, r, none⟩ = false := row_freeV h.2 r
theorem Row6.other {w : World} {g p o : Nat} {v v0 v1 v2 v3 v4 v5 : Value} (h : Row6 w g v0 v1 v2 v3 v4 v5) (hg : g ≠ p) : Row6 (w.setCell ⟨p, o, none⟩ v) g v0 v1 v2 v3 v4 v5 :=
  ⟨by simp; exact h.1, (heap_setCell_other _ _ _ _ hg).trans h.2⟩
theorem Row6.set3 {w : World} {g : Nat} {v v0 v1 v2 v3 v4 v5 : Value} (h : Row6 w g v0 v1 v2 v3 v4 v5) : Row6 (w.setCell ⟨g, 3, none⟩ v) g v0 v1 v2 v v4 v5 :=
  ⟨by simp; exact h.1, heap_setCell_same w g 3 _ 27 v h.2⟩
theorem Row6.set4 {w : World} {g : Nat} {v v0 v1 v2 v3 v4 v5 : Value} (h : Row6 w g v0 v1 v2 v3 v4 v5) : Row6 (w.setCell ⟨g, 4, none⟩ v) g v0 v1 v2 v3 v v5 :=
  ⟨by simp; exact h.1, heap_setCell_same w g 4 _ 27 v h.2⟩
theorem DoneF.agree {w w' : World} {G na j : Nat} {l : List (ByteArray × V)} (h : DoneF w G na j l) (hb : ∀ g, G ≤ g → g < w.heap.size → w'.heap[g]? = w.heap[g]?) (hs : w.heap.size ≤ w'.heap.size) : DoneF w' G na j l := by
  obtain ⟨h1, C, h2, h3, h4⟩ := h
  refine ⟨Nat.lt_of_lt_of_le h1 hs, C, (hb _ (Nat.le_refl _) h1).trans h2, h3, fun i m x hi hx => ?_⟩
  obtain ⟨a0, c0, c1, c2, c3, c4, c5, a1, a2⟩ := h4 i m x hi hx
  exact ⟨(cell_block (hb _ (Nat.le_refl _) h1)).trans a0, c0, c1, c2, c3, c4, c5, a1.block (hb _ (Nat.le_refl _) h1), repA_stays (fun g hg => hb g (by omega) hg.2) (fun g hg => ⟨hg.1, Nat.lt_of_lt_of_le hg.2 hs⟩) x _ a2⟩
/-- a list in blocks of a kind -/
def LiesLA (w : World) (A : Nat → Prop) (ao : Option Addr) (lc : Nat) (l : List V) : Prop := (l = [] ∧ ao = none ∧ lc = 0) ∨ (0 < l.length ∧ ∃ g, ao = some ⟨g, 0, none⟩ ∧ (lc = l.length ∧ ∀ r, w.frozen? ⟨g, r, none⟩ = false) ∧ A g ∧ RepLA w A g 0 l)
theorem LiesLA.stays {w w' : World} {A B : Nat → Prop} {ao : Option Addr} {lc : Nat} {l : List V} (h : LiesLA w A ao lc l) (hb : ∀ g, A g → w'.heap[g]? = w.heap[g]?) (hK : ∀ g, A g → B g) : LiesLA w' B ao lc l := by
  rcases h with h | ⟨h0, g, h1, h2, h3, h4⟩
  · exact Or.inl h
  · exact Or.inr ⟨h0, g, h1, ⟨h2.1, fun r => (World.frozen?_of_block (w := w) (a := ⟨g, r, none⟩) (hb g h3)).trans (h2.2 r)⟩, hK g h3, repLA_stays hb hK (hb g h3) l 0 h4⟩
/-- fields in a block of their own, all that is behind them in later blocks -/
def LiesFA (w : World) (B : Nat) (fo : Option Addr) (fc : Nat) (f : List (ByteArray × V)) : Prop := (f = [] ∧ fo = none ∧ fc = 0) ∨ (0 < f.length ∧ ∃ G, fo = some ⟨G, 0, none⟩ ∧ fc = f.length ∧ B ≤ G ∧ DoneF w G f.length f.length f)
theorem LiesFA.agree {w w' : World} {B : Nat} {fo : Option Addr} {fc : Nat} {f : List (ByteArray × V)} (h : LiesFA w B fo fc f) (hb : ∀ g, B ≤ g → g < w.heap.size → w'.heap[g]? = w.heap[g]?) (hs : w.heap.size ≤ w'.heap.size) : LiesFA w' B fo fc f := by
  rcases h with h | ⟨h0, g, h1, h2, h3, h4⟩
  · exact Or.inl h
  · exact Or.inr ⟨h0, g, h1, h2, h3, h4.agree (fun k hk => hb k (by omega)) hs⟩
/-- a clone: its list in blocks from B up to M, its fields from M on -/
def Cloned (w : World) (B M : Nat) : V → Value → Prop
  | ⟨k, b, n, s, l, f⟩, v => ∃ (ao : Option Addr) (lc : Nat) (fo : Option Addr) (fc : Nat),
      v = .agg #[.int .u8 (k : Int), .bool b, .int .i64 n, .string s, .slice ao l.length lc, .slice fo f.length fc] ∧
      k < 256 ∧ (-9223372036854775808 ≤ n ∧ n < 9223372036854775808) ∧ s.size ≤ maxLen ∧ B ≤ M ∧ M ≤ w.heap.size ∧ LiesLA w (fun g => B ≤ g ∧ g < M) ao lc l ∧ LiesFA w M fo fc f
theorem Cloned.rep {w : World} {B M : Nat} {t : V} {v : Value} (ht : Vl.small t) (h : Cloned w B M t v) : RepA w (fun g => B ≤ g ∧ g < w.heap.size) t v := by
  obtain ⟨k, b, n, s, l, f⟩ := t
  rw [Vl.small] at ht
  obtain ⟨ao, lc, fo, fc, rfl, h1, h2, h3, h4, h5, h6, h7⟩ := h
  rw [RepA]
  refine ⟨ao, lc, fo, fc, rfl, h1, h2, h3, by unfold maxLen; omega, by unfold maxLen; omega, fun hp => ?_, fun hp => ?_⟩
  · rcases h6 with ⟨e, _⟩ | ⟨_, g, e1, _, e3, e4⟩
    · rw [e] at hp; simp at hp
    · exact ⟨g, 0, e1, ⟨e3.1, by omega⟩, repLA_stays (fun _ _ => rfl) (fun g hg => ⟨hg.1, by omega⟩) rfl l 0 e4⟩
  · rcases h7 with ⟨e, _⟩ | ⟨_, g, e1, _, e3, e4⟩
    · rw [e] at hp; simp at hp
    · exact ⟨g, 0, e1, ⟨by omega, e4.1⟩, repFA_stays (fun _ _ => rfl) (fun k hk => ⟨by omega, hk.2⟩) rfl f 0 (e4.lies ht.2.2.2.2), fun r => by obtain ⟨_, C, hC, _⟩ := e4; exact row_freeV hC r⟩
set_option maxHeartbeats 1000000 in
theorem none51 (ao : Option Addr) (ac : Nat) (w : World) : Calls Tryz.prog 89 #[.slice ao 0 ac, .func (.func 66) #[] #[]] w fun e w' => e = .returned (.slice none 0 0) ∧ w' = w := by
  go_enter Tryz.func89, Tryz.ntmps89
  go_wp2
  go_ret
  exact ⟨rfl, rfl⟩
set_option maxHeartbeats 1000000 in
theorem none52 (ao : Option Addr) (ac : Nat) (w : World) : Calls Tryz.prog 90 #[.slice ao 0 ac, .func (.func 91) #[] #[]] w fun e w' => e = .returned (.slice none 0 0) ∧ w' = w := by
  go_enter Tryz.func90, Tryz.ntmps90
  go_wp2
  go_ret
  exact ⟨rfl, rfl⟩
/-- both ways of cloneList in one -/
theorem list51 (l : List V) (hs : l.length ≤ 1759218604390) (ao : Option Addr) (ac : Nat) (w : World) (H : Nat) (hH : H ≤ w.heap.size) (hA : LiesL w H ao l)
    (E : ∀ x ∈ l, ∀ (W : World) (va : Value), H ≤ W.heap.size → Rep W H x va → Calls Tryz.prog 66 #[va] W fun e w' => ∃ v', e = .returned v' ∧ Below W.heap.size W w' ∧ RepA w' (fun g => W.heap.size ≤ g ∧ g < w'.heap.size) x v') :
    Calls Tryz.prog 89 #[.slice ao l.length ac, .func (.func 66) #[] #[]] w fun e w' => ∃ ao' lc', e = .returned (.slice ao' l.length lc') ∧ Below w.heap.size w w' ∧ LiesLA w' (fun g => w.heap.size ≤ g ∧ g < w'.heap.size) ao' lc' l := by
  by_cases hp : 0 < l.length
  · refine (clones51 l hs ao ac w H hH hA E hp).mono ?_
    rintro e w' ⟨rfl, hb, hd⟩
    exact ⟨_, _, rfl, hb, Or.inr ⟨hp, _, rfl, ⟨rfl, by obtain ⟨_, C, hC, _⟩ := hd; exact row_freeV hC⟩, ⟨Nat.le_refl _, hd.1⟩, repLA_stays (fun _ _ => rfl) (fun g hg => ⟨by omega, hg.2⟩) rfl l 0 hd.lies⟩⟩
  · have e0 : l = [] := List.eq_nil_of_length_eq_zero (by omega)
    subst e0
    refine (none51 ao ac w).mono ?_
    rintro e w' ⟨rfl, rfl⟩
    exact ⟨_, _, rfl, Below.refl _ _, Or.inl ⟨rfl, rfl, rfl⟩⟩
theorem list52 (l : List (ByteArray × V)) (hms : Vl.smallF l) (hs : l.length ≤ 1466015503668) (ao : Option Addr) (ac : Nat) (w : World) (H : Nat) (hH : H ≤ w.heap.size) (hA : LiesF w H ao l)
    (E : ∀ x ∈ l, ∀ (W : World) (va : Value), H ≤ W.heap.size → Rep W H x.2 va → Calls Tryz.prog 66 #[va] W fun e w' => ∃ v', e = .returned v' ∧ Below W.heap.size W w' ∧ RepA w' (fun g => W.heap.size ≤ g ∧ g < w'.heap.size) x.2 v') :
    Calls Tryz.prog 90 #[.slice ao l.length ac, .func (.func 91) #[] #[]] w fun e w' => ∃ ao' lc', e = .returned (.slice ao' l.length lc') ∧ Below w.heap.size w w' ∧ LiesFA w' w.heap.size ao' lc' l := by
  by_cases hp : 0 < l.length
  · refine (clones52 l hms hs ao ac w H hH hA E hp).mono ?_
    rintro e w' ⟨rfl, hb, hd⟩
    exact ⟨_, _, rfl, hb, Or.inr ⟨hp, _, rfl, rfl, Nat.le_refl _, hd⟩⟩
  · have e0 : l = [] := List.eq_nil_of_length_eq_zero (by omega)
    subst e0
    refine (none52 ao ac w).mono ?_
    rintro e w' ⟨rfl, rfl⟩
    exact ⟨_, _, rfl, Below.refl _ _, Or.inl ⟨rfl, rfl, rfl⟩⟩
end Go.Proofs.YtkigenldiinioabGreatDoor
