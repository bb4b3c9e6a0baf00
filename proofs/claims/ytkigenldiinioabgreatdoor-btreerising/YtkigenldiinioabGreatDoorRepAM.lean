/- How a value lies in memory, its rows in blocks of a kind (A); what stays of it when those blocks stay; rows into which six or seven cells are put. -/
import Derived.Test.YtkigenldiinioabGreatDoorCheckWM
namespace Go.Proofs.YtkigenldiinioabGreatDoor
open Go.RowKit
open Vl (V)
mutual
def RepA (w : World) (A : Nat → Prop) : V → Value → Prop
  | ⟨k, b, n, s, l, f⟩, v => ∃ (ao : Option Addr) (lc : Nat) (fo : Option Addr) (fc : Nat),
      v = .agg #[.int .u8 (k : Int), .bool b, .int .i64 n, .string s, .slice ao l.length lc, .slice fo f.length fc] ∧
      k < 256 ∧ (-9223372036854775808 ≤ n ∧ n < 9223372036854775808) ∧ s.size ≤ maxLen ∧ l.length ≤ maxLen ∧ f.length ≤ maxLen ∧
      (0 < l.length → ∃ g o, ao = some ⟨g, o, none⟩ ∧ A g ∧ RepLA w A g o l) ∧
      (0 < f.length → ∃ g o, fo = some ⟨g, o, none⟩ ∧ A g ∧ RepFA w A g o f ∧ ∀ r, w.frozen? ⟨g, r, none⟩ = false)
def RepLA (w : World) (A : Nat → Prop) (g : Nat) : Nat → List V → Prop
  | _, [] => True
  | o, x :: r => (∃ c0 c1 c2 c3 c4 c5, Six w g o c0 c1 c2 c3 c4 c5 ∧ RepA w A x (.agg #[c0, c1, c2, c3, c4, c5])) ∧ RepLA w A g (o + 6) r
def RepFA (w : World) (A : Nat → Prop) (g : Nat) : Nat → List (ByteArray × V) → Prop
  | _, [] => True
  | o, (m, x) :: r => (w.cell? ⟨g, o, none⟩ = some (.string m) ∧ m.size ≤ maxLen ∧ ∃ c0 c1 c2 c3 c4 c5, Six w g (o + 1) c0 c1 c2 c3 c4 c5 ∧ RepA w A x (.agg #[c0, c1, c2, c3, c4, c5])) ∧ RepFA w A g (o + 7) r
end
theorem cell_block {w w' : World} {g o : Nat} (h : w'.heap[g]? = w.heap[g]?) : w'.cell? ⟨g, o, none⟩ = w.cell? ⟨g, o, none⟩ := World.cell?_of_block (w := w) (a := ⟨g, o, none⟩) h
theorem Six.block {w w' : World} {g o : Nat} {c0 c1 c2 c3 c4 c5 : Value} (hb : w'.heap[g]? = w.heap[g]?) (h : Six w g o c0 c1 c2 c3 c4 c5) : Six w' g o c0 c1 c2 c3 c4 c5 := by
  obtain ⟨h0, h1, h2, h3, h4, h5⟩ := h
  exact ⟨(cell_block hb).trans h0, (cell_block hb).trans h1, (cell_block hb).trans h2, (cell_block hb).trans h3, (cell_block hb).trans h4, (cell_block hb).trans h5⟩
mutual
/-- what stays where the blocks stay, and wider kinds of blocks -/
theorem repA_stays {w w' : World} {A B : Nat → Prop} (hb : ∀ g, A g → w'.heap[g]? = w.heap[g]?) (hK : ∀ g, A g → B g) : ∀ (t : V) (v : Value), RepA w A t v → RepA w' B t v
  | ⟨k, b, n, s, l, f⟩, v, h => by
    rw [RepA] at h ⊢
    obtain ⟨ao, lc, fo, fc, h1, h2, h3, h4, h5, h6, h7, h8⟩ := h
    refine ⟨ao, lc, fo, fc, h1, h2, h3, h4, h5, h6, fun hp => ?_, fun hp => ?_⟩
    · obtain ⟨g, o, e, hg, hr⟩ := h7 hp
      exact ⟨g, o, e, hK g hg, repLA_stays hb hK (hb g hg) l o hr⟩
    · obtain ⟨g, o, e, hg, hr, hz⟩ := h8 hp
      exact ⟨g, o, e, hK g hg, repFA_stays hb hK (hb g hg) f o hr, fun r => (World.frozen?_of_block (w := w) (a := ⟨g, r, none⟩) (hb g hg)).trans (hz r)⟩
theorem repLA_stays {w w' : World} {A B : Nat → Prop} {g : Nat} (hb : ∀ g, A g → w'.heap[g]? = w.heap[g]?) (hK : ∀ g, A g → B g) (hg : w'.heap[g]? = w.heap[g]?) : ∀ (l : List V) (o : Nat), RepLA w A g o l → RepLA w' B g o l
  | [], _, _ => by rw [RepLA]; trivial
  | x :: r, o, h => by
    rw [RepLA] at h ⊢
    obtain ⟨⟨c0, c1, c2, c3, c4, c5, h1, h2⟩, h3⟩ := h
    exact ⟨⟨c0, c1, c2, c3, c4, c5, h1.block hg, repA_stays hb hK x _ h2⟩, repLA_stays hb hK hg r _ h3⟩
theorem repFA_stays {w w' : World} {A B : Nat → Prop} {g : Nat} (hb : ∀ g, A g → w'.heap[g]? = w.heap[g]?) (hK : ∀ g, A g → B g) (hg : w'.heap[g]? = w.heap[g]?) : ∀ (l : List (ByteArray × V)) (o : Nat), RepFA w A g o l → RepFA w' B g o l
  | [], _, _ => by rw [RepFA]; trivial
  | (m, x) :: r, o, h => by
    rw [RepFA] at h ⊢
    obtain ⟨⟨h0, hm, c0, c1, c2, c3, c4, c5, h1, h2⟩, h3⟩ := h
    exact ⟨⟨(cell_block hg).trans h0, hm, c0, c1, c2, c3, c4, c5, h1.block hg, repA_stays hb hK x _ h2⟩, repFA_stays hb hK hg r _ h3⟩
end
mutual
theorem repA_rep {w : World} {A : Nat → Prop} {H : Nat} (hK : ∀ g, A g → g < H) : ∀ (t : V) (v : Value), RepA w A t v → Rep w H t v
  | ⟨k, b, n, s, l, f⟩, v, h => by
    rw [RepA] at h
    rw [Rep]
    obtain ⟨ao, lc, fo, fc, h1, h2, h3, h4, h5, h6, h7, h8⟩ := h
    refine ⟨ao, lc, fo, fc, h1, h2, h3, h4, h5, h6, fun hp => ?_, fun hp => ?_⟩
    · obtain ⟨g, o, e, hg, hr⟩ := h7 hp
      exact ⟨g, o, e, hK g hg, repLA_rep hK l o hr⟩
    · obtain ⟨g, o, e, hg, hr, _⟩ := h8 hp
      exact ⟨g, o, e, hK g hg, repFA_rep hK f o hr⟩
theorem repLA_rep {w : World} {A : Nat → Prop} {H g : Nat} (hK : ∀ g, A g → g < H) : ∀ (l : List V) (o : Nat), RepLA w A g o l → RepL w H g o l
  | [], _, _ => by rw [RepL]; trivial
  | x :: r, o, h => by
    rw [RepLA] at h
    rw [RepL]
    obtain ⟨⟨c0, c1, c2, c3, c4, c5, h1, h2⟩, h3⟩ := h
    exact ⟨⟨c0, c1, c2, c3, c4, c5, h1, repA_rep hK x _ h2⟩, repLA_rep hK r _ h3⟩
theorem repFA_rep {w : World} {A : Nat → Prop} {H g : Nat} (hK : ∀ g, A g → g < H) : ∀ (l : List (ByteArray × V)) (o : Nat), RepFA w A g o l → RepF w H g o l
  | [], _, _ => by rw [RepF]; trivial
  | (m, x) :: r, o, h => by
    rw [RepFA] at h
    rw [RepF]
    obtain ⟨⟨h0, hm, c0, c1, c2, c3, c4, c5, h1, h2⟩, h3⟩ := h
    exact ⟨⟨h0, hm, c0, c1, c2, c3, c4, c5, h1, repA_rep hK x _ h2⟩, repFA_rep hK r _ h3⟩
end
theorem repV_form {w : World} {H : Nat} {x : V} {v : Value} (h : Rep w H x v) :
    ∃ (k : Nat) (b : Bool) (n : Int) (s : ByteArray) (ao : Option Addr) (ll lc : Nat) (fo : Option Addr) (fl fc : Nat), v = .agg #[.int .u8 (k : Int), .bool b, .int .i64 n, .string s, .slice ao ll lc, .slice fo fl fc] := by
  obtain ⟨k, b, n, s, l, f⟩ := x
  rw [Rep] at h
  obtain ⟨ao, lc, fo, fc, h1, _⟩ := h
  exact ⟨k, b, n, s, ao, l.length, lc, fo, f.length, fc, h1⟩
theorem repLA_mk {w : World} {A : Nat → Prop} {g : Nat} : ∀ (l : List V) (o : Nat), (∀ (j : Nat) (x : V), l[j]? = some x → ∃ c0 c1 c2 c3 c4 c5, Six w g (o + j * 6) c0 c1 c2 c3 c4 c5 ∧ RepA w A x (.agg #[c0, c1, c2, c3, c4, c5])) → RepLA w A g o l
  | [], _, _ => by rw [RepLA]; trivial
  | y :: r, o, h => by
    rw [RepLA]
    refine ⟨by simpa using h 0 y rfl, repLA_mk r (o + 6) fun j x e => ?_⟩
    have := h (j + 1) x (by simpa using e)
    rw [show o + (j + 1) * 6 = o + 6 + j * 6 by omega] at this
    exact this
theorem repFA_mk {w : World} {A : Nat → Prop} {g : Nat} : ∀ (l : List (ByteArray × V)) (o : Nat), (∀ (j : Nat) (m : ByteArray) (x : V), l[j]? = some (m, x) →
    w.cell? ⟨g, o + j * 7, none⟩ = some (.string m) ∧ m.size ≤ maxLen ∧ ∃ c0 c1 c2 c3 c4 c5, Six w g (o + j * 7 + 1) c0 c1 c2 c3 c4 c5 ∧ RepA w A x (.agg #[c0, c1, c2, c3, c4, c5])) → RepFA w A g o l
  | [], _, _ => by rw [RepFA]; trivial
  | (m, y) :: r, o, h => by
    rw [RepFA]
    refine ⟨by simpa using h 0 m y rfl, repFA_mk r (o + 7) fun j m' x e => ?_⟩
    have := h (j + 1) m' x (by simpa using e)
    rw [show o + (j + 1) * 7 = o + 7 + j * 7 by omega] at this
    exact this
theorem repA_form {w : World} {A : Nat → Prop} {x : V} {v : Value} (h : RepA w A x v) :
    ∃ (k : Nat) (b : Bool) (n : Int) (s : ByteArray) (ao : Option Addr) (ll lc : Nat) (fo : Option Addr) (fl fc : Nat), v = .agg #[.int .u8 (k : Int), .bool b, .int .i64 n, .string s, .slice ao ll lc, .slice fo fl fc] := by
  obtain ⟨k, b, n, s, l, f⟩ := x
  rw [RepA] at h
  obtain ⟨ao, lc, fo, fc, h1, _⟩ := h
  exact ⟨k, b, n, s, ao, l.length, lc, fo, f.length, fc, h1⟩
/-- cells put into a row, one behind the other -/
def putAll (C : Array Value) : Nat → List Value → Array Value
  | _, [] => C
  | p, v :: r => putAll (C.setIfInBounds p v) (p + 1) r
theorem putAll_size : ∀ (vs : List Value) (C : Array Value) (p : Nat), (putAll C p vs).size = C.size
  | [], _, _ => rfl
  | v :: r, C, p => by rw [putAll, putAll_size r]; simp
theorem putAll_other : ∀ (vs : List Value) (C : Array Value) (p q : Nat), q < p ∨ p + vs.length ≤ q → (putAll C p vs)[q]? = C[q]?
  | [], _, _, _, _ => rfl
  | v :: r, C, p, q, h => by
    rw [putAll, putAll_other r _ (p + 1) q (by simp only [List.length_cons] at h; omega)]
    rw [Array.getElem?_setIfInBounds_ne (by simp only [List.length_cons] at h; omega)]
theorem putAll_at : ∀ (vs : List Value) (C : Array Value) (p j : Nat) (v : Value), p + vs.length ≤ C.size → vs[j]? = some v → (putAll C p vs)[p + j]? = some v
  | [], _, _, _, _, _, h => by simp at h
  | x :: r, C, p, 0, v, hs, h => by
    simp only [List.getElem?_cons_zero, Option.some.injEq] at h
    subst h
    simp only [List.length_cons] at hs
    rw [putAll, show p + 0 = p from rfl, putAll_other r _ (p + 1) p (by omega), Array.getElem?_setIfInBounds_self_of_lt (by omega)]
  | x :: r, C, p, j + 1, v, hs, h => by
    simp only [List.length_cons] at hs
    rw [putAll, show p + (j + 1) = p + 1 + j by omega]
    exact putAll_at r _ (p + 1) j v (by simp; omega) (by simpa using h)
theorem heap_setCells_put (g : Nat) (t : TypeId) : ∀ (vs : List Value) (p : Nat) (W : World) (C : Array Value), W.heap[g]? = some (.cells C t (0, 0)) → (W.setCells g p vs).heap[g]? = some (.cells (putAll C p vs) t (0, 0))
  | [], _, _, _, h => h
  | v :: r, p, W, C, h => by
    rw [World.setCells, putAll]
    exact heap_setCells_put g t r (p + 1) _ _ (heap_setCell_same W g p _ t v h)
theorem heap_setCells_neV (b k : Nat) (hk : k ≠ b) : ∀ (vs : List Value) (o : Nat) (W : World), (W.setCells b o vs).heap[k]? = W.heap[k]?
  | [], _, _ => rfl
  | v :: r, o, W => by rw [World.setCells, heap_setCells_neV b k hk r]; exact heap_setCell_other _ _ _ _ hk
theorem size_setCellsV' (b : Nat) : ∀ (vs : List Value) (o : Nat) (W : World), (W.setCells b o vs).heap.size = W.heap.size
  | [], _, _ => rfl
  | v :: r, o, W => by rw [World.setCells, size_setCellsV' b r]; simp
theorem below_setCellsV {B b : Nat} (hb : B ≤ b) {A : World} : ∀ (vs : List Value) (o : Nat) {W : World}, Below B A W → Below B A (W.setCells b o vs)
  | [], _, _, h => h
  | v :: r, o, _, h => below_setCellsV hb r (o + 1) (h.setCell (p := ⟨b, o, none⟩) hb v)
theorem row_freeV {W : World} {b : Nat} {C : Array Value} {t : TypeId} (h : W.heap[b]? = some (.cells C t (0, 0))) (j : Nat) : W.frozen? ⟨b, j, none⟩ = false := by
  simp [World.frozen?, h]
end Go.Proofs.YtkigenldiinioabGreatDoor
