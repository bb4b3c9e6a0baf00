/- Several texts, joined: RepA, CloneL -/
import Derived.Test.YtkigenldiinioaaGreatDoorCheckWM
import Derived.Test.YtkigenldiinioaaGreatDoorShelf
/- How a value lies in memory, its rows in blocks of a kind (A); what stays of it when those blocks stay; rows into which six or seven cells are put. -/
namespace Go.Proofs.YtkigenldiinioaaGreatDoor
open Go.RowKit
open Vl (V)
mutual
def RepA (w : World) (A : Nat → Prop) : V → Value → Prop
  | ⟨k, b, n, s, l, f⟩, v => ∃ (ao : Option Addr) (lc : Nat) (fo : Option Addr) (fc : Nat),
      v = .agg #[.int .u8 (k : Int), .bool b, .int .i64 n, .string s, .slice ao l.length lc, .slice fo f.length fc] ∧
      k < 256 ∧ (-9223372036854775808 ≤ n ∧ n < 9223372036854775808) ∧ s.size ≤ maxLen ∧ l.length ≤ maxLen ∧ f.length ≤ maxLen ∧
      (0 < l.length → ∃ g o, ao = some ⟨g, o, none⟩ ∧ A g ∧ RepLA w A g o l ∧ ∀ r, w.frozen? ⟨g, r, none⟩ = false) ∧
      (0 < f.length → ∃ g o, fo = some ⟨g, o, none⟩ ∧ A g ∧ RepFA w A g o f ∧ ∀ r, w.frozen? ⟨g, r, none⟩ = false)
def RepLA (w : World) (A : Nat → Prop) (g : Nat) : Nat → List V → Prop
  | _, [] => True
  | o, x :: r => (∃ c0 c1 c2 c3 c4 c5, Six w g o c0 c1 c2 c3 c4 c5 ∧ RepA w A x (.agg #[c0, c1, c2, c3, c4, c5])) ∧ RepLA w A g (o + 6) r
def RepFA (w : World) (A : Nat → Prop) (g : Nat) : Nat → List (ByteArray × V) → Prop
  | _, [] => True
  | o, (m, x) :: r => (w.cell? ⟨g, o, none⟩ = some (.string m) ∧ m.size ≤ maxLen ∧ ∃ c0 c1 c2 c3 c4 c5, Six w g (o + 1) c0 c1 c2 c3 c4 c5 ∧ RepA w A x (.agg #[c0, c1, c2, c3, c4, c5])) ∧ RepFA w A g (o + 7) r
end
theorem cell_block {w w' : World} {g o : Nat} (h : w'.heap[g]? = w.heap[g]?) : w'.cell? ⟨g, o, none⟩ = w.cell? ⟨g, o, none⟩ := World.cell?_of_block (w := w) (a := ⟨g, o, none⟩) h
theorem Six.block {w w' : World} {g o : Nat} {c0 c1 c2 c3 c4 c5 : Value} (hb : w'.heap[g]? = w.heap[g]?) (h : Six w g o c0 c1 c2 c3 c4 c5) : Six w' g o c0 c1 c2 c3 c4 c5 := by
  obtain ⟨h0, h1, h2, h3, h4, h5⟩ := h
  exact ⟨(cell_block hb).trans h0, (cell_block hb).trans h1, (cell_block hb).trans h2, (cell_block hb).trans h3, (cell_block hb).trans h4, (cell_block hb).trans h5⟩
mutual
/-- what stays where the blocks stay, and wider kinds of blocks -/
theorem repA_stays {w w' : World} {A B : Nat → Prop} (hb : ∀ g, A g → w'.heap[g]? = w.heap[g]?) (hK : ∀ g, A g → B g) : ∀ (t : V) (v : Value), RepA w A t v → RepA w' B t v
  | ⟨k, b, n, s, l, f⟩, v, h => by
    rw [RepA] at h ⊢
    obtain ⟨ao, lc, fo, fc, h1, h2, h3, h4, h5, h6, h7, h8⟩ := h
    refine ⟨ao, lc, fo, fc, h1, h2, h3, h4, h5, h6, fun hp => ?_, fun hp => ?_⟩
    · obtain ⟨g, o, e, hg, hr, hz⟩ := h7 hp
      exact ⟨g, o, e, hK g hg, repLA_stays hb hK (hb g hg) l o hr, fun r => (World.frozen?_of_block (w := w) (a := ⟨g, r, none⟩) (hb g hg)).trans (hz r)⟩
    · obtain ⟨g, o, e, hg, hr, hz⟩ := h8 hp
      exact ⟨g, o, e, hK g hg, repFA_stays hb hK (hb g hg) f o hr, fun r => (World.frozen?_of_block (w := w) (a := ⟨g, r, none⟩) (hb g hg)).trans (hz r)⟩
theorem repLA_stays {w w' : World} {A B : Nat → Prop} {g : Nat} (hb : ∀ g, A g → w'.heap[g]? = w.heap[g]?) (hK : ∀ g, A g → B g) (hg : w'.heap[g]? = w.heap[g]?) : ∀ (l : List V) (o : Nat), RepLA w A g o l → RepLA w' B g o l
  | [], _, _ => by rw [RepLA]; trivial
  | x :: r, o, h => by
    rw [RepLA] at h ⊢
    obtain ⟨⟨c0, c1, c2, c3, c4, c5, h1, h2⟩, h3⟩ := h
    exact ⟨⟨c0, c1, c2, c3, c4, c5, h1.block hg, repA_stays hb hK x _ h2⟩, repLA_stays hb hK hg r _ h3⟩
theorem repFA_stays {w w' : World} {A B : Nat → Prop} {g : Nat} (hb : ∀ g, A g → w'.heap[g]? = w.heap[g]?) (hK : ∀ g, A g → B g) (hg : w'.heap[g]? = w.heap[g]?) : ∀ (l : List (ByteArray × V)) (o : Nat), RepFA w A g o l → RepFA w' B g o l
  | [], _, _ => by rw [RepFA]; trivial
  | (m, x) :: r, o, h => by
    rw [RepFA] at h ⊢
    obtain ⟨⟨h0, hm, c0, c1, c2, c3, c4, c5, h1, h2⟩, h3⟩ := h
    exact ⟨⟨(cell_block hg).trans h0, hm, c0, c1, c2, c3, c4, c5, h1.block hg, repA_stays hb hK x _ h2⟩, repFA_stays hb hK hg r _ h3⟩
end
mutual
theorem repA_rep {w : World} {A : Nat → Prop} {H : Nat} (hK : ∀ g, A g → g < H) : ∀ (t : V) (v : Value), RepA w A t v → Rep w H t v
  | ⟨k, b, n, s, l, f⟩, v, h => by
    rw [RepA] at h
    rw [Rep]
    obtain ⟨ao, lc, fo, fc, h1, h2, h3, h4, h5, h6, h7, h8⟩ := h
    refine ⟨ao, lc, fo, fc, h1, h2, h3, h4, h5, h6, fun hp => ?_, fun hp => ?_⟩
    · obtain ⟨g, o, e, hg, hr, _⟩ := h7 hp
      exact ⟨g, o, e, hK g hg, repLA_rep hK l o hr⟩
    · obtain ⟨g, o, e, hg, hr, _⟩ := h8 hp
      exact ⟨g, o, e, hK g hg, repFA_rep hK f o hr⟩
theorem repLA_rep {w : World} {A : Nat → Prop} {H g : Nat} (hK : ∀ g, A g → g < H) : ∀ (l : List V) (o : Nat), RepLA w A g o l → RepL w H g o l
  | [], _, _ => by rw [RepL]; trivial
  | x :: r, o, h => by
    rw [RepLA] at h
    rw [RepL]
    obtain ⟨⟨c0, c1, c2, c3, c4, c5, h1, h2⟩, h3⟩ := h
    exact ⟨⟨c0, c1, c2, c3, c4, c5, h1, repA_rep hK x _ h2⟩, repLA_rep hK r _ h3⟩
theorem repFA_rep {w : World} {A : Nat → Prop} {H g : Nat} (hK : ∀ g, A g → g < H) : ∀ (l : List (ByteArray × V)) (o : Nat), RepFA w A g o l → RepF w H g o l
  | [], _, _ => by rw [RepF]; trivial
  | (m, x) :: r, o, h => by
    rw [RepFA] at h
    rw [RepF]
    obtain ⟨⟨h0, hm, c0, c1, c2, c3, c4, c5, h1, h2⟩, h3⟩ := h
    exact ⟨⟨h0, hm, c0, c1, c2, c3, c4, c5, h1, repA_rep hK x _ h2⟩, repFA_rep hK r _ h3⟩
end
theorem repV_form {w : World} {H : Nat} {x : V} {v : Value} (h : Rep w H x v) :
    ∃ (k : Nat) (b : Bool) (n : Int) (s : ByteArray) (ao : Option Addr) (ll lc : Nat) (fo : Option Addr) (fl fc : Nat), v = .agg #[.int .u8 (k : Int), .bool b, .int .i64 n, .string s, .slice ao ll lc, .slice fo fl fc] := by
  obtain ⟨k, b, n, s, l, f⟩ := x
  rw [Rep] at h
  obtain ⟨ao, lc, fo, fc, h1, _⟩ := h
  exact ⟨k, b, n, s, ao, l.length, lc, fo, f.length, fc, h1⟩
theorem repLA_at {w : World} {A : Nat → Prop} {g : Nat} : ∀ (l : List V) (o : Nat), RepLA w A g o l → ∀ (j : Nat) (x : V), l[j]? = some x →
    ∃ c0 c1 c2 c3 c4 c5, Six w g (o + j * 6) c0 c1 c2 c3 c4 c5 ∧ RepA w A x (.agg #[c0, c1, c2, c3, c4, c5])
  | [], _, _, j, x, e => by simp at e
  | y :: r, o, h, 0, x, e => by
    rw [RepLA] at h
    simp only [List.getElem?_cons_zero, Option.some.injEq] at e
    subst e
    simpa using h.1
  | y :: r, o, h, j + 1, x, e => by
    rw [RepLA] at h
    have := repLA_at r (o + 6) h.2 j x (by simpa using e)
    rw [show o + 6 + j * 6 = o + (j + 1) * 6 by omega] at this
    exact this
theorem repFA_at {w : World} {A : Nat → Prop} {g : Nat} : ∀ (l : List (ByteArray × V)) (o : Nat), RepFA w A g o l → ∀ (j : Nat) (m : ByteArray) (x : V), l[j]? = some (m, x) →
    w.cell? ⟨g, o + j * 7, none⟩ = some (.string m) ∧ m.size ≤ maxLen ∧ ∃ c0 c1 c2 c3 c4 c5, Six w g (o + j * 7 + 1) c0 c1 c2 c3 c4 c5 ∧ RepA w A x (.agg #[c0, c1, c2, c3, c4, c5])
  | [], _, _, j, m, x, e => by simp at e
  | (m', y) :: r, o, h, 0, m, x, e => by
    rw [RepFA] at h
    simp only [List.getElem?_cons_zero, Option.some.injEq, Prod.mk.injEq] at e
    obtain ⟨rfl, rfl⟩ := e
    simpa using h.1
  | (m', y) :: r, o, h, j + 1, m, x, e => by
    rw [RepFA] at h
    have := repFA_at r (o + 7) h.2 j m x (by simpa using e)
    rw [show o + 7 + j * 7 = o + (j + 1) * 7 by omega] at this
    exact this
theorem repLA_mk {w : World} {A : Nat → Prop} {g : Nat} : ∀ (l : List V) (o : Nat), (∀ (j : Nat) (x : V), l[j]? = some x → ∃ c0 c1 c2 c3 c4 c5, Six w g (o + j * 6) c0 c1 c2 c3 c4 c5 ∧ RepA w A x (.agg #[c0, c1, c2, c3, c4, c5])) → RepLA w A g o l
  | [], _, _ => by rw [RepLA]; trivial
  | y :: r, o, h => by
    rw [RepLA]
    refine ⟨by simpa using h 0 y rfl, repLA_mk r (o + 6) fun j x e => ?_⟩
    have := h (j + 1) x (by simpa using e)
    rw [show o + (j + 1) * 6 = o + 6 + j * 6 by omega] at this
    exact this
theorem repFA_mk {w : World} {A : Nat → Prop} {g : Nat} : ∀ (l : List (ByteArray × V)) (o : Nat), (∀ (j : Nat) (m : ByteArray) (x : V), l[j]? = some (m, x) →
    w.cell? ⟨g, o + j * 7, none⟩ = some (.string m) ∧ m.size ≤ maxLen ∧ ∃ c0 c1 c2 c3 c4 c5, Six w g (o + j * 7 + 1) c0 c1 c2 c3 c4 c5 ∧ RepA w A x (.agg #[c0, c1, c2, c3, c4, c5])) → RepFA w A g o l
  | [], _, _ => by rw [RepFA]; trivial
  | (m, y) :: r, o, h => by
    rw [RepFA]
    refine ⟨by simpa using h 0 m y rfl, repFA_mk r (o + 7) fun j m' x e => ?_⟩
    have := h (j + 1) m' x (by simpa using e)
    rw [show o + (j + 1) * 7 = o + 7 + j * 7 by omega] at this
    exact this
theorem repA_form {w : World} {A : Nat → Prop} {x : V} {v : Value} (h : RepA w A x v) :
    ∃ (k : Nat) (b : Bool) (n : Int) (s : ByteArray) (ao : Option Addr) (ll lc : Nat) (fo : Option Addr) (fl fc : Nat), v = .agg #[.int .u8 (k : Int), .bool b, .int .i64 n, .string s, .slice ao ll lc, .slice fo fl fc] := by
  obtain ⟨k, b, n, s, l, f⟩ := x
  rw [RepA] at h
  obtain ⟨ao, lc, fo, fc, h1, _⟩ := h
  exact ⟨k, b, n, s, ao, l.length, lc, fo, f.length, fc, h1⟩
/-- cells put into a row, one behind the other -/
def putAll (C : Array Value) : Nat → List Value → Array Value
  | _, [] => C
  | p, v :: r => putAll (C.setIfInBounds p v) (p + 1) r
theorem putAll_size : ∀ (vs : List Value) (C : Array Value) (p : Nat), (putAll C p vs).size = C.size
  | [], _, _ => rfl
  | v :: r, C, p => by rw [putAll, putAll_size r]; simp
theorem putAll_other : ∀ (vs : List Value) (C : Array Value) (p q : Nat), q < p ∨ p + vs.length ≤ q → (putAll C p vs)[q]? = C[q]?
  | [], _, _, _, _ => rfl
  | v :: r, C, p, q, h => by
    rw [putAll, putAll_other r _ (p + 1) q (by simp only [List.length_cons] at h; omega)]
    rw [Array.getElem?_setIfInBounds_ne (by simp only [List.length_cons] at h; omega)]
theorem putAll_at : ∀ (vs : List Value) (C : Array Value) (p j : Nat) (v : Value), p + vs.length ≤ C.size → vs[j]? = some v → (putAll C p vs)[p + j]? = some v
  | [], _, _, _, _, _, h => by simp at h
  | x :: r, C, p, 0, v, hs, h => by
    simp only [List.getElem?_cons_zero, Option.some.injEq] at h
    subst h
    simp only [List.length_cons] at hs
    rw [putAll, show p + 0 = p from rfl, putAll_other r _ (p + 1) p (by omega), Array.getElem?_setIfInBounds_self_of_lt (by omega)]
  | x :: r, C, p, j + 1, v, hs, h => by
    simp only [List.length_cons] at hs
    rw [putAll, show p + (j + 1) = p + 1 + j by omega]
    exact putAll_at r _ (p + 1) j v (by simp; omega) (by simpa using h)
theorem heap_setCells_put (g : Nat) (t : TypeId) : ∀ (vs : List Value) (p : Nat) (W : World) (C : Array Value), W.heap[g]? = some (.cells C t (0, 0)) → (W.setCells g p vs).heap[g]? = some (.cells (putAll C p vs) t (0, 0))
  | [], _, _, _, h => h
  | v :: r, p, W, C, h => by
    rw [World.setCells, putAll]
    exact heap_setCells_put g t r (p + 1) _ _ (heap_setCell_same W g p _ t v h)
theorem heap_setCells_neV (b k : Nat) (hk : k ≠ b) : ∀ (vs : List Value) (o : Nat) (W : World), (W.setCells b o vs).heap[k]? = W.heap[k]?
  | [], _, _ => rfl
  | v :: r, o, W => by rw [World.setCells, heap_setCells_neV b k hk r]; exact heap_setCell_other _ _ _ _ hk
theorem size_setCellsV' (b : Nat) : ∀ (vs : List Value) (o : Nat) (W : World), (W.setCells b o vs).heap.size = W.heap.size
  | [], _, _ => rfl
  | v :: r, o, W => by rw [World.setCells, size_setCellsV' b r]; simp
theorem below_setCellsV {B b : Nat} (hb : B ≤ b) {A : World} : ∀ (vs : List Value) (o : Nat) {W : World}, Below B A W → Below B A (W.setCells b o vs)
  | [], _, _, h => h
  | v :: r, o, _, h => below_setCellsV hb r (o + 1) (h.setCell (p := ⟨b, o, none⟩) hb v)
theorem row_freeV {W : World} {b : Nat} {C : Array Value} {t : TypeId} (h : W.heap[b]? = some (.cells C t (0, 0))) (j : Nat) : W.frozen? ⟨b, j, none⟩ = false := by
  simp [World.frozen?, h]
end Go.Proofs.YtkigenldiinioaaGreatDoor
/- cloneList at values, walked: a list in memory of its own, whatever the parts' own clones are. -/
namespace Go.Proofs.YtkigenldiinioaaGreatDoor
open Go.RowKit
open Vl (V)
namespace Vl
mutual
/-- texts and lists that are not too long for a machine -/
def small : V → Prop
  | ⟨_, _, _, s, l, f⟩ => s.size ≤ 140737488351232 ∧ l.length ≤ 1759218604390 ∧ f.length ≤ 1466015503668 ∧ smallL l ∧ smallF f
def smallL : List V → Prop
  | [] => True
  | x :: r => small x ∧ smallL r
def smallF : List (ByteArray × V) → Prop
  | [] => True
  | (m, x) :: r => m.size ≤ 140737488351232 ∧ small x ∧ smallF r
end
theorem smallL_mem : ∀ (l : List V) (x : V), smallL l → x ∈ l → small x
  | [], _, _, h => by cases h
  | y :: r, x, hs, h => by
    rw [smallL] at hs
    cases List.mem_cons.1 h with
    | inl e => rw [e]; exact hs.1
    | inr e => exact smallL_mem r x hs.2 e
theorem smallF_mem : ∀ (l : List (ByteArray × V)) (x : ByteArray × V), smallF l → x ∈ l → x.1.size ≤ 140737488351232 ∧ small x.2
  | [], _, _, h => by cases h
  | (m, y) :: r, x, hs, h => by
    rw [smallF] at hs
    cases List.mem_cons.1 h with
    | inl e => rw [e]; exact ⟨hs.1, hs.2.1⟩
    | inr e => exact smallF_mem r x hs.2.2 e
end Vl
set_option maxHeartbeats 1000000 in
theorem text50 (s : ByteArray) (w : World) (hs : s.size ≤ 140737488351232) : Calls Tryz.prog 94 #[.string s] w fun e w' => e = .returned (.string s) ∧ Below w.heap.size w w' := by
  go_enter Tryz.func94, Tryz.ntmps94
  go_wp2_with (go_at_call 109; refine (Tryz.stringslite_Clone s _ (by omega)).mono ?_; rintro e w' ⟨rfl, hb⟩)
  go_ret
  exact ⟨rfl, hb⟩
theorem info26' : (Tryz.prog.info? 27).map (fun i => (i.zero, i.size, i.bytes)) = some (some (.agg #[.int .u8 0, .bool false, .int .i64 0, .string ⟨#[]⟩, .slice none 0 0, .slice none 0 0]), 6, 80) := by kernel_rfl
theorem info44' : (Tryz.prog.info? 62).map (fun i => (i.zero, i.size, i.bytes)) = some (some (.agg #[.string ⟨#[]⟩, .int .u8 0, .bool false, .int .i64 0, .string ⟨#[]⟩, .slice none 0 0, .slice none 0 0]), 7, 96) := by kernel_rfl
theorem info_parts {e : TypeId} {z : Value} {n b : Nat} (h : (Tryz.prog.info? e).map (fun i => (i.zero, i.size, i.bytes)) = some (some z, n, b)) : ∃ i, Tryz.prog.info? e = some i ∧ i.zero = some z ∧ i.size = n ∧ i.bytes = b := by
  cases hi : Tryz.prog.info? e with
  | none => simp [hi] at h
  | some i =>
    rw [hi] at h
    simp only [Option.map_some, Option.some.injEq, Prod.mk.injEq] at h
    exact ⟨i, rfl, h.1, h.2.1, h.2.2⟩
theorem make23 (n : Nat) (hn : n ≤ 1759218604390) : ∃ M : Array Value, M.size = n * 6 ∧ ∀ u : World, (Instr.makeSlice 24 (.int .i64 (n : Int)) (.int .i64 (n : Int))).run Tryz.prog u = .ok (.slice (some ⟨u.heap.size, 0, none⟩) n n) (u.alloc (.cells M 27)) := by
  obtain ⟨i0, hi, hz0, hz1, hz2⟩ := info_parts info26'
  obtain ⟨z, hz⟩ : ∃ z : Value, z = .agg #[.int .u8 0, .bool false, .int .i64 0, .string ⟨#[]⟩, .slice none 0 0, .slice none 0 0] := ⟨_, rfl⟩
  rw [← hz] at hz0
  refine ⟨madeCells z.cells (n * 6), size_madeCells _ _, fun u => ?_⟩
  have h := run_make (P := Tryz.prog) u 24 27 i0 _ Tryz.underlying24 hi hz0 .i64 .i64 (n : Int) (n : Int) (by omega) (by omega) (by rw [hz2]; omega) (by omega)
  rw [show (n : Int).toNat = n by omega, hz1] at h
  exact h
theorem make24 (n : Nat) (hn : n ≤ 1466015503668) : ∃ M : Array Value, M.size = n * 7 ∧ ∀ u : World, (Instr.makeSlice 25 (.int .i64 (n : Int)) (.int .i64 (n : Int))).run Tryz.prog u = .ok (.slice (some ⟨u.heap.size, 0, none⟩) n n) (u.alloc (.cells M 62)) := by
  obtain ⟨i0, hi, hz0, hz1, hz2⟩ := info_parts info44'
  obtain ⟨z, hz⟩ : ∃ z : Value, z = .agg #[.string ⟨#[]⟩, .int .u8 0, .bool false, .int .i64 0, .string ⟨#[]⟩, .slice none 0 0, .slice none 0 0] := ⟨_, rfl⟩
  rw [← hz] at hz0
  refine ⟨madeCells z.cells (n * 7), size_madeCells _ _, fun u => ?_⟩
  have h := run_make (P := Tryz.prog) u 25 62 i0 _ Tryz.underlying25 hi hz0 .i64 .i64 (n : Int) (n : Int) (by omega) (by omega) (by rw [hz2]; omega) (by omega)
  rw [show (n : Int).toNat = n by omega, hz1] at h
  exact h
/-- the first j parts are cloned -/
def DoneL (wr : World) (G na j : Nat) (l : List V) : Prop := G < wr.heap.size ∧ ∃ C, wr.heap[G]? = some (.cells C 27 (0, 0)) ∧ C.size = na * 6 ∧
  ∀ (i : Nat) (x : V), i < j → l[i]? = some x → ∃ c0 c1 c2 c3 c4 c5, Six wr G (i * 6) c0 c1 c2 c3 c4 c5 ∧ RepA wr (fun g => G < g ∧ g < wr.heap.size) x (.agg #[c0, c1, c2, c3, c4, c5])
theorem DoneL.call {wr w' : World} {G na j : Nat} {l : List V} (h : DoneL wr G na j l) (hb : Below wr.heap.size wr w') : DoneL w' G na j l := by
  obtain ⟨h1, C, h2, h3, h4⟩ := h
  refine ⟨Nat.lt_of_lt_of_le h1 hb.size, C, (hb.block _ h1).trans h2, h3, fun i x hi hx => ?_⟩
  obtain ⟨c0, c1, c2, c3, c4, c5, a1, a2⟩ := h4 i x hi hx
  exact ⟨c0, c1, c2, c3, c4, c5, a1.block (hb.block _ h1), repA_stays (fun g hg => hb.block g hg.2) (fun g hg => ⟨hg.1, Nat.lt_of_lt_of_le hg.2 hb.size⟩) x _ a2⟩
theorem DoneL.put {wr : World} {G na j : Nat} {l : List V} (h : DoneL wr G na j l) (hj : j < na) {x : V} (hx : l[j]? = some x) {A : Nat → Prop} (hA : ∀ g, A g → G < g ∧ g < wr.heap.size) {c0 c1 c2 c3 c4 c5 : Value} (hr : RepA wr A x (.agg #[c0, c1, c2, c3, c4, c5])) :
    DoneL (wr.setCells G (j * 6) [c0, c1, c2, c3, c4, c5]) G na (j + 1) l := by
  obtain ⟨h1, C, h2, h3, h4⟩ := h
  have hrow := heap_setCells_put G 27 [c0, c1, c2, c3, c4, c5] (j * 6) wr C h2
  have hsz : j * 6 + [c0, c1, c2, c3, c4, c5].length ≤ C.size := by rw [h3]; simp only [List.length_cons, List.length_nil]; omega
  refine ⟨by rw [size_setCellsV']; exact h1, _, hrow, by rw [putAll_size]; exact h3, fun i y hi hy => ?_⟩
  by_cases hij : i < j
  · obtain ⟨d0, d1, d2, d3, d4, d5, a1, a2⟩ := h4 i y hij hy
    refine ⟨d0, d1, d2, d3, d4, d5, ?_, repA_stays (fun g hg => heap_setCells_neV G g (by omega) _ _ _) (fun g hg => by rw [size_setCellsV']; exact hg) y _ a2⟩
    obtain ⟨b0, b1, b2, b3, b4, b5⟩ := a1
    have e : ∀ r, r < 6 → (wr.setCells G (j * 6) [c0, c1, c2, c3, c4, c5]).cell? ⟨G, i * 6 + r, none⟩ = wr.cell? ⟨G, i * 6 + r, none⟩ := fun r hr => by
      rw [cell_of_row _ _ _ _ _ _ hrow, cell_of_row _ _ _ _ _ _ h2]
      exact putAll_other _ _ _ _ (by omega)
    exact ⟨(e 0 (by omega)).trans b0, (e 1 (by omega)).trans b1, (e 2 (by omega)).trans b2, (e 3 (by omega)).trans b3, (e 4 (by omega)).trans b4, (e 5 (by omega)).trans b5⟩
  · have hij' : i = j := by omega
    subst hij'
    rw [hx] at hy
    cases hy
    have e : ∀ (r : Nat) (v : Value), [c0, c1, c2, c3, c4, c5][r]? = some v → (wr.setCells G (i * 6) [c0, c1, c2, c3, c4, c5]).cell? ⟨G, i * 6 + r, none⟩ = some v := fun r v hv => by
      rw [cell_of_row _ _ _ _ _ _ hrow]
      exact putAll_at _ _ _ r v hsz hv
    refine ⟨c0, c1, c2, c3, c4, c5, ⟨e 0 _ rfl, e 1 _ rfl, e 2 _ rfl, e 3 _ rfl, e 4 _ rfl, e 5 _ rfl⟩, repA_stays (fun g hg => heap_setCells_neV G g (by have := hA g hg; omega) _ _ _) (fun g hg => by rw [size_setCellsV']; exact hA g hg) x _ hr⟩
theorem DoneL.slot {wr : World} {G na j : Nat} {l : List V} (h : DoneL wr G na j l) (hj : j < na) (r : Nat) (hr : r < 6) : ∃ v, wr.cell? ⟨G, j * 6 + r, none⟩ = some v := by
  obtain ⟨h1, C, h2, h3, h4⟩ := h
  rw [cell_of_row _ _ _ _ _ _ h2]
  exact ⟨C[j * 6 + r]'(by rw [h3]; omega), Array.getElem?_eq_getElem _⟩
set_option maxHeartbeats 4000000 in
set_option maxRecDepth 100000 in
theorem clones51 (l : List V) (hs : l.length ≤ 1759218604390) (ao : Option Addr) (ac : Nat) (w : World) (H : Nat) (hH : H ≤ w.heap.size) (hA : LiesL w H ao l)
    (E : ∀ x ∈ l, ∀ (W : World) (va : Value), H ≤ W.heap.size → Rep W H x va → Calls Tryz.prog 75 #[va] W fun e w' => ∃ v', e = .returned v' ∧ Below W.heap.size W w' ∧ RepA w' (fun g => W.heap.size ≤ g ∧ g < w'.heap.size) x v')
    (hp : 0 < l.length) :
    Calls Tryz.prog 95 #[.slice ao l.length ac, .func (.func 75) #[] #[]] w fun e w' => e = .returned (.slice (some ⟨w.heap.size, 0, none⟩) l.length l.length) ∧ Below w.heap.size w w' ∧ DoneL w' w.heap.size l.length l.length l := by
  have HE : Hid (∀ x ∈ l, ∀ (W : World) (va : Value), H ≤ W.heap.size → Rep W H x va → Calls Tryz.prog 75 #[va] W fun e w' => ∃ v', e = .returned v' ∧ Below W.heap.size W w' ∧ RepA w' (fun g => W.heap.size ≤ g ∧ g < w'.heap.size) x v') := E
  obtain ⟨na, hna⟩ : ∃ n, n = l.length := ⟨_, rfl⟩
  have HNA : Hid (na = l.length) := hna
  have HA : Hid (0 < l.length → ∃ g o, ao = some ⟨g, o, none⟩ ∧ g < H ∧ RepL w H g o l) := hA.2
  rw [← hna] at hs hp ⊢
  obtain ⟨M, hM, hmk⟩ := make23 na hs
  have hz : ((na : Int) == 0) = false := by simp; omega
  clear E hA hna
  go_enter Tryz.func95, Tryz.ntmps95
  go_wp2
  have HD0 : Hid (DoneL (w.alloc (.cells M 27)) w.heap.size na 0 l) := ⟨by simp, M, heap_alloc_new w _, hM, fun i x hi => by omega⟩
  have HB0 : Hid (Below w.heap.size w (w.alloc (.cells M 27))) := below_new _ _
  obtain ⟨w1, hw1⟩ : ∃ w1, w1 = w.alloc (.cells M 27) := ⟨_, rfl⟩
  rw [← hw1] at HD0 HB0 ⊢
  clear hw1 hmk hM
  go_loopw [16] (fun i wr => ∃ j : Nat, j ≤ na ∧ i = .int .i64 j ∧ Below w.heap.size w wr ∧ DoneL wr w.heap.size na j l) (fun i _ => na - (intOf i).toNat)
  case atStart => exact ⟨0, Nat.zero_le _, rfl, HB0.out, HD0.out⟩
  case round =>
    obtain ⟨j, hj, rfl, hb, hd⟩ := hrel
    have HBW : Hid (Below w.heap.size w wr) := hb
    have HD : Hid (DoneL wr w.heap.size na j l) := hd
    by_cases hlt : j < na
    · have ha : j < l.length := by rw [← HNA.out]; omega
      obtain ⟨g, o, rfl, hg, hr⟩ := HA.out (by omega)
      obtain ⟨x, hx⟩ : ∃ x, l[j]? = some x := ⟨_, List.getElem?_eq_getElem ha⟩
      obtain ⟨c0, c1, c2, c3, c4, c5, ⟨d0, d1, d2, d3, d4, d5⟩, hrx⟩ := repL_at l o (repL_stays (hb.mono hH) (Nat.le_refl _) hg l o hr) j x hx
      obtain ⟨xk, xb, xn, xs, xa, xl, xc, ya, yl, yc, rfl, rfl, rfl, rfl, rfl, rfl⟩ := rep_form hrx
      have C34 : Hid (∀ W, Below wr.heap.size wr W → Calls Tryz.prog 75 #[.agg #[.int .u8 (xk : Int), .bool xb, .int .i64 xn, .string xs, .slice xa xl xc, .slice ya yl yc]] W fun e w' => ∃ v', e = .returned v' ∧ Below W.heap.size W w' ∧ RepA w' (fun g => W.heap.size ≤ g ∧ g < w'.heap.size) x v') := fun W hW =>
        HE.out x (List.mem_of_getElem? hx) W _ (by have := hW.size; have := hb.size; omega) (rep_stays (hW.mono (by have := hb.size; omega)) (Nat.le_refl _) x _ hrx)
      have HX : Hid (l[j]? = some x) := hx
      clear hrx hr HA hx hb hd ha
      go_wp2_with fail
      refine (C34.out _ (below_new _ _)).mono ?_
      rintro e w3 ⟨v', rfl, hb3, hr3⟩
      obtain ⟨zk, zb, zn, zs, za, zl, zc, ta, tl, tc, rfl⟩ := repA_form hr3
      have HB3 : Hid (Below wr.heap.size wr w3) := (below_new _ _).trans (hb3.mono (below_new _ _).size)
      have HD3 : Hid (DoneL w3 w.heap.size na j l) := HD.out.call HB3.out
      have HN : Hid (DoneL (w3.setCells w.heap.size (j * 6) [.int .u8 (zk : Int), .bool zb, .int .i64 zn, .string zs, .slice za zl zc, .slice ta tl tc]) w.heap.size na (j + 1) l) :=
        HD3.out.put hlt HX.out (A := fun g => (wr.alloc _).heap.size ≤ g ∧ g < w3.heap.size) (fun g hg => ⟨by have h1 := hg.1; have h2 := HD.out.1; simp at h1; omega, hg.2⟩) hr3
      have HBN : Hid (Below w.heap.size w (w3.setCells w.heap.size (j * 6) [.int .u8 (zk : Int), .bool zb, .int .i64 zn, .string zs, .slice za zl zc, .slice ta tl tc])) := below_setCellsV (Nat.le_refl _) _ _ (HBW.out.trans (HB3.out.mono HBW.out.size))
      obtain ⟨f0, e0⟩ := HD3.out.slot hlt 0 (by omega)
      obtain ⟨f1, e1⟩ := HD3.out.slot hlt 1 (by omega)
      obtain ⟨f2, e2⟩ := HD3.out.slot hlt 2 (by omega)
      obtain ⟨f3, e3⟩ := HD3.out.slot hlt 3 (by omega)
      obtain ⟨f4, e4⟩ := HD3.out.slot hlt 4 (by omega)
      obtain ⟨f5, e5⟩ := HD3.out.slot hlt 5 (by omega)
      rw [Nat.add_zero] at e0
      have fz : ∀ r, w3.frozen? ⟨w.heap.size, r, none⟩ = false := by obtain ⟨_, C, h2, _⟩ := HD3.out; exact row_freeV h2
      have hlt3 : w.heap.size < w3.heap.size := HD3.out.1
      clear hb3 hr3 d0 d1 d2 d3 d4 d5
      go_wp2
      go_roundw
      case rel => exact ⟨j + 1, by omega, by go_num, HBN.out, HN.out⟩
      case measure => simp [intOf]; omega
    · have hj' : j = na := by omega
      subst hj'
      go_wp2
      exact ⟨rfl, _, results_tmp (by rfl) _ _ _, rfl, HBW.out, HD.out⟩
end Go.Proofs.YtkigenldiinioaaGreatDoor
