/- Several texts, joined: CloneW, Clone, BtO -/
import Derived.Test.YtkigenldiinioaaGreatDoorQ11M
import Derived.Test.YtkigenldiinioaaGreatDoorQ08M
import Derived.Laws.ResultCell
/- clone, walked: whatever a value is, its clone is the value in memory of its own. -/
namespace Go.Proofs.YtkigenldiinioaaGreatDoor
open Go.RowKit
open Vl (V)
/-- six cells in a block of their own -/
def Row6 (w : World) (g : Nat) (v0 v1 v2 v3 v4 v5 : Value) : Prop := g < w.heap.size ∧ w.heap[g]? = some (.cells #[v0, v1, v2, v3, v4, v5] 27 (0, 0))
theorem Row6.call {w w' : World} {g : Nat} {v0 v1 v2 v3 v4 v5 : Value} (h : Row6 w g v0 v1 v2 v3 v4 v5) (hb : Below w.heap.size w w') : Row6 w' g v0 v1 v2 v3 v4 v5 :=
  ⟨Nat.lt_of_lt_of_le h.1 hb.size, (hb.block _ h.1).trans h.2⟩
theorem Row6.cells {w : World} {g : Nat} {v0 v1 v2 v3 v4 v5 : Value} (h : Row6 w g v0 v1 v2 v3 v4 v5) : w.cell? ⟨g, 0, none⟩ = some v0 ∧ w.cell? ⟨g, 1, none⟩ = some v1 ∧ w.cell? ⟨g, 2, none⟩ = some v2 ∧ w.cell? ⟨g, 3, none⟩ = some v3 ∧ w.cell? ⟨g, 4, none⟩ = some v4 ∧ w.cell? ⟨g, 5, none⟩ = some v5 := by
  refine ⟨?_, ?_, ?_, ?_, ?_, ?_⟩ <;> (rw [cell_of_row _ _ _ _ _ _ h.2]; rfl)
theorem Row6.free {w : World} {g : Nat} {v0 v1 v2 v3 v4 v5 : Value} (h : Row6 w g v0 v1 v2 v3 v4 v5) (r : Nat) : w.frozen? ⟨g, r, none⟩ = false := row_freeV h.2 r
theorem Row6.other {w : World} {g p o : Nat} {v v0 v1 v2 v3 v4 v5 : Value} (h : Row6 w g v0 v1 v2 v3 v4 v5) (hg : g ≠ p) : Row6 (w.setCell ⟨p, o, none⟩ v) g v0 v1 v2 v3 v4 v5 :=
  ⟨by simp; exact h.1, (heap_setCell_other _ _ _ _ hg).trans h.2⟩
theorem Row6.set3 {w : World} {g : Nat} {v v0 v1 v2 v3 v4 v5 : Value} (h : Row6 w g v0 v1 v2 v3 v4 v5) : Row6 (w.setCell ⟨g, 3, none⟩ v) g v0 v1 v2 v v4 v5 :=
  ⟨by simp; exact h.1, heap_setCell_same w g 3 _ 27 v h.2⟩
theorem Row6.set4 {w : World} {g : Nat} {v v0 v1 v2 v3 v4 v5 : Value} (h : Row6 w g v0 v1 v2 v3 v4 v5) : Row6 (w.setCell ⟨g, 4, none⟩ v) g v0 v1 v2 v3 v v5 :=
  ⟨by simp; exact h.1, heap_setCell_same w g 4 _ 27 v h.2⟩
theorem Row6.set5 {w : World} {g : Nat} {v v0 v1 v2 v3 v4 v5 : Value} (h : Row6 w g v0 v1 v2 v3 v4 v5) : Row6 (w.setCell ⟨g, 5, none⟩ v) g v0 v1 v2 v3 v4 v :=
  ⟨by simp; exact h.1, heap_setCell_same w g 5 _ 27 v h.2⟩
theorem DoneF.agree {w w' : World} {G na j : Nat} {l : List (ByteArray × V)} (h : DoneF w G na j l) (hb : ∀ g, G ≤ g → g < w.heap.size → w'.heap[g]? = w.heap[g]?) (hs : w.heap.size ≤ w'.heap.size) : DoneF w' G na j l := by
  obtain ⟨h1, C, h2, h3, h4⟩ := h
  refine ⟨Nat.lt_of_lt_of_le h1 hs, C, (hb _ (Nat.le_refl _) h1).trans h2, h3, fun i m x hi hx => ?_⟩
  obtain ⟨a0, c0, c1, c2, c3, c4, c5, a1, a2⟩ := h4 i m x hi hx
  exact ⟨(cell_block (hb _ (Nat.le_refl _) h1)).trans a0, c0, c1, c2, c3, c4, c5, a1.block (hb _ (Nat.le_refl _) h1), repA_stays (fun g hg => hb g (by omega) hg.2) (fun g hg => ⟨hg.1, Nat.lt_of_lt_of_le hg.2 hs⟩) x _ a2⟩
/-- a list in blocks of a kind -/
def LiesLA (w : World) (A : Nat → Prop) (ao : Option Addr) (lc : Nat) (l : List V) : Prop := (l = [] ∧ ao = none ∧ lc = 0) ∨ (0 < l.length ∧ ∃ g, ao = some ⟨g, 0, none⟩ ∧ (lc = l.length ∧ ∀ r, w.frozen? ⟨g, r, none⟩ = false) ∧ A g ∧ RepLA w A g 0 l)
theorem LiesLA.stays {w w' : World} {A B : Nat → Prop} {ao : Option Addr} {lc : Nat} {l : List V} (h : LiesLA w A ao lc l) (hb : ∀ g, A g → w'.heap[g]? = w.heap[g]?) (hK : ∀ g, A g → B g) : LiesLA w' B ao lc l := by
  rcases h with h | ⟨h0, g, h1, h2, h3, h4⟩
  · exact Or.inl h
  · exact Or.inr ⟨h0, g, h1, ⟨h2.1, fun r => (World.frozen?_of_block (w := w) (a := ⟨g, r, none⟩) (hb g h3)).trans (h2.2 r)⟩, hK g h3, repLA_stays hb hK (hb g h3) l 0 h4⟩
/-- fields in a block of their own, all that is behind them in later blocks -/
def LiesFA (w : World) (B : Nat) (fo : Option Addr) (fc : Nat) (f : List (ByteArray × V)) : Prop := (f = [] ∧ fo = none ∧ fc = 0) ∨ (0 < f.length ∧ ∃ G, fo = some ⟨G, 0, none⟩ ∧ fc = f.length ∧ B ≤ G ∧ DoneF w G f.length f.length f)
theorem LiesFA.agree {w w' : World} {B : Nat} {fo : Option Addr} {fc : Nat} {f : List (ByteArray × V)} (h : LiesFA w B fo fc f) (hb : ∀ g, B ≤ g → g < w.heap.size → w'.heap[g]? = w.heap[g]?) (hs : w.heap.size ≤ w'.heap.size) : LiesFA w' B fo fc f := by
  rcases h with h | ⟨h0, g, h1, h2, h3, h4⟩
  · exact Or.inl h
  · exact Or.inr ⟨h0, g, h1, h2, h3, h4.agree (fun k hk => hb k (by omega)) hs⟩
/-- a clone: its list in blocks from B up to M, its fields from M on -/
def Cloned (w : World) (B M : Nat) : V → Value → Prop
  | ⟨k, b, n, s, l, f⟩, v => ∃ (ao : Option Addr) (lc : Nat) (fo : Option Addr) (fc : Nat),
      v = .agg #[.int .u8 (k : Int), .bool b, .int .i64 n, .string s, .slice ao l.length lc, .slice fo f.length fc] ∧
      k < 256 ∧ (-9223372036854775808 ≤ n ∧ n < 9223372036854775808) ∧ s.size ≤ maxLen ∧ B ≤ M ∧ M ≤ w.heap.size ∧ LiesLA w (fun g => B ≤ g ∧ g < M) ao lc l ∧ LiesFA w M fo fc f
theorem Cloned.rep {w : World} {B M : Nat} {t : V} {v : Value} (ht : Vl.small t) (h : Cloned w B M t v) : RepA w (fun g => B ≤ g ∧ g < w.heap.size) t v := by
  obtain ⟨k, b, n, s, l, f⟩ := t
  rw [Vl.small] at ht
  obtain ⟨ao, lc, fo, fc, rfl, h1, h2, h3, h4, h5, h6, h7⟩ := h
  rw [RepA]
  refine ⟨ao, lc, fo, fc, rfl, h1, h2, h3, by unfold maxLen; omega, by unfold maxLen; omega, fun hp => ?_, fun hp => ?_⟩
  · rcases h6 with ⟨e, _⟩ | ⟨_, g, e1, e2, e3, e4⟩
    · rw [e] at hp; simp at hp
    · exact ⟨g, 0, e1, ⟨e3.1, by omega⟩, repLA_stays (fun _ _ => rfl) (fun g hg => ⟨hg.1, by omega⟩) rfl l 0 e4, e2.2⟩
  · rcases h7 with ⟨e, _⟩ | ⟨_, g, e1, _, e3, e4⟩
    · rw [e] at hp; simp at hp
    · exact ⟨g, 0, e1, ⟨by omega, e4.1⟩, repFA_stays (fun _ _ => rfl) (fun k hk => ⟨by omega, hk.2⟩) rfl f 0 (e4.lies ht.2.2.2.2), fun r => by obtain ⟨_, C, hC, _⟩ := e4; exact row_freeV hC r⟩
set_option maxHeartbeats 1000000 in
theorem none51 (ao : Option Addr) (ac : Nat) (w : World) : Calls Tryz.prog 95 #[.slice ao 0 ac, .func (.func 75) #[] #[]] w fun e w' => e = .returned (.slice none 0 0) ∧ w' = w := by
  go_enter Tryz.func95, Tryz.ntmps95
  go_wp2
  go_ret
  exact ⟨rfl, rfl⟩
set_option maxHeartbeats 1000000 in
theorem none52 (ao : Option Addr) (ac : Nat) (w : World) : Calls Tryz.prog 96 #[.slice ao 0 ac, .func (.func 97) #[] #[]] w fun e w' => e = .returned (.slice none 0 0) ∧ w' = w := by
  go_enter Tryz.func96, Tryz.ntmps96
  go_wp2
  go_ret
  exact ⟨rfl, rfl⟩
/-- both ways of cloneList in one -/
theorem list51 (l : List V) (hs : l.length ≤ 1759218604390) (ao : Option Addr) (ac : Nat) (w : World) (H : Nat) (hH : H ≤ w.heap.size) (hA : LiesL w H ao l)
    (E : ∀ x ∈ l, ∀ (W : World) (va : Value), H ≤ W.heap.size → Rep W H x va → Calls Tryz.prog 75 #[va] W fun e w' => ∃ v', e = .returned v' ∧ Below W.heap.size W w' ∧ RepA w' (fun g => W.heap.size ≤ g ∧ g < w'.heap.size) x v') :
    Calls Tryz.prog 95 #[.slice ao l.length ac, .func (.func 75) #[] #[]] w fun e w' => ∃ ao' lc', e = .returned (.slice ao' l.length lc') ∧ Below w.heap.size w w' ∧ LiesLA w' (fun g => w.heap.size ≤ g ∧ g < w'.heap.size) ao' lc' l := by
  by_cases hp : 0 < l.length
  · refine (clones51 l hs ao ac w H hH hA E hp).mono ?_
    rintro e w' ⟨rfl, hb, hd⟩
    exact ⟨_, _, rfl, hb, Or.inr ⟨hp, _, rfl, ⟨rfl, by obtain ⟨_, C, hC, _⟩ := hd; exact row_freeV hC⟩, ⟨Nat.le_refl _, hd.1⟩, repLA_stays (fun _ _ => rfl) (fun g hg => ⟨by omega, hg.2⟩) rfl l 0 hd.lies⟩⟩
  · have e0 : l = [] := List.eq_nil_of_length_eq_zero (by omega)
    subst e0
    refine (none51 ao ac w).mono ?_
    rintro e w' ⟨rfl, rfl⟩
    exact ⟨_, _, rfl, Below.refl _ _, Or.inl ⟨rfl, rfl, rfl⟩⟩
theorem list52 (l : List (ByteArray × V)) (hms : Vl.smallF l) (hs : l.length ≤ 1466015503668) (ao : Option Addr) (ac : Nat) (w : World) (H : Nat) (hH : H ≤ w.heap.size) (hA : LiesF w H ao l)
    (E : ∀ x ∈ l, ∀ (W : World) (va : Value), H ≤ W.heap.size → Rep W H x.2 va → Calls Tryz.prog 75 #[va] W fun e w' => ∃ v', e = .returned v' ∧ Below W.heap.size W w' ∧ RepA w' (fun g => W.heap.size ≤ g ∧ g < w'.heap.size) x.2 v') :
    Calls Tryz.prog 96 #[.slice ao l.length ac, .func (.func 97) #[] #[]] w fun e w' => ∃ ao' lc', e = .returned (.slice ao' l.length lc') ∧ Below w.heap.size w w' ∧ LiesFA w' w.heap.size ao' lc' l := by
  by_cases hp : 0 < l.length
  · refine (clones52 l hms hs ao ac w H hH hA E hp).mono ?_
    rintro e w' ⟨rfl, hb, hd⟩
    exact ⟨_, _, rfl, hb, Or.inr ⟨hp, _, rfl, rfl, Nat.le_refl _, hd⟩⟩
  · have e0 : l = [] := List.eq_nil_of_length_eq_zero (by omega)
    subst e0
    refine (none52 ao ac w).mono ?_
    rintro e w' ⟨rfl, rfl⟩
    exact ⟨_, _, rfl, Below.refl _ _, Or.inl ⟨rfl, rfl, rfl⟩⟩
end Go.Proofs.YtkigenldiinioaaGreatDoor
/- clone, walked: whatever a value is, its clone is the value in memory of its own. -/
namespace Go.Proofs.YtkigenldiinioaaGreatDoor
open Go.RowKit
open Vl (V)
/-- the six cells of no value -/
def Z6 (w : World) (g : Nat) : Prop := Row6 w g (.int .u8 0) (.bool false) (.int .i64 0) (.string ⟨#[]⟩) (.slice none 0 0) (.slice none 0 0)
theorem Z6.call {w w' : World} {g : Nat} (h : Z6 w g) (hb : Below w.heap.size w w') : Z6 w' g := Row6.call h hb
theorem Z6.other {w : World} {g : Nat} (h : Z6 w g) (p o : Nat) (v : Value) (hg : g ≠ p) : Z6 (w.setCell ⟨p, o, none⟩ v) g := Row6.other h hg
theorem putAll6 (a0 a1 a2 a3 a4 a5 b0 b1 b2 b3 b4 b5 : Value) : putAll #[a0, a1, a2, a3, a4, a5] 0 [b0, b1, b2, b3, b4, b5] = #[b0, b1, b2, b3, b4, b5] := by
  simp [putAll]
theorem Z6.put {w : World} {g : Nat} (h : Z6 w g) (b0 b1 b2 b3 b4 b5 : Value) : (w.setCells g 0 [b0, b1, b2, b3, b4, b5]).heap[g]? = some (.cells #[b0, b1, b2, b3, b4, b5] 27 (0, 0)) := by
  rw [heap_setCells_put g 27 [b0, b1, b2, b3, b4, b5] 0 w _ h.2, putAll6]
theorem sets6 (W : World) (B : Nat) (v0 v1 v2 v3 v4 v5 : Value) : ((((((W.setCell ⟨B, 0, none⟩ v0).setCell ⟨B, 1, none⟩ v1).setCell ⟨B, 2, none⟩ v2).setCell ⟨B, 3, none⟩ v3).setCell ⟨B, 4, none⟩ v4).setCell ⟨B, 5, none⟩ v5) = W.setCells B 0 [v0, v1, v2, v3, v4, v5] := rfl
set_option maxHeartbeats 8000000 in
set_option maxRecDepth 100000 in
theorem clone34 : ∀ (N : Nat) (t : V), Vl.count t ≤ N → Vl.small t → ∀ (w : World) (H : Nat) (v : Value), H ≤ w.heap.size → Rep w H t v →
    Calls Tryz.prog 75 #[v] w fun e w' => ∃ v' M, e = .returned v' ∧ Below w.heap.size w w' ∧ Cloned w' w.heap.size M t v' := by
  intro N
  induction N with
  | zero => intro t ht; obtain ⟨k, b, n, s, l, f⟩ := t; rw [Vl.count] at ht; omega
  | succ N ih =>
    rintro ⟨k, b, n, s, l, f⟩ ht hsm w H v hH hR
    rw [Rep] at hR
    obtain ⟨ao, lc, fo, fc, rfl, h2, h3, h4, h5, h6, h7, h8⟩ := hR
    have hsm' := hsm
    rw [Vl.small] at hsm'
    obtain ⟨s1, s2, s3, s4, s5⟩ := hsm'
    have E : ∀ x : V, Vl.count x ≤ N → Vl.small x → ∀ (W : World) (va : Value), H ≤ W.heap.size → Rep W H x va → Calls Tryz.prog 75 #[va] W fun e w' => ∃ v', e = .returned v' ∧ Below W.heap.size W w' ∧ RepA w' (fun g => W.heap.size ≤ g ∧ g < w'.heap.size) x v' := fun x hx hxs W va hW hr => by
      refine (ih x hx hxs W H va hW hr).mono ?_
      rintro e w' ⟨v', M, rfl, hb, hc⟩
      exact ⟨v', rfl, hb, hc.rep hxs⟩
    have C51 : Hid (∀ W, Below w.heap.size w W → Calls Tryz.prog 95 #[.slice ao l.length lc, .func (.func 75) #[] #[]] W fun e w' => ∃ ao' lc', e = .returned (.slice ao' l.length lc') ∧ Below W.heap.size W w' ∧ LiesLA w' (fun g => W.heap.size ≤ g ∧ g < w'.heap.size) ao' lc' l) := fun W hW =>
      list51 l s2 ao lc W H (by have := hW.size; omega) (LiesL.stays ⟨h5, h7⟩ (hW.mono hH) (Nat.le_refl _))
        (fun x hx => E x (by have := Vl.count_memL (k := k) (b := b) (n := n) (s := s) (f := f) hx; omega) (Vl.smallL_mem l x s4 hx))
    have C52 : Hid (∀ W, Below w.heap.size w W → Calls Tryz.prog 96 #[.slice fo f.length fc, .func (.func 97) #[] #[]] W fun e w' => ∃ ao' lc', e = .returned (.slice ao' f.length lc') ∧ Below W.heap.size W w' ∧ LiesFA w' W.heap.size ao' lc' f) := fun W hW =>
      list52 f s5 s3 fo fc W H (by have := hW.size; omega) (LiesF.stays ⟨h6, h8⟩ (hW.mono hH) (Nat.le_refl _))
        (fun x hx => E x.2 (by have := Vl.count_memF (k := k) (b := b) (n := n) (s := s) (l := l) hx; omega) (Vl.smallF_mem f x s5 hx).2)
    have HK : Hid (k < 256 ∧ (-9223372036854775808 ≤ n ∧ n < 9223372036854775808) ∧ s.size ≤ maxLen) := ⟨h2, h3, h4⟩
    obtain ⟨ll, hll⟩ : ∃ n, n = l.length := ⟨_, rfl⟩
    obtain ⟨fl, hfl⟩ : ∃ n, n = f.length := ⟨_, rfl⟩
    have HLL : Hid (ll = l.length) := hll
    have HFL : Hid (fl = f.length) := hfl
    rw [← hll] at C51 ⊢
    rw [← hfl] at C52 ⊢
    clear ih ht hsm E h2 h3 h4 h5 h6 h7 h8 s2 s3 s4 s5 hll hfl
    go_enter Tryz.func75, Tryz.ntmps75
    go_wp2_with fail
    obtain ⟨w1, hw1⟩ : ∃ w1, w1 = (w.alloc (.cells #[.int .u8 (k : Int), .bool b, .int .i64 n, .string s, .slice ao ll lc, .slice fo fl fc] 27)).alloc (.cells #[.int .u8 0, .bool false, .int .i64 0, .string ⟨#[]⟩, .slice none 0 0, .slice none 0 0] 27) := ⟨_, rfl⟩
    have HB1 : Hid (Below w.heap.size w w1) := by rw [hw1]; exact below_new2 _ _ _
    have R1 : Hid (Row6 w1 w.heap.size (.int .u8 (k : Int)) (.bool b) (.int .i64 n) (.string s) (.slice ao ll lc) (.slice fo fl fc)) := by
      show Row6 _ _ _ _ _ _ _ _
      rw [hw1]; exact ⟨by simp; omega, (Below.heap_alloc _ _ _ (by simp)).trans (heap_alloc_new w _)⟩
    have S1 : Hid (Z6 w1 (w.heap.size + 1)) := by
      show Z6 _ _
      rw [hw1]; exact ⟨by simp, by have := heap_alloc_new (w.alloc (.cells #[.int .u8 (k : Int), .bool b, .int .i64 n, .string s, .slice ao ll lc, .slice fo fl fc] 27)) (.cells #[.int .u8 0, .bool false, .int .i64 0, .string ⟨#[]⟩, .slice none 0 0, .slice none 0 0] 27); simpa using this⟩
    rw [← hw1]
    clear hw1
    refine (text50 s _ s1).mono ?_
    rintro e w2 ⟨rfl, hb2⟩
    have HB2 : Hid (Below w.heap.size w w2) := HB1.out.trans (hb2.mono HB1.out.size)
    have R2 := R1.out.call hb2
    have S2 : Hid (Z6 w2 (w.heap.size + 1)) := S1.out.call hb2
    obtain ⟨p0, p1, p2, p3, p4, p5⟩ := R2.cells
    have fz := R2.free
    have hlt2 := R2.1
    have R3 : Hid (Row6 (w2.setCell ⟨w.heap.size, 3, none⟩ (.string s)) w.heap.size (.int .u8 (k : Int)) (.bool b) (.int .i64 n) (.string s) (.slice ao ll lc) (.slice fo fl fc)) := R2.set3
    have S3 : Hid (Z6 (w2.setCell ⟨w.heap.size, 3, none⟩ (.string s)) (w.heap.size + 1)) := S2.out.other _ _ _ (by omega)
    have HB3 : Hid (Below w.heap.size w (w2.setCell ⟨w.heap.size, 3, none⟩ (.string s))) := HB2.out.setCell (p := ⟨w.heap.size, 3, none⟩) (Nat.le_refl _) _
    clear hb2 R2
    go_wp2_with fail
    refine (C51.out _ HB3.out).mono ?_
    rintro e w4 ⟨ao', lc', rfl, hb4, hL4⟩
    have R4 := R3.out.call hb4
    have S4 : Hid (Z6 w4 (w.heap.size + 1)) := S3.out.call hb4
    have HB4 : Hid (Below w.heap.size w w4) := HB3.out.trans (hb4.mono HB3.out.size)
    have HL4 : Hid (LiesLA w4 (fun g => w.heap.size + 2 ≤ g ∧ g < w4.heap.size) ao' lc' l) := hL4.stays (fun _ _ => rfl) (fun g hg => ⟨by have h1 := hg.1; have h3 := S3.out.1; omega, hg.2⟩)
    clear hb4 hL4 p0 p1 p2 p3 p4 p5 fz hlt2 R3 S3 HB3
    obtain ⟨p0, p1, p2, p3, p4, p5⟩ := R4.cells
    have fz := R4.free
    have hlt4 := R4.1
    have R5 : Hid (Row6 (w4.setCell ⟨w.heap.size, 4, none⟩ (.slice ao' ll lc')) w.heap.size (.int .u8 (k : Int)) (.bool b) (.int .i64 n) (.string s) (.slice ao' ll lc') (.slice fo fl fc)) := R4.set4
    have S5 : Hid (Z6 (w4.setCell ⟨w.heap.size, 4, none⟩ (.slice ao' ll lc')) (w.heap.size + 1)) := S4.out.other _ _ _ (by omega)
    have HB5 : Hid (Below w.heap.size w (w4.setCell ⟨w.heap.size, 4, none⟩ (.slice ao' ll lc'))) := HB4.out.setCell (p := ⟨w.heap.size, 4, none⟩) (Nat.le_refl _) _
    have HL5 : Hid (LiesLA (w4.setCell ⟨w.heap.size, 4, none⟩ (.slice ao' ll lc')) (fun g => w.heap.size + 2 ≤ g ∧ g < w4.heap.size) ao' lc' l) := HL4.out.stays (fun g hg => heap_setCell_other _ _ _ _ (by have h1 := hg.1; show g ≠ w.heap.size; omega)) (fun g hg => hg)
    have HZ5 : Hid ((w4.setCell ⟨w.heap.size, 4, none⟩ (.slice ao' ll lc')).heap.size = w4.heap.size) := by show _ = _; simp
    clear R4
    go_wp2_with fail
    refine (C52.out _ HB5.out).mono ?_
    rintro e w6 ⟨fo', fc', rfl, hb6, hF6⟩
    rw [HZ5.out] at hF6
    have R6 := R5.out.call hb6
    have S6 : Hid (Z6 w6 (w.heap.size + 1)) := S5.out.call hb6
    have HB6 : Hid (Below w.heap.size w w6) := HB5.out.trans (hb6.mono HB5.out.size)
    have HM6 : Hid (w.heap.size + 2 ≤ w4.heap.size ∧ w4.heap.size ≤ w6.heap.size) := ⟨S4.out.1, by have := hb6.size; rw [HZ5.out] at this; exact this⟩
    have HL6 : Hid (LiesLA w6 (fun g => w.heap.size + 2 ≤ g ∧ g < w4.heap.size) ao' lc' l) := HL5.out.stays (fun g hg => hb6.block g (by rw [HZ5.out]; exact hg.2)) (fun g hg => hg)
    have HF6 : Hid (LiesFA w6 w4.heap.size fo' fc' f) := hF6
    clear hb6 hF6 p0 p1 p2 p3 p4 p5 fz hlt4 R5 S5 HB5 HL5 HZ5 HL4 S4
    obtain ⟨p0, p1, p2, p3, p4, p5⟩ := R6.cells
    have fz := R6.free
    have hlt6 := R6.1
    have hlt6' := S6.out.1
    have fz' := Row6.free S6.out
    obtain ⟨q0, q1, q2, q3, q4, q5⟩ := Row6.cells S6.out
    have S7 : Z6 (w6.setCell ⟨w.heap.size, 5, none⟩ (.slice fo' fl fc')) (w.heap.size + 1) := S6.out.other _ _ _ (by omega)
    obtain ⟨w8, hw8⟩ : ∃ w8, w8 = (w6.setCell ⟨w.heap.size, 5, none⟩ (.slice fo' fl fc')).setCells (w.heap.size + 1) 0 [.int .u8 (k : Int), .bool b, .int .i64 n, .string s, .slice ao' ll lc', .slice fo' fl fc'] := ⟨_, rfl⟩
    have hst : w8.heap[w.heap.size + 1]? = some (.cells #[.int .u8 (k : Int), .bool b, .int .i64 n, .string s, .slice ao' ll lc', .slice fo' fl fc'] 27 (0, 0)) := by
      rw [hw8]; exact Z6.put S7 _ _ _ _ _ _
    have hoth : ∀ g, w.heap.size + 2 ≤ g → w8.heap[g]? = w6.heap[g]? := fun g hg => by
      rw [hw8, heap_setCells_neV _ g (by omega)]; exact heap_setCell_other _ _ _ _ (by show g ≠ w.heap.size; omega)
    have hsz : w8.heap.size = w6.heap.size := by rw [hw8, size_setCellsV']; simp
    have hbl : Below w.heap.size w w8 := by
      rw [hw8]; exact below_setCellsV (by omega) _ _ (HB6.out.setCell (p := ⟨w.heap.size, 5, none⟩) (Nat.le_refl _) _)
    have hcl : Cloned w8 w.heap.size w4.heap.size ⟨k, b, n, s, l, f⟩ (.agg #[.int .u8 (k : Int), .bool b, .int .i64 n, .string s, .slice ao' ll lc', .slice fo' fl fc']) :=
      ⟨ao', lc', fo', fc', by rw [HLL.out, HFL.out], HK.out.1, HK.out.2.1, HK.out.2.2, by have := HM6.out.1; omega, by rw [hsz]; exact HM6.out.2,
        HL6.out.stays (fun g hg => hoth g hg.1) (fun g hg => ⟨by have h1 := hg.1; omega, hg.2⟩), HF6.out.agree (fun g hg _ => hoth g (by have := HM6.out.1; omega)) (by rw [hsz]; exact Nat.le_refl _)⟩
    have HST : Hid (w8.heap[w.heap.size + 1]? = some (.cells #[.int .u8 (k : Int), .bool b, .int .i64 n, .string s, .slice ao' ll lc', .slice fo' fl fc'] 27 (0, 0))) := hst
    have HBL : Hid (Below w.heap.size w w8) := hbl
    have HCL : Hid (Cloned w8 w.heap.size w4.heap.size ⟨k, b, n, s, l, f⟩ (.agg #[.int .u8 (k : Int), .bool b, .int .i64 n, .string s, .slice ao' ll lc', .slice fo' fl fc'])) := hcl
    have HW8 : Hid (w8 = (w6.setCell ⟨w.heap.size, 5, none⟩ (.slice fo' fl fc')).setCells (w.heap.size + 1) 0 [.int .u8 (k : Int), .bool b, .int .i64 n, .string s, .slice ao' ll lc', .slice fo' fl fc']) := hw8
    clear hst hoth hsz hbl hcl hw8 S7
    go_wp2
    rw [sets6, ← HW8.out]
    exact bodyPost_ret (v := .agg #[.int .u8 (k : Int), .bool b, .int .i64 n, .string s, .slice ao' ll lc', .slice fo' fl fc']) (results_cell_row rfl _ _ (w.heap.size + 1) 27 #[.int .u8 (k : Int), .bool b, .int .i64 n, .string s, .slice ao' ll lc', .slice fo' fl fc'] (0, 0) _ rfl HST.out Tryz.underlying27 rfl (by kernel_rfl)) rfl ⟨_, _, rfl, HBL.out, HCL.out⟩
end Go.Proofs.YtkigenldiinioaaGreatDoor
/- A value in memory of its own; where a number lies among an entry's: walked. -/
namespace Go.Proofs.YtkigenldiinioaaGreatDoor
open Go.RowKit
open Vl (V)
attribute [local go_sem ↓] Go.wp_at_zero Go.wp_at_succ
theorem results_row_tmpB {P : Program} {fn : Func} {p u : Tmp} {ty : TypeId} (h : fn.results = #[.cell p ty, .tmp u]) (tmps : Array Value) (w : World) (g : Nat) (t : TypeId) (cs : Array Value) (fr : Nat × Nat) (d : TypeDesc)
    (hp : tmps.getD p undef = .pointer (some ⟨g, 0, none⟩)) (hg : w.heap[g]? = some (.cells cs t fr))
    (hu : P.underlying ty = some d) (hd : (match d with | .struct _ | .array _ _ => true | _ => false) = true) (hi : (P.info? ty).map (·.size) = some cs.size) :
    (results fn tmps).run P w = .ok (.tuple #[.agg cs, tmps.getD u undef]) w := by
  rw [results_cell_tmp h, hp]
  simp [asAddr, run_loadVar_row w g t ty cs fr d hg hu hd hi]
set_option maxHeartbeats 4000000 in
set_option maxRecDepth 100000 in
theorem getNil_c (x : V) (hs : Vl.small x) (w : World) (H : Nat) (v : Value) (hH : H ≤ w.heap.size) (hR : Rep w H x v) :
    Calls Tryz.prog 56 #[v, .slice none 0 0] w fun e w' => ∃ v', e = .returned (.tuple #[v', .bool true]) ∧ Below w.heap.size w w' ∧ RepA w' (fun g => w.heap.size ≤ g ∧ g < w'.heap.size) x v' := by
  obtain ⟨d0, d1, d2, d3, d4, d5, rfl⟩ := repV_box hR
  obtain ⟨w1, hw1⟩ : ∃ w1, w1 = (w.alloc (.cells #[d0, d1, d2, d3, d4, d5] 27)).alloc (.cells #[.int .u8 0, .bool false, .int .i64 0, .string ⟨#[]⟩, .slice none 0 0, .slice none 0 0] 27) := ⟨_, rfl⟩
  have hb1 : Below w.heap.size w w1 := by rw [hw1]; exact below_new2 _ _ _
  have hr1 : Row6 w1 w.heap.size d0 d1 d2 d3 d4 d5 := by
    rw [hw1]; exact ⟨by simp; omega, (Below.heap_alloc _ _ _ (by simp)).trans (heap_alloc_new w _)⟩
  have hz1 : Z6 w1 (w.heap.size + 1) := by
    rw [hw1]; exact ⟨by simp, by have := heap_alloc_new (w.alloc (.cells #[d0, d1, d2, d3, d4, d5] 27)) (.cells #[.int .u8 0, .bool false, .int .i64 0, .string ⟨#[]⟩, .slice none 0 0, .slice none 0 0] 27); simpa using this⟩
  have C34 : Hid (Calls Tryz.prog 75 #[.agg #[d0, d1, d2, d3, d4, d5]] w1 fun e w' => ∃ v', e = .returned v' ∧ Below w1.heap.size w1 w' ∧ RepA w' (fun g => w1.heap.size ≤ g ∧ g < w'.heap.size) x v') :=
    (clone34 _ x (Nat.le_refl _) hs w1 H _ (by have := hb1.size; omega) (rep_stays (hb1.mono hH) (Nat.le_refl _) _ _ hR)).mono fun e w' h => by
      obtain ⟨v', M, rfl, hb, hc⟩ := h
      exact ⟨v', rfl, hb, hc.rep hs⟩
  have HZB : Hid (Z6 w1 (w.heap.size + 1) ∧ Below w.heap.size w w1) := ⟨hz1, hb1⟩
  obtain ⟨p0, p1, p2, p3, p4, p5⟩ := hr1.cells
  have HW1 : Hid (w1 = (w.alloc (.cells #[d0, d1, d2, d3, d4, d5] 27)).alloc (.cells #[.int .u8 0, .bool false, .int .i64 0, .string ⟨#[]⟩, .slice none 0 0, .slice none 0 0] 27)) := hw1
  clear hb1 hr1 hz1 hR hs hw1 hH
  go_enter Tryz.func56, Tryz.ntmps56
  go_wp2
  rw [← HW1.out]
  go_loopw [12] (fun i wr => i = .int .i64 0 ∧ wr = w1) (fun _ _ => 0)
  case atStart => exact ⟨rfl, rfl⟩
  case round =>
    obtain ⟨rfl, rfl⟩ := hrel
    clear HW1
    go_wp2_with fail
    refine C34.out.mono ?_
    rintro e w2 ⟨v', rfl, hb2, hr2⟩
    obtain ⟨k3, b3, n3, s3, a3, l3, e3, a4, l4, e4, hv'⟩ := repA_form hr2
    subst hv'
    have Z2 := HZB.out.1.call hb2
    obtain ⟨q0, q1, q2, q3, q4, q5⟩ := Row6.cells Z2
    have fz := Row6.free Z2
    have lt2 := Z2.1
    obtain ⟨w3, hw3⟩ : ∃ w3, w3 = w2.setCells (w.heap.size + 1) 0 [.int .u8 (k3 : Int), .bool b3, .int .i64 n3, .string s3, .slice a3 l3 e3, .slice a4 l4 e4] := ⟨_, rfl⟩
    have HE : Hid (w3.heap[w.heap.size + 1]? = some (.cells #[.int .u8 (k3 : Int), .bool b3, .int .i64 n3, .string s3, .slice a3 l3 e3, .slice a4 l4 e4] 27 (0, 0)) ∧ Below w.heap.size w w3 ∧ RepA w3 (fun g => w.heap.size ≤ g ∧ g < w3.heap.size) x (.agg #[.int .u8 (k3 : Int), .bool b3, .int .i64 n3, .string s3, .slice a3 l3 e3, .slice a4 l4 e4])) := by
      have hsz : w3.heap.size = w2.heap.size := by rw [hw3, size_setCellsV']
      refine ⟨by rw [hw3]; exact Z2.put _ _ _ _ _ _, by rw [hw3]; exact below_setCellsV (by omega) _ _ (HZB.out.2.trans (hb2.mono HZB.out.2.size)), repA_stays (fun g hg => ?_) (fun g hg => ⟨by have h1 := hg.1; have h2 := HZB.out.2.size; omega, by rw [hsz]; exact hg.2⟩) x _ hr2⟩
      rw [hw3]
      exact heap_setCells_neV _ g (by have h1 := hg.1; have h2 := HZB.out.1.1; omega) _ _ _
    have HW3 : Hid (w3 = w2.setCells (w.heap.size + 1) 0 [.int .u8 (k3 : Int), .bool b3, .int .i64 n3, .string s3, .slice a3 l3 e3, .slice a4 l4 e4]) := hw3
    clear hb2 hr2 Z2 p0 p1 p2 p3 p4 p5 hw3
    go_wp2
    rw [sets6, ← HW3.out]
    exact bodyPost_ret (v := .tuple #[.agg #[.int .u8 (k3 : Int), .bool b3, .int .i64 n3, .string s3, .slice a3 l3 e3, .slice a4 l4 e4], .bool true]) ((results_row_tmpB (fn := Tryz.f56) (p := 4) (u := 5) (ty := 27) (by rfl) _ _ (w.heap.size + 1) 27 _ (0, 0) _ (by rfl) HE.out.1 Tryz.underlying27 rfl (by kernel_rfl)).trans (by rfl)) rfl ⟨_, rfl, HE.out.2⟩
set_option maxHeartbeats 4000000 in
set_option maxRecDepth 100000 in
theorem own_c (x : V) (hs : Vl.small x) (w : World) (H : Nat) (v : Value) (hH : H ≤ w.heap.size) (hR : Rep w H x v) :
    Calls Tryz.prog 32 #[v] w fun e w' => ∃ v', e = .returned v' ∧ Below w.heap.size w w' ∧ RepA w' (fun g => w.heap.size ≤ g ∧ g < w'.heap.size) x v' := by
  obtain ⟨d0, d1, d2, d3, d4, d5, rfl⟩ := repV_box hR
  obtain ⟨w1, hw1⟩ : ∃ w1, w1 = (w.alloc (.cells #[d0, d1, d2, d3, d4, d5] 27)).alloc (.cells #[.int .u8 0, .bool false, .int .i64 0, .string ⟨#[]⟩, .slice none 0 0, .slice none 0 0] 27) := ⟨_, rfl⟩
  have hb1 : Below w.heap.size w w1 := by rw [hw1]; exact below_new2 _ _ _
  have hr1 : Row6 w1 w.heap.size d0 d1 d2 d3 d4 d5 := by
    rw [hw1]; exact ⟨by simp; omega, (Below.heap_alloc _ _ _ (by simp)).trans (heap_alloc_new w _)⟩
  have hz1 : Z6 w1 (w.heap.size + 1) := by
    rw [hw1]; exact ⟨by simp, by have := heap_alloc_new (w.alloc (.cells #[d0, d1, d2, d3, d4, d5] 27)) (.cells #[.int .u8 0, .bool false, .int .i64 0, .string ⟨#[]⟩, .slice none 0 0, .slice none 0 0] 27); simpa using this⟩
  have C : Hid (Calls Tryz.prog 56 #[.agg #[d0, d1, d2, d3, d4, d5], .slice none 0 0] w1 fun e w' => ∃ v', e = .returned (.tuple #[v', .bool true]) ∧ Below w1.heap.size w1 w' ∧ RepA w' (fun g => w1.heap.size ≤ g ∧ g < w'.heap.size) x v') :=
    getNil_c x hs w1 H _ (by have := hb1.size; omega) (rep_stays (hb1.mono hH) (Nat.le_refl _) _ _ hR)
  have HZB : Hid (Z6 w1 (w.heap.size + 1) ∧ Below w.heap.size w w1) := ⟨hz1, hb1⟩
  obtain ⟨p0, p1, p2, p3, p4, p5⟩ := hr1.cells
  have HW1 : Hid (w1 = (w.alloc (.cells #[d0, d1, d2, d3, d4, d5] 27)).alloc (.cells #[.int .u8 0, .bool false, .int .i64 0, .string ⟨#[]⟩, .slice none 0 0, .slice none 0 0] 27)) := hw1
  clear hb1 hr1 hz1 hR hs hw1 hH
  go_enter Tryz.func32, Tryz.ntmps32
  go_upto_region 1 with fail
  rw [← HW1.out]
  clear HW1
  go_wp2_with fail
  refine C.out.mono ?_
  rintro e w2 ⟨v', rfl, hb2, hr2⟩
  obtain ⟨k3, b3, n3, s3, a3, l3, e3, a4, l4, e4, hv'⟩ := repA_form hr2
  subst hv'
  obtain ⟨w3, hw3⟩ : ∃ w3, w3 = w2.alloc (.cells #[.int .u8 (k3 : Int), .bool b3, .int .i64 n3, .string s3, .slice a3 l3 e3, .slice a4 l4 e4] 27) := ⟨_, rfl⟩
  have Z3 : Z6 w3 (w.heap.size + 1) := by rw [hw3]; exact (HZB.out.1.call hb2).call (below_new _ _)
  have hr3 : Row6 w3 w2.heap.size (.int .u8 (k3 : Int)) (.bool b3) (.int .i64 n3) (.string s3) (.slice a3 l3 e3) (.slice a4 l4 e4) := by
    rw [hw3]; exact ⟨by simp, heap_alloc_new w2 _⟩
  obtain ⟨w4, hw4⟩ : ∃ w4, w4 = w3.setCells (w.heap.size + 1) 0 [.int .u8 (k3 : Int), .bool b3, .int .i64 n3, .string s3, .slice a3 l3 e3, .slice a4 l4 e4] := ⟨_, rfl⟩
  have HE : Hid (w4.heap[w.heap.size + 1]? = some (.cells #[.int .u8 (k3 : Int), .bool b3, .int .i64 n3, .string s3, .slice a3 l3 e3, .slice a4 l4 e4] 27 (0, 0)) ∧ Below w.heap.size w w4 ∧ RepA w4 (fun g => w.heap.size ≤ g ∧ g < w4.heap.size) x (.agg #[.int .u8 (k3 : Int), .bool b3, .int .i64 n3, .string s3, .slice a3 l3 e3, .slice a4 l4 e4])) := by
    have hsz : w4.heap.size = w2.heap.size + 1 := by rw [hw4, size_setCellsV', hw3]; simp
    refine ⟨by rw [hw4]; exact Z3.put _ _ _ _ _ _, by rw [hw4, hw3]; exact below_setCellsV (by omega) _ _ ((HZB.out.2.trans (hb2.mono HZB.out.2.size)).alloc (Nat.le_trans HZB.out.2.size hb2.size) _), repA_stays (fun g hg => ?_) (fun g hg => ⟨by have h1 := hg.1; have h2 := HZB.out.2.size; omega, by rw [hsz]; have := hg.2; omega⟩) x _ hr2⟩
    rw [hw4, hw3]
    exact (heap_setCells_neV _ g (by have h1 := hg.1; have h2 := HZB.out.1.1; omega) _ _ _).trans (Below.heap_alloc _ _ _ hg.2)
  have HW3 : Hid (w3 = w2.alloc (.cells #[.int .u8 (k3 : Int), .bool b3, .int .i64 n3, .string s3, .slice a3 l3 e3, .slice a4 l4 e4] 27)) := hw3
  have HW4 : Hid (w4 = w3.setCells (w.heap.size + 1) 0 [.int .u8 (k3 : Int), .bool b3, .int .i64 n3, .string s3, .slice a3 l3 e3, .slice a4 l4 e4]) := hw4
  have HZ3 : Hid (Z6 w3 (w.heap.size + 1) ∧ Row6 w3 w2.heap.size (.int .u8 (k3 : Int)) (.bool b3) (.int .i64 n3) (.string s3) (.slice a3 l3 e3) (.slice a4 l4 e4)) := ⟨Z3, hr3⟩
  clear hb2 hr2 Z3 hr3 p0 p1 p2 p3 p4 p5 hw3 hw4
  go_upto_region 2 with fail
  rw [← HW3.out]
  clear HW3
  obtain ⟨q0, q1, q2, q3, q4, q5⟩ := Row6.cells HZ3.out.1
  have fz := Row6.free HZ3.out.1
  have lt2 := HZ3.out.1.1
  obtain ⟨p0, p1, p2, p3, p4, p5⟩ := HZ3.out.2.cells
  go_wp2
  rw [sets6, ← HW4.out]
  exact bodyPost_ret (v := .agg #[.int .u8 (k3 : Int), .bool b3, .int .i64 n3, .string s3, .slice a3 l3 e3, .slice a4 l4 e4]) (results_cell_row rfl _ _ (w.heap.size + 1) 27 #[.int .u8 (k3 : Int), .bool b3, .int .i64 n3, .string s3, .slice a3 l3 e3, .slice a4 l4 e4] (0, 0) _ rfl HE.out.1 Tryz.underlying27 rfl (by kernel_rfl)) rfl ⟨_, rfl, HE.out.2⟩
end Go.Proofs.YtkigenldiinioaaGreatDoor
