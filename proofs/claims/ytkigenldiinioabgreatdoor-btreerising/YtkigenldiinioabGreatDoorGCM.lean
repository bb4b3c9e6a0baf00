/- Several texts, joined: BtM, BtF, BtG, BtH -/
import Derived.Test.YtkigenldiinioabGreatDoorGAM
/- Trees of keys as mathematics: how many levels have room for how many, what is laid, where a key lies. -/
namespace Go.Proofs.YtkigenldiinioabGreatDoor
open Vl (V)
namespace Bt
/-- how many keys so many levels have room for -/
def room : Nat → Nat
  | 0 => 0
  | k + 1 => 3 + 4 * room k
/-- on how many levels so many keys find room -/
def fewest (n : Nat) : Nat := if h : n = 0 then 0 else 1 + fewest (n / 4)
theorem fewest_zero : fewest 0 = 0 := by rw [fewest]; rfl
theorem fewest_pos {n : Nat} (h : n ≠ 0) : fewest n = 1 + fewest (n / 4) := by rw [fewest, dif_neg h]
theorem fewest_le : ∀ (k n : Nat), fewest n ≤ k ↔ n ≤ room k
  | 0, n => by
    by_cases h : n = 0
    · subst h; rw [fewest_zero]; simp
    · rw [fewest_pos h, room]; omega
  | k + 1, n => by
    by_cases h : n = 0
    · subst h; rw [fewest_zero]; simp
    · rw [fewest_pos h, room]
      have := fewest_le k (n / 4)
      omega
theorem fewest_mono {m n : Nat} (h : m ≤ n) : fewest m ≤ fewest n := (fewest_le _ _).2 (Nat.le_trans h ((fewest_le _ n).1 (Nat.le_refl _)))
theorem room_mono : ∀ {j k : Nat}, j ≤ k → room j ≤ room k
  | 0, _, _ => Nat.zero_le _
  | j + 1, 0, h => by omega
  | j + 1, k + 1, h => by have := room_mono (j := j) (k := k) (by omega); rw [room, room]; omega
/-- a tree: its node's block, its entries' blocks, what lies below -/
inductive T where
  | nil : T
  | node (g r : Nat) (es : List Nat) (a b c d : T) : T
def weave : List (List Nat) → List Nat → List Nat
  | [], _ => []
  | x :: _, [] => x
  | x :: xs, e :: es => x ++ e :: weave xs es
def flat : T → List Nat
  | .nil => []
  | .node _ _ es a b c d => weave [flat a, flat b, flat c, flat d] es
def levels : T → Nat
  | .nil => 0
  | .node _ _ _ a b c d => max (max (max (max 0 (levels a)) (levels b)) (levels c)) (levels d) + 1
def wf : T → Prop
  | .nil => True
  | .node _ _ es a b c d => 1 ≤ es.length ∧ es.length ≤ 3 ∧ (es.length < 3 → a = .nil ∧ b = .nil ∧ c = .nil ∧ d = .nil) ∧ wf a ∧ wf b ∧ wf c ∧ wf d
/-- what lies below a place -/
def below (a b c d : T) (i : Nat) : T := if i = 0 then a else if i = 1 then b else if i = 2 then c else d
theorem flat_one (g r : Nat) (es : List Nat) (h : es.length < 4) : flat (.node g r es .nil .nil .nil .nil) = es := by
  rw [flat]
  simp only [flat]
  match es, h with
  | [], _ => rfl
  | [e], _ => rfl
  | [e, f], _ => rfl
  | [e, f, x], _ => rfl
theorem flat_three (g r e f h : Nat) (a b c d : T) : flat (.node g r [e, f, h] a b c d) = flat a ++ e :: (flat b ++ f :: (flat c ++ h :: flat d)) := by
  rw [flat]; rfl
/-- how many keys find room on a tree's levels -/
theorem flat_room : ∀ {t : T}, wf t → (flat t).length ≤ room (levels t)
  | .nil, _ => Nat.zero_le _
  | .node g r es a b c d, h => by
    obtain ⟨h1, h2, h3, ha, hb, hc, hd⟩ := h
    by_cases hl : es.length < 3
    · obtain ⟨rfl, rfl, rfl, rfl⟩ := h3 hl
      rw [flat_one _ _ _ (by omega), levels, room]
      omega
    · match es, h2, hl with
      | [e, f, x], _, _ =>
        have ka := Nat.le_trans (flat_room ha) (room_mono (k := max (max (max (max 0 (levels a)) (levels b)) (levels c)) (levels d)) (by omega))
        have kb := Nat.le_trans (flat_room hb) (room_mono (k := max (max (max (max 0 (levels a)) (levels b)) (levels c)) (levels d)) (by omega))
        have kc := Nat.le_trans (flat_room hc) (room_mono (k := max (max (max (max 0 (levels a)) (levels b)) (levels c)) (levels d)) (by omega))
        have kd := Nat.le_trans (flat_room hd) (room_mono (k := max (max (max (max 0 (levels a)) (levels b)) (levels c)) (levels d)) (by omega))
        rw [flat_three, levels, room]
        simp only [List.length_append, List.length_cons]
        omega
      | [], _, hl => simp at hl
      | [_], _, hl => simp at hl
      | [_, _], _, hl => simp at hl
theorem fewest_levels {t : T} (h : wf t) : fewest (flat t).length ≤ levels t := (fewest_le _ _).2 (flat_room h)
/-- the ends of the parts that are laid -/
def upto (n i : Nat) : Nat := (n - 3) * (i + 1) / 4 + i
theorem upto_le {n : Nat} {i : Nat} (hi : i < 4) : upto n i ≤ n - 3 + i := by
  unfold upto
  have : (n - 3) * (i + 1) / 4 ≤ (n - 3) * 4 / 4 := Nat.div_le_div_right (Nat.mul_le_mul (Nat.le_refl _) (by omega))
  omega
theorem upto_last {n : Nat} (h : 3 < n) : upto n 3 = n := by unfold upto; omega
theorem part_first {n : Nat} : upto n 0 ≤ n / 4 := by unfold upto; omega
theorem part_next {n i : Nat} (h : 3 < n) (hi : i < 3) : upto n i + 1 ≤ upto n (i + 1) ∧ upto n (i + 1) - (upto n i + 1) ≤ n / 4 := by
  unfold upto
  rcases (show i = 0 ∨ i = 1 ∨ i = 2 by omega) with rfl | rfl | rfl <;> omega
theorem part_some {n : Nat} (h : 3 < n) : upto n 3 - (upto n 2 + 1) = n / 4 := by unfold upto; omega
/-- keys that rise -/
def Rises (key : Nat → V) (l : List Nat) : Prop := l.Pairwise fun a b => Vl.cmp (key a) (key b) < 0
/-- keys ahead of one -/
def ahead (key : Nat → V) (x : V) (e : Nat) : Bool := decide (Vl.cmp (key e) x < 0)
def spot (key : Nat → V) (x : V) (l : List Nat) : Nat := (l.takeWhile (ahead key x)).length
theorem lt_trans {a b c : V} (h : Vl.cmp a b < 0) (k : Vl.cmp b c < 0) : Vl.cmp a c < 0 := by
  have t := Vl.tri_cmp a b c (by omega) (by omega)
  rcases Int.lt_or_lt_of_ne (a := Vl.cmp a c) (b := 0) (fun e => by have := (t.2 e).1; omega) with h1 | h1
  · exact h1
  · have := t.1; omega
theorem lt_of_lt_of_eq {a b c : V} (h : Vl.cmp a b < 0) (k : Vl.cmp b c = 0) : Vl.cmp a c < 0 := by
  have t := Vl.tri_cmp a b c (by omega) (by omega)
  rcases Int.lt_or_lt_of_ne (a := Vl.cmp a c) (b := 0) (fun e => by have := (t.2 e).1; omega) with h1 | h1
  · exact h1
  · have := t.1; omega
end Bt
end Go.Proofs.YtkigenldiinioabGreatDoor
/- Where a key lies in a tree, as mathematics. -/
namespace Go.Proofs.YtkigenldiinioabGreatDoor
open Vl (V)
namespace Bt
/-- a list that a question cuts in two -/
def Cut {α : Type} (p : α → Bool) (l : List α) (k : Nat) : Prop := k ≤ l.length ∧ ∀ j x, l[j]? = some x → (p x = true ↔ j < k)
theorem cut_while {α : Type} (p : α → Bool) : ∀ {l : List α}, l.Pairwise (fun a b => p b = true → p a = true) → Cut p l (l.takeWhile p).length
  | [], _ => ⟨Nat.le_refl _, fun j x h => by simp at h⟩
  | a :: r, h => by
    obtain ⟨h1, h2⟩ := List.pairwise_cons.1 h
    obtain ⟨k1, k2⟩ := cut_while p h2
    by_cases ha : p a = true
    · rw [List.takeWhile_cons_of_pos ha]
      refine ⟨by simp; omega, fun j x hx => ?_⟩
      cases j with
      | zero => simp at hx; subst hx; simp [ha]
      | succ j =>
        rw [List.getElem?_cons_succ] at hx
        rw [k2 j x hx, List.length_cons]
        omega
    · rw [List.takeWhile_cons_of_neg ha]
      refine ⟨Nat.zero_le _, fun j x hx => ?_⟩
      constructor
      · intro hp
        exfalso
        cases j with
        | zero => simp at hx; subst hx; exact ha hp
        | succ j =>
          rw [List.getElem?_cons_succ] at hx
          exact ha (h1 x (List.mem_of_getElem? hx) hp)
      · intro hj
        simp at hj
theorem Cut.one {α : Type} {p : α → Bool} {l : List α} {j k : Nat} (h : Cut p l j) (h2 : Cut p l k) : j = k := by
  rcases Nat.lt_trichotomy j k with hl | he | hl
  · have hj : j < l.length := Nat.lt_of_lt_of_le hl h2.1
    have h3 := (h2.2 j _ (List.getElem?_eq_getElem hj)).2 hl
    have := (h.2 j _ (List.getElem?_eq_getElem hj)).1 h3
    omega
  · exact he
  · have hj : k < l.length := Nat.lt_of_lt_of_le hl h.1
    have h3 := (h.2 k _ (List.getElem?_eq_getElem hj)).2 hl
    have := (h2.2 k _ (List.getElem?_eq_getElem hj)).1 h3
    omega
theorem spot_cut {key : Nat → V} {x : V} {l : List Nat} (h : Rises key l) : Cut (ahead key x) l (spot key x l) := by
  refine cut_while _ (h.imp fun {a b} hab hb => ?_)
  rw [ahead, decide_eq_true_eq] at hb ⊢
  exact lt_trans hab hb
/-- the entry of a key -/
def at? (key : Nat → V) (x : V) (l : List Nat) : Option Nat := l.find? fun e => decide (Vl.cmp (key e) x = 0)
theorem at_less {key : Nat → V} {x : V} {l : List Nat} (h : ∀ e ∈ l, Vl.cmp (key e) x ≠ 0) : at? key x l = none := by
  rw [at?, List.find?_eq_none]
  intro e he
  simpa using h e he
theorem at_app {key : Nat → V} {x : V} {a b : List Nat} : at? key x (a ++ b) = (at? key x a).or (at? key x b) := by rw [at?, List.find?_append]; rfl
theorem at_hit {key : Nat → V} {x : V} {e : Nat} {b : List Nat} (h : Vl.cmp (key e) x = 0) : at? key x (e :: b) = some e := by rw [at?, List.find?_cons_of_pos (by simpa using h)]
theorem at_miss {key : Nat → V} {x : V} {e : Nat} {b : List Nat} (h : Vl.cmp (key e) x ≠ 0) : at? key x (e :: b) = at? key x b := by rw [at?, List.find?_cons_of_neg (by simpa using h)]; rfl
theorem gt_of {a b x : V} (h : Vl.cmp a b < 0) (k : ¬ Vl.cmp a x < 0) : 0 < Vl.cmp b x := by
  have e1 := Vl.cmp_turn b x
  have e2 := Vl.cmp_turn a x
  rcases Int.lt_or_le 0 (Vl.cmp b x) with h1 | h1
  · exact h1
  · exfalso
    have t := Vl.tri_cmp a b x (by omega) h1
    have h0 : Vl.cmp a x = 0 := by have := t.1; omega
    have := (t.2 h0).1
    omega
/-- one of four -/
def pick {α : Type} (i : Nat) (a b c d : α) : α := if i = 0 then a else if i = 1 then b else if i = 2 then c else d
/-- how the tree looks for it -/
def look (key : Nat → V) (x : V) : T → Option Nat
  | .nil => none
  | .node _ _ es a b c d => match es[spot key x es]? with
    | some e => if Vl.cmp (key e) x = 0 then some e else pick (spot key x es) (look key x a) (look key x b) (look key x c) (look key x d)
    | none => pick (spot key x es) (look key x a) (look key x b) (look key x c) (look key x d)
theorem at_spot {key : Nat → V} {x : V} {l : List Nat} (h : Rises key l) : at? key x l = match l[spot key x l]? with
    | some e => if Vl.cmp (key e) x = 0 then some e else none
    | none => none := by
  obtain ⟨k1, k2⟩ := spot_cut (x := x) h
  obtain ⟨i, hi⟩ : ∃ i, i = spot key x l := ⟨_, rfl⟩
  rw [← hi] at k1 k2 ⊢
  have e : l = l.take i ++ l.drop i := (List.take_append_drop _ _).symm
  have hA : at? key x (l.take i) = none := at_less fun y hy => by
    obtain ⟨j, hj, hjx⟩ := List.getElem_of_mem hy
    rw [List.length_take] at hj
    rw [List.getElem_take] at hjx
    have := (k2 j y (by rw [List.getElem?_eq_getElem (by omega), hjx])).2 (by omega)
    rw [ahead, decide_eq_true_eq] at this
    omega
  rw [e, at_app, hA]
  rw [← e]
  simp only [Option.none_or]
  rcases hd : l[i]? with _ | y
  · rw [List.getElem?_eq_none_iff] at hd
    rw [List.drop_of_length_le hd]; rfl
  · have hlt := (List.getElem?_eq_some_iff.1 hd).1
    have hy := (List.getElem?_eq_some_iff.1 hd).2
    rw [List.drop_eq_getElem_cons hlt, hy]
    by_cases hc : Vl.cmp (key y) x = 0
    · rw [at_hit hc]; simp [hc]
    · rw [at_miss hc]
      simp only [hc, if_false]
      refine at_less fun z hz => ?_
      have hnot : ¬ Vl.cmp (key y) x < 0 := fun hlt2 => by
        have := (k2 i y hd).1 (by rw [ahead, decide_eq_true_eq]; exact hlt2)
        omega
      have hyz : Vl.cmp (key y) (key z) < 0 := by
        have hp : (l.drop i).Pairwise fun a b => Vl.cmp (key a) (key b) < 0 := List.Pairwise.sublist (List.drop_sublist _ _) h
        rw [List.drop_eq_getElem_cons hlt, hy] at hp
        exact (List.pairwise_cons.1 hp).1 z hz
      have := gt_of hyz hnot
      omega
end Bt
end Go.Proofs.YtkigenldiinioabGreatDoor
/- A tree's look for a key finds what its list does. -/
namespace Go.Proofs.YtkigenldiinioabGreatDoor
open Vl (V)
namespace Bt
theorem look_nil {key : Nat → V} {x : V} : look key x .nil = none := rfl
theorem rises_app {key : Nat → V} {a b : List Nat} : Rises key (a ++ b) ↔ Rises key a ∧ Rises key b ∧ ∀ y ∈ a, ∀ z ∈ b, Vl.cmp (key y) (key z) < 0 := List.pairwise_append
theorem rises_cons {key : Nat → V} {e : Nat} {b : List Nat} : Rises key (e :: b) ↔ (∀ z ∈ b, Vl.cmp (key e) (key z) < 0) ∧ Rises key b := List.pairwise_cons
theorem at_cons {key : Nat → V} {x : V} {e : Nat} {b : List Nat} : at? key x (e :: b) = if Vl.cmp (key e) x = 0 then some e else at? key x b := by
  by_cases h : Vl.cmp (key e) x = 0
  · rw [at_hit h, if_pos h]
  · rw [at_miss h, if_neg h]
/-- all of a list are below -/
theorem at_low {key : Nat → V} {x : V} {e : Nat} {l : List Nat} (h : ∀ y ∈ l, Vl.cmp (key y) (key e) < 0) (he : Vl.cmp (key e) x ≤ 0) : at? key x l = none := at_less fun y hy => by
  rcases Int.lt_or_eq_of_le he with h1 | h1
  · have := lt_trans (h y hy) h1; omega
  · have := lt_of_lt_of_eq (h y hy) h1; omega
/-- all of a list are above -/
theorem at_high {key : Nat → V} {x : V} {e : Nat} {l : List Nat} (h : ∀ y ∈ l, Vl.cmp (key e) (key y) < 0) (he : ¬ Vl.cmp (key e) x < 0) : at? key x l = none := at_less fun y hy => by
  have := gt_of (h y hy) he
  omega
theorem spot_three {key : Nat → V} {x : V} (e f h : Nat) : spot key x [e, f, h] = if Vl.cmp (key e) x < 0 then if Vl.cmp (key f) x < 0 then if Vl.cmp (key h) x < 0 then 3 else 2 else 1 else 0 := by
  unfold spot
  by_cases h1 : Vl.cmp (key e) x < 0
  · rw [List.takeWhile_cons_of_pos (by simp [ahead, h1]), if_pos h1]
    by_cases h2 : Vl.cmp (key f) x < 0
    · rw [List.takeWhile_cons_of_pos (by simp [ahead, h2]), if_pos h2]
      by_cases h3 : Vl.cmp (key h) x < 0
      · rw [List.takeWhile_cons_of_pos (by simp [ahead, h3]), if_pos h3]; rfl
      · rw [List.takeWhile_cons_of_neg (by simp [ahead, h3]), if_neg h3]; rfl
    · rw [List.takeWhile_cons_of_neg (by simp [ahead, h2]), if_neg h2]; rfl
  · rw [List.takeWhile_cons_of_neg (by simp [ahead, h1]), if_neg h1]; rfl
theorem look_flat {key : Nat → V} {x : V} : ∀ {t : T}, wf t → Rises key (flat t) → look key x t = at? key x (flat t)
  | .nil, _, _ => rfl
  | .node g r es a b c d, hw, hr => by
    obtain ⟨h1, h2, h3, ha, hb, hc, hd⟩ := hw
    by_cases hl : es.length < 3
    · obtain ⟨rfl, rfl, rfl, rfl⟩ := h3 hl
      rw [flat_one _ _ _ (by omega)] at hr ⊢
      rw [at_spot hr, look]
      have hp : ∀ i, pick i (look key x T.nil) (look key x T.nil) (look key x T.nil) (look key x T.nil) = none := fun i => by
        simp [pick, look_nil]
      rcases es[spot key x es]? with _ | e
      · exact hp _
      · show (if _ then _ else _) = _
        rw [hp]
    · match es, h2, hl, hr with
      | [e, f, h], _, _, hr =>
        rw [flat_three] at hr ⊢
        obtain ⟨ra, r1, m1⟩ := rises_app.1 hr
        obtain ⟨m2, r2⟩ := rises_cons.1 r1
        obtain ⟨rb, r3, m3⟩ := rises_app.1 r2
        obtain ⟨m4, r4⟩ := rises_cons.1 r3
        obtain ⟨rc, r5, m5⟩ := rises_app.1 r4
        obtain ⟨m6, rd⟩ := rises_cons.1 r5
        have ia := look_flat (x := x) ha ra
        have ib := look_flat (x := x) hb rb
        have ic := look_flat (x := x) hc rc
        have id := look_flat (x := x) hd rd
        rw [look, spot_three, ia, ib, ic, id, at_app, at_cons, at_app, at_cons, at_app, at_cons]
        have ae : ∀ y ∈ flat a, Vl.cmp (key y) (key e) < 0 := fun y hy => m1 y hy e (by simp)
        have be : ∀ y ∈ flat b, Vl.cmp (key e) (key y) < 0 := fun y hy => m2 y (by simp [hy])
        have bf : ∀ y ∈ flat b, Vl.cmp (key y) (key f) < 0 := fun y hy => m3 y hy f (by simp)
        have cf : ∀ y ∈ flat c, Vl.cmp (key f) (key y) < 0 := fun y hy => m4 y (by simp [hy])
        have ch : ∀ y ∈ flat c, Vl.cmp (key y) (key h) < 0 := fun y hy => m5 y hy h (by simp)
        have dh : ∀ y ∈ flat d, Vl.cmp (key h) (key y) < 0 := fun y hy => m6 y hy
        have ef : Vl.cmp (key e) (key f) < 0 := m2 f (by simp)
        have fh : Vl.cmp (key f) (key h) < 0 := m4 h (by simp)
        by_cases k1 : Vl.cmp (key e) x < 0
        · have n1 : ¬ Vl.cmp (key e) x = 0 := by omega
          have oa := at_low ae (x := x) (by omega)
          by_cases k2 : Vl.cmp (key f) x < 0
          · have n2 : ¬ Vl.cmp (key f) x = 0 := by omega
            have ob := at_low bf (x := x) (by omega)
            by_cases k3 : Vl.cmp (key h) x < 0
            · have n3 : ¬ Vl.cmp (key h) x = 0 := by omega
              have oc := at_low ch (x := x) (by omega)
              simp [k1, k2, k3, n1, n2, n3, oa, ob, oc, pick]
            · have od := at_high dh k3
              by_cases n3 : Vl.cmp (key h) x = 0
              · have oc := at_low ch (x := x) (by omega)
                simp [k1, k2, n1, n2, n3, oa, ob, oc]
              · simp [k1, k2, k3, n1, n2, n3, oa, ob, od, pick]
          · have p3 := gt_of fh k2
            have n3 : ¬ Vl.cmp (key h) x = 0 := by omega
            have oc := at_high cf k2
            have od := at_high dh (x := x) (by omega)
            by_cases n2 : Vl.cmp (key f) x = 0
            · have ob := at_low bf (x := x) (by omega)
              simp [k1, n1, n2, oa, ob]
            · simp [k1, k2, n1, n2, n3, oa, oc, od, pick]
        · have p2 := gt_of ef k1
          have n2 : ¬ Vl.cmp (key f) x = 0 := by omega
          have p3 := gt_of fh (x := x) (by omega)
          have n3 : ¬ Vl.cmp (key h) x = 0 := by omega
          have ob := at_high be k1
          have oc := at_high cf (x := x) (by omega)
          have od := at_high dh (x := x) (by omega)
          by_cases n1 : Vl.cmp (key e) x = 0
          · have oa := at_low ae (x := x) (by omega)
            simp [n1, oa]
          · simp [k1, n1, n2, n3, ob, oc, od, pick]
      | [], _, hl, _ => simp at hl
      | [_], _, hl, _ => simp at hl
      | [_, _], _, hl, _ => simp at hl
end Bt
end Go.Proofs.YtkigenldiinioabGreatDoor
/- What a tree yields of a range is what lies there of its list. -/
namespace Go.Proofs.YtkigenldiinioabGreatDoor
open Vl (V)
namespace Bt
/-- below a lower bound, above an upper one -/
def lb : Option (Bool × V) → V → Bool
  | none, _ => false
  | some (o, x), k => decide (Vl.cmp k x < 0) || (decide (Vl.cmp k x = 0) && o)
def ub : Option (Bool × V) → V → Bool
  | none, _ => false
  | some (o, x), k => decide (0 < Vl.cmp k x) || (decide (Vl.cmp k x = 0) && o)
theorem lb_mono {lo : Option (Bool × V)} {a b : V} (h : Vl.cmp a b < 0) (hb : lb lo b = true) : lb lo a = true := by
  rcases lo with _ | ⟨o, x⟩
  · exact hb
  · rw [lb, Bool.or_eq_true, Bool.and_eq_true, decide_eq_true_eq, decide_eq_true_eq] at hb ⊢
    rcases hb with h1 | ⟨h1, _⟩
    · exact .inl (lt_trans h h1)
    · exact .inl (lt_of_lt_of_eq h h1)
theorem ub_mono {hi : Option (Bool × V)} {a b : V} (h : Vl.cmp a b < 0) (ha : ub hi a = true) : ub hi b = true := by
  rcases hi with _ | ⟨o, x⟩
  · exact ha
  · rw [ub, Bool.or_eq_true, Bool.and_eq_true, decide_eq_true_eq, decide_eq_true_eq] at ha ⊢
    exact .inl (gt_of h (by rcases ha with h1 | ⟨h1, _⟩ <;> omega))
def inR (lo hi : Option (Bool × V)) (k : V) : Bool := !lb lo k && !ub hi k
theorem inR_lb {lo hi : Option (Bool × V)} {k : V} (h : lb lo k = true) : inR lo hi k = false := by simp [inR, h]
theorem inR_ub {lo hi : Option (Bool × V)} {k : V} (h : ub hi k = true) : inR lo hi k = false := by simp [inR, h]
def fromOf (key : Nat → V) (lo : Option (Bool × V)) (es : List Nat) : Nat := (es.takeWhile fun e => lb lo (key e)).length
def toOf (key : Nat → V) (hi : Option (Bool × V)) (es : List Nat) : Nat := (es.takeWhile fun e => !ub hi (key e)).length
/-- a round's yield -/
def rnd (es : List Nat) (to i : Nat) (a b c d : List Nat) : List Nat := pick i a b c d ++ if i < to then (es[i]?).toList else []
/-- the rounds from one place to another -/
def rnds (es : List Nat) (a b c d : List Nat) (frm to : Nat) : List Nat := (List.range' frm (to + 1 - frm)).flatMap fun i => rnd es to i a b c d
def wl (key : Nat → V) (lo hi : Option (Bool × V)) : T → List Nat
  | .nil => []
  | .node _ _ es a b c d => rnds es (wl key lo hi a) (wl key lo hi b) (wl key lo hi c) (wl key lo hi d) (fromOf key lo es) (toOf key hi es)
theorem filter_none {p : Nat → Bool} {l : List Nat} (h : ∀ y ∈ l, p y = false) : l.filter p = [] := by
  rw [List.filter_eq_nil_iff]
  intro y hy
  simp [h y hy]
theorem wl_flat {key : Nat → V} {lo hi : Option (Bool × V)} : ∀ {t : T}, wf t → Rises key (flat t) → wl key lo hi t = (flat t).filter fun e => inR lo hi (key e)
  | .nil, _, _ => rfl
  | .node g r es a b c d, hw, hr => by
    obtain ⟨h1, h2, h3, ha, hb, hc, hd⟩ := hw
    have L : ∀ {e y : Nat}, Vl.cmp (key y) (key e) < 0 → lb lo (key e) = true → inR lo hi (key y) = false := fun h k => inR_lb (lb_mono h k)
    have U : ∀ {e y : Nat}, Vl.cmp (key e) (key y) < 0 → ub hi (key e) = true → inR lo hi (key y) = false := fun h k => inR_ub (ub_mono h k)
    by_cases hl : es.length < 3
    · obtain ⟨rfl, rfl, rfl, rfl⟩ := h3 hl
      rw [flat_one _ _ _ (by omega)] at hr ⊢
      rw [wl]
      have hn : wl key lo hi T.nil = [] := rfl
      rw [hn]
      match es, h1, hl, hr with
      | [e], _, _, _ =>
        rcases ke : lb lo (key e) with _ | _ <;> rcases ku : ub hi (key e) with _ | _ <;>
          simp [rnds, rnd, pick, fromOf, toOf, inR, ke, ku, List.range']
      | [e, f], _, _, hr =>
        have ef : Vl.cmp (key e) (key f) < 0 := (rises_cons.1 hr).1 f (by simp)
        rcases ke : lb lo (key e) with _ | _ <;> rcases ku : ub hi (key e) with _ | _ <;> rcases kf : lb lo (key f) with _ | _ <;> rcases kv : ub hi (key f) with _ | _ <;>
          first
          | (have q := lb_mono ef kf; rw [ke] at q; exact absurd q Bool.false_ne_true)
          | (have q := ub_mono ef ku; rw [kv] at q; exact absurd q Bool.false_ne_true)
          | simp [rnds, rnd, pick, fromOf, toOf, inR, ke, ku, kf, kv, List.range']
      | [], h1, _, _ => simp at h1
    · match es, h2, hl, hr with
      | [e, f, h], _, _, hr =>
        rw [flat_three] at hr ⊢
        obtain ⟨ra, r1, m1⟩ := rises_app.1 hr
        obtain ⟨m2, r2⟩ := rises_cons.1 r1
        obtain ⟨rb, r3, m3⟩ := rises_app.1 r2
        obtain ⟨m4, r4⟩ := rises_cons.1 r3
        obtain ⟨rc, r5, m5⟩ := rises_app.1 r4
        obtain ⟨m6, rd⟩ := rises_cons.1 r5
        rw [wl, wl_flat ha ra, wl_flat hb rb, wl_flat hc rc, wl_flat hd rd]
        simp only [List.filter_append, List.filter_cons]
        have ae : ∀ y ∈ flat a, Vl.cmp (key y) (key e) < 0 := fun y hy => m1 y hy e (by simp)
        have be : ∀ y ∈ flat b, Vl.cmp (key e) (key y) < 0 := fun y hy => m2 y (by simp [hy])
        have bf : ∀ y ∈ flat b, Vl.cmp (key y) (key f) < 0 := fun y hy => m3 y hy f (by simp)
        have cf : ∀ y ∈ flat c, Vl.cmp (key f) (key y) < 0 := fun y hy => m4 y (by simp [hy])
        have ch : ∀ y ∈ flat c, Vl.cmp (key y) (key h) < 0 := fun y hy => m5 y hy h (by simp)
        have dh : ∀ y ∈ flat d, Vl.cmp (key h) (key y) < 0 := fun y hy => m6 y hy
        have ef : Vl.cmp (key e) (key f) < 0 := m2 f (by simp)
        have fh : Vl.cmp (key f) (key h) < 0 := m4 h (by simp)
        have za : lb lo (key e) = true → (flat a).filter (fun e => inR lo hi (key e)) = [] := fun k => filter_none fun y hy => L (ae y hy) k
        have zb : lb lo (key f) = true → (flat b).filter (fun e => inR lo hi (key e)) = [] := fun k => filter_none fun y hy => L (bf y hy) k
        have zc : lb lo (key h) = true → (flat c).filter (fun e => inR lo hi (key e)) = [] := fun k => filter_none fun y hy => L (ch y hy) k
        have yb : ub hi (key e) = true → (flat b).filter (fun e => inR lo hi (key e)) = [] := fun k => filter_none fun y hy => U (be y hy) k
        have yc : ub hi (key f) = true → (flat c).filter (fun e => inR lo hi (key e)) = [] := fun k => filter_none fun y hy => U (cf y hy) k
        have yd : ub hi (key h) = true → (flat d).filter (fun e => inR lo hi (key e)) = [] := fun k => filter_none fun y hy => U (dh y hy) k
        obtain ⟨A, hA⟩ : ∃ A, A = (flat a).filter (fun e => inR lo hi (key e)) := ⟨_, rfl⟩
        obtain ⟨B, hB⟩ : ∃ B, B = (flat b).filter (fun e => inR lo hi (key e)) := ⟨_, rfl⟩
        obtain ⟨C, hC⟩ : ∃ C, C = (flat c).filter (fun e => inR lo hi (key e)) := ⟨_, rfl⟩
        obtain ⟨D, hD⟩ : ∃ D, D = (flat d).filter (fun e => inR lo hi (key e)) := ⟨_, rfl⟩
        rw [← hA, ← hB, ← hC, ← hD]
        rw [← hA] at za
        rw [← hB] at zb yb
        rw [← hC] at zc yc
        rw [← hD] at yd
        clear hA hB hC hD m1 m2 m3 m4 m5 m6 ra rb rc rd r1 r2 r3 r4 r5 hr ae be bf cf ch dh L U
        rcases ke : lb lo (key e) with _ | _ <;> rcases ku : ub hi (key e) with _ | _ <;> rcases kf : lb lo (key f) with _ | _ <;> rcases kv : ub hi (key f) with _ | _ <;> rcases kh : lb lo (key h) with _ | _ <;> rcases kw : ub hi (key h) with _ | _ <;>
          first
          | (have q := lb_mono ef kf; rw [ke] at q; exact absurd q Bool.false_ne_true)
          | (have q := lb_mono fh kh; rw [kf] at q; exact absurd q Bool.false_ne_true)
          | (have q := ub_mono ef ku; rw [kv] at q; exact absurd q Bool.false_ne_true)
          | (have q := ub_mono fh kv; rw [kw] at q; exact absurd q Bool.false_ne_true)
          | (simp [rnds, rnd, pick, fromOf, toOf, inR, ke, ku, kf, kv, kh, kw, List.range'] at za zb zc yb yc yd ⊢ <;> simp [*])
      | [], _, hl, _ => simp at hl
      | [_], _, hl, _ => simp at hl
      | [_, _], _, hl, _ => simp at hl
end Bt
end Go.Proofs.YtkigenldiinioabGreatDoor
