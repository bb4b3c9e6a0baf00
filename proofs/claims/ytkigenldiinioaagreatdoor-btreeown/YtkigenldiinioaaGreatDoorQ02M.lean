/- Several texts, joined: BtM, BtF, Rep, BtA, BtB -/
import Derived.Test.YtkigenldiinioaaGreatDoorQ01M
import Derived.Test.YtkigenldiinioaaGreatDoorProg
import Derived.ProofKit
import Derived.OpenShut
import Derived.Deep.RegionHeld3
import Derived.Deep.MidRow
import Derived.Deep.DrawnRows
import Derived.LoopTactic
import Derived.WalkSpells
import Derived.BigRegion
import Derived.Deep.QuietTactic
/- Trees of keys as mathematics: how many levels have room for how many, what is laid, where a key lies. -/
namespace Go.Proofs.YtkigenldiinioaaGreatDoor
open Vl (V)
namespace Bt
/-- how many keys so many levels have room for -/
def room : Nat → Nat
  | 0 => 0
  | k + 1 => 3 + 4 * room k
/-- on how many levels so many keys find room -/
def fewest (n : Nat) : Nat := if h : n = 0 then 0 else 1 + fewest (n / 4)
theorem fewest_zero : fewest 0 = 0 := by rw [fewest]; rfl
theorem fewest_pos {n : Nat} (h : n ≠ 0) : fewest n = 1 + fewest (n / 4) := by rw [fewest, dif_neg h]
theorem fewest_le : ∀ (k n : Nat), fewest n ≤ k ↔ n ≤ room k
  | 0, n => by
    by_cases h : n = 0
    · subst h; rw [fewest_zero]; simp
    · rw [fewest_pos h, room]; omega
  | k + 1, n => by
    by_cases h : n = 0
    · subst h; rw [fewest_zero]; simp
    · rw [fewest_pos h, room]
      have := fewest_le k (n / 4)
      omega
theorem fewest_mono {m n : Nat} (h : m ≤ n) : fewest m ≤ fewest n := (fewest_le _ _).2 (Nat.le_trans h ((fewest_le _ n).1 (Nat.le_refl _)))
theorem room_mono : ∀ {j k : Nat}, j ≤ k → room j ≤ room k
  | 0, _, _ => Nat.zero_le _
  | j + 1, 0, h => by omega
  | j + 1, k + 1, h => by have := room_mono (j := j) (k := k) (by omega); rw [room, room]; omega
/-- a tree: its node's block, its entries' blocks, what lies below -/
inductive T where
  | nil : T
  | node (g r : Nat) (es : List Nat) (a b c d : T) : T
def weave : List (List Nat) → List Nat → List Nat
  | [], _ => []
  | x :: _, [] => x
  | x :: xs, e :: es => x ++ e :: weave xs es
def flat : T → List Nat
  | .nil => []
  | .node _ _ es a b c d => weave [flat a, flat b, flat c, flat d] es
def levels : T → Nat
  | .nil => 0
  | .node _ _ _ a b c d => max (max (max (max 0 (levels a)) (levels b)) (levels c)) (levels d) + 1
def wf : T → Prop
  | .nil => True
  | .node _ _ es a b c d => 1 ≤ es.length ∧ es.length ≤ 3 ∧ (es.length < 3 → a = .nil ∧ b = .nil ∧ c = .nil ∧ d = .nil) ∧ wf a ∧ wf b ∧ wf c ∧ wf d
/-- what lies below a place -/
def below (a b c d : T) (i : Nat) : T := if i = 0 then a else if i = 1 then b else if i = 2 then c else d
theorem flat_one (g r : Nat) (es : List Nat) (h : es.length < 4) : flat (.node g r es .nil .nil .nil .nil) = es := by
  rw [flat]
  simp only [flat]
  match es, h with
  | [], _ => rfl
  | [e], _ => rfl
  | [e, f], _ => rfl
  | [e, f, x], _ => rfl
theorem flat_three (g r e f h : Nat) (a b c d : T) : flat (.node g r [e, f, h] a b c d) = flat a ++ e :: (flat b ++ f :: (flat c ++ h :: flat d)) := by
  rw [flat]; rfl
theorem nil_of {t : T} (h : wf t) (hf : flat t = []) : t = .nil := by
  cases t with
  | nil => rfl
  | node g r es a b c d =>
    obtain ⟨h1, h2, h3, _⟩ := h
    by_cases hl : es.length < 3
    · obtain ⟨rfl, rfl, rfl, rfl⟩ := h3 hl
      rw [flat_one _ _ _ (by omega)] at hf
      subst hf
      simp at h1
    · match es, h2, hl with
      | [e, f, x], _, _ =>
        rw [flat_three] at hf
        simp at hf
      | [], _, hl => simp at hl
      | [_], _, hl => simp at hl
      | [_, _], _, hl => simp at hl
/-- how many keys find room on a tree's levels -/
theorem flat_room : ∀ {t : T}, wf t → (flat t).length ≤ room (levels t)
  | .nil, _ => Nat.zero_le _
  | .node g r es a b c d, h => by
    obtain ⟨h1, h2, h3, ha, hb, hc, hd⟩ := h
    by_cases hl : es.length < 3
    · obtain ⟨rfl, rfl, rfl, rfl⟩ := h3 hl
      rw [flat_one _ _ _ (by omega), levels, room]
      omega
    · match es, h2, hl with
      | [e, f, x], _, _ =>
        have ka := Nat.le_trans (flat_room ha) (room_mono (k := max (max (max (max 0 (levels a)) (levels b)) (levels c)) (levels d)) (by omega))
        have kb := Nat.le_trans (flat_room hb) (room_mono (k := max (max (max (max 0 (levels a)) (levels b)) (levels c)) (levels d)) (by omega))
        have kc := Nat.le_trans (flat_room hc) (room_mono (k := max (max (max (max 0 (levels a)) (levels b)) (levels c)) (levels d)) (by omega))
        have kd := Nat.le_trans (flat_room hd) (room_mono (k := max (max (max (max 0 (levels a)) (levels b)) (levels c)) (levels d)) (by omega))
        rw [flat_three, levels, room]
        simp only [List.length_append, List.length_cons]
        omega
      | [], _, hl => simp at hl
      | [_], _, hl => simp at hl
      | [_, _], _, hl => simp at hl
theorem fewest_levels {t : T} (h : wf t) : fewest (flat t).length ≤ levels t := (fewest_le _ _).2 (flat_room h)
/-- the ends of the parts that are laid -/
def upto (n i : Nat) : Nat := (n - 3) * (i + 1) / 4 + i
theorem upto_le {n : Nat} {i : Nat} (hi : i < 4) : upto n i ≤ n - 3 + i := by
  unfold upto
  have : (n - 3) * (i + 1) / 4 ≤ (n - 3) * 4 / 4 := Nat.div_le_div_right (Nat.mul_le_mul (Nat.le_refl _) (by omega))
  omega
theorem upto_last {n : Nat} (h : 3 < n) : upto n 3 = n := by unfold upto; omega
theorem part_first {n : Nat} : upto n 0 ≤ n / 4 := by unfold upto; omega
theorem part_next {n i : Nat} (h : 3 < n) (hi : i < 3) : upto n i + 1 ≤ upto n (i + 1) ∧ upto n (i + 1) - (upto n i + 1) ≤ n / 4 := by
  unfold upto
  rcases (show i = 0 ∨ i = 1 ∨ i = 2 by omega) with rfl | rfl | rfl <;> omega
theorem part_some {n : Nat} (h : 3 < n) : upto n 3 - (upto n 2 + 1) = n / 4 := by unfold upto; omega
/-- keys that rise -/
def Rises (key : Nat → V) (l : List Nat) : Prop := l.Pairwise fun a b => Vl.cmp (key a) (key b) < 0
/-- keys ahead of one -/
def ahead (key : Nat → V) (x : V) (e : Nat) : Bool := decide (Vl.cmp (key e) x < 0)
def spot (key : Nat → V) (x : V) (l : List Nat) : Nat := (l.takeWhile (ahead key x)).length
theorem lt_trans {a b c : V} (h : Vl.cmp a b < 0) (k : Vl.cmp b c < 0) : Vl.cmp a c < 0 := by
  have t := Vl.tri_cmp a b c (by omega) (by omega)
  rcases Int.lt_or_lt_of_ne (a := Vl.cmp a c) (b := 0) (fun e => by have := (t.2 e).1; omega) with h1 | h1
  · exact h1
  · have := t.1; omega
theorem lt_of_lt_of_eq {a b c : V} (h : Vl.cmp a b < 0) (k : Vl.cmp b c = 0) : Vl.cmp a c < 0 := by
  have t := Vl.tri_cmp a b c (by omega) (by omega)
  rcases Int.lt_or_lt_of_ne (a := Vl.cmp a c) (b := 0) (fun e => by have := (t.2 e).1; omega) with h1 | h1
  · exact h1
  · have := t.1; omega
end Bt
end Go.Proofs.YtkigenldiinioaaGreatDoor
/- Where a key lies in a tree, as mathematics. -/
namespace Go.Proofs.YtkigenldiinioaaGreatDoor
open Vl (V)
namespace Bt
/-- a list that a question cuts in two -/
def Cut {α : Type} (p : α → Bool) (l : List α) (k : Nat) : Prop := k ≤ l.length ∧ ∀ j x, l[j]? = some x → (p x = true ↔ j < k)
theorem cut_while {α : Type} (p : α → Bool) : ∀ {l : List α}, l.Pairwise (fun a b => p b = true → p a = true) → Cut p l (l.takeWhile p).length
  | [], _ => ⟨Nat.le_refl _, fun j x h => by simp at h⟩
  | a :: r, h => by
    obtain ⟨h1, h2⟩ := List.pairwise_cons.1 h
    obtain ⟨k1, k2⟩ := cut_while p h2
    by_cases ha : p a = true
    · rw [List.takeWhile_cons_of_pos ha]
      refine ⟨by simp; omega, fun j x hx => ?_⟩
      cases j with
      | zero => simp at hx; subst hx; simp [ha]
      | succ j =>
        rw [List.getElem?_cons_succ] at hx
        rw [k2 j x hx, List.length_cons]
        omega
    · rw [List.takeWhile_cons_of_neg ha]
      refine ⟨Nat.zero_le _, fun j x hx => ?_⟩
      constructor
      · intro hp
        exfalso
        cases j with
        | zero => simp at hx; subst hx; exact ha hp
        | succ j =>
          rw [List.getElem?_cons_succ] at hx
          exact ha (h1 x (List.mem_of_getElem? hx) hp)
      · intro hj
        simp at hj
theorem Cut.one {α : Type} {p : α → Bool} {l : List α} {j k : Nat} (h : Cut p l j) (h2 : Cut p l k) : j = k := by
  rcases Nat.lt_trichotomy j k with hl | he | hl
  · have hj : j < l.length := Nat.lt_of_lt_of_le hl h2.1
    have h3 := (h2.2 j _ (List.getElem?_eq_getElem hj)).2 hl
    have := (h.2 j _ (List.getElem?_eq_getElem hj)).1 h3
    omega
  · exact he
  · have hj : k < l.length := Nat.lt_of_lt_of_le hl h.1
    have h3 := (h.2 k _ (List.getElem?_eq_getElem hj)).2 hl
    have := (h2.2 k _ (List.getElem?_eq_getElem hj)).1 h3
    omega
theorem spot_cut {key : Nat → V} {x : V} {l : List Nat} (h : Rises key l) : Cut (ahead key x) l (spot key x l) := by
  refine cut_while _ (h.imp fun {a b} hab hb => ?_)
  rw [ahead, decide_eq_true_eq] at hb ⊢
  exact lt_trans hab hb
/-- the entry of a key -/
def at? (key : Nat → V) (x : V) (l : List Nat) : Option Nat := l.find? fun e => decide (Vl.cmp (key e) x = 0)
theorem at_less {key : Nat → V} {x : V} {l : List Nat} (h : ∀ e ∈ l, Vl.cmp (key e) x ≠ 0) : at? key x l = none := by
  rw [at?, List.find?_eq_none]
  intro e he
  simpa using h e he
theorem at_app {key : Nat → V} {x : V} {a b : List Nat} : at? key x (a ++ b) = (at? key x a).or (at? key x b) := by rw [at?, List.find?_append]; rfl
theorem at_hit {key : Nat → V} {x : V} {e : Nat} {b : List Nat} (h : Vl.cmp (key e) x = 0) : at? key x (e :: b) = some e := by rw [at?, List.find?_cons_of_pos (by simpa using h)]
theorem at_miss {key : Nat → V} {x : V} {e : Nat} {b : List Nat} (h : Vl.cmp (key e) x ≠ 0) : at? key x (e :: b) = at? key x b := by rw [at?, List.find?_cons_of_neg (by simpa using h)]; rfl
theorem gt_of {a b x : V} (h : Vl.cmp a b < 0) (k : ¬ Vl.cmp a x < 0) : 0 < Vl.cmp b x := by
  have e1 := Vl.cmp_turn b x
  have e2 := Vl.cmp_turn a x
  rcases Int.lt_or_le 0 (Vl.cmp b x) with h1 | h1
  · exact h1
  · exfalso
    have t := Vl.tri_cmp a b x (by omega) h1
    have h0 : Vl.cmp a x = 0 := by have := t.1; omega
    have := (t.2 h0).1
    omega
/-- one of four -/
def pick {α : Type} (i : Nat) (a b c d : α) : α := if i = 0 then a else if i = 1 then b else if i = 2 then c else d
/-- how the tree looks for it -/
def look (key : Nat → V) (x : V) : T → Option Nat
  | .nil => none
  | .node _ _ es a b c d => match es[spot key x es]? with
    | some e => if Vl.cmp (key e) x = 0 then some e else pick (spot key x es) (look key x a) (look key x b) (look key x c) (look key x d)
    | none => pick (spot key x es) (look key x a) (look key x b) (look key x c) (look key x d)
theorem at_spot {key : Nat → V} {x : V} {l : List Nat} (h : Rises key l) : at? key x l = match l[spot key x l]? with
    | some e => if Vl.cmp (key e) x = 0 then some e else none
    | none => none := by
  obtain ⟨k1, k2⟩ := spot_cut (x := x) h
  obtain ⟨i, hi⟩ : ∃ i, i = spot key x l := ⟨_, rfl⟩
  rw [← hi] at k1 k2 ⊢
  have e : l = l.take i ++ l.drop i := (List.take_append_drop _ _).symm
  have hA : at? key x (l.take i) = none := at_less fun y hy => by
    obtain ⟨j, hj, hjx⟩ := List.getElem_of_mem hy
    rw [List.length_take] at hj
    rw [List.getElem_take] at hjx
    have := (k2 j y (by rw [List.getElem?_eq_getElem (by omega), hjx])).2 (by omega)
    rw [ahead, decide_eq_true_eq] at this
    omega
  rw [e, at_app, hA]
  rw [← e]
  simp only [Option.none_or]
  rcases hd : l[i]? with _ | y
  · rw [List.getElem?_eq_none_iff] at hd
    rw [List.drop_of_length_le hd]; rfl
  · have hlt := (List.getElem?_eq_some_iff.1 hd).1
    have hy := (List.getElem?_eq_some_iff.1 hd).2
    rw [List.drop_eq_getElem_cons hlt, hy]
    by_cases hc : Vl.cmp (key y) x = 0
    · rw [at_hit hc]; simp [hc]
    · rw [at_miss hc]
      simp only [hc, if_false]
      refine at_less fun z hz => ?_
      have hnot : ¬ Vl.cmp (key y) x < 0 := fun hlt2 => by
        have := (k2 i y hd).1 (by rw [ahead, decide_eq_true_eq]; exact hlt2)
        omega
      have hyz : Vl.cmp (key y) (key z) < 0 := by
        have hp : (l.drop i).Pairwise fun a b => Vl.cmp (key a) (key b) < 0 := List.Pairwise.sublist (List.drop_sublist _ _) h
        rw [List.drop_eq_getElem_cons hlt, hy] at hp
        exact (List.pairwise_cons.1 hp).1 z hz
      have := gt_of hyz hnot
      omega
end Bt
end Go.Proofs.YtkigenldiinioaaGreatDoor
/- How a value lies in memory: six cells, its list and its fields as rows in blocks below a bound; what stays of it when new blocks come. -/
namespace Go.Proofs.YtkigenldiinioaaGreatDoor
open Go.RowKit
open Vl (V)
/-- six cells that lie in a row -/
def Six (w : World) (g o : Nat) (c0 c1 c2 c3 c4 c5 : Value) : Prop :=
  w.cell? ⟨g, o, none⟩ = some c0 ∧ w.cell? ⟨g, o + 1, none⟩ = some c1 ∧ w.cell? ⟨g, o + 2, none⟩ = some c2 ∧ w.cell? ⟨g, o + 3, none⟩ = some c3 ∧ w.cell? ⟨g, o + 4, none⟩ = some c4 ∧ w.cell? ⟨g, o + 5, none⟩ = some c5
mutual
/-- a value as its six cells are -/
def Rep (w : World) (H : Nat) : V → Value → Prop
  | ⟨k, b, n, s, l, f⟩, v => ∃ (ao : Option Addr) (lc : Nat) (fo : Option Addr) (fc : Nat),
      v = .agg #[.int .u8 (k : Int), .bool b, .int .i64 n, .string s, .slice ao l.length lc, .slice fo f.length fc] ∧
      k < 256 ∧ (-9223372036854775808 ≤ n ∧ n < 9223372036854775808) ∧ s.size ≤ maxLen ∧ l.length ≤ maxLen ∧ f.length ≤ maxLen ∧
      (0 < l.length → ∃ g o, ao = some ⟨g, o, none⟩ ∧ g < H ∧ RepL w H g o l) ∧
      (0 < f.length → ∃ g o, fo = some ⟨g, o, none⟩ ∧ g < H ∧ RepF w H g o f)
/-- the parts of a list from a place on -/
def RepL (w : World) (H g : Nat) : Nat → List V → Prop
  | _, [] => True
  | o, x :: r => (∃ c0 c1 c2 c3 c4 c5, Six w g o c0 c1 c2 c3 c4 c5 ∧ Rep w H x (.agg #[c0, c1, c2, c3, c4, c5])) ∧ RepL w H g (o + 6) r
/-- fields from a place on: the name, and the value behind it -/
def RepF (w : World) (H g : Nat) : Nat → List (ByteArray × V) → Prop
  | _, [] => True
  | o, (m, x) :: r => (w.cell? ⟨g, o, none⟩ = some (.string m) ∧ m.size ≤ maxLen ∧ ∃ c0 c1 c2 c3 c4 c5, Six w g (o + 1) c0 c1 c2 c3 c4 c5 ∧ Rep w H x (.agg #[c0, c1, c2, c3, c4, c5])) ∧ RepF w H g (o + 7) r
end
theorem Six.stays {w w' : World} {H g o : Nat} {c0 c1 c2 c3 c4 c5 : Value} (hb : Below H w w') (hg : g < H) (h : Six w g o c0 c1 c2 c3 c4 c5) : Six w' g o c0 c1 c2 c3 c4 c5 := by
  obtain ⟨h0, h1, h2, h3, h4, h5⟩ := h
  exact ⟨(hb.cell (p := ⟨g, o, none⟩) hg).trans h0, (hb.cell (p := ⟨g, o + 1, none⟩) hg).trans h1, (hb.cell (p := ⟨g, o + 2, none⟩) hg).trans h2, (hb.cell (p := ⟨g, o + 3, none⟩) hg).trans h3, (hb.cell (p := ⟨g, o + 4, none⟩) hg).trans h4, (hb.cell (p := ⟨g, o + 5, none⟩) hg).trans h5⟩
mutual
theorem rep_stays {w w' : World} {H K : Nat} (hb : Below H w w') (hK : H ≤ K) : ∀ (t : V) (v : Value), Rep w H t v → Rep w' K t v
  | ⟨k, b, n, s, l, f⟩, v, h => by
    rw [Rep] at h ⊢
    obtain ⟨ao, lc, fo, fc, h1, h2, h3, h4, h5, h6, h7, h8⟩ := h
    refine ⟨ao, lc, fo, fc, h1, h2, h3, h4, h5, h6, fun hp => ?_, fun hp => ?_⟩
    · obtain ⟨g, o, e, hg, hr⟩ := h7 hp
      exact ⟨g, o, e, by omega, repL_stays hb hK hg l o hr⟩
    · obtain ⟨g, o, e, hg, hr⟩ := h8 hp
      exact ⟨g, o, e, by omega, repF_stays hb hK hg f o hr⟩
theorem repL_stays {w w' : World} {H K g : Nat} (hb : Below H w w') (hK : H ≤ K) (hg : g < H) : ∀ (l : List V) (o : Nat), RepL w H g o l → RepL w' K g o l
  | [], _, _ => by rw [RepL]; trivial
  | x :: r, o, h => by
    rw [RepL] at h ⊢
    obtain ⟨⟨c0, c1, c2, c3, c4, c5, h1, h2⟩, h3⟩ := h
    exact ⟨⟨c0, c1, c2, c3, c4, c5, h1.stays hb hg, rep_stays hb hK x _ h2⟩, repL_stays hb hK hg r _ h3⟩
theorem repF_stays {w w' : World} {H K g : Nat} (hb : Below H w w') (hK : H ≤ K) (hg : g < H) : ∀ (l : List (ByteArray × V)) (o : Nat), RepF w H g o l → RepF w' K g o l
  | [], _, _ => by rw [RepF]; trivial
  | (m, x) :: r, o, h => by
    rw [RepF] at h ⊢
    obtain ⟨⟨h0, hm, c0, c1, c2, c3, c4, c5, h1, h2⟩, h3⟩ := h
    exact ⟨⟨(hb.cell (p := ⟨g, o, none⟩) hg).trans h0, hm, c0, c1, c2, c3, c4, c5, h1.stays hb hg, rep_stays hb hK x _ h2⟩, repF_stays hb hK hg r _ h3⟩
end
/-- one part of a list -/
theorem repL_at {w : World} {H g : Nat} : ∀ (l : List V) (o : Nat), RepL w H g o l → ∀ (j : Nat) (x : V), l[j]? = some x →
    ∃ c0 c1 c2 c3 c4 c5, Six w g (o + j * 6) c0 c1 c2 c3 c4 c5 ∧ Rep w H x (.agg #[c0, c1, c2, c3, c4, c5])
  | [], _, _, j, x, e => by simp at e
  | y :: r, o, h, 0, x, e => by
    rw [RepL] at h
    simp only [List.getElem?_cons_zero, Option.some.injEq] at e
    subst e
    simpa using h.1
  | y :: r, o, h, j + 1, x, e => by
    rw [RepL] at h
    have := repL_at r (o + 6) h.2 j x (by simpa using e)
    rw [show o + 6 + j * 6 = o + (j + 1) * 6 by omega] at this
    exact this
theorem repF_at {w : World} {H g : Nat} : ∀ (l : List (ByteArray × V)) (o : Nat), RepF w H g o l → ∀ (j : Nat) (m : ByteArray) (x : V), l[j]? = some (m, x) →
    w.cell? ⟨g, o + j * 7, none⟩ = some (.string m) ∧ m.size ≤ maxLen ∧ ∃ c0 c1 c2 c3 c4 c5, Six w g (o + j * 7 + 1) c0 c1 c2 c3 c4 c5 ∧ Rep w H x (.agg #[c0, c1, c2, c3, c4, c5])
  | [], _, _, j, m, x, e => by simp at e
  | (m', y) :: r, o, h, 0, m, x, e => by
    rw [RepF] at h
    simp only [List.getElem?_cons_zero, Option.some.injEq, Prod.mk.injEq] at e
    obtain ⟨rfl, rfl⟩ := e
    simpa using h.1
  | (m', y) :: r, o, h, j + 1, m, x, e => by
    rw [RepF] at h
    have := repF_at r (o + 7) h.2 j m x (by simpa using e)
    rw [show o + 7 + j * 7 = o + (j + 1) * 7 by omega] at this
    exact this
/-- a list that lies, made of its parts -/
theorem repL_mk {w : World} {H g : Nat} : ∀ (l : List V) (o : Nat), (∀ (j : Nat) (x : V), l[j]? = some x → ∃ c0 c1 c2 c3 c4 c5, Six w g (o + j * 6) c0 c1 c2 c3 c4 c5 ∧ Rep w H x (.agg #[c0, c1, c2, c3, c4, c5])) → RepL w H g o l
  | [], _, _ => by rw [RepL]; trivial
  | y :: r, o, h => by
    rw [RepL]
    refine ⟨by simpa using h 0 y rfl, repL_mk r (o + 6) fun j x e => ?_⟩
    have := h (j + 1) x (by simpa using e)
    rw [show o + (j + 1) * 6 = o + 6 + j * 6 by omega] at this
    exact this
theorem repF_mk {w : World} {H g : Nat} : ∀ (l : List (ByteArray × V)) (o : Nat), (∀ (j : Nat) (m : ByteArray) (x : V), l[j]? = some (m, x) →
    w.cell? ⟨g, o + j * 7, none⟩ = some (.string m) ∧ m.size ≤ maxLen ∧ ∃ c0 c1 c2 c3 c4 c5, Six w g (o + j * 7 + 1) c0 c1 c2 c3 c4 c5 ∧ Rep w H x (.agg #[c0, c1, c2, c3, c4, c5])) → RepF w H g o l
  | [], _, _ => by rw [RepF]; trivial
  | (m, y) :: r, o, h => by
    rw [RepF]
    refine ⟨by simpa using h 0 m y rfl, repF_mk r (o + 7) fun j m' x e => ?_⟩
    have := h (j + 1) m' x (by simpa using e)
    rw [show o + (j + 1) * 7 = o + 7 + j * 7 by omega] at this
    exact this
/-- what the six cells are -/
theorem rep_form {w : World} {H : Nat} {x : V} {c0 c1 c2 c3 c4 c5 : Value} (h : Rep w H x (.agg #[c0, c1, c2, c3, c4, c5])) :
    ∃ (k : Nat) (b : Bool) (n : Int) (s : ByteArray) (ao : Option Addr) (ll lc : Nat) (fo : Option Addr) (fl fc : Nat), c0 = .int .u8 (k : Int) ∧ c1 = .bool b ∧ c2 = .int .i64 n ∧ c3 = .string s ∧ c4 = .slice ao ll lc ∧ c5 = .slice fo fl fc := by
  obtain ⟨k, b, n, s, l, f⟩ := x
  rw [Rep] at h
  obtain ⟨ao, lc, fo, fc, h1, _⟩ := h
  simp only [Value.agg.injEq, Array.mk.injEq, List.cons.injEq, and_true] at h1
  obtain ⟨e0, e1, e2, e3, e4, e5⟩ := h1
  exact ⟨k, b, n, s, ao, l.length, lc, fo, f.length, fc, e0, e1, e2, e3, e4, e5⟩
end Go.Proofs.YtkigenldiinioaaGreatDoor
/- How many keys levels have room for, on how many levels keys find room: walked. -/
namespace Go.Proofs.YtkigenldiinioaaGreatDoor
open Go.RowKit
open Vl (V)
attribute [local go_sem ↓] Go.wp_at_zero Go.wp_at_succ
theorem cells_at {W : World} {g : Nat} {cs : Array Value} {t : TypeId} {q : Nat × Nat} (h : W.heap[g]? = some (.cells cs t q)) (i : Nat) (v : Value) (hi : cs[i]? = some v) : W.cell? ⟨g, i, none⟩ = some v := by
  simp [World.cell?, h, hi]
theorem Bt.room_small {k : Nat} (h : k ≤ 20) : Bt.room k ≤ 1099511627775 := Nat.le_trans (Bt.room_mono h) (by decide)
theorem Bt.wr {x : Int} {c : Nat} (h : x = (c : Int)) (hc : c ≤ 4611686018427387904) : IntKind.i64.wrap x = (c : Int) ∧ wrap64 x = (c : Int) := by
  subst h
  exact ⟨by rw [IntKind.wrap_i64]; omega, by unfold wrap64; omega⟩
set_option maxHeartbeats 4000000 in
theorem room_c (k : Nat) (hk : k ≤ 20) (w : World) : Calls Tryz.prog 66 #[.int .i64 (k : Int)] w fun e w' => e = .returned (.int .i64 (Bt.room k : Int)) ∧ w' = w := by
  go_enter Tryz.func66, Tryz.ntmps66
  go_wp2
  go_loopw [3, 5] (fun v i wr => ∃ (j r : Nat), v = .int .i64 (r : Int) ∧ i = .int .i64 (j : Int) ∧ j ≤ k ∧ r = Bt.room j ∧ wr = w) (fun _ i _ => k - (intOf i).toNat)
  case atStart => exact ⟨0, 0, rfl, rfl, Nat.zero_le _, rfl, rfl⟩
  case round =>
    obtain ⟨j, r, rfl, rfl, hj, hr, rfl⟩ := hrel
    have HR : Hid (r = Bt.room j) := hr
    clear hr
    by_cases hlt : j < k
    · have q1 : (j : Int) < (k : Int) := by omega
      obtain ⟨m, hm⟩ : ∃ m, m = 4 * r := ⟨_, rfl⟩
      obtain ⟨x, hx⟩ : ∃ x, x = 3 + m := ⟨_, rfl⟩
      have hb : r ≤ 1099511627775 := by rw [HR.out]; exact Bt.room_small (by omega)
      obtain ⟨v1, v2⟩ : IntKind.i64.wrap (4 * (r : Int)) = (m : Int) ∧ wrap64 (4 * (r : Int)) = (m : Int) := Bt.wr (by omega) (by omega)
      obtain ⟨v3, v4⟩ : IntKind.i64.wrap (3 + (m : Int)) = (x : Int) ∧ wrap64 (3 + (m : Int)) = (x : Int) := Bt.wr (by omega) (by omega)
      have HX : Hid (x = Bt.room (j + 1)) := by show _ = _; rw [hx, hm, HR.out, Bt.room]
      clear hm hx hb
      go_wp2
      go_roundw
      case rel => exact ⟨j + 1, x, rfl, by go_num, hlt, HX.out, trivial⟩
      case measure => simp [intOf]; omega
    · have q1 : ¬ (j : Int) < (k : Int) := by omega
      have hjk : j = k := by omega
      subst hjk
      go_wp2
      go_ret
      exact ⟨by rw [HR.out]; rfl, rfl⟩
set_option maxHeartbeats 4000000 in
theorem fewest_c (n : Nat) (hn : n ≤ 1000000) (w : World) : Calls Tryz.prog 41 #[.int .i64 (n : Int)] w fun e w' => e = .returned (.int .i64 (Bt.fewest n : Int)) ∧ w' = w := by
  have h10 : Bt.fewest n ≤ 10 := (Bt.fewest_le 10 n).2 (Nat.le_trans hn (by decide))
  obtain ⟨f, hf⟩ : ∃ f, f = Bt.fewest n := ⟨_, rfl⟩
  rw [← hf] at h10 ⊢
  have HF : Hid (f = Bt.fewest n) := hf
  clear hf
  go_enter Tryz.func41, Tryz.ntmps41
  go_wp2
  go_loopw [3] (fun v wr => ∃ (k : Nat), v = .int .i64 (k : Int) ∧ k ≤ f ∧ wr = w) (fun v _ => f - (intOf v).toNat)
  case atStart => exact ⟨0, rfl, Nat.zero_le _, rfl⟩
  case round =>
    obtain ⟨k, rfl, hk, rfl⟩ := hrel
    obtain ⟨r, hr⟩ : ∃ r, r = Bt.room k := ⟨_, rfl⟩
    have HR : Hid (r = Bt.room k) := hr
    have C : Hid (∀ W, Calls Tryz.prog 66 #[.int .i64 (k : Int)] W fun e w' => e = .returned (.int .i64 (r : Int)) ∧ w' = W) := fun W => by rw [hr]; exact room_c k (by omega) W
    clear hr
    go_wp2_with fail
    refine (C.out _).mono ?_
    rintro e w2 ⟨rfl, rfl⟩
    by_cases hlt : r < n
    · have q1 : (r : Int) < (n : Int) := by omega
      have hkf : k < f := by
        rcases Nat.lt_or_ge k f with h | h
        · exact h
        · exfalso
          have := (Bt.fewest_le k n).1 (by rw [← HF.out]; exact h)
          have := HR.out
          omega
      go_wp2
      go_roundw
      case rel => exact ⟨k + 1, by go_num, hkf, trivial⟩
      case measure => simp [intOf]; omega
    · have q1 : ¬ (r : Int) < (n : Int) := by omega
      have hkf : k = f := by
        have h1 := (Bt.fewest_le k n).2 (by rw [← HR.out]; omega)
        rw [← HF.out] at h1
        omega
      subst hkf
      go_wp2
      go_ret
      exact ⟨rfl, rfl⟩
theorem count_nil (w : World) : Calls Tryz.prog 42 #[.pointer none] w fun e w' => e = .returned (.int .i64 0) ∧ w' = w := by
  go_enter Tryz.func42, Tryz.ntmps42
  go_wp2
  go_ret
  exact ⟨rfl, rfl⟩
theorem count_node (g n : Nat) (c0 c1 c2 c3 c4 : Value) (w : World) (h : w.heap[g]? = some (.cells #[c0, c1, c2, c3, c4, .int .i64 (n : Int)] 95 (0, 0))) : Calls Tryz.prog 42 #[.pointer (some ⟨g, 0, none⟩)] w fun e w' => e = .returned (.int .i64 (n : Int)) ∧ w' = w := by
  have p := cells_at h 5 _ rfl
  clear h
  go_enter Tryz.func42, Tryz.ntmps42
  go_wp2
  go_ret
  exact ⟨rfl, rfl⟩
end Go.Proofs.YtkigenldiinioaaGreatDoor
/- A tree in memory; its levels, walked. -/
namespace Go.Proofs.YtkigenldiinioaaGreatDoor
open Go.RowKit
open Vl (V)
attribute [local go_sem ↓] Go.wp_at_zero Go.wp_at_succ
namespace Bt
/-- a tree's own block -/
def top : T → Option Nat
  | .nil => none
  | .node g _ _ _ _ _ _ => some g
/-- one of five -/
def pick5 (j : Nat) (a b c d e : Nat) : Nat := if j = 0 then a else if j = 1 then b else if j = 2 then c else if j = 3 then d else e
/-- a pointer to a block -/
def ptr (o : Option Nat) : Value := .pointer (o.map fun g => ⟨g, 0, none⟩)
theorem ptr_none : ptr none = .pointer none := rfl
theorem ptr_some (g : Nat) : ptr (some g) = .pointer (some ⟨g, 0, none⟩) := rfl
end Bt
/-- a tree in memory -/
def NT (W : World) : Bt.T → Prop
  | .nil => True
  | .node g r es a b c d => (∃ cap, W.heap[g]? = some (.cells #[.slice (some ⟨r, 0, none⟩) es.length cap, Bt.ptr (Bt.top a), Bt.ptr (Bt.top b), Bt.ptr (Bt.top c), Bt.ptr (Bt.top d), .int .i64 ((Bt.flat (.node g r es a b c d)).length : Int)] 95 (0, 0)) ∧ W.ownsRow 0 71 1 (.slice (some ⟨r, 0, none⟩) es.length cap) es.length (es.map fun e => Bt.ptr (some e))) ∧ NT W a ∧ NT W b ∧ NT W c ∧ NT W d
set_option maxHeartbeats 4000000 in
set_option maxRecDepth 100000 in
theorem levels_c : ∀ (t : Bt.T) (w : World), NT w t → Bt.levels t ≤ 1000 → Calls Tryz.prog 37 #[Bt.ptr (Bt.top t)] w fun e w' => e = .returned (.int .i64 (Bt.levels t : Int)) ∧ w' = w
  | .nil, w, _, _ => by
    rw [Bt.top, Bt.ptr_none]
    go_enter Tryz.func37, Tryz.ntmps37
    go_wp2
    go_ret
    exact ⟨rfl, rfl⟩
  | .node g r es a b c d, w, h, hl => by
    obtain ⟨⟨cap, hc, ho⟩, ha, hb, hcc, hd⟩ := h
    rw [Bt.levels] at hl
    have CA : Hid (Calls Tryz.prog 37 #[Bt.ptr (Bt.top a)] w fun e w' => e = .returned (.int .i64 (Bt.levels a : Int)) ∧ w' = w) := levels_c a w ha (by omega)
    have CB : Hid (Calls Tryz.prog 37 #[Bt.ptr (Bt.top b)] w fun e w' => e = .returned (.int .i64 (Bt.levels b : Int)) ∧ w' = w) := levels_c b w hb (by omega)
    have CC : Hid (Calls Tryz.prog 37 #[Bt.ptr (Bt.top c)] w fun e w' => e = .returned (.int .i64 (Bt.levels c : Int)) ∧ w' = w) := levels_c c w hcc (by omega)
    have CD : Hid (Calls Tryz.prog 37 #[Bt.ptr (Bt.top d)] w fun e w' => e = .returned (.int .i64 (Bt.levels d : Int)) ∧ w' = w) := levels_c d w hd (by omega)
    rw [Bt.levels]
    obtain ⟨la, hla⟩ : ∃ l, l = Bt.levels a := ⟨_, rfl⟩
    obtain ⟨lb, hlb⟩ : ∃ l, l = Bt.levels b := ⟨_, rfl⟩
    obtain ⟨lc, hlc⟩ : ∃ l, l = Bt.levels c := ⟨_, rfl⟩
    obtain ⟨ld, hld⟩ : ∃ l, l = Bt.levels d := ⟨_, rfl⟩
    obtain ⟨pa, hpa⟩ : ∃ p, p = Bt.ptr (Bt.top a) := ⟨_, rfl⟩
    obtain ⟨pb, hpb⟩ : ∃ p, p = Bt.ptr (Bt.top b) := ⟨_, rfl⟩
    obtain ⟨pc, hpc⟩ : ∃ p, p = Bt.ptr (Bt.top c) := ⟨_, rfl⟩
    obtain ⟨pd, hpd⟩ : ∃ p, p = Bt.ptr (Bt.top d) := ⟨_, rfl⟩
    rw [← hla, ← hlb, ← hlc, ← hld] at hl ⊢
    rw [← hla, ← hpa] at CA
    rw [← hlb, ← hpb] at CB
    rw [← hlc, ← hpc] at CC
    rw [← hld, ← hpd] at CD
    rw [← hpa, ← hpb, ← hpc, ← hpd] at hc
    obtain ⟨xa, rfl⟩ : ∃ o, pa = .pointer o := ⟨_, hpa⟩
    obtain ⟨xb, rfl⟩ : ∃ o, pb = .pointer o := ⟨_, hpb⟩
    obtain ⟨xc, rfl⟩ : ∃ o, pc = .pointer o := ⟨_, hpc⟩
    obtain ⟨xd, rfl⟩ : ∃ o, pd = .pointer o := ⟨_, hpd⟩
    have p1 := cells_at hc 1 _ rfl
    have p2 := cells_at hc 2 _ rfl
    have p3 := cells_at hc 3 _ rfl
    have p4 := cells_at hc 4 _ rfl
    obtain ⟨m1, hm1⟩ : ∃ m, m = max 0 la := ⟨_, rfl⟩
    obtain ⟨m2, hm2⟩ : ∃ m, m = max m1 lb := ⟨_, rfl⟩
    obtain ⟨m3, hm3⟩ : ∃ m, m = max m2 lc := ⟨_, rfl⟩
    obtain ⟨m4, hm4⟩ : ∃ m, m = max m3 ld := ⟨_, rfl⟩
    have HM : Hid (m1 = max 0 la ∧ m2 = max m1 lb ∧ m3 = max m2 lc ∧ m4 = max m3 ld) := ⟨hm1, hm2, hm3, hm4⟩
    rw [← hm1, ← hm2, ← hm3, ← hm4] at hl ⊢
    have HL : Hid (m4 + 1 ≤ 1000) := hl
    clear hl
    rw [Bt.top, Bt.ptr_some]
    clear ha hb hcc hd hla hlb hlc hld hpa hpb hpc hpd hm1 hm2 hm3 hm4 hc ho
    have x0 : ∀ W : World, (Instr.index 93 (.agg #[.pointer xa, .pointer xb, .pointer xc, .pointer xd]) (.int .i64 0)).run Tryz.prog W = .ok (.pointer xa) W := fun _ => by kernel_rfl
    have x1 : ∀ W : World, (Instr.index 93 (.agg #[.pointer xa, .pointer xb, .pointer xc, .pointer xd]) (.int .i64 1)).run Tryz.prog W = .ok (.pointer xb) W := fun _ => by kernel_rfl
    have x2 : ∀ W : World, (Instr.index 93 (.agg #[.pointer xa, .pointer xb, .pointer xc, .pointer xd]) (.int .i64 2)).run Tryz.prog W = .ok (.pointer xc) W := fun _ => by kernel_rfl
    have x3 : ∀ W : World, (Instr.index 93 (.agg #[.pointer xa, .pointer xb, .pointer xc, .pointer xd]) (.int .i64 3)).run Tryz.prog W = .ok (.pointer xd) W := fun _ => by kernel_rfl
    go_enter Tryz.func37, Tryz.ntmps37
    go_wp2
    go_loopw [3, 12] (fun v i wr => ∃ (j d : Nat), v = .int .i64 (d : Int) ∧ i = .int .i64 (j : Int) ∧ j ≤ 4 ∧ d = Bt.pick5 j 0 m1 m2 m3 m4 ∧ wr = w) (fun _ i _ => 4 - (intOf i).toNat)
    case atStart => exact ⟨0, 0, rfl, rfl, by omega, rfl, rfl⟩
    case round =>
      obtain ⟨j, dd, rfl, rfl, hj, hd, rfl⟩ := hrel
      rcases (show j = 0 ∨ j = 1 ∨ j = 2 ∨ j = 3 ∨ j = 4 by omega) with rfl | rfl | rfl | rfl | rfl
      · obtain rfl : dd = 0 := hd
        go_wp2_with fail
        refine CA.out.mono ?_
        rintro e w2 ⟨rfl, rfl⟩
        by_cases hx : 0 < la
        · have q : (0 : Int) < (la : Int) := by omega
          have E : Hid (la = m1) := by have := HM.out; show _ = _; omega
          go_wp2
          go_roundw
          case rel => exact ⟨1, la, rfl, rfl, by omega, E.out, trivial⟩
          case measure => simp [intOf]
        · have q : ¬ (0 : Int) < (la : Int) := by omega
          have E : Hid (0 = m1) := by have := HM.out; show _ = _; omega
          go_wp2
          go_roundw
          case rel => exact ⟨1, 0, rfl, rfl, by omega, E.out, trivial⟩
          case measure => simp [intOf]
      · obtain rfl : m1 = dd := hd.symm
        clear hd
        go_wp2_with fail
        refine CB.out.mono ?_
        rintro e w2 ⟨rfl, rfl⟩
        by_cases hx : m1 < lb
        · have q : (m1 : Int) < (lb : Int) := by omega
          have E : Hid (lb = m2) := by have := HM.out; show _ = _; omega
          go_wp2
          go_roundw
          case rel => exact ⟨2, lb, rfl, rfl, by omega, E.out, trivial⟩
          case measure => simp [intOf]
        · have q : ¬ (m1 : Int) < (lb : Int) := by omega
          have E : Hid (m1 = m2) := by have := HM.out; show _ = _; omega
          go_wp2
          go_roundw
          case rel => exact ⟨2, m1, rfl, rfl, by omega, E.out, trivial⟩
          case measure => simp [intOf]
      · obtain rfl : m2 = dd := hd.symm
        clear hd
        go_wp2_with fail
        refine CC.out.mono ?_
        rintro e w2 ⟨rfl, rfl⟩
        by_cases hx : m2 < lc
        · have q : (m2 : Int) < (lc : Int) := by omega
          have E : Hid (lc = m3) := by have := HM.out; show _ = _; omega
          go_wp2
          go_roundw
          case rel => exact ⟨3, lc, rfl, rfl, by omega, E.out, trivial⟩
          case measure => simp [intOf]
        · have q : ¬ (m2 : Int) < (lc : Int) := by omega
          have E : Hid (m2 = m3) := by have := HM.out; show _ = _; omega
          go_wp2
          go_roundw
          case rel => exact ⟨3, m2, rfl, rfl, by omega, E.out, trivial⟩
          case measure => simp [intOf]
      · obtain rfl : m3 = dd := hd.symm
        clear hd
        go_wp2_with fail
        refine CD.out.mono ?_
        rintro e w2 ⟨rfl, rfl⟩
        by_cases hx : m3 < ld
        · have q : (m3 : Int) < (ld : Int) := by omega
          have E : Hid (ld = m4) := by have := HM.out; show _ = _; omega
          go_wp2
          go_roundw
          case rel => exact ⟨4, ld, rfl, rfl, by omega, E.out, trivial⟩
          case measure => simp [intOf]
        · have q : ¬ (m3 : Int) < (ld : Int) := by omega
          have E : Hid (m3 = m4) := by have := HM.out; show _ = _; omega
          go_wp2
          go_roundw
          case rel => exact ⟨4, m3, rfl, rfl, by omega, E.out, trivial⟩
          case measure => simp [intOf]
      · obtain rfl : m4 = dd := hd.symm
        clear hd
        obtain ⟨z, hz⟩ : ∃ z, z = m4 + 1 := ⟨_, rfl⟩
        obtain ⟨vb, vb2⟩ : IntKind.i64.wrap ((m4 : Int) + 1) = (z : Int) ∧ wrap64 ((m4 : Int) + 1) = (z : Int) := Bt.wr (by omega) (by have := HL.out; omega)
        have HZ : Hid (z = m4 + 1) := hz
        clear hz x0 x1 x2 x3
        go_wp2
        go_ret
        exact ⟨by rw [← HZ.out]; rfl, rfl⟩
end Go.Proofs.YtkigenldiinioaaGreatDoor
