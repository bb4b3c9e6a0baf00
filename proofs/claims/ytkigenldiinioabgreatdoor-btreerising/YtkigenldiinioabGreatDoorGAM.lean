/- Several texts, joined: Math, Rep, Count, Low -/
import Derived.Lib.Bytealg
import Derived.Lib.Small
import GoSem.Claim
import Derived.Test.YtkigenldiinioabGreatDoorProg
import Derived.ProofKit
import Derived.OpenShut
import Derived.Deep.RegionHeld3
import Derived.Deep.MidRow
import Derived.Deep.DrawnRows
import Derived.LoopTactic
import Derived.WalkSpells
import Derived.BigRegion
import Derived.Lib.Strings
import Derived.Deep.RegionWith
/- Plain mathematics of values: how many there are in one, how two are held against each other, whether they are the same; nothing of the program is in it. -/
namespace Go.Proofs.YtkigenldiinioabGreatDoor.Vl
/-- a value: its kind, its bool, its number, its text, its list, its fields -/
inductive V where
  | mk (k : Nat) (b : Bool) (n : Int) (s : ByteArray) (l : List V) (f : List (ByteArray × V))
mutual
/-- how many there are in a value -/
def count : V → Nat
  | ⟨_, _, _, _, l, f⟩ => 1 + countL l + countF f
def countL : List V → Nat
  | [] => 0
  | x :: r => count x + countL r
def countF : List (ByteArray × V) → Nat
  | [] => 0
  | (_, x) :: r => count x + countF r
end
def cmpBool (a b : Bool) : Int := if a = b then 0 else if b = true then -1 else 1
def cmpS (a b : ByteArray) : Int := Lib.compareBytes a.data.toList b.data.toList
mutual
/-- how two values are held against each other -/
def cmp : V → V → Int
  | ⟨k, b, n, s, l, f⟩, ⟨k', b', n', s', l', f'⟩ =>
    if k ≠ k' then Lib.compareInt k k'
    else if k = 1 then cmpBool b b'
    else if k = 2 then Lib.compareInt n n'
    else if k = 3 ∨ k = 4 then cmpS s s'
    else if k = 5 then cmpL l l'
    else if k = 6 then cmpF f f'
    else 0
def cmpL : List V → List V → Int
  | [], [] => 0
  | [], _ :: _ => -1
  | _ :: _, [] => 1
  | x :: r, y :: q => if cmp x y ≠ 0 then cmp x y else cmpL r q
def cmpF : List (ByteArray × V) → List (ByteArray × V) → Int
  | [], [] => 0
  | [], _ :: _ => -1
  | _ :: _, [] => 1
  | (m, x) :: r, (p, y) :: q => if cmpS m p ≠ 0 then cmpS m p else if cmp x y ≠ 0 then cmp x y else cmpF r q
end
/-! ### what lists of bytes are -/
theorem bytes_turn : ∀ a b : List UInt8, Lib.compareBytes b a = - Lib.compareBytes a b
  | [], [] => rfl
  | [], _ :: _ => rfl
  | _ :: _, [] => rfl
  | x :: r, y :: q => by
    rw [Lib.compareBytes, Lib.compareBytes]
    by_cases h1 : x < y
    · have h2 : ¬ y < x := UInt8.lt_asymm h1
      rw [if_neg h2, if_pos h1, if_pos h1]; rfl
    · by_cases h2 : y < x
      · rw [if_pos h2, if_neg h1, if_pos h2]
      · rw [if_neg h2, if_neg h1, if_neg h1, if_neg h2, bytes_turn r q]
/-- of three in a row -/
def Tri (x y z : Int) : Prop := x ≤ 0 → y ≤ 0 → z ≤ 0 ∧ (z = 0 → x = 0 ∧ y = 0)
theorem tri_int (a b c : Int) : Tri (Lib.compareInt a b) (Lib.compareInt b c) (Lib.compareInt a c) := by
  unfold Tri Lib.compareInt
  intro h1 h2
  split at h1 <;> split at h2 <;> (repeat' split) <;> first | (refine ⟨by omega, fun h => ?_⟩; omega) | (exfalso; omega)
theorem int_turn (a b : Int) : Lib.compareInt b a = - Lib.compareInt a b := by
  unfold Lib.compareInt
  (repeat' split) <;> omega
theorem int_zero (a b : Int) (h : Lib.compareInt a b = 0) : a = b := by
  unfold Lib.compareInt at h
  split at h
  · cases h
  · split at h
    · cases h
    · omega
theorem int_refl (a : Int) : Lib.compareInt a a = 0 := by
  unfold Lib.compareInt
  (repeat' split) <;> omega
/-- of three in a row, told by the first two that are unlike -/
theorem tri_lex {x y z X Y Z : Int} (h : Tri x y z) (h' : Tri X Y Z) : Tri (if x ≠ 0 then x else X) (if y ≠ 0 then y else Y) (if z ≠ 0 then z else Z) := by
  intro h1 h2
  have hx : x ≤ 0 := by
    by_cases e : x = 0
    · omega
    · rw [if_pos e] at h1; exact h1
  have hy : y ≤ 0 := by
    by_cases e : y = 0
    · omega
    · rw [if_pos e] at h2; exact h2
  obtain ⟨hz, hz0⟩ := h hx hy
  by_cases e : z = 0
  · obtain ⟨ex, ey⟩ := hz0 e
    simp only [ex, ey, e, ne_eq, not_true_eq_false, if_false] at h1 h2 ⊢
    exact h' h1 h2
  · rw [if_pos e]
    exact ⟨hz, fun h0 => absurd h0 e⟩
theorem byte_cmp (x y : UInt8) (R : Int) : (if x < y then (-1 : Int) else if y < x then 1 else R) = if Lib.compareInt x.toNat y.toNat ≠ 0 then Lib.compareInt x.toNat y.toNat else R := by
  unfold Lib.compareInt
  by_cases h1 : x < y
  · have h3 : x.toNat < y.toNat := h1
    simp [h1, h3]
  · by_cases h2 : y < x
    · have h3 : y.toNat < x.toNat := h2
      have h4 : ¬ x.toNat < y.toNat := by omega
      simp [h1, h2, h3, h4]
    · have h3 : ¬ y.toNat < x.toNat := h2
      have h4 : ¬ x.toNat < y.toNat := h1
      simp [h1, h2, h3, h4]
theorem tri_bytes : ∀ a b c : List UInt8, Tri (Lib.compareBytes a b) (Lib.compareBytes b c) (Lib.compareBytes a c)
  | [], [], [] => by simp [Lib.compareBytes, Tri]
  | [], [], _ :: _ => by simp [Lib.compareBytes, Tri]
  | [], _ :: _, [] => by simp [Lib.compareBytes, Tri]
  | [], _ :: _, _ :: _ => by simp [Lib.compareBytes, Tri]
  | _ :: _, [], [] => by simp [Lib.compareBytes, Tri]
  | _ :: _, [], _ :: _ => by simp [Lib.compareBytes, Tri]
  | _ :: _, _ :: _, [] => by simp [Lib.compareBytes, Tri]
  | x :: r, y :: q, z :: t => by
    rw [Lib.compareBytes, Lib.compareBytes, Lib.compareBytes, byte_cmp, byte_cmp, byte_cmp]
    exact tri_lex (tri_int _ _ _) (tri_bytes r q t)
theorem cmpS_turn (a b : ByteArray) : cmpS b a = - cmpS a b := bytes_turn _ _
theorem tri_S (a b c : ByteArray) : Tri (cmpS a b) (cmpS b c) (cmpS a c) := tri_bytes _ _ _
theorem tri_bool (a b c : Bool) : Tri (cmpBool a b) (cmpBool b c) (cmpBool a c) := by
  cases a <;> cases b <;> cases c <;> simp [cmpBool, Tri]
theorem bool_turn (a b : Bool) : cmpBool b a = - cmpBool a b := by cases a <;> cases b <;> simp [cmpBool]
theorem lex_turn (x X : Int) : (if -x ≠ 0 then -x else -X) = - (if x ≠ 0 then x else X) := by
  by_cases h : x = 0
  · simp [h]
  · have : - x ≠ 0 := by omega
    simp [h]
mutual
theorem cmp_turn : ∀ a b : V, cmp b a = - cmp a b
  | ⟨k, b, n, s, l, f⟩, ⟨k', b', n', s', l', f'⟩ => by
    rw [cmp, cmp]
    by_cases hk : k = k'
    · subst hk
      rw [bool_turn b b', int_turn n n', cmpS_turn s s', cmpL_turn l l', cmpF_turn f f']
      (repeat' split) <;> simp_all
    · have hk' : k' ≠ k := fun h => hk h.symm
      rw [if_pos hk, if_pos hk', int_turn]
theorem cmpL_turn : ∀ a b : List V, cmpL b a = - cmpL a b
  | [], [] => rfl
  | [], _ :: _ => rfl
  | _ :: _, [] => rfl
  | x :: r, y :: q => by rw [cmpL, cmpL, cmp_turn x y, cmpL_turn r q]; exact lex_turn _ _
theorem cmpF_turn : ∀ a b : List (ByteArray × V), cmpF b a = - cmpF a b
  | [], [] => rfl
  | [], _ :: _ => rfl
  | _ :: _, [] => rfl
  | (m, x) :: r, (p, y) :: q => by rw [cmpF, cmpF, cmpS_turn m p, cmp_turn x y, cmpF_turn r q, lex_turn]; exact lex_turn _ _
end
mutual
theorem tri_cmp : ∀ a b c : V, Tri (cmp a b) (cmp b c) (cmp a c)
  | ⟨k, b, n, s, l, f⟩, ⟨k', b', n', s', l', f'⟩, ⟨k2, b2, n2, s2, l2, f2⟩ => by
    have h1 := tri_int k k' k2
    have hb := tri_bool b b' b2
    have hn := tri_int n n' n2
    have hs := tri_S s s' s2
    have hl := tri_L l l' l2
    have hf := tri_F f f' f2
    rw [cmp, cmp, cmp]
    by_cases e1 : k = k'
    · subst e1
      by_cases e2 : k = k2
      · subst e2
        simp only [ne_eq, not_true_eq_false, if_false]
        (repeat' split) <;> first | assumption | simp [Tri]
      · simp only [ne_eq, e2, not_false_eq_true, if_true, not_true_eq_false, if_false]
        intro h2 h3
        refine ⟨h3, fun h => ?_⟩
        exact absurd (int_zero _ _ h) (by omega)
    · by_cases e2 : k' = k2
      · subst e2
        simp only [ne_eq, e1, not_false_eq_true, if_true, not_true_eq_false, if_false]
        intro h2 h3
        refine ⟨h2, fun h => ?_⟩
        exact absurd (int_zero _ _ h) (by omega)
      · by_cases e3 : k = k2
        · subst e3
          simp only [ne_eq, e1, e2, not_false_eq_true, if_true]
          intro h2 h3
          have h4 := h1 h2 h3
          rw [int_refl] at h4
          have := (h4.2 rfl).1
          exact absurd (int_zero _ _ this) (by omega)
        · simp only [ne_eq, e1, e2, e3, not_false_eq_true, if_true]
          exact h1
theorem tri_L : ∀ a b c : List V, Tri (cmpL a b) (cmpL b c) (cmpL a c)
  | [], [], [] => by simp [cmpL, Tri]
  | [], [], _ :: _ => by simp [cmpL, Tri]
  | [], _ :: _, [] => by simp [cmpL, Tri]
  | [], _ :: _, _ :: _ => by simp [cmpL, Tri]
  | _ :: _, [], [] => by simp [cmpL, Tri]
  | _ :: _, [], _ :: _ => by simp [cmpL, Tri]
  | _ :: _, _ :: _, [] => by simp [cmpL, Tri]
  | x :: r, y :: q, z :: t => by
    rw [cmpL, cmpL, cmpL]
    exact tri_lex (tri_cmp x y z) (tri_L r q t)
theorem tri_F : ∀ a b c : List (ByteArray × V), Tri (cmpF a b) (cmpF b c) (cmpF a c)
  | [], [], [] => by simp [cmpF, Tri]
  | [], [], _ :: _ => by simp [cmpF, Tri]
  | [], _ :: _, [] => by simp [cmpF, Tri]
  | [], _ :: _, _ :: _ => by simp [cmpF, Tri]
  | _ :: _, [], [] => by simp [cmpF, Tri]
  | _ :: _, [], _ :: _ => by simp [cmpF, Tri]
  | _ :: _, _ :: _, [] => by simp [cmpF, Tri]
  | (m, x) :: r, (p, y) :: q, (o, z) :: t => by
    rw [cmpF, cmpF, cmpF]
    exact tri_lex (tri_S m p o) (tri_lex (tri_cmp x y z) (tri_F r q t))
end
mutual
/-- whether two values are the same -/
def same : V → V → Bool
  | ⟨k, b, n, s, l, f⟩, ⟨k', b', n', s', l', f'⟩ => decide (k = k') && decide (b = b') && decide (n = n') && decide (s = s') && sameL l l' && sameF f f'
def sameL : List V → List V → Bool
  | [], [] => true
  | [], _ :: _ => false
  | _ :: _, [] => false
  | x :: r, y :: q => same x y && sameL r q
def sameF : List (ByteArray × V) → List (ByteArray × V) → Bool
  | [], [] => true
  | [], _ :: _ => false
  | _ :: _, [] => false
  | (m, x) :: r, (p, y) :: q => decide (m = p) && same x y && sameF r q
end
mutual
theorem same_refl : ∀ a : V, same a a = true
  | ⟨k, b, n, s, l, f⟩ => by rw [same, sameL_refl l, sameF_refl f]; simp
theorem sameL_refl : ∀ a : List V, sameL a a = true
  | [] => rfl
  | x :: r => by rw [sameL, same_refl x, sameL_refl r]; rfl
theorem sameF_refl : ∀ a : List (ByteArray × V), sameF a a = true
  | [] => rfl
  | (m, x) :: r => by rw [sameF, same_refl x, sameF_refl r]; simp
end
section
variable (utf : ByteArray → Bool)
/-- whether a field that the kind has not is not zero -/
def strange : V → Bool
  | ⟨k, b, n, s, l, f⟩ => (b && decide (k ≠ 1)) || (decide (n ≠ 0) && decide (k ≠ 2)) || (decide (s.size ≠ 0) && decide (k ≠ 3) && decide (k ≠ 4)) || (decide (0 < l.length) && decide (k ≠ 5)) || (decide (0 < f.length) && decide (k ≠ 6))
/-- the error of a value whose parts are not looked at -/
def alone (d : Nat) : V → Nat
  | ⟨k, b, n, s, l, f⟩ =>
    if 7 ≤ k ∨ strange ⟨k, b, n, s, l, f⟩ = true then 5
    else if 1024 < s.size then 4
    else if k = 3 ∧ utf s = false then 9
    else if 64 < l.length ∨ 64 < f.length then 3
    else if (k = 5 ∨ k = 6) ∧ 6 ≤ d then 10
    else 0
/-- the error of a name -/
def nameErr (m : ByteArray) : Nat := if m.size = 0 ∨ 1024 < m.size then 4 else if utf m = false then 9 else 0
/-- whether a name is not above the one ahead of it -/
def notUp (m : ByteArray) : Option ByteArray → Bool
  | none => false
  | some p => decide (cmpS m p ≤ 0)
mutual
/-- why a value is not right that has so many around it -/
def check (d : Nat) : V → Nat
  | ⟨k, b, n, s, l, f⟩ =>
    if alone utf d ⟨k, b, n, s, l, f⟩ ≠ 0 then alone utf d ⟨k, b, n, s, l, f⟩
    else if checkL (d + 1) l ≠ 0 then checkL (d + 1) l
    else checkF (d + 1) none f
def checkL (d : Nat) : List V → Nat
  | [] => 0
  | x :: r => if check d x ≠ 0 then check d x else checkL d r
def checkF (d : Nat) (prev : Option ByteArray) : List (ByteArray × V) → Nat
  | [] => 0
  | (m, x) :: r =>
    if nameErr utf m ≠ 0 then nameErr utf m
    else if notUp m prev = true then 18
    else if check d x ≠ 0 then check d x
    else checkF d (some m) r
end
end
end Go.Proofs.YtkigenldiinioabGreatDoor.Vl
/- How a value lies in memory: six cells, its list and its fields as rows in blocks below a bound; what stays of it when new blocks come. -/
namespace Go.Proofs.YtkigenldiinioabGreatDoor
open Go.RowKit
open Vl (V)
/-- six cells that lie in a row -/
def Six (w : World) (g o : Nat) (c0 c1 c2 c3 c4 c5 : Value) : Prop :=
  w.cell? ⟨g, o, none⟩ = some c0 ∧ w.cell? ⟨g, o + 1, none⟩ = some c1 ∧ w.cell? ⟨g, o + 2, none⟩ = some c2 ∧ w.cell? ⟨g, o + 3, none⟩ = some c3 ∧ w.cell? ⟨g, o + 4, none⟩ = some c4 ∧ w.cell? ⟨g, o + 5, none⟩ = some c5
mutual
/-- a value as its six cells are -/
def Rep (w : World) (H : Nat) : V → Value → Prop
  | ⟨k, b, n, s, l, f⟩, v => ∃ (ao : Option Addr) (lc : Nat) (fo : Option Addr) (fc : Nat),
      v = .agg #[.int .u8 (k : Int), .bool b, .int .i64 n, .string s, .slice ao l.length lc, .slice fo f.length fc] ∧
      k < 256 ∧ (-9223372036854775808 ≤ n ∧ n < 9223372036854775808) ∧ s.size ≤ maxLen ∧ l.length ≤ maxLen ∧ f.length ≤ maxLen ∧
      (0 < l.length → ∃ g o, ao = some ⟨g, o, none⟩ ∧ g < H ∧ RepL w H g o l) ∧
      (0 < f.length → ∃ g o, fo = some ⟨g, o, none⟩ ∧ g < H ∧ RepF w H g o f)
/-- the parts of a list from a place on -/
def RepL (w : World) (H g : Nat) : Nat → List V → Prop
  | _, [] => True
  | o, x :: r => (∃ c0 c1 c2 c3 c4 c5, Six w g o c0 c1 c2 c3 c4 c5 ∧ Rep w H x (.agg #[c0, c1, c2, c3, c4, c5])) ∧ RepL w H g (o + 6) r
/-- fields from a place on: the name, and the value behind it -/
def RepF (w : World) (H g : Nat) : Nat → List (ByteArray × V) → Prop
  | _, [] => True
  | o, (m, x) :: r => (w.cell? ⟨g, o, none⟩ = some (.string m) ∧ m.size ≤ maxLen ∧ ∃ c0 c1 c2 c3 c4 c5, Six w g (o + 1) c0 c1 c2 c3 c4 c5 ∧ Rep w H x (.agg #[c0, c1, c2, c3, c4, c5])) ∧ RepF w H g (o + 7) r
end
theorem Six.stays {w w' : World} {H g o : Nat} {c0 c1 c2 c3 c4 c5 : Value} (hb : Below H w w') (hg : g < H) (h : Six w g o c0 c1 c2 c3 c4 c5) : Six w' g o c0 c1 c2 c3 c4 c5 := by
  obtain ⟨h0, h1, h2, h3, h4, h5⟩ := h
  exact ⟨(hb.cell (p := ⟨g, o, none⟩) hg).trans h0, (hb.cell (p := ⟨g, o + 1, none⟩) hg).trans h1, (hb.cell (p := ⟨g, o + 2, none⟩) hg).trans h2, (hb.cell (p := ⟨g, o + 3, none⟩) hg).trans h3, (hb.cell (p := ⟨g, o + 4, none⟩) hg).trans h4, (hb.cell (p := ⟨g, o + 5, none⟩) hg).trans h5⟩
mutual
theorem rep_stays {w w' : World} {H K : Nat} (hb : Below H w w') (hK : H ≤ K) : ∀ (t : V) (v : Value), Rep w H t v → Rep w' K t v
  | ⟨k, b, n, s, l, f⟩, v, h => by
    rw [Rep] at h ⊢
    obtain ⟨ao, lc, fo, fc, h1, h2, h3, h4, h5, h6, h7, h8⟩ := h
    refine ⟨ao, lc, fo, fc, h1, h2, h3, h4, h5, h6, fun hp => ?_, fun hp => ?_⟩
    · obtain ⟨g, o, e, hg, hr⟩ := h7 hp
      exact ⟨g, o, e, by omega, repL_stays hb hK hg l o hr⟩
    · obtain ⟨g, o, e, hg, hr⟩ := h8 hp
      exact ⟨g, o, e, by omega, repF_stays hb hK hg f o hr⟩
theorem repL_stays {w w' : World} {H K g : Nat} (hb : Below H w w') (hK : H ≤ K) (hg : g < H) : ∀ (l : List V) (o : Nat), RepL w H g o l → RepL w' K g o l
  | [], _, _ => by rw [RepL]; trivial
  | x :: r, o, h => by
    rw [RepL] at h ⊢
    obtain ⟨⟨c0, c1, c2, c3, c4, c5, h1, h2⟩, h3⟩ := h
    exact ⟨⟨c0, c1, c2, c3, c4, c5, h1.stays hb hg, rep_stays hb hK x _ h2⟩, repL_stays hb hK hg r _ h3⟩
theorem repF_stays {w w' : World} {H K g : Nat} (hb : Below H w w') (hK : H ≤ K) (hg : g < H) : ∀ (l : List (ByteArray × V)) (o : Nat), RepF w H g o l → RepF w' K g o l
  | [], _, _ => by rw [RepF]; trivial
  | (m, x) :: r, o, h => by
    rw [RepF] at h ⊢
    obtain ⟨⟨h0, hm, c0, c1, c2, c3, c4, c5, h1, h2⟩, h3⟩ := h
    exact ⟨⟨(hb.cell (p := ⟨g, o, none⟩) hg).trans h0, hm, c0, c1, c2, c3, c4, c5, h1.stays hb hg, rep_stays hb hK x _ h2⟩, repF_stays hb hK hg r _ h3⟩
end
/-- one part of a list -/
theorem repL_at {w : World} {H g : Nat} : ∀ (l : List V) (o : Nat), RepL w H g o l → ∀ (j : Nat) (x : V), l[j]? = some x →
    ∃ c0 c1 c2 c3 c4 c5, Six w g (o + j * 6) c0 c1 c2 c3 c4 c5 ∧ Rep w H x (.agg #[c0, c1, c2, c3, c4, c5])
  | [], _, _, j, x, e => by simp at e
  | y :: r, o, h, 0, x, e => by
    rw [RepL] at h
    simp only [List.getElem?_cons_zero, Option.some.injEq] at e
    subst e
    simpa using h.1
  | y :: r, o, h, j + 1, x, e => by
    rw [RepL] at h
    have := repL_at r (o + 6) h.2 j x (by simpa using e)
    rw [show o + 6 + j * 6 = o + (j + 1) * 6 by omega] at this
    exact this
theorem repF_at {w : World} {H g : Nat} : ∀ (l : List (ByteArray × V)) (o : Nat), RepF w H g o l → ∀ (j : Nat) (m : ByteArray) (x : V), l[j]? = some (m, x) →
    w.cell? ⟨g, o + j * 7, none⟩ = some (.string m) ∧ m.size ≤ maxLen ∧ ∃ c0 c1 c2 c3 c4 c5, Six w g (o + j * 7 + 1) c0 c1 c2 c3 c4 c5 ∧ Rep w H x (.agg #[c0, c1, c2, c3, c4, c5])
  | [], _, _, j, m, x, e => by simp at e
  | (m', y) :: r, o, h, 0, m, x, e => by
    rw [RepF] at h
    simp only [List.getElem?_cons_zero, Option.some.injEq, Prod.mk.injEq] at e
    obtain ⟨rfl, rfl⟩ := e
    simpa using h.1
  | (m', y) :: r, o, h, j + 1, m, x, e => by
    rw [RepF] at h
    have := repF_at r (o + 7) h.2 j m x (by simpa using e)
    rw [show o + 7 + j * 7 = o + (j + 1) * 7 by omega] at this
    exact this
/-- what the six cells are -/
theorem rep_form {w : World} {H : Nat} {x : V} {c0 c1 c2 c3 c4 c5 : Value} (h : Rep w H x (.agg #[c0, c1, c2, c3, c4, c5])) :
    ∃ (k : Nat) (b : Bool) (n : Int) (s : ByteArray) (ao : Option Addr) (ll lc : Nat) (fo : Option Addr) (fl fc : Nat), c0 = .int .u8 (k : Int) ∧ c1 = .bool b ∧ c2 = .int .i64 n ∧ c3 = .string s ∧ c4 = .slice ao ll lc ∧ c5 = .slice fo fl fc := by
  obtain ⟨k, b, n, s, l, f⟩ := x
  rw [Rep] at h
  obtain ⟨ao, lc, fo, fc, h1, _⟩ := h
  simp only [Value.agg.injEq, Array.mk.injEq, List.cons.injEq, and_true] at h1
  obtain ⟨e0, e1, e2, e3, e4, e5⟩ := h1
  exact ⟨k, b, n, s, ao, l.length, lc, fo, f.length, fc, e0, e1, e2, e3, e4, e5⟩
end Go.Proofs.YtkigenldiinioabGreatDoor
/- Count, walked: whatever the value, it answers how many there are in it (as an int wraps), and changes nothing that lay there. -/
namespace Go.Proofs.YtkigenldiinioabGreatDoor
open Go.RowKit
open Vl (V)
theorem info44 : (Tryz.prog.info? 93).map (·.size) = some 7 := by kernel_rfl
namespace Vl
theorem countL_take (l : List V) (k : Nat) (x : V) (h : l[k]? = some x) : countL (l.take (k + 1)) = countL (l.take k) + count x := by
  induction l generalizing k with
  | nil => simp at h
  | cons y r ih =>
    cases k with
    | zero => simp at h; subst h; simp [countL]
    | succ k =>
      simp only [List.getElem?_cons_succ] at h
      simp only [List.take_succ_cons, countL]
      rw [ih k h]; omega
theorem countF_take (l : List (ByteArray × V)) (k : Nat) (m : ByteArray) (x : V) (h : l[k]? = some (m, x)) : countF (l.take (k + 1)) = countF (l.take k) + count x := by
  induction l generalizing k with
  | nil => simp at h
  | cons y r ih =>
    obtain ⟨m', y⟩ := y
    cases k with
    | zero => simp at h; obtain ⟨rfl, rfl⟩ := h; simp [countF]
    | succ k =>
      simp only [List.getElem?_cons_succ] at h
      simp only [List.take_succ_cons, countF]
      rw [ih k h]; omega
theorem countL_take_le (l : List V) (k : Nat) : countL (l.take k) ≤ countL l := by
  induction l generalizing k with
  | nil => simp
  | cons y r ih =>
    cases k with
    | zero => simp [countL]
    | succ k => simp only [List.take_succ_cons, countL]; have := ih k; omega
theorem countF_take_le (l : List (ByteArray × V)) (k : Nat) : countF (l.take k) ≤ countF l := by
  induction l generalizing k with
  | nil => simp
  | cons y r ih =>
    obtain ⟨m', y⟩ := y
    cases k with
    | zero => simp [countF]
    | succ k => simp only [List.take_succ_cons, countF]; have := ih k; omega
theorem count_partL {k : Nat} {b : Bool} {n : Int} {s : ByteArray} {l : List V} {f : List (ByteArray × V)} {j : Nat} {x : V} (h : l[j]? = some x) : count x < count ⟨k, b, n, s, l, f⟩ := by
  have h1 := countL_take l j x h
  have h2 := countL_take_le l (j + 1)
  rw [count]; omega
theorem count_partF {k : Nat} {b : Bool} {n : Int} {s : ByteArray} {l : List V} {f : List (ByteArray × V)} {j : Nat} {m : ByteArray} {x : V} (h : f[j]? = some (m, x)) : count x < count ⟨k, b, n, s, l, f⟩ := by
  have h1 := countF_take f j m x h
  have h2 := countF_take_le f (j + 1)
  rw [count]; omega
end Vl
theorem maxLen_lt {n : Nat} (h : n ≤ maxLen) : n ≤ 9223372036854775807 := by
  unfold maxLen at h
  omega
theorem below_new (w : World) (o : Obj) : Below w.heap.size w (w.alloc o) := (Below.refl _ _).alloc (Nat.le_refl _) _
end Go.Proofs.YtkigenldiinioabGreatDoor
/- Plain lemmas of lists of values, and of two boxes. -/
namespace Go.Proofs.YtkigenldiinioabGreatDoor
open Go.RowKit
open Vl (V)
/-- how a list of values lies, whatever its slice -/
def LiesL (w : World) (H : Nat) (ao : Option Addr) (l : List V) : Prop := l.length ≤ maxLen ∧ (0 < l.length → ∃ g o, ao = some ⟨g, o, none⟩ ∧ g < H ∧ RepL w H g o l)
def LiesF (w : World) (H : Nat) (ao : Option Addr) (l : List (ByteArray × V)) : Prop := l.length ≤ maxLen ∧ (0 < l.length → ∃ g o, ao = some ⟨g, o, none⟩ ∧ g < H ∧ RepF w H g o l)
namespace Vl
theorem count_memL {k : Nat} {b : Bool} {n : Int} {s : ByteArray} {l : List V} {f : List (ByteArray × V)} {x : V} (h : x ∈ l) : count x < count ⟨k, b, n, s, l, f⟩ := by
  obtain ⟨j, h⟩ := List.mem_iff_getElem?.1 h
  exact count_partL h
theorem count_memF {k : Nat} {b : Bool} {n : Int} {s : ByteArray} {l : List V} {f : List (ByteArray × V)} {x : ByteArray × V} (h : x ∈ f) : count x.2 < count ⟨k, b, n, s, l, f⟩ := by
  obtain ⟨j, h⟩ := List.mem_iff_getElem?.1 h
  exact count_partF (m := x.1) h
end Vl
theorem below_new2 (w : World) (o p : Obj) : Below w.heap.size w ((w.alloc o).alloc p) := (below_new w o).trans ((below_new _ p).mono (by simp))
theorem LiesL.stays {w w' : World} {H K : Nat} {ao : Option Addr} {l : List V} (h : LiesL w H ao l) (hb : Below H w w') (hK : H ≤ K) : LiesL w' K ao l :=
  ⟨h.1, fun hp => by
    obtain ⟨g, o, e, hg, hr⟩ := h.2 hp
    exact ⟨g, o, e, by omega, repL_stays hb hK hg l o hr⟩⟩
theorem LiesF.stays {w w' : World} {H K : Nat} {ao : Option Addr} {l : List (ByteArray × V)} (h : LiesF w H ao l) (hb : Below H w w') (hK : H ≤ K) : LiesF w' K ao l :=
  ⟨h.1, fun hp => by
    obtain ⟨g, o, e, hg, hr⟩ := h.2 hp
    exact ⟨g, o, e, by omega, repF_stays hb hK hg l o hr⟩⟩
namespace Vl
def same1 (a b : ByteArray × V) : Bool := decide (a.1 = b.1) && same a.2 b.2
theorem toList_ne {m p : ByteArray} (h : ¬ m = p) : ¬ m.toList = p.toList := fun e => h (by
  rw [Go.ByteArray.toList_eq, Go.ByteArray.toList_eq] at e
  exact Go.WideShapes.bytes_inj e)
theorem sameL_no : ∀ (l r : List V) (j : Nat) (x y : V), l[j]? = some x → r[j]? = some y → same x y = false → sameL l r = false
  | [], _, _, _, _, h, _, _ => by simp at h
  | _ :: _, [], _, _, _, _, h, _ => by simp at h
  | x :: l, y :: r, 0, x', y', h1, h2, h3 => by
    simp only [List.getElem?_cons_zero, Option.some.injEq] at h1 h2
    subst h1; subst h2
    rw [sameL, h3, Bool.false_and]
  | x :: l, y :: r, j + 1, x', y', h1, h2, h3 => by
    rw [sameL, sameL_no l r j x' y' (by simpa using h1) (by simpa using h2) h3, Bool.and_false]
theorem sameL_all : ∀ (l r : List V), l.length = r.length → (∀ (i : Nat) (x y : V), l[i]? = some x → r[i]? = some y → same x y = true) → sameL l r = true
  | [], [], _, _ => by rw [sameL]
  | [], y :: r, h, _ => by simp at h
  | x :: l, [], h, _ => by simp at h
  | x :: l, y :: r, h, h0 => by
    rw [sameL, h0 0 x y rfl rfl, sameL_all l r (by simpa using h) (fun i a b ha hb => h0 (i + 1) a b (by simpa using ha) (by simpa using hb))]
    rfl
theorem sameF_cons (a b : ByteArray × V) (l r : List (ByteArray × V)) : sameF (a :: l) (b :: r) = (same1 a b && sameF l r) := by
  obtain ⟨m, x⟩ := a
  obtain ⟨p, y⟩ := b
  rw [sameF, same1]
theorem sameF_no : ∀ (l r : List (ByteArray × V)) (j : Nat) (x y : ByteArray × V), l[j]? = some x → r[j]? = some y → same1 x y = false → sameF l r = false
  | [], _, _, _, _, h, _, _ => by simp at h
  | _ :: _, [], _, _, _, _, h, _ => by simp at h
  | x :: l, y :: r, 0, x', y', h1, h2, h3 => by
    simp only [List.getElem?_cons_zero, Option.some.injEq] at h1 h2
    subst h1; subst h2
    rw [sameF_cons, h3, Bool.false_and]
  | x :: l, y :: r, j + 1, x', y', h1, h2, h3 => by
    rw [sameF_cons, sameF_no l r j x' y' (by simpa using h1) (by simpa using h2) h3, Bool.and_false]
theorem sameF_all : ∀ (l r : List (ByteArray × V)), l.length = r.length → (∀ (i : Nat) (x y : ByteArray × V), l[i]? = some x → r[i]? = some y → same1 x y = true) → sameF l r = true
  | [], [], _, _ => by rw [sameF]
  | [], y :: r, h, _ => by simp at h
  | x :: l, [], h, _ => by simp at h
  | x :: l, y :: r, h, h0 => by
    rw [sameF_cons, h0 0 x y rfl rfl, sameF_all l r (by simpa using h) (fun i a b ha hb => h0 (i + 1) a b (by simpa using ha) (by simpa using hb))]
    rfl
end Vl
theorem boxA (w : World) (A B : Array Value) (t u : TypeId) (i : Nat) (v : Value) (h : A[i]? = some v) : ((w.alloc (.cells A t)).alloc (.cells B u)).cell? ⟨w.heap.size, i, none⟩ = some v := by
  have h1 : ((w.alloc (.cells A t)).alloc (.cells B u)).heap[w.heap.size]? = some (.cells A t (0, 0)) := (Below.heap_alloc _ _ _ (by simp)).trans (heap_alloc_new w _)
  rw [cell_of_row _ _ _ _ _ _ h1]; exact h
theorem boxB (w : World) (A B : Array Value) (t u : TypeId) (i : Nat) (v : Value) (h : B[i]? = some v) : ((w.alloc (.cells A t)).alloc (.cells B u)).cell? ⟨w.heap.size + 1, i, none⟩ = some v := by
  have h1 : ((w.alloc (.cells A t)).alloc (.cells B u)).heap[w.heap.size + 1]? = some (.cells B u (0, 0)) := by
    have := heap_alloc_new (w.alloc (.cells A t)) (.cells B u)
    simpa using this
  rw [cell_of_row _ _ _ _ _ _ h1]; exact h
end Go.Proofs.YtkigenldiinioabGreatDoor
