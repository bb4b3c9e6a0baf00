/- Plain mathematics of check: the first part that is not right tells. -/
import Derived.Test.YtbogggnnmbjlfaaDoorAlone
import Derived.Laws.Cover1
namespace Go.Proofs.YtbogggnnmbjlfaaDoor
namespace Vl
theorem bytes_le : ∀ a b : List UInt8, (Op.bytesLess a b || a == b) = decide (Lib.compareBytes a b ≤ 0)
  | [], [] => rfl
  | [], _ :: _ => rfl
  | _ :: _, [] => rfl
  | x :: r, y :: q => by
    rw [Lib.compareBytes, Op.bytesLess]
    by_cases h1 : x < y
    · simp [h1]
    · by_cases h2 : y < x
      · have h3 : ¬ x = y := fun e => by subst e; exact h1 h2
        simp [h1, h2, h3]
      · have e : x = y := UInt8.le_antisymm (UInt8.not_lt.1 h2) (UInt8.not_lt.1 h1)
        subst e
        have ih := bytes_le r q
        simp only [h1, if_false, decide_false, Bool.false_or]
        rw [← ih]
        simp
theorem str_le (m p : ByteArray) : (Op.bytesLess m.toList p.toList || m.toList == p.toList) = decide (cmpS m p ≤ 0) := by
  rw [bytes_le, Go.ByteArray.toList_eq, Go.ByteArray.toList_eq]
  rfl
section
variable (u : ByteArray → Bool)
theorem checkL_stop (d : Nat) : ∀ (l : List V) (j : Nat) (x : V), (∀ (i : Nat) (x : V), i < j → l[i]? = some x → check u d x = 0) → l[j]? = some x → check u d x ≠ 0 → checkL u d l = check u d x
  | [], _, _, _, h, _ => by simp at h
  | y :: r, 0, x, _, h, h1 => by
    simp only [List.getElem?_cons_zero, Option.some.injEq] at h
    subst h
    rw [checkL, if_pos h1]
  | y :: r, j + 1, x, h0, h, h1 => by
    rw [checkL, if_neg (by simp [h0 0 y (by omega) rfl])]
    exact checkL_stop d r j x (fun i x hi hx => h0 (i + 1) x (by omega) (by simpa using hx)) (by simpa using h) h1
theorem checkL_all (d : Nat) : ∀ (l : List V), (∀ (i : Nat) (x : V), l[i]? = some x → check u d x = 0) → checkL u d l = 0
  | [], _ => by rw [checkL]
  | y :: r, h => by
    rw [checkL, if_neg (by simp [h 0 y rfl])]
    exact checkL_all d r (fun i x hx => h (i + 1) x (by simpa using hx))
/-- why a field is not right, the name ahead of it at hand -/
def check1 (d : Nat) (p : Option ByteArray) (a : ByteArray × V) : Nat :=
  if nameErr u a.1 ≠ 0 then nameErr u a.1 else if notUp a.1 p = true then 18 else check u d a.2
theorem checkF_cons (d : Nat) (p : Option ByteArray) (a : ByteArray × V) (r : List (ByteArray × V)) : checkF u d p (a :: r) = if check1 u d p a ≠ 0 then check1 u d p a else checkF u d (some a.1) r := by
  obtain ⟨m, x⟩ := a
  rw [checkF, check1]
  by_cases h : nameErr u m = 0
  · by_cases h1 : notUp m p = true
    · simp [h, h1]
    · simp [h, h1]
  · simp [h]
end
/-- the name ahead of a place -/
def prevAt (p : Option ByteArray) : List (ByteArray × V) → Nat → Option ByteArray
  | _, 0 => p
  | [], _ + 1 => none
  | a :: r, i + 1 => prevAt (some a.1) r i
theorem prevAt_succ : ∀ (f : List (ByteArray × V)) (p : Option ByteArray) (i : Nat) (a : ByteArray × V), f[i]? = some a → prevAt p f (i + 1) = some a.1
  | [], _, _, _, h => by simp at h
  | b :: r, p, 0, a, h => by
    simp only [List.getElem?_cons_zero, Option.some.injEq] at h
    subst h
    rw [prevAt, prevAt]
  | b :: r, p, i + 1, a, h => by
    rw [prevAt]
    exact prevAt_succ r (some b.1) i a (by simpa using h)
section
variable (u : ByteArray → Bool)
theorem checkF_stop (d : Nat) : ∀ (f : List (ByteArray × V)) (p : Option ByteArray) (j : Nat) (a : ByteArray × V), (∀ (i : Nat) (a : ByteArray × V), i < j → f[i]? = some a → check1 u d (prevAt p f i) a = 0) → f[j]? = some a → check1 u d (prevAt p f j) a ≠ 0 → checkF u d p f = check1 u d (prevAt p f j) a
  | [], _, _, _, _, h, _ => by simp at h
  | b :: r, p, 0, a, _, h, h1 => by
    simp only [List.getElem?_cons_zero, Option.some.injEq] at h
    subst h
    rw [prevAt] at h1 ⊢
    rw [checkF_cons, if_pos h1]
  | b :: r, p, j + 1, a, h0, h, h1 => by
    have h2 := h0 0 b (by omega) rfl
    rw [prevAt] at h2
    rw [prevAt] at h1 ⊢
    rw [checkF_cons, if_neg (by simp [h2])]
    exact checkF_stop d r (some b.1) j a (fun i x hi hx => by have := h0 (i + 1) x (by omega) (by simpa using hx); rwa [prevAt] at this) (by simpa using h) h1
theorem checkF_all (d : Nat) : ∀ (f : List (ByteArray × V)) (p : Option ByteArray), (∀ (i : Nat) (a : ByteArray × V), f[i]? = some a → check1 u d (prevAt p f i) a = 0) → checkF u d p f = 0
  | [], _, _ => by rw [checkF]
  | b :: r, p, h => by
    have h2 := h 0 b rfl
    rw [prevAt] at h2
    rw [checkF_cons, if_neg (by simp [h2])]
    exact checkF_all d r (some b.1) (fun i x hx => by have := h (i + 1) x (by simpa using hx); rwa [prevAt] at this)
/-- parts are looked at only within six -/
theorem alone_depth {d k : Nat} {b : Bool} {n : Int} {s : ByteArray} {l : List V} {f : List (ByteArray × V)} (h : alone u d ⟨k, b, n, s, l, f⟩ = 0) (hp : 0 < l.length ∨ 0 < f.length) : d < 6 := by
  rw [alone] at h
  by_cases h3 : 7 ≤ k ∨ strange ⟨k, b, n, s, l, f⟩ = true
  · rw [if_pos h3] at h; cases h
  · rw [if_neg h3] at h
    rw [not_or] at h3
    have h4 := h3.2
    simp only [strange, Bool.or_eq_true, Bool.and_eq_true, decide_eq_true_eq, not_or, not_and, ne_eq, Decidable.not_not] at h4
    obtain ⟨⟨⟨⟨a1, a2⟩, a3⟩, a4⟩, a5⟩ := h4
    have hk : k = 5 ∨ k = 6 := by
      rcases hp with hp | hp
      · exact Or.inl (a4 hp)
      · exact Or.inr (a5 hp)
    split at h
    · cases h
    · split at h
      · cases h
      · split at h
        · cases h
        · split at h
          · cases h
          · rename_i c; omega
end
end Vl
end Go.Proofs.YtbogggnnmbjlfaaDoor
