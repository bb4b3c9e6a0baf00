/- Plain mathematics: one list more around a value makes no error but that of the depth. -/
import Derived.Test.YtbogggnnmbjlfabDoorCheckM
namespace Go.Proofs.YtbogggnnmbjlfabDoor
namespace Vl
section
variable (u : ByteArray → Bool)
theorem alone_up (d : Nat) (t : V) : (alone u d t = 0 → alone u (d + 1) t = 0 ∨ alone u (d + 1) t = 10) ∧ (alone u d t ≠ 0 → alone u (d + 1) t ≠ 0) := by
  obtain ⟨k, b, n, s, l, f⟩ := t
  rw [alone, alone]
  by_cases h1 : 7 ≤ k ∨ strange ⟨k, b, n, s, l, f⟩ = true
  · simp [h1]
  · by_cases h2 : 1024 < s.size
    · simp [h1, h2]
    · by_cases h3 : k = 3 ∧ u s = false
      · simp only [if_neg h1, if_neg h2, if_pos h3]
        exact ⟨(fun h => by cases h), fun h => h⟩
      · by_cases h4 : 64 < l.length ∨ 64 < f.length
        · simp only [if_neg h1, if_neg h2, if_neg h3, if_pos h4]
          exact ⟨(fun h => by cases h), fun h => h⟩
        · simp only [if_neg h1, if_neg h2, if_neg h3, if_neg h4]
          by_cases h5 : (k = 5 ∨ k = 6) ∧ 6 ≤ d
          · rw [if_pos h5, if_pos ⟨h5.1, by omega⟩]
            exact ⟨(fun h => by cases h), fun h => h⟩
          · rw [if_neg h5]
            refine ⟨fun _ => ?_, fun h => absurd rfl h⟩
            split
            · exact Or.inr rfl
            · exact Or.inl rfl
mutual
theorem check_up0 : ∀ (t : V) (d : Nat), check u d t = 0 → check u (d + 1) t = 0 ∨ check u (d + 1) t = 10
  | ⟨k, b, n, s, l, f⟩, d, h => by
    rw [check] at h ⊢
    have ha := alone_up u d ⟨k, b, n, s, l, f⟩
    by_cases h1 : alone u d ⟨k, b, n, s, l, f⟩ = 0
    · rw [if_neg (by simpa using h1)] at h
      by_cases h2 : checkL u (d + 1) l = 0
      · rw [if_neg (by simpa using h2)] at h
        rcases ha.1 h1 with h3 | h3
        · rw [if_neg (by simpa using h3)]
          rcases checkL_up0 l (d + 1) h2 with h4 | h4
          · rw [if_neg (by simpa using h4)]
            exact checkF_up0 f (d + 1) none h
          · rw [h4]; exact Or.inr (by simp)
        · rw [h3]; exact Or.inr (by simp)
      · rw [if_pos h2] at h; exact absurd h h2
    · rw [if_pos h1] at h; exact absurd h h1
theorem checkL_up0 : ∀ (l : List V) (d : Nat), checkL u d l = 0 → checkL u (d + 1) l = 0 ∨ checkL u (d + 1) l = 10
  | [], _, _ => by rw [checkL]; exact Or.inl rfl
  | x :: r, d, h => by
    rw [checkL] at h ⊢
    by_cases h1 : check u d x = 0
    · rw [if_neg (by simpa using h1)] at h
      rcases check_up0 x d h1 with h3 | h3
      · rw [if_neg (by simpa using h3)]
        exact checkL_up0 r d h
      · rw [h3]; exact Or.inr (by simp)
    · rw [if_pos h1] at h; exact absurd h h1
theorem checkF_up0 : ∀ (f : List (ByteArray × V)) (d : Nat) (p : Option ByteArray), checkF u d p f = 0 → checkF u (d + 1) p f = 0 ∨ checkF u (d + 1) p f = 10
  | [], _, _, _ => by rw [checkF]; exact Or.inl rfl
  | (m, x) :: r, d, p, h => by
    rw [checkF] at h ⊢
    by_cases h0 : nameErr u m = 0
    · rw [if_neg (by simpa using h0)] at h ⊢
      by_cases h2 : notUp m p = true
      · rw [if_pos h2] at h; cases h
      · rw [if_neg h2] at h ⊢
        by_cases h1 : check u d x = 0
        · rw [if_neg (by simpa using h1)] at h
          rcases check_up0 x d h1 with h3 | h3
          · rw [if_neg (by simpa using h3)]
            exact checkF_up0 r d (some m) h
          · rw [h3]; exact Or.inr (by simp)
        · rw [if_pos h1] at h; exact absurd h h1
    · rw [if_pos h0] at h; exact absurd h h0
end
mutual
theorem check_up1 : ∀ (t : V) (d : Nat), check u d t ≠ 0 → check u (d + 1) t ≠ 0
  | ⟨k, b, n, s, l, f⟩, d, h => by
    rw [check] at h ⊢
    have ha := alone_up u d ⟨k, b, n, s, l, f⟩
    by_cases h1 : alone u d ⟨k, b, n, s, l, f⟩ = 0
    · rw [if_neg (by simpa using h1)] at h
      by_cases h3 : alone u (d + 1) ⟨k, b, n, s, l, f⟩ = 0
      · rw [if_neg (by simpa using h3)]
        by_cases h2 : checkL u (d + 1) l = 0
        · rw [if_neg (by simpa using h2)] at h
          by_cases h4 : checkL u (d + 1 + 1) l = 0
          · rw [if_neg (by simpa using h4)]
            exact checkF_up1 f (d + 1) none h
          · rw [if_pos h4]; exact h4
        · have h4 := checkL_up1 l (d + 1) h2
          rw [if_pos h4]; exact h4
      · rw [if_pos h3]; exact h3
    · have h3 := ha.2 h1
      rw [if_pos h3]; exact h3
theorem checkL_up1 : ∀ (l : List V) (d : Nat), checkL u d l ≠ 0 → checkL u (d + 1) l ≠ 0
  | [], _, h => by rw [checkL] at h; exact absurd rfl h
  | x :: r, d, h => by
    rw [checkL] at h ⊢
    by_cases h1 : check u d x = 0
    · rw [if_neg (by simpa using h1)] at h
      by_cases h3 : check u (d + 1) x = 0
      · rw [if_neg (by simpa using h3)]
        exact checkL_up1 r d h
      · rw [if_pos h3]; exact h3
    · have h3 := check_up1 x d h1
      rw [if_pos h3]; exact h3
theorem checkF_up1 : ∀ (f : List (ByteArray × V)) (d : Nat) (p : Option ByteArray), checkF u d p f ≠ 0 → checkF u (d + 1) p f ≠ 0
  | [], _, _, h => by rw [checkF] at h; exact absurd rfl h
  | (m, x) :: r, d, p, h => by
    rw [checkF] at h ⊢
    by_cases h0 : nameErr u m = 0
    · rw [if_neg (by simpa using h0)] at h ⊢
      by_cases h2 : notUp m p = true
      · rw [if_pos h2]; decide
      · rw [if_neg h2] at h ⊢
        by_cases h1 : check u d x = 0
        · rw [if_neg (by simpa using h1)] at h
          by_cases h3 : check u (d + 1) x = 0
          · rw [if_neg (by simpa using h3)]
            exact checkF_up1 r d (some m) h
          · rw [if_pos h3]; exact h3
        · have h3 := check_up1 x d h1
          rw [if_pos h3]; exact h3
    · rw [if_pos h0]; exact h0
end
end
end Vl
end Go.Proofs.YtbogggnnmbjlfabDoor
