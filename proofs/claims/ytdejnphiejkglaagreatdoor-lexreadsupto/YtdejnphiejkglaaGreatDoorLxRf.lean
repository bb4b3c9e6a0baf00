/- The document's next token, walked: numbers, texts, signs; all of it. -/
import Derived.Test.YtdejnphiejkglaaGreatDoorLxRe
namespace Go.Proofs.YtdejnphiejkglaaGreatDoor
open Go.RowKit
namespace Lx
theorem allD_take {l : Bs} {j : Nat} (h : ∀ k, k < j → ∃ b, l[k]? = some b ∧ isD b.toNat = true) : allD (l.take j) = true := by
  rw [allD, List.all_eq_true]
  intro b hb
  obtain ⟨i, hi, rfl⟩ := List.getElem_of_mem hb
  rw [List.length_take] at hi
  obtain ⟨c, h1, h2⟩ := h i (by omega)
  rw [List.getElem_take]
  have := (List.getElem?_eq_some_iff.1 h1).2
  rw [this]
  exact h2
theorem nok_iff (x : UInt8) (r : Bs) (hD : allD (x :: r) = true) : nok (x :: r) = true ↔ (allD (x :: r) = true ∧ dv 0 (x :: r) ≤ 9223372036854775807 ∧ (r = [] ∨ x ≠ 48)) := by
  rw [nok, Bool.and_eq_true, Bool.or_eq_true, decide_eq_true_iff, decide_eq_true_iff, decide_eq_true_iff]
  simp [hD]
theorem wsz_stop : ∀ (s : Bs) (c : UInt8), s[wsz s]? = some c → isW c = true → False
  | [], c, h, _ => by simp at h
  | b :: r, c, h, hw => by
    rw [wsz] at h
    by_cases hb : isW b = true
    · rw [if_pos hb] at h
      exact wsz_stop r c (by simpa using h) hw
    · rw [if_neg hb] at h
      simp at h
      rw [h] at hb
      exact hb hw
/-- digits, and what is behind them -/
theorem numb_of (x : UInt8) (r : Bs) (j : Nat) (hj : 0 < j) (h : ∀ k, k < j → ∃ b, (x :: r)[k]? = some b ∧ isD b.toNat = true) (hn : ∀ b, (x :: r)[j]? = some b → isD b.toNat = false) :
    (numb (x :: r)).err = (if nok ((x :: r).take j) = true ∧ (∀ b, (x :: r)[j]? = some b → isL b.toNat = false) then 0 else 13) ∧
    ((numb (x :: r)).err = 0 → (numb (x :: r)).kind = 3 ∧ (numb (x :: r)).text = [] ∧ (numb (x :: r)).n = ((dv 0 ((x :: r).take j) : Nat) : Int) ∧ (numb (x :: r)).size = j) := by
  have hD := allD_take h
  have hx : isD x.toNat = true := by obtain ⟨b, h1, h2⟩ := h 0 hj; simp at h1; rw [h1]; exact h2
  obtain ⟨i, rfl⟩ : ∃ i, j = i + 1 := ⟨j - 1, by omega⟩
  rw [List.take_succ_cons] at hD ⊢
  by_cases hL : ∀ b, (x :: r)[i + 1]? = some b → isL b.toNat = false
  · have hw : wsz (x :: r) = i + 1 := wsz_of _ _ (fun k hk => by
      obtain ⟨b, h1, h2⟩ := h k hk
      exact ⟨b, h1, by rw [isW, h2]; simp⟩) (fun b hb => by rw [isW, hL b hb, hn b hb]; rfl)
    have e := int_of x (r.take i) hx
    have e2 : numOf ((x :: r).take (wsz (x :: r))) = if allD (x :: r.take i) = true ∧ dv 0 (x :: r.take i) ≤ 9223372036854775807 ∧ (r.take i = [] ∨ x ≠ 48) then some ((dv 0 (x :: r.take i) : Nat) : Int) else none := by
      rw [hw, List.take_succ_cons]
      exact e
    rw [numb, e2]
    by_cases hk : nok (x :: r.take i) = true
    · rw [if_pos ((nok_iff _ _ hD).1 hk), if_pos ⟨hk, hL⟩]
      exact ⟨rfl, fun _ => ⟨rfl, rfl, rfl, hw⟩⟩
    · rw [if_neg (fun h => hk ((nok_iff _ _ hD).2 h)), if_neg (fun h => hk h.1)]
      exact ⟨rfl, fun h => by cases h⟩
  · rw [if_neg (fun h => hL h.2)]
    have e2 : numOf ((x :: r).take (wsz (x :: r))) = none := by
      have hb : ∃ b, (x :: r)[i + 1]? = some b ∧ isL b.toNat = true := Decidable.byContradiction fun hno => hL fun b hb => by
        cases hl : isL b.toNat with
        | false => rfl
        | true => exact absurd ⟨b, hb, hl⟩ hno
      obtain ⟨b, hb1, hb2⟩ := hb
      have hw : i + 1 < wsz (x :: r) := by
        refine Nat.lt_of_not_le fun hle => ?_
        have hlen : wsz (x :: r) < (x :: r).length := by
          have := (List.getElem?_eq_some_iff.1 hb1).1
          omega
        have hstop : ∃ c, (x :: r)[wsz (x :: r)]? = some c ∧ isW c = true := by
          rcases Nat.lt_or_ge (wsz (x :: r)) (i + 1) with h1 | h1
          · obtain ⟨c, h2, h3⟩ := h _ h1
            exact ⟨c, h2, by rw [isW, h3]; simp⟩
          · have : wsz (x :: r) = i + 1 := by omega
            rw [this]
            exact ⟨b, hb1, by rw [isW, hb2]; rfl⟩
        obtain ⟨c, h2, h3⟩ := hstop
        exact wsz_stop _ _ h2 h3
      obtain ⟨z, hz⟩ : ∃ z, wsz (x :: r) = z + 1 := ⟨wsz (x :: r) - 1, by omega⟩
      have e := int_of x (r.take z) hx
      rw [if_neg] at e
      · rw [hz, List.take_succ_cons]; exact e
      · intro hc
        have h4 : (x :: r.take z)[i + 1]? = some b := by
          have : (x :: r.take z) = (x :: r).take (z + 1) := rfl
          rw [this, List.getElem?_take_of_lt (by omega)]
          exact hb1
        have h5 := List.mem_of_getElem? h4
        have h6 := hc.1
        rw [allD, List.all_eq_true] at h6
        have h7 := h6 b h5
        have h8 := hn b hb1
        rw [h7] at h8
        cases h8
    rw [numb, e2]
    exact ⟨rfl, fun h => by cases h⟩
end Lx
end Go.Proofs.YtdejnphiejkglaaGreatDoor
