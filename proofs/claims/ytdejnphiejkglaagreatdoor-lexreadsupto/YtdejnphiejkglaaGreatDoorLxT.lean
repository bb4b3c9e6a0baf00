/- There and back: what is read as a token has a text that is read as the token. -/
import Derived.Test.YtdejnphiejkglaaGreatDoorLxS
namespace Go.Proofs.YtdejnphiejkglaaGreatDoor.Lx
theorem one_tok {y : UInt8} {q : Bs} {k : Nat} {t : Bs} {n : Int} (hb : bl (y :: q) = 0) (hf : frst (y :: q) = ⟨0, k, t, n, (y :: q).length⟩) (hl : (y :: q).length ≤ 16384) : lex (y :: q) = ⟨[⟨k, t, n, 0⟩], 0, 0⟩ := by
  have h0 : Toks ((y :: q).drop (frst (y :: q)).size) (0 + bl (y :: q) + (frst (y :: q)).size) [] := .nil (by rw [hf]; simp [bl])
  have h := Toks.cons (a := 0) (l := y :: q) (x := y) (r := q) (ts := []) (by rw [hb]; rfl) (by rw [hf]) h0
  rw [hb, hf] at h
  exact toks_lex hl h
theorem byte_all {P : UInt8 → Prop} (h : ∀ n : Fin 256, P (UInt8.ofNat n.val)) (b : UInt8) : P b := by
  have := h ⟨b.toNat, UInt8.toNat_lt _⟩
  simpa using this
theorem bl_not {x : UInt8} {r : Bs} (h : ¬ (x = 32 ∨ x = 9 ∨ x = 10 ∨ x = 13)) : bl (x :: r) = 0 := by rw [bl, if_neg h]
theorem w_not (b : UInt8) : isW b = true → ¬ (b = 32 ∨ b = 9 ∨ b = 10 ∨ b = 13) := byte_all (P := fun b => isW b = true → ¬ (b = 32 ∨ b = 9 ∨ b = 10 ∨ b = 13)) (by decide +kernel) b
theorem s_not (b : UInt8) : signs.contains b = true → ¬ (b = 32 ∨ b = 9 ∨ b = 10 ∨ b = 13) := byte_all (P := fun b => signs.contains b = true → ¬ (b = 32 ∨ b = 9 ∨ b = 10 ∨ b = 13)) (by decide +kernel) b
theorem up_W (b : UInt8) : isW (up b) = isW b := byte_all (P := fun b => isW (up b) = isW b) (by decide +kernel) b
theorem up_L (b : UInt8) : isL (up b).toNat = isL b.toNat := byte_all (P := fun b => isL (up b).toNat = isL b.toNat) (by decide +kernel) b
theorem up_up (b : UInt8) : up (up b) = up b := byte_all (P := fun b => up (up b) = up b) (by decide +kernel) b
theorem wsz_take : ∀ l : Bs, wsz (l.take (wsz l)) = wsz l
  | [] => rfl
  | b :: r => by
    by_cases h : isW b
    · rw [wsz, if_pos h, List.take_succ_cons, wsz, if_pos h, wsz_take r]
    · rw [wsz, if_neg h, List.take_zero]; rfl
theorem wsz_great : ∀ l : Bs, wsz (great l) = wsz l
  | [] => rfl
  | b :: r => by
    show wsz (up b :: great r) = _
    rw [wsz, wsz, up_W, wsz_great r]
theorem great_great (l : Bs) : great (great l) = great l := by
  rw [great, great, List.map_map]
  exact List.map_congr_left (fun b _ => up_up b)
theorem great_len (l : Bs) : (great l).length = l.length := by rw [great, List.length_map]
theorem quo_dbl : ∀ t : Bs, quo (dbl t ++ [39]) = some (t, (dbl t).length + 1)
  | [] => rfl
  | b :: r => by
    by_cases h : b = 39
    · subst h
      rw [dbl, if_pos rfl, List.cons_append, List.cons_append, quo_twice, quo_dbl r]
      simp
    · rw [dbl, if_neg h, List.cons_append, quo_plain h, quo_dbl r]
      simp
theorem take_self {l : Bs} {z : Nat} (h : (l.take z).length = z) : (l.take z).take z = l.take z := List.take_of_length_le (by omega)
theorem numOf_len {d : Bs} {v : Int} (h : numOf d = some v) : d.length ≤ 21 := by
  rw [numOf] at h
  split at h
  · rename_i u hu
    have hb := Lib.parseIntB_bounds hu
    simp at hb
    split at h
    · rename_i h3
      cases h
      rw [← h3]
      exact Lib.itoa_length_le _ (by omega) (by omega)
    · cases h
  · cases h
theorem sgn_one (x : UInt8) : sgn [x] = if signs.contains x then 1 else 0 := by rw [sgn]; simp [pre2]
theorem sgn_key {x : UInt8} {r : Bs} (h4 : 0 < sgn (x :: r)) : ∃ y q, (x :: r).take (sgn (x :: r)) = y :: q ∧ y = x ∧ sgn (y :: q) = (y :: q).length ∧ (y :: q).length ≤ 2 ∧ signs.contains x = true := by
  cases r with
  | nil =>
    rw [sgn_one] at h4 ⊢
    by_cases h : signs.contains x
    · rw [if_pos h]
      exact ⟨x, [], rfl, rfl, by rw [sgn_one, if_pos h]; rfl, by simp, h⟩
    · rw [if_neg h] at h4; omega
  | cons y r =>
    have hp : ∀ a b q, pre2 a b (x :: y :: q) = (x == a && y == b) := fun a b q => rfl
    rw [sgn] at h4 ⊢
    by_cases h : (pre2 60 62 (x :: y :: r) || pre2 60 61 (x :: y :: r) || pre2 62 61 (x :: y :: r)) = true
    · rw [if_pos h]
      refine ⟨x, [y], rfl, rfl, ?_, by simp, ?_⟩
      · rw [sgn]
        rw [hp, hp, hp] at h ⊢
        rw [if_pos h]; rfl
      · rw [hp, hp, hp] at h
        simp at h
        rcases h with (⟨rfl, _⟩ | ⟨rfl, _⟩) | ⟨rfl, _⟩ <;> decide
    · rw [if_neg h] at h4 ⊢
      by_cases hc : signs.contains x
      · rw [if_pos hc]
        exact ⟨x, [], rfl, rfl, by rw [sgn_one, if_pos hc]; rfl, by simp, hc⟩
      · rw [if_neg hc] at h4; omega
/-- a token's text is read as it -/
theorem back {x : UInt8} {r : Bs} (he : (frst (x :: r)).err = 0) : (frst (x :: r)).text.length ≤ 1024 ∧ lex (wr (frst (x :: r)).kind (frst (x :: r)).text (frst (x :: r)).n) = ⟨[⟨(frst (x :: r)).kind, (frst (x :: r)).text, (frst (x :: r)).n, 0⟩], 0, 0⟩ := by
  rw [frst] at he ⊢
  have hw := wsz_le (x :: r)
  by_cases h1 : isL x.toNat
  · rw [if_pos h1] at he ⊢
    have hW : isW x = true := by rw [isW, h1]; rfl
    obtain ⟨z, hz⟩ : ∃ z, wsz (x :: r) = z + 1 := ⟨wsz r, by rw [wsz, if_pos hW]⟩
    have ht : (x :: r).take (z + 1) = x :: r.take z := rfl
    have hlen : (x :: r.take z).length = z + 1 := by rw [← ht, List.length_take]; omega
    have hwt : wsz (x :: r.take z) = z + 1 := by have := wsz_take (x :: r); rw [hz, ht] at this; exact this
    rw [word, hz, ht] at he ⊢
    by_cases hk : isKey (x :: r.take z)
    · rw [if_pos hk]
      have h7 : (x :: r.take z).length ≤ 7 := by rw [isKey, Bool.and_eq_true] at hk; exact of_decide_eq_true hk.1
      have hg : great (x :: r.take z) = up x :: great (r.take z) := rfl
      have hkg : isKey (great (x :: r.take z)) = true := by rw [isKey, great_great, great_len]; exact hk
      have hwg : wsz (great (x :: r.take z)) = z + 1 := by rw [wsz_great, hwt]
      have hlg : (great (x :: r.take z)).length = z + 1 := by rw [great_len, hlen]
      refine ⟨by show (great (x :: r.take z)).length ≤ 1024; rw [great_len]; omega, ?_⟩
      show lex (great (x :: r.take z)) = _
      have hf : frst (great (x :: r.take z)) = ⟨0, 2, great (x :: r.take z), 0, (great (x :: r.take z)).length⟩ := by
        rw [hg, frst, up_L, if_pos h1, ← hg, word, hwg, List.take_of_length_le (by omega), if_pos hkg, great_great, hlg]
      rw [hg] at hf ⊢
      exact one_tok (bl_not (w_not _ (by rw [up_W]; exact hW))) hf (by rw [← hg, hlg]; omega)
    · rw [if_neg hk] at he ⊢
      by_cases h64 : 64 < z + 1
      · rw [if_pos h64] at he; cases he
      · rw [if_neg h64]
        refine ⟨by show (x :: r.take z).length ≤ 1024; omega, ?_⟩
        show lex (x :: r.take z) = _
        have hf : frst (x :: r.take z) = ⟨0, 1, x :: r.take z, 0, (x :: r.take z).length⟩ := by
          rw [frst, if_pos h1, word, hwt, List.take_of_length_le (by omega), if_neg hk, if_neg h64, hlen]
        exact one_tok (bl_not (w_not _ hW)) hf (by omega)
  · rw [if_neg h1] at he ⊢
    by_cases h2 : isD x.toNat
    · rw [if_pos h2] at he ⊢
      have hW : isW x = true := by rw [isW, h2]; simp
      obtain ⟨z, hz⟩ : ∃ z, wsz (x :: r) = z + 1 := ⟨wsz r, by rw [wsz, if_pos hW]⟩
      have ht : (x :: r).take (z + 1) = x :: r.take z := rfl
      have hlen : (x :: r.take z).length = z + 1 := by rw [← ht, List.length_take]; omega
      have hwt : wsz (x :: r.take z) = z + 1 := by have := wsz_take (x :: r); rw [hz, ht] at this; exact this
      rw [numb, hz, ht] at he ⊢
      cases hn : numOf (x :: r.take z) with
      | none => rw [hn] at he; cases he
      | some v =>
        have hi : Lib.itoa v = x :: r.take z := by
          have hn2 := hn
          rw [numOf] at hn2
          split at hn2
          · split at hn2
            · rename_i h3; cases hn2; exact h3
            · cases hn2
          · cases hn2
        have hb := numOf_len hn
        refine ⟨Nat.zero_le _, ?_⟩
        show lex (Lib.itoa v) = _
        rw [hi]
        have hf : frst (x :: r.take z) = ⟨0, 3, [], v, (x :: r.take z).length⟩ := by
          rw [frst, if_neg h1, if_pos h2, numb, hwt, List.take_of_length_le (by omega), hn, hlen]
        exact one_tok (bl_not (w_not _ hW)) hf (by omega)
    · rw [if_neg h2] at he ⊢
      by_cases h3 : x = 39
      · rw [if_pos h3] at he ⊢
        rw [text] at he ⊢
        cases hq : quo ((x :: r).drop 1) with
        | none => rw [hq] at he; cases he
        | some tm =>
          obtain ⟨t, m⟩ := tm
          rw [hq] at he
          simp only at he ⊢
          rw [tok] at he ⊢
          by_cases h4 : 1024 < t.length
          · rw [if_pos h4] at he; cases he
          · rw [if_neg h4] at he ⊢
            by_cases h5 : Lib.validD t = false
            · rw [if_pos h5] at he; cases he
            · rw [if_neg h5]
              refine ⟨by show t.length ≤ 1024; omega, ?_⟩
              show lex (39 :: (dbl t ++ [39])) = _
              have hd := dbl_len t
              have hf : frst (39 :: (dbl t ++ [39])) = ⟨0, 4, t, 0, (39 :: (dbl t ++ [39])).length⟩ := by
                rw [frst, if_neg (by decide), if_neg (by decide), if_pos rfl, text]
                simp only [List.drop_succ_cons, List.drop_zero]
                rw [quo_dbl]
                simp only
                rw [tok, if_neg h4, if_neg h5]
                simp
              exact one_tok (bl_not (by decide)) hf (by simp; omega)
      · rw [if_neg h3] at he ⊢
        by_cases h4 : 0 < sgn (x :: r)
        · rw [if_pos h4]
          obtain ⟨y, q, e1, rfl, e2, e3, e4⟩ := sgn_key h4
          refine ⟨by show ((y :: r).take (sgn (y :: r))).length ≤ 1024; rw [e1]; omega, ?_⟩
          show lex ((y :: r).take (sgn (y :: r))) = ⟨[⟨5, (y :: r).take (sgn (y :: r)), 0, 0⟩], 0, 0⟩
          rw [e1]
          have hf : frst (y :: q) = ⟨0, 5, y :: q, 0, (y :: q).length⟩ := by
            rw [frst, if_neg h1, if_neg h2, if_neg h3, if_pos (by rw [e2]; simp), sign, e2, List.take_of_length_le (Nat.le_refl _)]
          exact one_tok (bl_not (s_not _ e4)) hf (by omega)
        · rw [if_neg h4] at he; cases he
end Go.Proofs.YtdejnphiejkglaaGreatDoor.Lx
