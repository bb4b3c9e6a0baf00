/- Two texts with a blank between have the tokens of both: in plain mathematics. -/
import Derived.Test.YtdejnphiejkglaaGreatDoorLxT
namespace Go.Proofs.YtdejnphiejkglaaGreatDoor.Lx
theorem wsz_app : ∀ (l b : Bs), wsz (l ++ 32 :: b) = wsz l
  | [], b => by show wsz (32 :: b) = 0; rw [wsz, if_neg (by decide)]
  | x :: r, b => by rw [List.cons_append, wsz, wsz, wsz_app r b]
theorem quo_app (b : Bs) : ∀ (n : Nat) (r : Bs), r.length ≤ n → ∀ p, quo r = some p → quo (r ++ 32 :: b) = some p := by
  intro n
  induction n with
  | zero =>
    intro r hr p h
    have : r = [] := List.eq_nil_of_length_eq_zero (by omega)
    subst this
    rw [quo] at h
    cases h
  | succ n ih =>
    intro r hr p h
    match r, hr, h with
    | [], _, h => rw [quo] at h; cases h
    | x :: r, hr, h =>
      by_cases hx : x = 39
      · subst hx
        match r, hr, h with
        | [], _, h =>
          rw [List.cons_append, List.nil_append, quo_end (fun c hc => by simp at hc; rw [← hc]; decide)]
          rw [quo_end (fun c hc => by simp at hc)] at h
          exact h
        | y :: r, hr, h =>
          by_cases hy : y = 39
          · subst hy
            rw [quo_twice] at h
            obtain ⟨q, h1, h2⟩ := Option.map_eq_some_iff.1 h
            rw [List.cons_append, List.cons_append, quo_twice, ih r (by simp at hr; omega) q h1]
            exact congrArg some h2
          · rw [quo_end (fun c hc => by simp at hc; rw [← hc]; exact hy)] at h
            rw [List.cons_append, List.cons_append, quo_end (fun c hc => by simp at hc; rw [← hc]; exact hy)]
            exact h
      · rw [quo_plain hx] at h
        obtain ⟨q, h1, h2⟩ := Option.map_eq_some_iff.1 h
        rw [List.cons_append, quo_plain hx, ih r (by simp at hr; omega) q h1]
        exact congrArg some h2
theorem sgn_app (x : UInt8) (r b : Bs) : sgn (x :: (r ++ 32 :: b)) = sgn (x :: r) := by
  cases r with
  | nil =>
    rw [sgn_one, List.nil_append, sgn]
    have h : ∀ a c : UInt8, (c == 32) = false → pre2 a c (x :: 32 :: b) = false := fun a c hc => by
      show (x == a && (32 : UInt8) == c) = false
      have : ((32 : UInt8) == c) = false := by rw [beq_eq_false_iff_ne] at hc ⊢; exact fun e => hc e.symm
      rw [this, Bool.and_false]
    rw [h 60 62 rfl, h 60 61 rfl, h 62 61 rfl]
    rfl
  | cons y r => rfl
theorem take_app {l b : Bs} {k : Nat} (h : k ≤ l.length) : (l ++ b).take k = l.take k := List.take_append_of_le_length h
theorem frst_app {x : UInt8} {r : Bs} (b : Bs) (he : (frst (x :: r)).err = 0) : frst (x :: (r ++ 32 :: b)) = frst (x :: r) := by
  have hw := wsz_le (x :: r)
  have hwa : wsz (x :: (r ++ 32 :: b)) = wsz (x :: r) := wsz_app (x :: r) b
  have hta : (x :: (r ++ 32 :: b)).take (wsz (x :: r)) = (x :: r).take (wsz (x :: r)) := by
    rw [← List.cons_append]; exact take_app hw
  rw [frst] at he
  rw [frst, frst]
  by_cases h1 : isL x.toNat
  · rw [if_pos h1, if_pos h1, word, word, hwa, hta]
  · rw [if_neg h1, if_neg h1]
    rw [if_neg h1] at he
    by_cases h2 : isD x.toNat
    · rw [if_pos h2, if_pos h2, numb, numb, hwa, hta]
    · rw [if_neg h2, if_neg h2]
      rw [if_neg h2] at he
      by_cases h3 : x = 39
      · rw [if_pos h3, if_pos h3]
        rw [if_pos h3] at he
        rw [text] at he
        rw [text, text]
        simp only [List.drop_succ_cons, List.drop_zero] at he ⊢
        cases hq : quo r with
        | none => rw [hq] at he; cases he
        | some p => rw [quo_app b _ r (Nat.le_refl _) p hq]
      · rw [if_neg h3, if_neg h3, sgn_app]
        by_cases h4 : 0 < sgn (x :: r)
        · rw [if_pos h4, if_pos h4, sign, sign, sgn_app]
          congr 1
          have hs : sgn (x :: r) ≤ (x :: r).length := by
            obtain ⟨y, q, e1, _, _, _, _⟩ := sgn_key h4
            rw [sgn]
            cases r with
            | nil => simp [pre2]; split <;> omega
            | cons y r => simp; split <;> (try split) <;> omega
          rw [← List.cons_append]; exact take_app hs
        · rw [if_neg h4, if_neg h4]
theorem bl_app {l : Bs} {x : UInt8} {r : Bs} (c : Bs) (h : l.drop (bl l) = x :: r) : bl (l ++ c) = bl l ∧ (l ++ c).drop (bl l) = x :: (r ++ c) := by
  have hb := bl_le l
  refine ⟨?_, by rw [List.drop_append_of_le_length hb, h]; rfl⟩
  clear hb
  induction l with
  | nil => simp at h
  | cons y l ih =>
    rw [List.cons_append, bl, bl]
    rw [bl] at h
    by_cases hy : y = 32 ∨ y = 9 ∨ y = 10 ∨ y = 13
    · rw [if_pos hy] at h
      rw [if_pos hy, if_pos hy, ih (by simpa using h)]
    · rw [if_neg hy, if_neg hy]
theorem bl_all {l : Bs} (c : Bs) (h : l.drop (bl l) = []) : bl (l ++ c) = l.length + bl c := by
  induction l with
  | nil => simp
  | cons y l ih =>
    rw [List.cons_append, bl]
    rw [bl] at h
    by_cases hy : y = 32 ∨ y = 9 ∨ y = 10 ∨ y = 13
    · rw [if_pos hy] at h
      rw [if_pos hy, ih (by simpa using h), List.length_cons]
      omega
    · rw [if_neg hy] at h
      simp at h
theorem lx_fuel : ∀ (n m : Nat) (l : Bs) (a : Nat), l.length < n → l.length < m → lx n l a = lx m l a := by
  intro n
  induction n with
  | zero => intro m l a h; omega
  | succ n ih =>
    intro m l a hn hm
    cases m with
    | zero => omega
    | succ m =>
      rw [lx, lx]
      cases hd : l.drop (bl l) with
      | nil => rfl
      | cons x r =>
        simp only
        by_cases h0 : (frst (x :: r)).err = 0
        · have h1 := drop_lt hd h0
          rw [if_neg (by simp [h0]), if_neg (by simp [h0]), ih m _ _ (by omega) (by omega)]
        · rw [if_pos h0, if_pos h0]
theorem lx_shift : ∀ (n : Nat) (l : Bs) (a c : Nat), lx n l (a + c) = ⟨(lx n l a).toks.map (sh c), (lx n l a).err, if (lx n l a).err ≠ 0 then (lx n l a).pos + c else 0⟩ := by
  intro n
  induction n with
  | zero => intro l a c; rfl
  | succ n ih =>
    intro l a c
    rw [lx, lx]
    cases hd : l.drop (bl l) with
    | nil => rfl
    | cons x r =>
      simp only
      by_cases h0 : (frst (x :: r)).err = 0
      · rw [if_neg (by simp [h0]), if_neg (by simp [h0])]
        have e : a + c + bl l + (frst (x :: r)).size = a + bl l + (frst (x :: r)).size + c := by omega
        rw [e, ih]
        unfold join
        simp only
        by_cases h3 : (lx n ((x :: r).drop (frst (x :: r)).size) (a + bl l + (frst (x :: r)).size)).err = 0
        · simp [h3, sh]
          omega
        · simp [h3]
      · rw [if_pos h0, if_pos h0]
        simp [h0]
        omega
/-- the tokens of both -/
theorem lx_app {l : Bs} {k : Nat} {ts : List Tk} (b : Bs) (h : Toks l k ts) : ∀ n, (l ++ 32 :: b).length < n → lx n (l ++ 32 :: b) k = join ts (lx (b.length + 1) b (k + l.length + 1)) := by
  induction h with
  | @nil l k h =>
    intro n hn
    rw [lx_blank, lx_form]
    have hb : bl (l ++ 32 :: b) = l.length + (bl b + 1) := by rw [bl_all _ h, bl, if_pos (.inl rfl)]
    rw [lx_blank (b.length + 1) b]
    have e1 : (l ++ 32 :: b).drop (bl (l ++ 32 :: b)) = b.drop (bl b) := by
      rw [hb, List.drop_append]
      simp
    have e2 : k + bl (l ++ 32 :: b) = k + l.length + 1 + bl b := by omega
    rw [e1, e2]
    refine lx_fuel _ _ _ _ ?_ ?_
    · rw [List.length_drop]; simp at hn; omega
    · rw [List.length_drop]; omega
  | @cons l k x r ts h he hts ih =>
    intro n hn
    obtain ⟨h1, h2⟩ := bl_app (32 :: b) h
    have hs := frst_size he
    have hfa := frst_app b he
    have hlt := drop_lt h he
    have h3 := congrArg List.length h
    rw [List.length_drop] at h3
    cases n with
    | zero => omega
    | succ n =>
      rw [lx, h1, h2]
      simp only
      rw [hfa, if_neg (by simp [he])]
      have ed : (x :: (r ++ 32 :: b)).drop (frst (x :: r)).size = (x :: r).drop (frst (x :: r)).size ++ 32 :: b := by
        rw [← List.cons_append, List.drop_append_of_le_length hs.2]
      rw [ed, ih n (by rw [List.length_append] at hn ⊢; omega), join_join]
      have ek : k + bl l + (frst (x :: r)).size + ((x :: r).drop (frst (x :: r)).size).length + 1 = k + l.length + 1 := by
        rw [List.length_drop]
        have := bl_le l
        simp at hs h3 ⊢
        omega
      rw [ek]
      rfl
end Go.Proofs.YtdejnphiejkglaaGreatDoor.Lx
