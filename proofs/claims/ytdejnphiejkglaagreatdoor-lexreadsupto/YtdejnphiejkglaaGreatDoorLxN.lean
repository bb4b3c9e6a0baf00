/- A text's tokens, in plain mathematics: what a program that goes from token to token keeps. -/
import Derived.Test.YtdejnphiejkglaaGreatDoorLxJ
namespace Go.Proofs.YtdejnphiejkglaaGreatDoor.Lx
structure Tk where
  kind : Nat
  text : Bs
  n : Int
  at' : Nat
  deriving DecidableEq
structure Out where
  toks : List Tk
  err : Nat
  pos : Nat
  deriving DecidableEq
/-- the tokens behind some that were read -/
def join (ts : List Tk) (o : Out) : Out := if o.err ≠ 0 then ⟨[], o.err, o.pos⟩ else ⟨ts ++ o.toks, 0, 0⟩
/-- the tokens of a text that stands at a place -/
def lx : Nat → Bs → Nat → Out
  | 0, _, _ => ⟨[], 0, 0⟩
  | n + 1, l, a =>
    match l.drop (bl l) with
    | [] => ⟨[], 0, 0⟩
    | x :: r =>
      if (frst (x :: r)).err ≠ 0 then ⟨[], (frst (x :: r)).err, a + bl l⟩
      else join [⟨(frst (x :: r)).kind, (frst (x :: r)).text, (frst (x :: r)).n, a + bl l⟩] (lx n ((x :: r).drop (frst (x :: r)).size) (a + bl l + (frst (x :: r)).size))
def lex (l : Bs) : Out := if 16384 < l.length then ⟨[], 4, 0⟩ else lx (l.length + 1) l 0
theorem join_join (a b : List Tk) (o : Out) : join a (join b o) = join (a ++ b) o := by
  unfold join
  by_cases h : o.err ≠ 0
  · rw [if_pos h, if_pos (show (Out.mk [] o.err o.pos).err ≠ 0 from h), if_pos h]
  · rw [if_neg h, if_neg (by simp), if_neg h, List.append_assoc]
theorem bl_drop : ∀ l : Bs, bl (l.drop (bl l)) = 0
  | [] => rfl
  | b :: r => by
    rw [bl]
    by_cases h : b = 32 ∨ b = 9 ∨ b = 10 ∨ b = 13
    · rw [if_pos h, List.drop_succ_cons]; exact bl_drop r
    · rw [if_neg h, List.drop_zero, bl, if_neg h]
theorem lx_blank (n : Nat) (l : Bs) (a : Nat) : lx n l a = lx n (l.drop (bl l)) (a + bl l) := by
  cases n with
  | zero => rfl
  | succ n => rw [lx, lx, bl_drop, List.drop_zero, Nat.add_zero]
theorem skip (l : Bs) (a k m : Nat) (ha : a ≤ l.length) (hk : k = a + bl (l.drop a)) : k ≤ l.length ∧ a ≤ k ∧ bl (l.drop k) = 0 ∧ lx m (l.drop a) a = lx m (l.drop k) k := by
  have h1 := bl_le (l.drop a)
  rw [List.length_drop] at h1
  have e : l.drop k = (l.drop a).drop (bl (l.drop a)) := by rw [hk]; exact List.drop_drop.symm
  refine ⟨by omega, by omega, ?_, ?_⟩
  · rw [e]; exact bl_drop _
  · rw [e, hk]; exact lx_blank m (l.drop a) a
theorem wsz_pos {x : UInt8} {r : Bs} (h : isW x = true) : 0 < wsz (x :: r) := by rw [wsz, if_pos h]; omega
theorem quo_size : ∀ (n : Nat) (r : Bs), r.length ≤ n → ∀ t m, quo r = some (t, m) → 0 < m ∧ m ≤ r.length := by
  intro n
  induction n with
  | zero =>
    intro r hr t m h
    have : r = [] := List.eq_nil_of_length_eq_zero (by omega)
    subst this
    rw [quo] at h
    cases h
  | succ n ih =>
    intro r hr t m h
    rw [quo.eq_def] at h
    split at h
    · cases h
    · rename_i r'
      obtain ⟨⟨t', m'⟩, h1, h2⟩ := Option.map_eq_some_iff.1 h
      cases h2
      have := ih r' (by simp at hr; omega) t' m' h1
      simp
      omega
    · cases h
      simp
    · rename_i b r' _ _
      obtain ⟨⟨t', m'⟩, h1, h2⟩ := Option.map_eq_some_iff.1 h
      cases h2
      have := ih r' (by simp at hr; omega) t' m' h1
      simp
      omega
/-- a token takes a byte at least, and no more than there are -/
theorem frst_size {x : UInt8} {r : Bs} (h : (frst (x :: r)).err = 0) : 0 < (frst (x :: r)).size ∧ (frst (x :: r)).size ≤ (x :: r).length := by
  rw [frst] at h ⊢
  have hw := wsz_le (x :: r)
  by_cases h1 : isL x.toNat
  · rw [if_pos h1] at h ⊢
    have hp := wsz_pos (r := r) (x := x) (by rw [isW, h1]; rfl)
    rw [word] at h ⊢
    split
    · exact ⟨hp, hw⟩
    · rename_i hk
      rw [if_neg hk] at h
      split
      · rename_i h64; rw [if_pos h64] at h; cases h
      · exact ⟨hp, hw⟩
  · rw [if_neg h1] at h ⊢
    by_cases h2 : isD x.toNat
    · rw [if_pos h2] at h ⊢
      have hp := wsz_pos (r := r) (x := x) (by rw [isW, h2]; simp)
      rw [numb] at h ⊢
      split
      · exact ⟨hp, hw⟩
      · rename_i hn; rw [hn] at h; cases h
    · rw [if_neg h2] at h ⊢
      by_cases h3 : x = 39
      · rw [if_pos h3] at h ⊢
        rw [text] at h ⊢
        simp only [List.drop_succ_cons, List.drop_zero] at h ⊢
        cases hq : quo r with
        | none => rw [hq] at h; cases h
        | some tm =>
          obtain ⟨t, m⟩ := tm
          rw [hq] at h
          have hs := quo_size _ r (Nat.le_refl _) t m hq
          simp only at h ⊢
          rw [tok] at h ⊢
          split
          · rename_i h4; rw [if_pos h4] at h; cases h
          · rename_i h4
            rw [if_neg h4] at h
            split
            · rename_i h5; rw [if_pos h5] at h; cases h
            · simp; omega
      · rw [if_neg h3] at h ⊢
        by_cases h4 : 0 < sgn (x :: r)
        · rw [if_pos h4] at h ⊢
          refine ⟨h4, ?_⟩
          show sgn (x :: r) ≤ _
          rw [sgn]
          cases r with
          | nil => simp [pre2]; split <;> omega
          | cons y r => simp; split <;> (try split) <;> omega
        · rw [if_neg h4] at h; cases h
end Go.Proofs.YtdejnphiejkglaaGreatDoor.Lx
