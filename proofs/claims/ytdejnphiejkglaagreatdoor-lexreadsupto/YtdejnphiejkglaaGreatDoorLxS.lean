/- A text's tokens, in plain mathematics: what is read from a token's place on; what is read of a token's own text. -/
import Derived.Test.YtdejnphiejkglaaGreatDoorLxQ
namespace Go.Proofs.YtdejnphiejkglaaGreatDoor.Lx
/-- the tokens of a text that stands at a place -/
inductive Toks : Bs → Nat → List Tk → Prop
  | nil {l : Bs} {a : Nat} (h : l.drop (bl l) = []) : Toks l a []
  | cons {l : Bs} {a : Nat} {x : UInt8} {r : Bs} {ts : List Tk} (h : l.drop (bl l) = x :: r) (he : (frst (x :: r)).err = 0) (ht : Toks ((x :: r).drop (frst (x :: r)).size) (a + bl l + (frst (x :: r)).size) ts) :
      Toks l a (⟨(frst (x :: r)).kind, (frst (x :: r)).text, (frst (x :: r)).n, a + bl l⟩ :: ts)
theorem drop_lt {l : Bs} {x : UInt8} {r : Bs} (h : l.drop (bl l) = x :: r) (he : (frst (x :: r)).err = 0) : ((x :: r).drop (frst (x :: r)).size).length < l.length := by
  have h1 := (frst_size he).1
  have h2 := congrArg List.length h
  rw [List.length_drop] at h2
  rw [List.length_drop]
  simp at h2 ⊢
  omega
theorem lx_of_toks {l : Bs} {a : Nat} {ts : List Tk} (h : Toks l a ts) : ∀ n, l.length < n → lx n l a = ⟨ts, 0, 0⟩ := by
  induction h with
  | nil h =>
    intro n hn
    cases n with
    | zero => omega
    | succ n => rw [lx, h]
  | cons h he _ ih =>
    intro n hn
    cases n with
    | zero => omega
    | succ n =>
      have h1 := drop_lt h he
      rw [lx, h]
      simp only
      rw [if_neg (by simp [he]), ih n (by omega)]
      rfl
theorem toks_of_lx : ∀ (n : Nat) (l : Bs) (a : Nat), l.length < n → (lx n l a).err = 0 → Toks l a (lx n l a).toks := by
  intro n
  induction n with
  | zero => intro l a h; omega
  | succ n ih =>
    intro l a hn he
    rw [lx] at he ⊢
    cases hd : l.drop (bl l) with
    | nil => simp only; exact .nil hd
    | cons x r =>
      rw [hd] at he
      simp only at he ⊢
      by_cases h0 : (frst (x :: r)).err = 0
      · rw [if_neg (by simp [h0])] at he ⊢
        have h1 := drop_lt hd h0
        have h2 := ih ((x :: r).drop (frst (x :: r)).size) (a + bl l + (frst (x :: r)).size) (by omega)
        rw [join] at he ⊢
        by_cases h3 : (lx n ((x :: r).drop (frst (x :: r)).size) (a + bl l + (frst (x :: r)).size)).err = 0
        · rw [if_neg (by simp [h3])]
          exact .cons hd h0 (h2 h3)
        · rw [if_pos h3] at he
          exact absurd he h3
      · rw [if_pos h0] at he
        exact absurd he h0
theorem lex_toks {l : Bs} (h : (lex l).err = 0) : l.length ≤ 16384 ∧ Toks l 0 (lex l).toks := by
  rw [lex] at h ⊢
  by_cases hb : 16384 < l.length
  · rw [if_pos hb] at h; cases h
  · rw [if_neg hb] at h ⊢
    exact ⟨by omega, toks_of_lx _ _ _ (by omega) h⟩
theorem toks_lex {l : Bs} {ts : List Tk} (hl : l.length ≤ 16384) (h : Toks l 0 ts) : lex l = ⟨ts, 0, 0⟩ := by
  rw [lex, if_neg (by omega)]
  exact lx_of_toks h _ (by omega)
theorem lx_pos : ∀ (n : Nat) (l : Bs) (a : Nat), (lx n l a).err ≠ 0 → (lx n l a).toks = [] ∧ (lx n l a).pos ≤ a + l.length := by
  intro n
  induction n with
  | zero => intro l a h; exact absurd rfl h
  | succ n ih =>
    intro l a h
    rw [lx] at h ⊢
    have hb := bl_le l
    cases hd : l.drop (bl l) with
    | nil => rw [hd] at h; exact absurd rfl h
    | cons x r =>
      rw [hd] at h
      have h2 := congrArg List.length hd
      rw [List.length_drop] at h2
      simp only at h ⊢
      by_cases h0 : (frst (x :: r)).err = 0
      · rw [if_neg (by simp [h0])] at h ⊢
        have hs := (frst_size h0).2
        rw [join] at h ⊢
        by_cases h3 : (lx n ((x :: r).drop (frst (x :: r)).size) (a + bl l + (frst (x :: r)).size)).err = 0
        · rw [if_neg (by simp [h3])] at h
          exact absurd rfl h
        · rw [if_pos h3]
          have h4 := (ih _ _ h3).2
          rw [List.length_drop] at h4
          refine ⟨rfl, ?_⟩
          simp at h2 hs h4 ⊢
          omega
      · rw [if_pos h0]
        refine ⟨rfl, ?_⟩
        simp
        omega
theorem lex_bad {l : Bs} (h : (lex l).err ≠ 0) : (lex l).toks = [] ∧ (lex l).pos ≤ l.length := by
  rw [lex] at h ⊢
  by_cases hb : 16384 < l.length
  · rw [if_pos hb]; exact ⟨rfl, Nat.zero_le _⟩
  · rw [if_neg hb] at h ⊢
    have := lx_pos _ _ _ h
    rw [Nat.zero_add] at this
    exact this
def sh (c : Nat) (t : Tk) : Tk := ⟨t.kind, t.text, t.n, t.at' + c⟩
def un (c : Nat) (t : Tk) : Tk := ⟨t.kind, t.text, t.n, t.at' - c⟩
theorem toks_shift {l : Bs} {a : Nat} {ts : List Tk} (h : Toks l a ts) (c : Nat) : Toks l (a + c) (ts.map (sh c)) := by
  induction h with
  | nil h => exact .nil h
  | @cons l a x r ts h he _ ih =>
    have e : a + bl l + (frst (x :: r)).size + c = a + c + bl l + (frst (x :: r)).size := by omega
    rw [e] at ih
    have h2 := Toks.cons (a := a + c) h he ih
    rw [List.map_cons, sh]
    rw [show a + bl l + c = a + c + bl l by omega]
    exact h2
theorem toks_unshift {l : Bs} {b : Nat} {ts : List Tk} (h : Toks l b ts) : ∀ a c, b = a + c → Toks l a (ts.map (un c)) := by
  induction h with
  | nil h => intro a c _; exact .nil h
  | @cons l b x r ts h he _ ih =>
    intro a c e
    have h2 := Toks.cons (a := a) h he (ih (a + bl l + (frst (x :: r)).size) c (by omega))
    rw [List.map_cons, un]
    rw [show b + bl l - c = a + bl l by omega]
    exact h2
/-- what stands from a token's place on -/
theorem toks_at {l : Bs} {a : Nat} {ts : List Tk} (h : Toks l a ts) : ∀ i t, ts[i]? = some t → a ≤ t.at' ∧ t.at' < a + l.length ∧ Toks (l.drop (t.at' - a)) t.at' (ts.drop i) ∧ (∃ x r, (frst (x :: r)).err = 0 ∧ t.kind = (frst (x :: r)).kind ∧ t.text = (frst (x :: r)).text ∧ t.n = (frst (x :: r)).n ∧ x :: r = l.drop (t.at' - a)) ∧ ∀ u, ts[i + 1]? = some u → t.at' < u.at' := by
  induction h with
  | nil h => intro i t ht; simp at ht
  | @cons l a x r ts h he hts ih =>
    intro i t ht
    have hb := bl_le l
    have h2 := congrArg List.length h
    rw [List.length_drop] at h2
    simp at h2
    have hs := frst_size he
    simp at hs
    cases i with
    | zero =>
      simp at ht
      subst ht
      simp only [List.drop_zero]
      have e : a + bl l - a = bl l := by omega
      refine ⟨by omega, by omega, ?_, ⟨x, r, he, rfl, rfl, rfl, by rw [e, h]⟩, fun u hu => ?_⟩
      · rw [e, h]
        have hz : bl (x :: r) = 0 := by rw [← h]; exact bl_drop l
        have h3 := Toks.cons (l := x :: r) (a := a + bl l) (x := x) (r := r) (ts := ts) (by rw [hz]; rfl) he (by rw [hz]; exact hts)
        rw [hz] at h3
        exact h3
      · have := (ih 0 u (by simpa using hu)).1
        omega
    | succ i =>
      have h3 := ih i t (by simpa using ht)
      obtain ⟨k1, k2, k3, k4, k5⟩ := h3
      have e : l.drop (t.at' - a) = ((x :: r).drop (frst (x :: r)).size).drop (t.at' - (a + bl l + (frst (x :: r)).size)) := by
        have hd : ∀ s, (x :: r).drop s = l.drop (bl l + s) := fun s => by rw [← h, List.drop_drop]
        rw [hd, List.drop_drop]
        congr 1
        omega
      rw [List.length_drop] at k2
      simp at k2
      refine ⟨by omega, by omega, ?_, ?_, fun u hu => k5 u (by simpa using hu)⟩
      · rw [e]; simpa using k3
      · rw [e]; exact k4
end Go.Proofs.YtdejnphiejkglaaGreatDoor.Lx
