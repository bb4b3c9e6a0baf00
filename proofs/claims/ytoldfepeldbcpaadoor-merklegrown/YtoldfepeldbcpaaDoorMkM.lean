/- Plain lists: roots of texts, the turns to a text, paths, growths, and what they show. -/
import Derived.Test.YtoldfepeldbcpaaDoorShSum
namespace Go.Proofs.YtoldfepeldbcpaaDoor
namespace Mk
abbrev Bs := List UInt8
theorem sum_length (t : Bs) : (Sh.sum t).length = 32 := Sh.fin_length _ _ _
/-- the greatest power of 2 below n -/
def half (n : Nat) : Nat := 2 ^ Nat.log2 (n - 1)
theorem half_pos (n : Nat) : 1 ≤ half n := Nat.one_le_two_pow
theorem half_lt {n : Nat} (h : 2 ≤ n) : half n < n := by
  have := Nat.log2_self_le (n := n - 1) (by omega)
  unfold half; omega
theorem half_ge {n : Nat} (h : 2 ≤ n) : n ≤ 2 * half n := by
  have := Nat.lt_log2_self (n := n - 1)
  unfold half
  rw [Nat.pow_succ] at this
  omega
theorem half_of {n j : Nat} (h1 : 2 ^ j < n) (h2 : n ≤ 2 ^ (j + 1)) : half n = 2 ^ j := by
  have hp : 1 ≤ 2 ^ j := Nat.one_le_two_pow
  have e : Nat.log2 (n - 1) = j := (Nat.log2_eq_iff (by omega)).2 ⟨by omega, by omega⟩
  rw [half, e]
theorem half_same {n m : Nat} (h : 2 ≤ n) (h1 : half n < m) (h2 : m ≤ n) : half m = half n := by
  have := half_ge h
  exact half_of (j := Nat.log2 (n - 1)) h1 (by rw [Nat.pow_succ]; unfold half at this; omega)
def leafT (s : Bs) : Bs := 0 :: s
def leaf (s : Bs) : Bs := Sh.sum (leafT s)
def nodeT (a b : Bs) : Bs := 1 :: (a ++ b)
def node (a b : Bs) : Bs := Sh.sum (nodeT a b)
theorem leaf_length (s : Bs) : (leaf s).length = 32 := sum_length _
theorem node_length (a b : Bs) : (node a b).length = 32 := sum_length _
/-- the root of texts -/
def root (l : List Bs) : Bs :=
  if _h : 2 ≤ l.length then node (root (l.take (half l.length))) (root (l.drop (half l.length)))
  else match l with
    | [] => Sh.sum []
    | s :: _ => leaf s
termination_by l.length
decreasing_by
  · have := half_lt _h; rw [List.length_take]; omega
  · have := half_pos l.length; rw [List.length_drop]; omega
theorem root_two {l : List Bs} (h : 2 ≤ l.length) : root l = node (root (l.take (half l.length))) (root (l.drop (half l.length))) := by
  rw [root, dif_pos h]
theorem root_one (s : Bs) : root [s] = leaf s := by rw [root, dif_neg (by simp)]
theorem root_none : root [] = Sh.sum [] := by rw [root, dif_neg (by simp)]
theorem root_length (l : List Bs) : (root l).length = 32 := by
  by_cases h : 2 ≤ l.length
  · rw [root_two h]; exact node_length _ _
  · match l, h with
    | [], _ => rw [root_none]; exact sum_length _
    | [s], _ => rw [root_one]; exact leaf_length _
    | _ :: _ :: _, h => simp at h
/-- turns from the top down: whether each goes to the first part -/
def tw (e : Nat → Nat → Bool) (m n : Nat) : List Bool :=
  if _h : n ≤ 1 then [] else if e m n then [] else if m ≤ half n then true :: tw e m (half n) else false :: tw e (m - half n) (n - half n)
termination_by n
decreasing_by
  · exact half_lt (by omega)
  · have := half_pos n; omega
def e1 (_m n : Nat) : Bool := n == 1
def e2 (m n : Nat) : Bool := m == n
theorem tw_end {e : Nat → Nat → Bool} {m n : Nat} (h : n ≤ 1 ∨ e m n = true) : tw e m n = [] := by
  rw [tw]
  by_cases h1 : n ≤ 1
  · rw [dif_pos h1]
  · rw [dif_neg h1, if_pos (h.resolve_left h1)]
theorem tw_left {e : Nat → Nat → Bool} {m n : Nat} (h1 : 2 ≤ n) (h2 : e m n = false) (h3 : m ≤ half n) : tw e m n = true :: tw e m (half n) := by
  rw [tw, dif_neg (by omega), if_neg (by simp [h2]), if_pos h3]
theorem tw_right {e : Nat → Nat → Bool} {m n : Nat} (h1 : 2 ≤ n) (h2 : e m n = false) (h3 : ¬ m ≤ half n) : tw e m n = false :: tw e (m - half n) (n - half n) := by
  rw [tw, dif_neg (by omega), if_neg (by simp [h2]), if_neg h3]
/-- turns that stay where there are two texts at least -/
def fits (n : Nat) : List Bool → Prop
  | [] => True
  | true :: w => 2 ≤ n ∧ fits (half n) w
  | false :: w => 2 ≤ n ∧ fits (n - half n) w
theorem fits_tw (e : Nat → Nat → Bool) (n : Nat) : ∀ m, fits n (tw e m n) := by
  induction n using Nat.strongRecOn with
  | _ n ih =>
    intro m
    by_cases h1 : n ≤ 1
    · rw [tw_end (.inl h1)]; trivial
    · cases h2 : e m n
      · by_cases h3 : m ≤ half n
        · rw [tw_left (by omega) h2 h3]; exact ⟨by omega, ih _ (half_lt (by omega)) _⟩
        · rw [tw_right (by omega) h2 h3]; exact ⟨by omega, ih _ (by have := half_pos n; omega) _⟩
      · rw [tw_end (.inr h2)]; trivial
/-- not more turns than binary digits -/
theorem tw_len (e : Nat → Nat → Bool) (j : Nat) : ∀ m n, n ≤ 2 ^ j → (tw e m n).length ≤ j := by
  induction j with
  | zero => intro m n h; rw [tw_end (.inl (by simpa using h))]; simp
  | succ j ih =>
    intro m n h
    by_cases h1 : n ≤ 1
    · rw [tw_end (.inl h1)]; simp
    · have hg := half_ge (n := n) (by omega)
      have hl := half_lt (n := n) (by omega)
      have hh : half n ≤ 2 ^ j := by
        unfold half
        refine Nat.pow_le_pow_right (by omega) ?_
        have : Nat.log2 (n - 1) < j + 1 := (Nat.log2_lt (by omega)).2 (by omega)
        omega
      cases h2 : e m n
      · by_cases h3 : m ≤ half n
        · rw [tw_left (by omega) h2 h3]; have := ih m _ hh; simp; omega
        · rw [tw_right (by omega) h2 h3]; have := ih (m - half n) (n - half n) (by omega); simp; omega
      · rw [tw_end (.inr h2)]; simp
/-- the part to which turns lead -/
def sub (l : List Bs) : List Bool → List Bs
  | [] => l
  | true :: w => sub (l.take (half l.length)) w
  | false :: w => sub (l.drop (half l.length)) w
/-- the roots of those that they leave aside, from above -/
def aside (l : List Bs) : List Bool → List Bs
  | [] => []
  | true :: w => root (l.drop (half l.length)) :: aside (l.take (half l.length)) w
  | false :: w => root (l.take (half l.length)) :: aside (l.drop (half l.length)) w
theorem aside_length (w : List Bool) : ∀ l, (aside l w).length = w.length := by
  induction w with
  | nil => intro l; rfl
  | cons b w ih => intro l; cases b <;> simp [aside, ih]
theorem aside_32 (w : List Bool) : ∀ l, ∀ x ∈ aside l w, x.length = 32 := by
  induction w with
  | nil => intro l x h; simp [aside] at h
  | cons b w ih =>
    intro l x h
    cases b <;> simp only [aside, List.mem_cons] at h <;> rcases h with rfl | h
    · exact root_length _
    · exact ih _ _ h
    · exact root_length _
    · exact ih _ _ h
def path (l : List Bs) (i : Nat) : List Bs := (aside l (tw e1 (i + 1) l.length)).reverse
theorem path_one {l : List Bs} (h : l.length ≤ 1) (i : Nat) : path l i = [] := by rw [path, tw_end (.inl h)]; rfl
theorem take_half {l : List Bs} (h : 2 ≤ l.length) : (l.take (half l.length)).length = half l.length := by
  have := half_lt h; rw [List.length_take]; omega
theorem path_left {l : List Bs} {i : Nat} (h : 2 ≤ l.length) (hi : i < half l.length) : path l i = path (l.take (half l.length)) i ++ [root (l.drop (half l.length))] := by
  have e : e1 (i + 1) l.length = false := by simp [e1]; omega
  rw [path, tw_left h e (by omega), path, take_half h]
  simp [aside]
theorem path_right {l : List Bs} {i : Nat} (h : 2 ≤ l.length) (hi : ¬ i < half l.length) : path l i = path (l.drop (half l.length)) (i - half l.length) ++ [root (l.take (half l.length))] := by
  have e : e1 (i + 1) l.length = false := by simp [e1]; omega
  rw [path, tw_right h e (by omega), path, List.length_drop]
  simp [aside]
  rw [show i + 1 - half l.length = i - half l.length + 1 by omega]
/-- the text of a digest and the one beside it -/
def jt (d p : Bs) (left : Bool) : Bs := if left then nodeT d p else nodeT p d
def joined (d p : Bs) (left : Bool) : Bs := Sh.sum (jt d p left)
/-- what a digest comes to, with those beside it, from below -/
def climb (d : Bs) : List Bool → List Bs → Bs
  | b :: bs, p :: ps => climb (joined d p b) bs ps
  | _, _ => d
theorem climb_snoc (bs : List Bool) : ∀ (ps : List Bs) (d : Bs) (b : Bool) (p : Bs), bs.length = ps.length → climb d (bs ++ [b]) (ps ++ [p]) = joined (climb d bs ps) p b := by
  induction bs with
  | nil => intro ps d b p h; cases ps with | nil => rfl | cons => simp at h
  | cons c bs ih =>
    intro ps d b p h
    cases ps with
    | nil => simp at h
    | cons q ps => simp only [List.cons_append, climb]; exact ih ps _ b p (by simpa using h)
theorem climb_sub (w : List Bool) : ∀ l : List Bs, fits l.length w → climb (root (sub l w)) w.reverse (aside l w).reverse = root l := by
  induction w with
  | nil => intro l _; rfl
  | cons b w ih =>
    intro l h
    cases b with
    | true =>
      have h2 : 2 ≤ l.length := h.1
      have hf : fits (l.take (half l.length)).length w := by rw [take_half h2]; exact h.2
      simp only [sub, aside, List.reverse_cons]
      rw [climb_snoc _ _ _ _ _ (by simp [aside_length]), ih _ hf, root_two h2]
      rfl
    | false =>
      have h2 : 2 ≤ l.length := h.1
      have hf : fits (l.drop (half l.length)).length w := by rw [List.length_drop]; exact h.2
      simp only [sub, aside, List.reverse_cons]
      rw [climb_snoc _ _ _ _ _ (by simp [aside_length]), ih _ hf, root_two h2]
      rfl
theorem sub_text (n : Nat) : ∀ (l : List Bs) (i : Nat) (s : Bs), l.length = n → l[i]? = some s → sub l (tw e1 (i + 1) n) = [s] := by
  induction n using Nat.strongRecOn with
  | _ n ih =>
    intro l i s hl hi
    have hil := (List.getElem?_eq_some_iff.1 hi).1
    by_cases h1 : n ≤ 1
    · rw [tw_end (.inl h1)]
      match l, hl with
      | [], _ => simp at hil
      | [x], _ => have : i = 0 := by simp at hil; exact hil
                  subst this; simp at hi; rw [hi]; rfl
      | _ :: _ :: _, hl => simp at hl; omega
    · have hh := half_lt (n := n) (by omega)
      have hp := half_pos n
      have e : e1 (i + 1) n = false := by simp [e1]; omega
      by_cases h3 : i + 1 ≤ half n
      · rw [tw_left (by omega) e h3]
        simp only [sub, hl]
        exact ih _ hh _ i s (by rw [List.length_take]; omega) (by rw [List.getElem?_take_of_lt (by omega)]; exact hi)
      · rw [tw_right (by omega) e h3]
        simp only [sub, hl]
        rw [show i + 1 - half n = (i - half n) + 1 by omega]
        exact ih _ (by omega) _ (i - half n) s (by rw [List.length_drop]; omega) (by rw [List.getElem?_drop, show half n + (i - half n) = i by omega]; exact hi)
/-- each path shows its text -/
theorem climb_path {l : List Bs} {i : Nat} {s : Bs} (hi : l[i]? = some s) : climb (leaf s) (tw e1 (i + 1) l.length).reverse (path l i) = root l := by
  have := climb_sub (tw e1 (i + 1) l.length) l (fits_tw _ _ _)
  rwa [sub_text _ l i s rfl hi, root_one] at this
/-- what a path shows -/
def shows (r s : Bs) (i n : Nat) (p : List Bs) : Bool :=
  decide (i < n) && decide (n ≤ 1024) && decide (p.length = (tw e1 (i + 1) n).length) && p.all (fun x => x.length == 32) && climb (leaf s) (tw e1 (i + 1) n).reverse p == r
/-- the texts of which digests are made, from a leaf's on up -/
def chainT (t : Bs) : List Bool → List Bs → List Bs
  | b :: bs, p :: ps => t :: chainT (jt (Sh.sum t) p b) bs ps
  | _, _ => [t]
theorem jt_ne {d e p q : Bs} {b : Bool} (hd : d.length = 32) (he : e.length = 32) (hp : p.length = 32) (hq : q.length = 32) (h : d ≠ e) : jt d p b ≠ jt e q b := by
  cases b
  · simp only [jt, nodeT, if_false, Bool.false_eq_true]
    intro x
    injection x with _ x
    exact h (List.append_inj x (by omega)).2
  · simp only [jt, nodeT, if_true]
    intro x
    injection x with _ x
    exact h (List.append_inj x (by omega)).1
/-- the first two texts with one digest -/
def alike : List Bs → List Bs → Option (Bs × Bs)
  | a :: l, b :: m => if Sh.sum a = Sh.sum b then some (a, b) else alike l m
  | _, _ => none
theorem alike_chain (bs : List Bool) : ∀ (ps qs : List Bs) (t u : Bs), bs.length = ps.length → bs.length = qs.length → (∀ x ∈ ps, x.length = 32) → (∀ x ∈ qs, x.length = 32) → t ≠ u →
    climb (Sh.sum t) bs ps = climb (Sh.sum u) bs qs → ∃ a b, alike (chainT t bs ps) (chainT u bs qs) = some (a, b) ∧ a ≠ b ∧ Sh.sum a = Sh.sum b := by
  induction bs with
  | nil =>
    intro ps qs t u h1 h2 _ _ hne he
    have h1 : ps = [] := List.length_eq_zero_iff.1 h1.symm
    have h2 : qs = [] := List.length_eq_zero_iff.1 h2.symm
    subst h1 h2
    exact ⟨t, u, by simp only [chainT, alike]; rw [if_pos]; exact he, hne, he⟩
  | cons b bs ih =>
    intro ps qs t u h1 h2 h3 h4 hne he
    cases ps with
    | nil => simp at h1
    | cons p ps =>
      cases qs with
      | nil => simp at h2
      | cons q qs =>
        simp only [chainT, alike]
        by_cases hs : Sh.sum t = Sh.sum u
        · rw [if_pos hs]; exact ⟨t, u, rfl, hne, hs⟩
        · rw [if_neg hs]
          refine ih ps qs _ _ (by simpa using h1) (by simpa using h2) (fun x hx => h3 x (by simp [hx])) (fun x hx => h4 x (by simp [hx])) ?_ he
          exact jt_ne (sum_length _) (sum_length _) (h3 p (by simp)) (h4 q (by simp)) hs
/-- the elder root that is put together -/
def was (d : Bs) : List Bool → List Bs → Bs
  | b :: bs, p :: ps => was (if b then d else node p d) bs ps
  | _, _ => d
theorem was_snoc (bs : List Bool) : ∀ (ps : List Bs) (d : Bs) (b : Bool) (p : Bs), bs.length = ps.length → was d (bs ++ [b]) (ps ++ [p]) = if b then was d bs ps else node p (was d bs ps) := by
  induction bs with
  | nil => intro ps d b p h; cases ps with | nil => cases b <;> rfl | cons => simp at h
  | cons c bs ih =>
    intro ps d b p h
    cases ps with
    | nil => simp at h
    | cons q ps => simp only [List.cons_append, was]; exact ih ps _ b p (by simpa using h)
theorem was_sub (n : Nat) : ∀ (l : List Bs) (m : Nat), l.length = n → 1 ≤ m → m ≤ n → was (root (sub l (tw e2 m n))) (tw e2 m n).reverse (aside l (tw e2 m n)).reverse = root (l.take m) := by
  induction n using Nat.strongRecOn with
  | _ n ih =>
    intro l m hl h1 h2
    by_cases he : m = n
    · rw [tw_end (.inr (by simp [e2, he]))]
      subst he
      show root l = _
      rw [List.take_of_length_le (by omega)]
    · have e : e2 m n = false := by simp [e2]; exact he
      have hh := half_lt (n := n) (by omega)
      have hp := half_pos n
      by_cases h3 : m ≤ half n
      · rw [tw_left (by omega) e h3]
        simp only [sub, aside, List.reverse_cons, hl]
        rw [was_snoc _ _ _ _ _ (by simp [aside_length]), if_pos rfl, ih _ hh _ m (by rw [List.length_take]; omega) h1 h3, List.take_take, Nat.min_eq_left h3]
      · rw [tw_right (by omega) e h3]
        simp only [sub, aside, List.reverse_cons, hl]
        rw [was_snoc _ _ _ _ _ (by simp [aside_length]), if_neg (by simp), ih _ (by omega) _ (m - half n) (by rw [List.length_drop]; omega) (by omega) (by omega)]
        have hm : (l.take m).length = m := by rw [List.length_take]; omega
        have hs : half m = half n := half_same (by omega) (by omega) h2
        rw [root_two (l := l.take m) (by omega), hm, hs, List.take_take, Nat.min_eq_left (by omega), List.drop_take]
theorem sub_elder (n : Nat) : ∀ (l : List Bs) (m : Nat), l.length = n → 1 ≤ m → m ≤ n → (∀ b ∈ tw e2 m n, b = true) → sub l (tw e2 m n) = l.take m := by
  induction n using Nat.strongRecOn with
  | _ n ih =>
    intro l m hl h1 h2 ht
    by_cases he : m = n
    · rw [tw_end (.inr (by simp [e2, he]))]
      subst he
      show l = _
      rw [List.take_of_length_le (by omega)]
    · have e : e2 m n = false := by simp [e2]; exact he
      have hh := half_lt (n := n) (by omega)
      by_cases h3 : m ≤ half n
      · rw [tw_left (by omega) e h3] at ht ⊢
        simp only [sub, hl]
        rw [ih _ hh _ m (by rw [List.length_take]; omega) h1 h3 (fun b hb => ht b (by simp [hb])), List.take_take, Nat.min_eq_left h3]
      · rw [tw_right (by omega) e h3] at ht
        exact absurd (ht false (by simp)) (by simp)
end Mk
end Go.Proofs.YtoldfepeldbcpaaDoor
