/- Plain lists: the peaks of texts that come one by one have the root of them all as their top. -/
import Derived.Test.YtoldfepeldbcpaaDoorMkM
namespace Go.Proofs.YtoldfepeldbcpaaDoor
namespace Mk
/-- how many ones there are among binary digits -/
def ones (n : Nat) : Nat := if _h : n = 0 then 0 else n % 2 + ones (n / 2)
termination_by n
decreasing_by omega
theorem ones_zero : ones 0 = 0 := by rw [ones, dif_pos rfl]
theorem ones_step (n : Nat) : ones n = n % 2 + ones (n / 2) := by
  by_cases h : n = 0
  · subst h; simp [ones_zero]
  · rw [ones, dif_neg h]
/-- the tops with one more digest behind: the last two are put together as long as they are as great -/
def addM (n : Nat) (tops : List Bs) (d : Bs) : List Bs :=
  if _h : n % 2 = 1 then addM (n / 2) tops.dropLast (node (tops.getLast?.getD []) d) else tops ++ [d]
termination_by n
decreasing_by omega
theorem addM_even {n : Nat} (h : n % 2 = 0) (tops : List Bs) (d : Bs) : addM n tops d = tops ++ [d] := by rw [addM, dif_neg (by omega)]
theorem addM_odd {n : Nat} (h : n % 2 = 1) (tops : List Bs) (d : Bs) : addM n tops d = addM (n / 2) tops.dropLast (node (tops.getLast?.getD []) d) := by rw [addM, dif_pos h]
theorem addM_length (n : Nat) : ∀ tops d, tops.length = ones n → (addM n tops d).length = ones (n + 1) := by
  induction n using Nat.strongRecOn with
  | _ n ih =>
    intro tops d h
    by_cases ho : n % 2 = 1
    · rw [addM_odd ho, ih (n / 2) (by omega) _ _ (by rw [List.length_dropLast, h, ones_step n, ho]; omega), ones_step (n + 1), show (n + 1) % 2 = 0 by omega, show (n + 1) / 2 = n / 2 + 1 by omega]; omega
    · rw [addM_even (by omega), ones_step (n + 1), show (n + 1) % 2 = 1 by omega, show (n + 1) / 2 = n / 2 by omega, List.length_append, h, ones_step n, show n % 2 = 0 by omega]; simp; omega
theorem addM_32 (n : Nat) : ∀ tops d, (∀ x ∈ tops, x.length = 32) → d.length = 32 → ∀ x ∈ addM n tops d, x.length = 32 := by
  induction n using Nat.strongRecOn with
  | _ n ih =>
    intro tops d h hd
    by_cases ho : n % 2 = 1
    · rw [addM_odd ho]
      exact ih (n / 2) (by omega) _ _ (fun x hx => h x (List.dropLast_subset _ hx)) (node_length _ _)
    · rw [addM_even (by omega)]
      intro x hx
      rcases List.mem_append.1 hx with hx | hx
      · exact h x hx
      · simp at hx; rw [hx]; exact hd
/-- the root of all: the last one, each one ahead of it put together with it -/
def topM : List Bs → Bs
  | [] => Sh.sum []
  | [x] => x
  | x :: y :: l => node x (topM (y :: l))
theorem topM_cons {x : Bs} {l : List Bs} (h : l ≠ []) : topM (x :: l) = node x (topM l) := by
  cases l with
  | nil => exact absurd rfl h
  | cons y l => rfl
/-- the roots of the full trees of texts, the greatest first -/
def peaks (l : List Bs) : List Bs :=
  if _h : l = [] then [] else root (l.take (2 ^ Nat.log2 l.length)) :: peaks (l.drop (2 ^ Nat.log2 l.length))
termination_by l.length
decreasing_by
  have := List.length_pos_iff.2 _h
  have := Nat.one_le_two_pow (n := Nat.log2 l.length)
  rw [List.length_drop]; omega
theorem peaks_none : peaks [] = [] := by rw [peaks, dif_pos rfl]
theorem peaks_some {l : List Bs} (h : l ≠ []) : peaks l = root (l.take (2 ^ Nat.log2 l.length)) :: peaks (l.drop (2 ^ Nat.log2 l.length)) := by rw [peaks, dif_neg h]
theorem topM_peaks (n : Nat) : ∀ l : List Bs, l.length = n → topM (peaks l) = root l := by
  induction n using Nat.strongRecOn with
  | _ n ih =>
    intro l hl
    by_cases h : l = []
    · subst h; rw [peaks_none, root_none]; rfl
    · have hp := List.length_pos_iff.2 h
      have h1 := Nat.log2_self_le (n := l.length) (by omega)
      have h2 := Nat.lt_log2_self (n := l.length)
      have h0 := Nat.one_le_two_pow (n := Nat.log2 l.length)
      rw [peaks_some h]
      by_cases he : l.drop (2 ^ Nat.log2 l.length) = []
      · rw [he, peaks_none]
        have := congrArg List.length he
        rw [List.length_drop] at this
        show root _ = _
        rw [List.take_of_length_le (by simp at this; omega)]
      · have hd := List.length_pos_iff.2 he
        rw [List.length_drop] at hd
        rw [topM_cons (by rw [peaks_some he]; simp), ih _ (by rw [List.length_drop]; omega) _ rfl]
        have hh : half l.length = 2 ^ Nat.log2 l.length := half_of (by omega) (by omega)
        rw [root_two (l := l) (by omega), hh]
theorem log2_add {n j L : Nat} (h : n = 2 ^ (j + 1) * L) (hn : n ≠ 0) : Nat.log2 (n + 2 ^ j) = Nat.log2 n := by
  have h1 := Nat.log2_self_le hn
  have h2 := Nat.lt_log2_self (n := n)
  have h3 : 2 ^ (j + 1) ≤ n := by
    rw [h]; exact Nat.le_mul_of_pos_right _ (Nat.pos_of_ne_zero (fun e => hn (by rw [h, e]; rfl)))
  have h4 : j + 1 ≤ Nat.log2 n := (Nat.le_log2 hn).2 h3
  obtain ⟨k, hk⟩ := Nat.exists_eq_add_of_le h4
  have h5 : 2 ^ (Nat.log2 n + 1) = 2 ^ (j + 1) * 2 ^ (k + 1) := by rw [← Nat.pow_add]; congr 1; omega
  have h6 : L < 2 ^ (k + 1) := by
    rw [h5] at h2
    have : 2 ^ (j + 1) * L < 2 ^ (j + 1) * 2 ^ (k + 1) := by omega
    exact Nat.lt_of_mul_lt_mul_left this
  have h7 : 2 ^ (j + 1) * (L + 1) ≤ 2 ^ (j + 1) * 2 ^ (k + 1) := Nat.mul_le_mul_left _ h6
  rw [Nat.mul_add, Nat.mul_one, ← h, ← h5] at h7
  have h8 : 2 ^ j < 2 ^ (j + 1) := Nat.pow_lt_pow_right (by omega) (by omega)
  exact (Nat.log2_eq_iff (by omega)).2 ⟨by omega, by omega⟩
theorem peaks_app (n : Nat) : ∀ (l t : List Bs) (j L : Nat), l.length = n → n = 2 ^ (j + 1) * L → t.length = 2 ^ j → peaks (l ++ t) = peaks l ++ [root t] := by
  induction n using Nat.strongRecOn with
  | _ n ih =>
    intro l t j L hl hn ht
    have hj := Nat.one_le_two_pow (n := j)
    by_cases h : l = []
    · subst h
      have hne : t ≠ [] := List.length_pos_iff.1 (by omega)
      have hlog : Nat.log2 (2 ^ j) = j := Nat.log2_two_pow
      rw [List.nil_append, peaks_none, peaks_some hne, ht, hlog, List.take_of_length_le (by omega), List.drop_eq_nil_of_le (by omega), peaks_none]
      rfl
    · have hp := List.length_pos_iff.2 h
      have h1 := Nat.log2_self_le (n := l.length) (by omega)
      have h0 := Nat.one_le_two_pow (n := Nat.log2 l.length)
      have hlog : Nat.log2 (l ++ t).length = Nat.log2 l.length := by rw [List.length_append, ht]; exact log2_add (L := L) (by omega) (by omega)
      have h3 : 2 ^ (j + 1) ≤ n := by
        rw [hn]; exact Nat.le_mul_of_pos_right _ (Nat.pos_of_ne_zero (fun e => by subst e; simp at hn; omega))
      have h4 : j + 1 ≤ Nat.log2 l.length := (Nat.le_log2 (by omega)).2 (by omega)
      obtain ⟨k, hk⟩ := Nat.exists_eq_add_of_le h4
      have h5 : 2 ^ Nat.log2 l.length = 2 ^ (j + 1) * 2 ^ k := by rw [← Nat.pow_add, ← hk]
      rw [peaks_some (l := l ++ t) (by simp [h]), hlog, List.take_append_of_le_length h1, List.drop_append_of_le_length h1, peaks_some h]
      rw [ih (l.length - 2 ^ Nat.log2 l.length) (by omega) _ t j (L - 2 ^ k) (by rw [List.length_drop]) (by rw [Nat.mul_sub, ← h5]; omega) ht]
      rfl
theorem addM_peaks (n : Nat) : ∀ (l t : List Bs) (j : Nat), l.length = n * 2 ^ j → t.length = 2 ^ j → addM n (peaks l) (root t) = peaks (l ++ t) := by
  induction n using Nat.strongRecOn with
  | _ n ih =>
    intro l t j hl ht
    have hj := Nat.one_le_two_pow (n := j)
    have e2 : 2 ^ (j + 1) = 2 * 2 ^ j := by rw [Nat.pow_succ]; omega
    by_cases ho : n % 2 = 1
    · obtain ⟨q, hq⟩ : ∃ q, n = 2 * q + 1 := ⟨n / 2, by omega⟩
      have hq2 : n / 2 = q := by omega
      have hl' : l.length = q * 2 ^ (j + 1) + 2 ^ j := by rw [hl, hq, e2, Nat.add_mul, Nat.mul_comm 2 q, Nat.mul_assoc]; omega
      obtain ⟨a, b, rfl, ha, hb⟩ : ∃ a b, l = a ++ b ∧ a.length = q * 2 ^ (j + 1) ∧ b.length = 2 ^ j :=
        ⟨l.take (q * 2 ^ (j + 1)), l.drop (q * 2 ^ (j + 1)), (List.take_append_drop _ _).symm, by rw [List.length_take]; omega, by rw [List.length_drop]; omega⟩
      rw [addM_odd ho, peaks_app _ a b j q rfl (by rw [ha, Nat.mul_comm]) hb, List.dropLast_concat, List.getLast?_concat, hq2, Option.getD_some]
      have hn : node (root b) (root t) = root (b ++ t) := by
        have hlen : (b ++ t).length = 2 ^ (j + 1) := by rw [List.length_append]; omega
        have hh : half (b ++ t).length = 2 ^ j := by rw [hlen]; exact half_of (by omega) (Nat.le_refl _)
        rw [root_two (l := b ++ t) (by omega), hh, List.take_left' hb, List.drop_left' hb]
      rw [hn, ih q (by omega) a (b ++ t) (j + 1) ha (by rw [List.length_append]; omega), List.append_assoc]
    · obtain ⟨q, hq⟩ : ∃ q, n = 2 * q := ⟨n / 2, by omega⟩
      rw [addM_even (by omega), peaks_app _ l t j q rfl (by rw [hl, hq, e2, Nat.mul_comm 2 q, Nat.mul_assoc, Nat.mul_comm (2 * 2 ^ j) q]) ht]
/-- one text more -/
theorem addM_one (l : List Bs) (s : Bs) : addM l.length (peaks l) (leaf s) = peaks (l ++ [s]) := by
  rw [← root_one]; exact addM_peaks _ l [s] 0 (by simp) rfl
end Mk
end Go.Proofs.YtoldfepeldbcpaaDoor
