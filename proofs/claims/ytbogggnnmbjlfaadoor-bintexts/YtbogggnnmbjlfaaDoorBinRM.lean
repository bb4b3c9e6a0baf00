/- Reading a number off a text: which texts begin with a number's bytes. -/
import Derived.Test.YtbogggnnmbjlfaaDoorBinNum
namespace Go.Proofs.YtbogggnnmbjlfaaDoor
open Go.RowKit
namespace Bn
/-- what bytes stand for, seven bits each -/
def val : List UInt8 → Nat
  | [] => 0
  | b :: r => b.toNat % 128 + 128 * val r
def high (l : List UInt8) : Prop := ∀ b ∈ l, 128 ≤ b.toNat
theorem val_append (l r : List UInt8) : val (l ++ r) = val l + 128 ^ l.length * val r := by
  induction l with
  | nil => simp [val]
  | cons b l ih =>
    rw [List.cons_append, val, ih, val, List.length_cons, Nat.pow_succ, Nat.mul_add, ← Nat.mul_assoc, Nat.mul_comm 128 (128 ^ l.length)]
    omega
theorem val_lt (l : List UInt8) : val l < 128 ^ l.length := by
  induction l with
  | nil => simp [val]
  | cons b l ih =>
    rw [val, List.length_cons, Nat.pow_succ]
    have := Nat.mod_lt b.toNat (show 128 > 0 by omega)
    omega
theorem hi_toNat (m : Nat) : (UInt8.ofNat (m % 128 + 128)).toNat = m % 128 + 128 := by rw [UInt8.toNat_ofNat']; omega
theorem lo_toNat {m : Nat} (h : m < 128) : (UInt8.ofNat m).toNat = m := by rw [UInt8.toNat_ofNat']; omega
theorem val_num (n : Nat) : val (num n) = n := by
  induction n using Nat.strongRecOn with
  | _ n ih =>
    by_cases h : n < 128
    · rw [num_low h, val, val, lo_toNat h]; omega
    · rw [num_high (by omega), val, ih (n / 128) (by omega), hi_toNat]; omega
/-- a number's text ends at the first low byte -/
theorem num_ends {m : Nat} {p r : List UInt8} {b : UInt8} (hp : high p) (hb : b.toNat < 128) (h : num m <+: p ++ b :: r) : num m = p ++ [b] := by
  induction p generalizing m with
  | nil =>
    by_cases hm : m < 128
    · rw [num_low hm] at h ⊢
      rw [List.nil_append, List.cons_prefix_cons] at h
      rw [h.1, List.nil_append]
    · rw [num_high (by omega), List.nil_append, List.cons_prefix_cons] at h
      have := hi_toNat m
      rw [h.1] at this
      omega
  | cons x p ih =>
    by_cases hm : m < 128
    · rw [num_low hm, List.cons_append, List.cons_prefix_cons] at h
      have := lo_toNat hm
      rw [h.1] at this
      have := hp x (by simp)
      omega
    · rw [num_high (by omega), List.cons_append, List.cons_prefix_cons] at h
      rw [num_high (by omega), h.1, ih (fun y hy => hp y (by simp [hy])) h.2, List.cons_append]
theorem num_low_in (m : Nat) : ∃ b ∈ num m, b.toNat < 128 := by
  induction m using Nat.strongRecOn with
  | _ m ih =>
    by_cases h : m < 128
    · rw [num_low h]; exact ⟨UInt8.ofNat m, by simp, by rw [lo_toNat h]; exact h⟩
    · obtain ⟨b, hb, h2⟩ := ih (m / 128) (by omega)
      rw [num_high (by omega)]; exact ⟨b, by simp [hb], h2⟩
theorem num_len {k : Nat} : ∀ {m : Nat}, m < 128 ^ (k + 1) → (num m).length ≤ k + 1 := by
  induction k with
  | zero => intro m h; rw [num_low (by simpa using h)]; simp
  | succ k ih =>
    intro m h
    by_cases hm : m < 128
    · rw [num_low hm]; simp
    · rw [num_high (by omega), List.length_cons]
      have := ih (m := m / 128) (by rw [Nat.pow_succ] at h; omega)
      omega
theorem num_ne_nil (m : Nat) : num m ≠ [] := by
  intro e; obtain ⟨b, hb, _⟩ := num_low_in m; rw [e] at hb; cases hb
theorem num_pos (m : Nat) : 1 ≤ (num m).length := List.length_pos_iff.2 (num_ne_nil m)
theorem num_len10 {m : Nat} (h : m < 18446744073709551616) : (num m).length ≤ 10 := num_len (k := 9) (by omega)
/-- where the first ten bytes are high there is no number -/
theorem none_high {m : Nat} (h : m < 18446744073709551616) {s : List UInt8} (hs : high (s.take 10)) : ¬ num m <+: s := by
  intro hp
  obtain ⟨b, hb, h2⟩ := num_low_in m
  obtain ⟨r, rfl⟩ := hp
  have : b ∈ (num m ++ r).take 10 := by
    rw [List.take_append, List.take_of_length_le (num_len10 h)]
    exact List.mem_append_left _ hb
  have := hs b this
  omega
/-- what ReadNumber answers -/
def Reads (s : List UInt8) (e : Ending) : Prop :=
  (∃ n, n < 18446744073709551616 ∧ num n <+: s ∧ e = .returned (.tuple #[.int .u64 (n : Int), .int .i64 ((num n).length : Int), .int .i64 0])) ∨
  ((∀ n, n < 18446744073709551616 → ¬ num n <+: s) ∧ e = .returned (.tuple #[.int .u64 0, .int .i64 0, .int .i64 11]))
theorem num_prefix_eq {a b : Nat} {s : List UInt8} (ha : num a <+: s) (hb : num b <+: s) : a = b := by
  obtain ⟨ba, hba, hl⟩ := num_low_in a
  have key : ∀ a b : Nat, num a <+: num b → a = b := by
    intro a
    induction a using Nat.strongRecOn with
    | _ a ih =>
      intro b h
      by_cases h1 : a < 128
      · rw [num_low h1] at h
        by_cases h2 : b < 128
        · rw [num_low h2, List.cons_prefix_cons] at h
          have e1 := lo_toNat h1
          have e2 := lo_toNat h2
          rw [h.1] at e1
          omega
        · rw [num_high (n := b) (by omega), List.cons_prefix_cons] at h
          have e1 := lo_toNat h1
          have e2 := hi_toNat b
          rw [h.1] at e1
          omega
      · rw [num_high (n := a) (by omega)] at h
        by_cases h2 : b < 128
        · rw [num_low h2, List.cons_prefix_cons] at h
          have e1 := hi_toNat a
          have e2 := lo_toNat h2
          rw [h.1] at e1
          omega
        · rw [num_high (n := b) (by omega), List.cons_prefix_cons] at h
          have e1 := hi_toNat a
          have e2 := hi_toNat b
          rw [h.1] at e1
          have := ih (a / 128) (by omega) (b / 128) h.2
          omega
  rcases Nat.le_total (num a).length (num b).length with h | h
  · exact key a b (List.prefix_of_prefix_length_le ha hb h)
  · exact (key b a (List.prefix_of_prefix_length_le hb ha h)).symm
end Bn
end Go.Proofs.YtbogggnnmbjlfaaDoor
