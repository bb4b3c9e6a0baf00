/- LexPlaces, walked. -/
import Derived.Test.YtdejnphiejkglaaGreatDoorLxT
namespace Go.Proofs.YtdejnphiejkglaaGreatDoor
open Go.RowKit
namespace Lx
theorem n_bounds (x : UInt8) (r : Bs) : -9223372036854775808 ≤ (frst (x :: r)).n ∧ (frst (x :: r)).n ≤ 9223372036854775807 := by
  have z0 : -9223372036854775808 ≤ (0 : Int) ∧ (0 : Int) ≤ 9223372036854775807 := by decide
  have h0 : ∀ e, -9223372036854775808 ≤ (no e).n ∧ (no e).n ≤ 9223372036854775807 := fun e => z0
  rw [frst]
  split
  · rw [word]
    split
    · exact z0
    · split
      · exact h0 _
      · exact z0
  · split
    · rw [numb]
      cases hn : numOf ((x :: r).take (wsz (x :: r))) with
      | none => exact h0 _
      | some v =>
        rw [numOf] at hn
        split at hn
        · rename_i u hu
          have hb := Lib.parseIntB_bounds hu
          simp at hb
          split at hn
          · cases hn
            show -9223372036854775808 ≤ v ∧ v ≤ 9223372036854775807
            omega
          · cases hn
        · cases hn
    · split
      · rw [text]
        split
        · rw [tok]
          split
          · exact h0 _
          · split
            · exact h0 _
            · exact z0
        · exact h0 _
      · split
        · exact z0
        · exact h0 _
theorem arD {j m : Nat} (h : j < m) : m - ((j : Int) + 1).toNat < m - ((j : Int)).toNat := by omega
theorem toks_len {l : Bs} {a : Nat} {ts : List Tk} (h : Toks l a ts) : ts.length ≤ l.length := by
  induction h with
  | nil h => simp
  | cons h he _ ih => have := drop_lt h he; rw [List.length_cons]; omega
/-- all that the law asks of a token -/
structure TokOk (l : Bs) (ts : List Tk) (j : Nat) (t : Tk) : Prop where
  lt : t.at' < l.length
  shw : shw t.kind t.text t.n = some (wr t.kind t.text t.n)
  n : -9223372036854775808 ≤ t.n ∧ t.n ≤ 9223372036854775807
  rest : lex (l.drop t.at') = ⟨(ts.drop j).map (un t.at'), 0, 0⟩
  prev : ∀ i u, j = i + 1 → ts[i]? = some u → u.at' < t.at'
theorem tok_ok {l : Bs} {ts : List Tk} (hl : l.length ≤ 16384) (h : Toks l 0 ts) (j : Nat) (t : Tk) (ht : ts[j]? = some t) : TokOk l ts j t := by
  obtain ⟨h1, h2, h3, ⟨x, r, he, e1, e2, e3, e4⟩, _⟩ := toks_at h j t ht
  rw [Nat.sub_zero] at h3
  have hb := back he
  refine ⟨by omega, ?_, by rw [e3]; exact n_bounds x r, ?_, fun i u hi hu => ?_⟩
  · rw [e1, e2, e3, shw, if_neg (by omega), if_pos hb.2]
  · exact toks_lex (by rw [List.length_drop]; omega) (toks_unshift h3 0 t.at' (by omega))
  · subst hi
    exact (toks_at h i u hu).2.2.2.2 t ht
theorem tcs_at (ts : List Tk) (j : Nat) (t : Tk) (h : ts[j]? = some t) (i : Nat) (v : Value) (hv : (tc t.kind t.text t.n t.at')[i]? = some v) : (tcs ts)[j * 4 + i]? = some v := by
  induction ts generalizing j with
  | nil => simp at h
  | cons u ts ih =>
    have hc : tcs (u :: ts) = [.int .u8 (u.kind : Int), .string (bs u.text), .int .i64 u.n, .int .i64 (u.at' : Int)] ++ tcs ts := by simp [tcs, tc]
    rw [hc]
    have hi : i < 4 := by have := (Array.getElem?_eq_some_iff.1 hv).1; simpa [tc] using this
    cases j with
    | zero =>
      simp at h
      subst h
      rw [List.getElem?_append_left (by simp; omega)]
      simp [tc] at hv
      rw [Nat.zero_mul, Nat.zero_add]
      simpa using hv
    | succ j =>
      rw [List.getElem?_append_right (by simp; omega)]
      have := ih j (by simpa using h)
      rw [← this]
      congr 1
      simp
      omega
end Lx
end Go.Proofs.YtdejnphiejkglaaGreatDoor
