/- What is written is a right value's text; the laws' own variables; numbers' texts by length; counts and bytes. -/
import Derived.Test.YtbogggnnmbjlfabDoorBinL
import Derived.Test.YtbogggnnmbjlfabDoorInsideM
namespace Go.Proofs.YtbogggnnmbjlfabDoor
open Go.RowKit
open Vl (V)
theorem Bn.is_wrote {t : V} (hf : Bn.rng t) (h : Bn.werr t = 0) : Bn.Is (Bn.wtext t) t := by
  have hc : Vl.check Bn.u8 0 t = 0 := Decidable.byContradiction fun hn => by
    have := (Bn.werr_why hn).1
    omega
  have hl : ¬ 16384 < (Bn.bytes t).length := fun hn => by
    have := (Bn.werr_long hc hn).1
    omega
  have e := (Bn.werr_ok hc hl).2
  have e2 : (Bn.wtext t).data.toList = Bn.bytes t := by rw [e]
  refine ⟨?_, Bn.fit_of Bn.u8 0 t hc hf, e2, hc⟩
  rw [Lib.size_eq, e2]
  omega
/-- the law's own variable -/
structure OB (w0 W : World) (B : Nat) (t : V) (a0 a1 a2 a3 a4 a5 : Value) : Prop where
  below : Below w0.heap.size w0 W
  row : Row6 W B a0 a1 a2 a3 a4 a5
  rep : Rep W w0.heap.size t (.agg #[a0, a1, a2, a3, a4, a5])
theorem OB.call {w0 W W' : World} {B : Nat} {t : V} {a0 a1 a2 a3 a4 a5 : Value} (h : OB w0 W B t a0 a1 a2 a3 a4 a5) (b : Below W.heap.size W W') : OB w0 W' B t a0 a1 a2 a3 a4 a5 :=
  ⟨h.below.trans (b.mono h.below.size), h.row.call b, rep_stays (b.mono h.below.size) (Nat.le_refl _) t _ h.rep⟩
theorem OB.start (w : World) (t : V) (a0 a1 a2 a3 a4 a5 : Value) (hr : Rep w w.heap.size t (.agg #[a0, a1, a2, a3, a4, a5])) : OB w (w.alloc (.cells #[a0, a1, a2, a3, a4, a5] 26)) w.heap.size t a0 a1 a2 a3 a4 a5 :=
  ⟨below_new _ _, ⟨by simp, heap_alloc_new w _⟩, rep_stays (below_new _ _) (Nat.le_refl _) t _ hr⟩
/-- the law's own variables -/
structure OC (w0 W : World) (B C : Nat) (t u : V) (a0 a1 a2 a3 a4 a5 b0 b1 b2 b3 b4 b5 : Value) : Prop where
  below : Below w0.heap.size w0 W
  row : Row6 W B a0 a1 a2 a3 a4 a5
  row2 : Row6 W C b0 b1 b2 b3 b4 b5
  rep : Rep W w0.heap.size t (.agg #[a0, a1, a2, a3, a4, a5])
  rep2 : Rep W w0.heap.size u (.agg #[b0, b1, b2, b3, b4, b5])
theorem OC.call {w0 W W' : World} {B C : Nat} {t u : V} {a0 a1 a2 a3 a4 a5 b0 b1 b2 b3 b4 b5 : Value} (h : OC w0 W B C t u a0 a1 a2 a3 a4 a5 b0 b1 b2 b3 b4 b5) (b : Below W.heap.size W W') : OC w0 W' B C t u a0 a1 a2 a3 a4 a5 b0 b1 b2 b3 b4 b5 :=
  ⟨h.below.trans (b.mono h.below.size), h.row.call b, h.row2.call b, rep_stays (b.mono h.below.size) (Nat.le_refl _) t _ h.rep, rep_stays (b.mono h.below.size) (Nat.le_refl _) u _ h.rep2⟩
theorem OC.start (w : World) (t u : V) (a0 a1 a2 a3 a4 a5 b0 b1 b2 b3 b4 b5 : Value) (hr : Rep w w.heap.size t (.agg #[a0, a1, a2, a3, a4, a5])) (hr2 : Rep w w.heap.size u (.agg #[b0, b1, b2, b3, b4, b5])) :
    OC w ((w.alloc (.cells #[a0, a1, a2, a3, a4, a5] 26)).alloc (.cells #[b0, b1, b2, b3, b4, b5] 26)) w.heap.size (w.heap.size + 1) t u a0 a1 a2 a3 a4 a5 b0 b1 b2 b3 b4 b5 := by
  have hb : Below w.heap.size w ((w.alloc (.cells #[a0, a1, a2, a3, a4, a5] 26)).alloc (.cells #[b0, b1, b2, b3, b4, b5] 26)) := (below_new _ _).trans ((below_new _ _).mono (by simp))
  refine ⟨hb, ⟨by simp; omega, (Below.heap_alloc _ _ _ (by simp)).trans (heap_alloc_new w _)⟩, ⟨by simp, ?_⟩, rep_stays hb (Nat.le_refl _) t _ hr, rep_stays hb (Nat.le_refl _) u _ hr2⟩
  have := heap_alloc_new (w.alloc (.cells #[a0, a1, a2, a3, a4, a5] 26)) (.cells #[b0, b1, b2, b3, b4, b5] 26)
  simpa using this
namespace Bn
mutual
/-- a byte at least for each part -/
theorem count_bytes : ∀ (t : V), fit t → Vl.count t ≤ (bytes t).length
  | ⟨k, b, n, s, l, f⟩, h => by
    have hh := bytes_hd _ h
    rw [fit] at h
    obtain ⟨h0, h1, h2, h3, h4, h5, h6, h7, h8, h9, h10, h11⟩ := h
    rw [hh, List.length_cons, tl, Vl.count]
    have c1 := countL_bytes l h10
    have c2 := countF_bytes f h11
    by_cases k5 : k = 5
    · rw [if_neg (by omega), if_neg (by omega), if_neg (by omega), if_pos k5, List.length_append, h5 (by omega), Vl.countF]
      omega
    · rw [h4 k5, Vl.countL]
      by_cases k6 : k = 6
      · rw [if_neg (by omega), if_neg (by omega), if_neg (by omega), if_neg k5, List.length_append]
        omega
      · rw [h5 k6, Vl.countF]
        omega
theorem countL_bytes : ∀ (l : List V), fitL l → Vl.countL l ≤ (bytesL l).length
  | [], _ => by rw [Vl.countL]; exact Nat.zero_le _
  | x :: r, h => by
    rw [fitL] at h
    rw [Vl.countL, bytesL, List.length_append]
    have := count_bytes x h.1
    have := countL_bytes r h.2
    omega
theorem countF_bytes : ∀ (l : List (ByteArray × V)), fitF l → Vl.countF l ≤ (bytesF l).length
  | [], _ => by rw [Vl.countF]; exact Nat.zero_le _
  | (m, x) :: r, h => by
    rw [fitF] at h
    rw [Vl.countF, bytesF, List.length_append, List.length_append]
    have := count_bytes x h.1.2
    have := countF_bytes r h.2
    omega
end
theorem num_len_mono : ∀ (n m : Nat), n ≤ m → (num n).length ≤ (num m).length := by
  intro n
  induction n using Nat.strongRecOn with
  | _ n ih =>
    intro m h
    by_cases h1 : n < 128
    · rw [num_low h1]
      have := num_pos m
      simp only [List.length_cons, List.length_nil]
      omega
    · rw [num_high (n := n) (by omega), num_high (n := m) (by omega), List.length_cons, List.length_cons]
      have := ih (n / 128) (by omega) (m / 128) (by omega)
      omega
theorem num_inj {n m : Nat} (h : num n = num m) : n = m := by rw [← val_num n, h, val_num]
theorem num_last : ∀ (n : Nat), 1 ≤ n → ((num n).getD ((num n).length - 1) 0).toNat ≠ 0 := by
  intro n
  induction n using Nat.strongRecOn with
  | _ n ih =>
    intro h
    by_cases h1 : n < 128
    · rw [num_low h1]
      have := lo_toNat h1
      simp
      omega
    · have h2 := ih (n / 128) (by omega) (by omega)
      have h3 := num_pos (n / 128)
      rw [num_high (n := n) (by omega)]
      rw [List.length_cons, show (num (n / 128)).length + 1 - 1 = ((num (n / 128)).length - 1) + 1 by omega, List.getD_cons_succ]
      exact h2
theorem num_last_or (n : Nat) : ((num n).getD ((num n).length - 1) 0).toNat ≠ 0 ∨ (num n).length = 1 := by
  by_cases h : n = 0
  · right; rw [h, num_low (by omega)]; rfl
  · exact Or.inl (num_last n (by omega))
/-- a list of two -/
def two (a b : V) : V := ⟨5, false, 0, ⟨#[]⟩, [a, b], []⟩
theorem two_bytes (a b : V) : bytes (two a b) = 6 :: 2 :: (bytes a ++ bytes b) := by
  rw [two, bytes]
  simp only [show ¬ (5 : Nat) = 0 by omega, show ¬ (5 : Nat) = 1 by omega, show ¬ (5 : Nat) = 2 by omega, show ¬ (5 : Nat) = 3 by omega, show ¬ (5 : Nat) = 4 by omega, if_false, if_true, List.length_cons, List.length_nil]
  rw [num_low (by omega), bytesL, bytesL, bytesL, List.append_nil]
  rfl
theorem two_check {a b : V} (h : Vl.check u8 0 a ≠ 0 ∨ Vl.check u8 0 b ≠ 0) : Vl.check u8 0 (two a b) ≠ 0 := by
  have ha := Vl.check_up1 u8 a 0
  have hb := Vl.check_up1 u8 b 0
  rw [two, Vl.check]
  split
  · assumption
  · rw [Vl.checkL, Vl.checkL, Vl.checkL]
    by_cases e : Vl.check u8 (0 + 1) a = 0
    · have e2 : Vl.check u8 (0 + 1) b ≠ 0 := by
        rcases h with h | h
        · exact absurd e (ha h)
        · exact hb h
      simp [e, e2]
    · simp [e]
/-- a list whose parts are not written is not -/
theorem two_werr {a b : V} (h : werr a ≠ 0 ∨ werr b ≠ 0) : werr (two a b) ≠ 0 := by
  by_cases hc : Vl.check u8 0 (two a b) = 0
  · have ca : Vl.check u8 0 a = 0 := Decidable.byContradiction fun hn => two_check (Or.inl hn) hc
    have cb : Vl.check u8 0 b = 0 := Decidable.byContradiction fun hn => two_check (Or.inr hn) hc
    have hl : 16384 < (bytes (two a b)).length := by
      rw [two_bytes, List.length_cons, List.length_cons, List.length_append]
      rcases h with h | h
      · have : 16384 < (bytes a).length := Decidable.byContradiction fun hn => h (werr_ok ca hn).1
        omega
      · have : 16384 < (bytes b).length := Decidable.byContradiction fun hn => h (werr_ok cb hn).1
        omega
    rw [(werr_long hc hl).1]
    omega
  · rw [(werr_why hc).1]; exact hc
end Bn
end Go.Proofs.YtbogggnnmbjlfabDoor
