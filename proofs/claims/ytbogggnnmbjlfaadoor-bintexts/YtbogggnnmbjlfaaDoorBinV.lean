/- A value's bytes, and what the writer makes of what it holds, stopping as soon as it holds too many. -/
import Derived.Test.YtbogggnnmbjlfaaDoorBinWr
namespace Go.Proofs.YtbogggnnmbjlfaaDoor
open Vl (V)
namespace Bn
mutual
/-- a value's bytes -/
def bytes : V → List UInt8
  | ⟨k, b, n, s, l, f⟩ =>
    if k = 0 then [0] else if k = 1 then [truth b] else if k = 2 then 3 :: num (fold n) else if k = 3 then 4 :: text s else if k = 4 then 5 :: text s
    else if k = 5 then 6 :: (num l.length ++ bytesL l) else if k = 6 then 7 :: (num f.length ++ bytesF f) else []
def bytesL : List V → List UInt8
  | [] => []
  | x :: r => bytes x ++ bytesL r
def bytesF : List (ByteArray × V) → List UInt8
  | [] => []
  | (m, x) :: r => text m ++ (bytes x ++ bytesF r)
end
mutual
/-- what the writer holds behind a value -/
def wr : V → List UInt8 → List UInt8
  | ⟨k, b, n, s, l, f⟩, o =>
    if k = 0 then o ++ [0] else if k = 1 then o ++ [truth b] else if k = 2 then (o ++ [3]) ++ num (fold n) else if k = 3 then (o ++ [4]) ++ text s else if k = 4 then (o ++ [5]) ++ text s
    else if k = 5 then wrL l ((o ++ [6]) ++ num l.length) else if k = 6 then wrF f ((o ++ [7]) ++ num f.length) else o
def wrL : List V → List UInt8 → List UInt8
  | [], o => o
  | x :: r, o => if 16384 < o.length then o else wrL r (wr x o)
def wrF : List (ByteArray × V) → List UInt8 → List UInt8
  | [], o => o
  | (m, x) :: r, o => if 16384 < o.length then o else wrF r (wr x (o ++ text m))
end
mutual
theorem wr_grows : ∀ (t : V) (o : List UInt8), o.length ≤ (wr t o).length
  | ⟨k, b, n, s, l, f⟩, o => by
    rw [wr]
    have h1 := wrL_grows l ((o ++ [6]) ++ num l.length)
    have h2 := wrF_grows f ((o ++ [7]) ++ num f.length)
    simp only [List.length_append] at h1 h2
    (repeat' split) <;> (try simp only [List.length_append]) <;> omega
theorem wrL_grows : ∀ (l : List V) (o : List UInt8), o.length ≤ (wrL l o).length
  | [], o => by rw [wrL]; exact Nat.le_refl _
  | x :: r, o => by
    rw [wrL]; split
    · exact Nat.le_refl _
    · exact Nat.le_trans (wr_grows x o) (wrL_grows r (wr x o))
theorem wrF_grows : ∀ (f : List (ByteArray × V)) (o : List UInt8), o.length ≤ (wrF f o).length
  | [], o => by rw [wrF]; exact Nat.le_refl _
  | (m, x) :: r, o => by
    rw [wrF]; split
    · exact Nat.le_refl _
    · have h1 := wr_grows x (o ++ text m)
      have h2 := wrF_grows r (wr x (o ++ text m))
      rw [List.length_append] at h1
      omega
end
mutual
/-- where there is room for all, all is written -/
theorem wr_all : ∀ (t : V) (o : List UInt8), o.length + (bytes t).length ≤ 16384 → wr t o = o ++ bytes t
  | ⟨k, b, n, s, l, f⟩, o, h => by
    rw [bytes] at h
    rw [wr, bytes]
    by_cases h0 : k = 0
    · rw [if_pos h0, if_pos h0]
    by_cases h1 : k = 1
    · rw [if_neg h0, if_pos h1, if_neg h0, if_pos h1]
    by_cases h2 : k = 2
    · rw [if_neg h0, if_neg h1, if_pos h2, if_neg h0, if_neg h1, if_pos h2]; simp
    by_cases h3 : k = 3
    · rw [if_neg h0, if_neg h1, if_neg h2, if_pos h3, if_neg h0, if_neg h1, if_neg h2, if_pos h3]; simp
    by_cases h4 : k = 4
    · rw [if_neg h0, if_neg h1, if_neg h2, if_neg h3, if_pos h4, if_neg h0, if_neg h1, if_neg h2, if_neg h3, if_pos h4]; simp
    by_cases h5 : k = 5
    · rw [if_neg h0, if_neg h1, if_neg h2, if_neg h3, if_neg h4, if_pos h5] at h ⊢
      rw [if_neg h0, if_neg h1, if_neg h2, if_neg h3, if_neg h4, if_pos h5, wrL_all l _ (by simp only [List.length_append, List.length_cons, List.length_nil] at h ⊢; omega)]; simp
    by_cases h6 : k = 6
    · rw [if_neg h0, if_neg h1, if_neg h2, if_neg h3, if_neg h4, if_neg h5, if_pos h6] at h ⊢
      rw [if_neg h0, if_neg h1, if_neg h2, if_neg h3, if_neg h4, if_neg h5, if_pos h6, wrF_all f _ (by simp only [List.length_append, List.length_cons, List.length_nil] at h ⊢; omega)]; simp
    simp [h0, h1, h2, h3, h4, h5, h6]
theorem wrL_all : ∀ (l : List V) (o : List UInt8), o.length + (bytesL l).length ≤ 16384 → wrL l o = o ++ bytesL l
  | [], o, _ => by rw [wrL, bytesL, List.append_nil]
  | x :: r, o, h => by
    rw [bytesL, List.length_append] at h
    rw [wrL, if_neg (by omega), wr_all x o (by omega), wrL_all r _ (by rw [List.length_append]; omega), bytesL, List.append_assoc]
theorem wrF_all : ∀ (f : List (ByteArray × V)) (o : List UInt8), o.length + (bytesF f).length ≤ 16384 → wrF f o = o ++ bytesF f
  | [], o, _ => by rw [wrF, bytesF, List.append_nil]
  | (m, x) :: r, o, h => by
    rw [bytesF, List.length_append, List.length_append] at h
    rw [wrF, if_neg (by omega), wr_all x _ (by rw [List.length_append]; omega), wrF_all r _ (by simp only [List.length_append]; omega), bytesF]; simp
end
mutual
/-- and where there is not, too many are written -/
theorem wr_over : ∀ (t : V) (o : List UInt8), 16384 < o.length + (bytes t).length → 16384 < (wr t o).length
  | ⟨k, b, n, s, l, f⟩, o, h => by
    rw [bytes] at h
    rw [wr]
    by_cases h0 : k = 0
    · rw [if_pos h0] at h ⊢; rw [List.length_append]; exact h
    by_cases h1 : k = 1
    · rw [if_neg h0, if_pos h1] at h ⊢; rw [List.length_append]; exact h
    by_cases h2 : k = 2
    · rw [if_neg h0, if_neg h1, if_pos h2] at h ⊢; simp only [List.length_append, List.length_cons, List.length_nil] at h ⊢; omega
    by_cases h3 : k = 3
    · rw [if_neg h0, if_neg h1, if_neg h2, if_pos h3] at h ⊢; simp only [List.length_append, List.length_cons, List.length_nil] at h ⊢; omega
    by_cases h4 : k = 4
    · rw [if_neg h0, if_neg h1, if_neg h2, if_neg h3, if_pos h4] at h ⊢; simp only [List.length_append, List.length_cons, List.length_nil] at h ⊢; omega
    by_cases h5 : k = 5
    · rw [if_neg h0, if_neg h1, if_neg h2, if_neg h3, if_neg h4, if_pos h5] at h ⊢
      exact wrL_over l _ (by simp only [List.length_append, List.length_cons, List.length_nil] at h ⊢; omega)
    by_cases h6 : k = 6
    · rw [if_neg h0, if_neg h1, if_neg h2, if_neg h3, if_neg h4, if_neg h5, if_pos h6] at h ⊢
      exact wrF_over f _ (by simp only [List.length_append, List.length_cons, List.length_nil] at h ⊢; omega)
    rw [if_neg h0, if_neg h1, if_neg h2, if_neg h3, if_neg h4, if_neg h5, if_neg h6] at h ⊢
    simpa using h
theorem wrL_over : ∀ (l : List V) (o : List UInt8), 16384 < o.length + (bytesL l).length → 16384 < (wrL l o).length
  | [], o, h => by rw [wrL]; simpa [bytesL] using h
  | x :: r, o, h => by
    rw [bytesL, List.length_append] at h
    rw [wrL]
    split
    · assumption
    · by_cases hx : o.length + (bytes x).length ≤ 16384
      · rw [wr_all x o hx]
        exact wrL_over r _ (by rw [List.length_append]; omega)
      · exact Nat.lt_of_lt_of_le (wr_over x o (by omega)) (wrL_grows r _)
theorem wrF_over : ∀ (f : List (ByteArray × V)) (o : List UInt8), 16384 < o.length + (bytesF f).length → 16384 < (wrF f o).length
  | [], o, h => by rw [wrF]; simpa [bytesF] using h
  | (m, x) :: r, o, h => by
    rw [bytesF, List.length_append, List.length_append] at h
    rw [wrF]
    split
    · assumption
    · by_cases hx : (o ++ text m).length + (bytes x).length ≤ 16384
      · rw [wr_all x _ hx]
        exact wrF_over r _ (by simp only [List.length_append] at hx ⊢; omega)
      · exact Nat.lt_of_lt_of_le (wr_over x _ (by omega)) (wrF_grows r _)
end
end Bn
end Go.Proofs.YtbogggnnmbjlfaaDoor
