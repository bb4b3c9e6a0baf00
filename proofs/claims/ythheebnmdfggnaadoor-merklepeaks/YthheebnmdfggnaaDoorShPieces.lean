/- Plain lists: however a text is cut, the words behind its whole blocks and the rest behind them are the same. -/
import Derived.Test.YthheebnmdfggnaaDoorShSum
namespace Go.Proofs.YthheebnmdfggnaaDoor
namespace Sh
theorem blk_prefix (t b : List UInt8) (k : Nat) (h : 64 * k + 64 ≤ t.length) : blk (t ++ b) k = blk t k := by
  unfold blk
  rw [List.drop_append_of_le_length (by omega), List.take_append_of_le_length (by rw [List.length_drop]; omega)]
theorem chg_prefix (s : S8) (t b : List UInt8) (k : Nat) (h : 64 * k ≤ t.length) : chg s (t ++ b) k = chg s t k := by
  induction k with
  | zero => rfl
  | succ k ih => rw [chg, chg, ih (by omega), blk_prefix t b k (by omega)]
theorem blk_drop (t : List UInt8) (n j : Nat) : blk (t.drop (64 * n)) j = blk t (n + j) := by
  unfold blk
  rw [List.drop_drop, show 64 * n + 64 * j = 64 * (n + j) by omega]
theorem chg_add (s : S8) (t : List UInt8) (n j : Nat) : chg s t (n + j) = chg (chg s t n) (t.drop (64 * n)) j := by
  induction j with
  | zero => rfl
  | succ j ih =>
    show chg1 (chg s t (n + j)) (blk t (n + j)) = chg1 (chg (chg s t n) (t.drop (64 * n)) j) (blk (t.drop (64 * n)) j)
    rw [ih, blk_drop]
theorem rest_eq (t : List UInt8) : restOf t = t.drop (64 * (t.length / 64)) := by
  unfold restOf
  rw [show t.length - t.length % 64 = 64 * (t.length / 64) by omega]
theorem rest_append (t b : List UInt8) : restOf t ++ b = (t ++ b).drop (64 * (t.length / 64)) := by
  rw [rest_eq, List.drop_append_of_le_length (by omega)]
theorem rest_length (t : List UInt8) : (restOf t).length = t.length % 64 := by
  rw [restOf, List.length_drop]
  omega
theorem chg_grows (s : S8) (t b : List UInt8) : chgAll (chgAll s t) (restOf t ++ b) = chgAll s (t ++ b) := by
  have e : (t ++ b).length / 64 = t.length / 64 + (restOf t ++ b).length / 64 := by
    rw [List.length_append, List.length_append, rest_length]
    omega
  show chg (chg s t (t.length / 64)) (restOf t ++ b) ((restOf t ++ b).length / 64) = chg s (t ++ b) ((t ++ b).length / 64)
  rw [e, chg_add, chg_prefix s t b _ (by omega), ← rest_append]
theorem rest_grows (t b : List UInt8) : restOf (restOf t ++ b) = restOf (t ++ b) := by
  have e : (restOf t ++ b).length = t.length % 64 + b.length := by rw [List.length_append, rest_length]
  rw [rest_eq (restOf t ++ b), rest_eq (t ++ b), rest_append, List.drop_drop, ← rest_append, e, List.length_append]
  congr 1
  omega
theorem rest_last (t : List UInt8) : t.drop (t.length - (restOf t).length) = restOf t := by
  rw [rest_length]
  rfl
end Sh
end Go.Proofs.YthheebnmdfggnaaDoor
