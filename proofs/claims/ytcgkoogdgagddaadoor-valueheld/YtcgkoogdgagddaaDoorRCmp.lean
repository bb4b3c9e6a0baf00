/- The document's Compare, walked at values of two kinds, and of one without parts. -/
import Derived.Test.YtcgkoogdgagddaaDoorRSameA
import Derived.Test.YtcgkoogdgagddaaDoorCompare
import Derived.Laws.Cover1
namespace Go.Proofs.YtcgkoogdgagddaaDoor
open Go.RowKit
open Vl (V)
set_option maxHeartbeats 4000000 in
set_option maxRecDepth 100000 in
theorem rcompare20_kinds (k : Nat) (b : Bool) (n : Int) (s : ByteArray) (la fa : Value) (k2 : Nat) (b2 : Bool) (n2 : Int) (s2 : ByteArray) (la2 fa2 : Value) (w : World) (hk : k ≠ k2) :
    Calls Tryd.prog 20 #[.agg #[.int .u8 (k : Int), .bool b, .int .i64 n, .string s, la, fa], .agg #[.int .u8 (k2 : Int), .bool b2, .int .i64 n2, .string s2, la2, fa2]] w fun e w' => e = .returned (.int .i64 (Lib.compareInt k k2)) ∧ Below w.heap.size w w' := by
  have h0 : ((k : Int) == (k2 : Int)) = false := by simp; omega
  by_cases h1 : (k : Int) < (k2 : Int)
  · have e : Lib.compareInt (k : Int) (k2 : Int) = -1 := by unfold Lib.compareInt; rw [if_pos h1]
    have h2 : ¬ (k2 : Int) < (k : Int) := by omega
    rw [e]
    clear hk e
    go_enter Tryd.func20, Tryd.ntmps20
    go_wp2_with (go_at_call 43; refine (rorder43 true false _).mono ?_; rintro e w' ⟨rfl, rfl⟩)
    go_ret
    exact ⟨rfl, below_new2 _ _ _⟩
  · have h2 : (k2 : Int) < (k : Int) := by omega
    have e : Lib.compareInt (k : Int) (k2 : Int) = 1 := by unfold Lib.compareInt; rw [if_neg h1, if_pos h2]
    rw [e]
    clear hk e
    go_enter Tryd.func20, Tryd.ntmps20
    go_wp2_with (go_at_call 43; refine (rorder43 false true _).mono ?_; rintro e w' ⟨rfl, rfl⟩)
    go_ret
    exact ⟨rfl, below_new2 _ _ _⟩
set_option maxHeartbeats 4000000 in
set_option maxRecDepth 100000 in
theorem rcompare20_int (b : Bool) (n : Int) (s : ByteArray) (la fa : Value) (b2 : Bool) (n2 : Int) (s2 : ByteArray) (la2 fa2 : Value) (w : World) :
    Calls Tryd.prog 20 #[.agg #[.int .u8 2, .bool b, .int .i64 n, .string s, la, fa], .agg #[.int .u8 2, .bool b2, .int .i64 n2, .string s2, la2, fa2]] w fun e w' => e = .returned (.int .i64 (Lib.compareInt n n2)) ∧ Below w.heap.size w w' := by
  by_cases h1 : n < n2
  · have e : Lib.compareInt n n2 = -1 := by unfold Lib.compareInt; rw [if_pos h1]
    have h2 : ¬ n2 < n := by omega
    rw [e]
    clear e
    go_enter Tryd.func20, Tryd.ntmps20
    go_wp2_with (go_at_call 43; refine (rorder43 true false _).mono ?_; rintro e w' ⟨rfl, rfl⟩)
    go_ret
    exact ⟨rfl, below_new2 _ _ _⟩
  · by_cases h2 : n2 < n
    · have e : Lib.compareInt n n2 = 1 := by unfold Lib.compareInt; rw [if_neg h1, if_pos h2]
      rw [e]
      clear e
      go_enter Tryd.func20, Tryd.ntmps20
      go_wp2_with (go_at_call 43; refine (rorder43 false true _).mono ?_; rintro e w' ⟨rfl, rfl⟩)
      go_ret
      exact ⟨rfl, below_new2 _ _ _⟩
    · have e : Lib.compareInt n n2 = 0 := by unfold Lib.compareInt; rw [if_neg h1, if_neg h2]
      rw [e]
      clear e
      go_enter Tryd.func20, Tryd.ntmps20
      go_wp2_with (go_at_call 43; refine (rorder43 false false _).mono ?_; rintro e w' ⟨rfl, rfl⟩)
      go_ret
      exact ⟨rfl, below_new2 _ _ _⟩
set_option maxHeartbeats 4000000 in
set_option maxRecDepth 100000 in
theorem rcompare20_bool (b : Bool) (n : Int) (s : ByteArray) (la fa : Value) (b2 : Bool) (n2 : Int) (s2 : ByteArray) (la2 fa2 : Value) (w : World) :
    Calls Tryd.prog 20 #[.agg #[.int .u8 1, .bool b, .int .i64 n, .string s, la, fa], .agg #[.int .u8 1, .bool b2, .int .i64 n2, .string s2, la2, fa2]] w fun e w' => e = .returned (.int .i64 (Vl.cmpBool b b2)) ∧ Below w.heap.size w w' := by
  cases b <;> cases b2
  all_goals
    go_enter Tryd.func20, Tryd.ntmps20
    go_wp2_with (go_at_call 43; refine (rorder43 _ _ _).mono ?_; rintro e w' ⟨rfl, rfl⟩)
    go_ret
    exact ⟨rfl, below_new2 _ _ _⟩
set_option maxHeartbeats 4000000 in
set_option maxRecDepth 100000 in
theorem rcompare20_else (k : Nat) (h1 : k ≠ 1) (h2 : k ≠ 2) (h3 : k ≠ 3) (h4 : k ≠ 4) (h5 : k ≠ 5) (h6 : k ≠ 6) (b : Bool) (n : Int) (s : ByteArray) (la fa : Value) (b2 : Bool) (n2 : Int) (s2 : ByteArray) (la2 fa2 : Value) (w : World) :
    Calls Tryd.prog 20 #[.agg #[.int .u8 (k : Int), .bool b, .int .i64 n, .string s, la, fa], .agg #[.int .u8 (k : Int), .bool b2, .int .i64 n2, .string s2, la2, fa2]] w fun e w' => e = .returned (.int .i64 0) ∧ Below w.heap.size w w' := by
  have e1 : ((k : Int) == 1) = false := by simp; omega
  have e2 : ((k : Int) == 2) = false := by simp; omega
  have e3 : ((k : Int) == 3) = false := by simp; omega
  have e4 : ((k : Int) == 4) = false := by simp; omega
  have e5 : ((k : Int) == 5) = false := by simp; omega
  have e6 : ((k : Int) == 6) = false := by simp; omega
  clear h1 h2 h3 h4 h5 h6
  go_enter Tryd.func20, Tryd.ntmps20
  go_wp2
  go_ret
  exact ⟨rfl, below_new2 _ _ _⟩
end Go.Proofs.YtcgkoogdgagddaaDoor
