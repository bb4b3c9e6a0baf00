/- strange, walked: whether a field that the value's kind has not is not zero. -/
import Derived.Test.YtbogggnnmbjlfaaDoorSame
namespace Go.Proofs.YtbogggnnmbjlfaaDoor
open Go.RowKit
open Vl (V)
theorem below_new1 (w : World) (o : Obj) : Below w.heap.size w (w.alloc o) := below_new w o
theorem str_nil (s : ByteArray) : s.toList = [] ↔ s.size = 0 := by
  rw [Go.ByteArray.toList_eq, ← List.length_eq_zero_iff]
  rfl
set_option maxHeartbeats 4000000 in
set_option maxRecDepth 100000 in
theorem strange63 (k : Nat) (b : Bool) (n : Int) (s : ByteArray) (l : List V) (f : List (ByteArray × V)) (ao : Option Addr) (ac : Nat) (fo : Option Addr) (fc : Nat) (w : World) :
    Calls Tryd.prog 102 #[.agg #[.int .u8 (k : Int), .bool b, .int .i64 n, .string s, .slice ao l.length ac, .slice fo f.length fc]] w fun e w' => e = .returned (.bool (Vl.strange ⟨k, b, n, s, l, f⟩)) ∧ Below w.heap.size w w' := by
  obtain ⟨ll, hll⟩ : ∃ n, n = l.length := ⟨_, rfl⟩
  obtain ⟨fl, hfl⟩ : ∃ n, n = f.length := ⟨_, rfl⟩
  obtain ⟨r, hr⟩ : ∃ r, r = Vl.strange ⟨k, b, n, s, l, f⟩ := ⟨_, rfl⟩
  have HR : Hid (r = ((b && decide (k ≠ 1)) || (decide (n ≠ 0) && decide (k ≠ 2)) || (decide (s.size ≠ 0) && decide (k ≠ 3) && decide (k ≠ 4)) || (decide (0 < ll) && decide (k ≠ 5)) || (decide (0 < fl) && decide (k ≠ 6)))) := by
    show _ = _
    rw [hr, Vl.strange, hll, hfl]
  rw [← hr, ← hll, ← hfl]
  clear hr hll hfl
  go_enter Tryd.func102, Tryd.ntmps102
  go_wp2
  all_goals
    refine ⟨rfl, _, results_tmp (by rfl) _ _ _, ?_, below_new _ _⟩
    refine congrArg (fun z => Ending.returned (Value.bool z)) (Eq.symm ?_)
    rw [HR.out]
    try simp only [str_nil] at *
    first
      | (simp_all; done)
      | (simp_all; omega)
      | (by_cases h6 : k = 6 <;> simp_all <;> omega)
end Go.Proofs.YtbogggnnmbjlfaaDoor
