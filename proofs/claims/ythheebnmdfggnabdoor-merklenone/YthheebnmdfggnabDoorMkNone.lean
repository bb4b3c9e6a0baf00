/- The law MerkleNone, walked: no tree has nothing, and tells so. -/
import Derived.Test.YthheebnmdfggnabDoorMkT
namespace Go.Proofs.YthheebnmdfggnabDoor
open Go.RowKit
attribute [local go_sem ↓] Go.wp_at_zero Go.wp_at_succ
theorem growth_none (i : Int) (w : World) : Calls Tryd.prog 11 #[.pointer none, .int .i64 i] w fun e w' => e = .returned (.tuple #[.slice none 0 0, .int .i64 1]) ∧ w = w' := by
  go_enter Tryd.func11, Tryd.ntmps11
  go_wp2
  go_ret2
  exact ⟨rfl, rfl⟩
set_option maxHeartbeats 4000000 in
theorem none_c (i : Int) (w : World) (hK : HasK w) : Calls Tryd.prog 4 #[.int .i64 i] w fun e w' => e = .returned (.bool true) ∧ Below w.heap.size w w' := by
  have CL := lives_c w hK
  go_enter Tryd.func4, Tryd.ntmps4
  go_wp2_with fail
  refine CL.mono ?_
  rintro e w1 ⟨rfl, hb⟩
  clear CL
  go_wp2_with fail
  refine (path_nil i w1).mono ?_
  rintro e w2 ⟨rfl, rfl⟩
  go_wp2_with fail
  refine (growth_none i w1).mono ?_
  rintro e w3 ⟨rfl, rfl⟩
  go_wp2_with fail
  refine (size_nil w1).mono ?_
  rintro e w4 ⟨rfl, rfl⟩
  go_wp2_with fail
  refine (root_nil w1).mono ?_
  rintro e w5 ⟨rfl, rfl⟩
  go_wp2
  go_ret
  exact ⟨rfl, hb⟩
end Go.Proofs.YthheebnmdfggnabDoor
