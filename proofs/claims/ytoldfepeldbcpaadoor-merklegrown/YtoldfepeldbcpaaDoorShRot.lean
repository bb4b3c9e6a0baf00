/- The rotation of a word, by the program and by the reference: both are the plain one. -/
import Derived.Test.YtoldfepeldbcpaaDoorShMath
import Derived.Test.YtoldfepeldbcpaaDoorRows
import Derived.WalkKit
import Derived.WalkLawsBesides
import Derived.Deep.QuietTactic
import Derived.BigQuiet
import Derived.Outline
namespace Go.Proofs.YtoldfepeldbcpaaDoor
open Go.RowKit
theorem ret_u32 {a b : Int} (h : a = b) : Ending.returned (.int .u32 a) = .returned (.int .u32 b) := by rw [h]
set_option maxHeartbeats 400000 in
theorem rot34 (x : Nat) (n : Int) (w : World) (hx : x < 4294967296) (h0 : 0 < n) (h1 : n < 32) :
    Calls Tryd.prog 73 #[.int .u32 x, .int .i64 (-n)] w fun e w' => e = .returned (.int .u32 (Sh.rotr x n.toNat : Nat)) ∧ w' = w := by
  have hm := Sh.mask31 n h0 h1
  go_enter Tryd.func73, Tryd.ntmps73
  go_wp2
  go_ret
  exact ⟨ret_u32 (Sh.rot_eq x n hx h0 h1), rfl⟩
set_option maxHeartbeats 400000 in
theorem rot31 (x : Nat) (n : Int) (w : World) (hx : x < 4294967296) (h0 : 0 < n) (h1 : n < 32) :
    Calls Tryd.prog 64 #[.int .u32 x, .int .i64 n] w fun e w' => e = .returned (.int .u32 (Sh.rotr x n.toNat : Nat)) ∧ w' = w := by
  go_enter Tryd.func64, Tryd.ntmps64
  go_wp2_with (go_at_call 73; refine (rot34 x n _ hx h0 h1).mono ?_; rintro e w' ⟨rfl, rfl⟩)
  go_ret
  exact ⟨rfl, rfl⟩
end Go.Proofs.YtoldfepeldbcpaaDoor
