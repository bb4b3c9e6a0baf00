/- All that a tree has, collected: walked. -/
import Derived.Test.YtkigenldiinioaaGreatDoorBtOM
import Derived.Maps.OwnIn
import Derived.Maps.AppendAt
import Derived.Sort.CutIn
import Derived.RangeFuncBox
namespace Go.Proofs.YtkigenldiinioaaGreatDoor
open Go.RowKit Go.Shelf
open Vl (V)
attribute [local go_sem ↓] Go.wp_at_zero Go.wp_at_succ
attribute [local go_sem] Oper.semAt_some
theorem all_info : (Tryz.prog.info? 71).map (fun i => (i.zero, i.size, i.bytes)) = some (some (.pointer none), 1, 8) := by kernel_rfl
def Bt.ptrs (l : List Nat) : List Value := l.map fun e => .pointer (some ⟨e, 0, none⟩)
/-- no bound -/
theorem bnd_none (W : World) (H : Nat) : Bnd W H none (.agg #[.bool false, .bool false, .int .u8 0, .bool false, .int .i64 0, .string ⟨#[]⟩, .slice none 0 0, .slice none 0 0]) := by
  refine ⟨false, false, _, _, _, _, _, _, ⟨0, false, 0, ⟨#[]⟩, [], []⟩, rfl, ?_, by simp⟩
  rw [Rep]
  exact ⟨none, 0, none, 0, rfl, by omega, by omega, by decide, by decide, by decide, fun h => by simp at h, fun h => by simp at h⟩
end Go.Proofs.YtkigenldiinioaaGreatDoor
