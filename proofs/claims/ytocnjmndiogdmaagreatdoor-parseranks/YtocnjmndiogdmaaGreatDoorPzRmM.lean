/- Which operator goes first: the law ParseRanks, walked. -/
import Derived.Test.YtocnjmndiogdmaaGreatDoorQ47M
import Derived.Test.YtocnjmndiogdmaaGreatDoorPyAM
import Derived.Deep.RegionHeld3
namespace Go.Proofs.YtocnjmndiogdmaaGreatDoor
open Go.RowKit
namespace Ps
def sgn (i : Nat) : Bs := match i with | 0 => [79, 82] | 1 => [65, 78, 68] | 2 => [61] | 3 => [43] | 4 => [45] | _ => [42]
def kdn (i : Nat) : Nat := match i with | 0 => 22 | 1 => 21 | 2 => 15 | 3 => 12 | 4 => 13 | _ => 14
def rkn (i : Nat) : Nat := match i with | 0 => 0 | 1 => 1 | 2 => 2 | 3 => 3 | 4 => 3 | _ => 4
def rtx (i k : Nat) : Bs := [68, 69, 76, 69, 84, 69, 32, 70, 82, 79, 77, 32, 116, 32, 87, 72, 69, 82, 69, 32, 112, 32] ++ sgn i ++ [32, 113, 32] ++ sgn k ++ [32, 114]
def rankOk (i k : Nat) : Bool :=
  if i = 2 ∧ k = 2 then decide ((parseX (rtx i k)).2.1 = 13)
  else decide ((parseX (rtx i k)).2.1 = 0) && decide ((parseX (rtx i k)).1.expr.length = 5)
    && decide (((parseX (rtx i k)).1.expr[4]?).map (·.kind) = some (if rkn i < rkn k then kdn i else kdn k))
    && decide (((parseX (rtx i k)).1.expr[2]?).map (fun p => decide (p.kind = kdn i)) = some (decide (rkn k ≤ rkn i)))
    && decide (((parseX (rtx i k)).1.expr[0]?).map (·.text) = some [112])
theorem rank_ok : ∀ i, i < 6 → ∀ k, k < 6 → rankOk i k = true := by decide +kernel
theorem sgn_len (i : Nat) : (sgn i).length ≤ 3 := by
  unfold sgn
  split <;> decide
end Ps
end Go.Proofs.YtocnjmndiogdmaaGreatDoor
