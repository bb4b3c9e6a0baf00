/- Several texts, joined: SameL, Same, RSame -/
import Derived.Test.YtkigenldiinioabGreatDoorGAM
/- sameLists at values and at fields, and Same itself, walked: whatever two values are, the answer is whether they are the same. -/
namespace Go.Proofs.YtkigenldiinioabGreatDoor
open Go.RowKit
open Vl (V)
namespace Vl
end Vl
end Go.Proofs.YtkigenldiinioabGreatDoor
/- Same, walked: whatever two values are, it answers whether they are the same, and changes nothing that lay there. -/
namespace Go.Proofs.YtkigenldiinioabGreatDoor
open Go.RowKit
open Vl (V)
end Go.Proofs.YtkigenldiinioabGreatDoor
/- The document's own Same, walked: it answers as the program's does. -/
namespace Go.Proofs.YtkigenldiinioabGreatDoor
open Go.RowKit
open Vl (V)
set_option maxHeartbeats 4000000 in
set_option maxRecDepth 100000 in
/-- what differs at its head -/
theorem rsame17_head (k : Nat) (b : Bool) (n : Int) (s : ByteArray) (ao fo : Option Addr) (ll lc fl fc : Nat) (k2 : Nat) (b2 : Bool) (n2 : Int) (s2 : ByteArray) (ao2 fo2 : Option Addr) (ll2 lc2 fl2 fc2 : Nat) (w : World)
    (h : ¬ (k = k2 ∧ b = b2 ∧ n = n2 ∧ s = s2 ∧ ll = ll2 ∧ fl = fl2)) :
    Calls Tryz.prog 24 #[.agg #[.int .u8 (k : Int), .bool b, .int .i64 n, .string s, .slice ao ll lc, .slice fo fl fc], .agg #[.int .u8 (k2 : Int), .bool b2, .int .i64 n2, .string s2, .slice ao2 ll2 lc2, .slice fo2 fl2 fc2]] w fun e w' => e = .returned (.bool false) ∧ Below w.heap.size w w' := by
  have HS : Hid (s = s2 ↔ s.toList = s2.toList) := ⟨fun h => by rw [h], fun h => Decidable.byContradiction fun hn => Vl.toList_ne hn h⟩
  have HN : Hid (¬ (k = k2 ∧ b = b2 ∧ n = n2 ∧ s = s2 ∧ ll = ll2 ∧ fl = fl2)) := h
  clear h
  go_enter Tryz.func24, Tryz.ntmps24
  go_wp2
  all_goals first
    | exact ⟨rfl, _, results_tmp (by rfl) _ _ _, rfl, below_new2 _ _ _⟩
    | (exfalso; have hS := HS.out; have hN := HN.out; clear HS HN; simp_all <;> omega)
end Go.Proofs.YtkigenldiinioabGreatDoor
