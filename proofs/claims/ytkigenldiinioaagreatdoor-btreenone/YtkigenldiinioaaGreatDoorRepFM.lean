/- The six cells of a value that is handed in. -/
import Derived.Test.YtkigenldiinioaaGreatDoorGAM
namespace Go.Proofs.YtkigenldiinioaaGreatDoor
open Go.RowKit
open Vl (V)
theorem rep_shape {w : World} {H : Nat} {x : V} {v : Value} (h : Rep w H x v) :
    ∃ (k : Nat) (b : Bool) (n : Int) (s : ByteArray) (ao : Option Addr) (ll lc : Nat) (fo : Option Addr) (fl fc : Nat), v = .agg #[.int .u8 (k : Int), .bool b, .int .i64 n, .string s, .slice ao ll lc, .slice fo fl fc] := by
  obtain ⟨k, b, n, s, l, f⟩ := x
  rw [Rep] at h
  obtain ⟨ao, lc, fo, fc, h1, _⟩ := h
  exact ⟨k, b, n, s, ao, l.length, lc, fo, f.length, fc, h1⟩
end Go.Proofs.YtkigenldiinioaaGreatDoor
