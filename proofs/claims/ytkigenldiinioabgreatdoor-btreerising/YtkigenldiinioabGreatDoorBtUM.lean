/- A region that draws its order, whose operations only read and whose callees turn nothing below a border: walked once. -/
import Derived.Test.YtkigenldiinioabGreatDoorGAM
import Derived.BigQuiet
namespace Go.Proofs.YtkigenldiinioabGreatDoor
open Go.RowKit
/-- a world that has turned nothing below B -/
structure BelowOf (B : Nat) (w : World) where
  W : World
  h : Below B w W
instance {B : Nat} {w : World} : Inhabited (BelowOf B w) := ⟨⟨w, Below.refl _ _⟩⟩
theorem wp_region_below {P : Program} {id : Nat} {Q : Exit → Act → World → Prop} {a : Act} {w : World} {l : List Oper} (B : Nat) (w0 : World) (hw : Below B w0 w) (hm : P.follows .mixedOrders = true) (hB : Region.lexB .any l.toArray = true)
    (h : wpQuiet P l.toArray (fun w' => ∃ p : BelowOf B w0, w' = p.W) (fun a' => ∀ w', (∃ p : BelowOf B w0, w' = p.W) → Q .normal a' w') l a) : (Code.region id l.toArray true).wp P Q a w :=
  wp_region_quiet (C := fun w' => ∃ p : BelowOf B w0, w' = p.W) hm hB ⟨⟨w.drew, hw.drew⟩, rfl⟩ (by simpa using h)
theorem below_call {P : Program} {f : FuncId} {args : Array Value} {B : Nat} {w : World} {v : Value} (p : BelowOf B w) (hB : B ≤ w.heap.size)
    (h : Calls P f args p.W fun e w' => e = .returned v ∧ Below p.W.heap.size p.W w') : Calls P f args p.W fun e w'' => e = .returned v ∧ ∃ q : BelowOf B w, w'' = q.W :=
  h.mono fun _ w' ⟨he, hb⟩ => ⟨he, ⟨w', p.h.trans (hb.mono (Nat.le_trans hB p.h.size))⟩, rfl⟩
end Go.Proofs.YtkigenldiinioabGreatDoor
