/- A region that draws its order, walked once for all worlds of a kind. -/
import Derived.Test.YtoldfepeldbcpaaDoorMkU
namespace Go.Proofs.YtoldfepeldbcpaaDoor
open Go.RowKit
/-- a world of a kind -/
structure WOf (C : World → Prop) where
  W : World
  h : C W
theorem wp_region_class {P : Program} {id : Nat} {Q : Exit → Act → World → Prop} {a : Act} {w : World} {l : List Oper} (C : World → Prop) (hw : C w.drew) (hm : P.follows .mixedOrders = true) (hB : Region.lexB .any l.toArray = true)
    (h : wpQuiet P l.toArray (fun w' => ∃ p : WOf C, w' = p.W) (fun a' => ∀ w', (∃ p : WOf C, w' = p.W) → Q .normal a' w') l a) : (Code.region id l.toArray true).wp P Q a w :=
  wp_region_quiet (C := fun w' => ∃ p : WOf C, w' = p.W) hm hB ⟨⟨w.drew, hw⟩, rfl⟩ (by simpa using h)
end Go.Proofs.YtoldfepeldbcpaaDoor
