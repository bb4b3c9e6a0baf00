/- What paths show. -/
import Derived.Test.YtoldfepeldbcpaaDoorMkF
namespace Go.Proofs.YtoldfepeldbcpaaDoor
open Go.RowKit
namespace Mk
theorem path_32 (l : List Bs) (i : Nat) : ∀ x ∈ path l i, x.length = 32 := by
  intro x hx
  exact aside_32 _ _ x (by simpa [path] using hx)
/-- each path shows its text -/
theorem shows_path {l : List Bs} {i : Nat} {s : Bs} (hi : l[i]? = some s) (hn : l.length ≤ 1024) : showsZ (root l) s (i : Int) (l.length : Int) (path l i) = true := by
  have h1 := (List.getElem?_eq_some_iff.1 hi).1
  rw [showsZ_in h1 hn, climb_path hi, all32_mk (path_32 l i)]
  simp [path, aside_length]
end Mk
end Go.Proofs.YtoldfepeldbcpaaDoor
