/- Several texts, joined: MkSs, JnSa -/
import Derived.Test.YtlafdlcpelkdpaaGreatDoorJPM
import Derived.Test.YtlafdlcpelkdpaaGreatDoorJIM
import Derived.Test.YtlafdlcpelkdpaaGreatDoorJQM
import Derived.Test.YtlafdlcpelkdpaaGreatDoorQHM
import Derived.Test.YtlafdlcpelkdpaaGreatDoorQKM
/- Whether two lists of texts are one. -/
namespace Go.Proofs.YtlafdlcpelkdpaaGreatDoor
open Go.RowKit
theorem take_eq_step {x y : List (List UInt8)} {k : Nat} {p q : List UInt8} (hp : x[k]? = some p) (hq : y[k]? = some q) (h : x.take k = y.take k) (e : p = q) : x.take (k + 1) = y.take (k + 1) := by
  rw [List.take_add_one, List.take_add_one, hp, hq, h, e]
end Go.Proofs.YtlafdlcpelkdpaaGreatDoor
/- The document's Same over revisions and blocks: of two that are one it answers true. -/
namespace Go.Proofs.YtlafdlcpelkdpaaGreatDoor
open Go.RowKit
open Vl (V)
attribute [local go_sem ↓] Go.wp_at_zero Go.wp_at_succ
end Go.Proofs.YtlafdlcpelkdpaaGreatDoor
