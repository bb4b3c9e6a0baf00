/- Several texts, joined: SameL, Same -/
import Derived.Test.YtggnfejjcgbebaaGreatDoorJAM
/- sameLists at values and at fields, and Same itself, walked: whatever two values are, the answer is whether they are the same. -/
namespace Go.Proofs.YtggnfejjcgbebaaGreatDoor
open Go.RowKit
open Vl (V)
namespace Vl
end Vl
end Go.Proofs.YtggnfejjcgbebaaGreatDoor
/- Same, walked: whatever two values are, it answers whether they are the same, and changes nothing that lay there. -/
namespace Go.Proofs.YtggnfejjcgbebaaGreatDoor
open Go.RowKit
open Vl (V)
end Go.Proofs.YtggnfejjcgbebaaGreatDoor
