/- Several texts, joined. -/
import Derived.Test.YtfhkaffakniioaaGreatDoorQ14M
import Derived.Test.YtfhkaffakniioaaGreatDoorQ50M
import Derived.Deep.Upon
import Derived.Deep.AppendLies
namespace Go.Proofs.YtfhkaffakniioaaGreatDoor
open Go.RowKit
end Go.Proofs.YtfhkaffakniioaaGreatDoor
namespace Go.Proofs.YtfhkaffakniioaaGreatDoor
open Go.RowKit
end Go.Proofs.YtfhkaffakniioaaGreatDoor
namespace Go.Proofs.YtfhkaffakniioaaGreatDoor
open Go.RowKit
end Go.Proofs.YtfhkaffakniioaaGreatDoor
