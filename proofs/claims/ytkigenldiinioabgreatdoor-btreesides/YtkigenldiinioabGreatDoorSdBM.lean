/- What BtreeSides stands on, together. -/
import Derived.Test.YtkigenldiinioabGreatDoorRgEM
import Derived.Test.YtkigenldiinioabGreatDoorShWM
import Derived.Test.YtkigenldiinioabGreatDoorQ42M
namespace Go.Proofs.YtkigenldiinioabGreatDoor
end Go.Proofs.YtkigenldiinioabGreatDoor
