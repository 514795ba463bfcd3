import Derived.Test.YtljcljipppjnoabGreatDoorJL03
import Derived.Deep.RegionLaw
import Derived.Deep.RegionHeld3
import Derived.Deep.AppendLies
namespace Go.Proofs.YtljcljipppjnoabGreatDoor
open Go.RowKit
end Go.Proofs.YtljcljipppjnoabGreatDoor
