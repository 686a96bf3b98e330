import Derived.Test.YtkglcainhkbgbaaGreatDoorSG12
import Derived.Test.YtkglcainhkbgbaaGreatDoorSG14
import Derived.Deep.RegionWith
import Derived.Deep.RegionHeld3
namespace Go.Proofs.YtkglcainhkbgbaaGreatDoor
set_option maxRecDepth 100000
open Go.RowKit
end Go.Proofs.YtkglcainhkbgbaaGreatDoor
