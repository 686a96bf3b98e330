import Derived.Test.YtkglcainhkbgbaaGreatDoorRows
import Derived.Test.YtkglcainhkbgbaaGreatDoorSG6
import Derived.WalkSpells
import Derived.Deep.QuietTactic
import Derived.BigQuiet
namespace Go.Proofs.YtkglcainhkbgbaaGreatDoor
set_option maxRecDepth 100000
open Go.RowKit
end Go.Proofs.YtkglcainhkbgbaaGreatDoor
