import Derived.Test.YtkglcainhkbgbaaGreatDoorSG31
import Derived.Test.YtkglcainhkbgbaaGreatDoorSG33
import Derived.Test.YtkglcainhkbgbaaGreatDoorSG34
import Derived.Test.YtkglcainhkbgbaaGreatDoorSG23
namespace Go.Proofs.YtkglcainhkbgbaaGreatDoor
set_option maxRecDepth 100000
open Go.RowKit
def only (f : Nat → Int) (j : Nat) : Int := if j < 16 then f j else 0
end Go.Proofs.YtkglcainhkbgbaaGreatDoor
