import Derived.Test.YtkglcainhkbgbaaGreatDoorSG15
import Derived.Test.YtkglcainhkbgbaaGreatDoorSG14
namespace Go.Proofs.YtkglcainhkbgbaaGreatDoor
set_option maxRecDepth 100000
theorem pow_sq {a m : Int} {e : Nat} : (a ^ e % m) * (a ^ e % m) % m = a ^ (2 * e) % m := by
  rw [← Int.mul_emod, ← Int.pow_add, show e + e = 2 * e by omega]
end Go.Proofs.YtkglcainhkbgbaaGreatDoor
