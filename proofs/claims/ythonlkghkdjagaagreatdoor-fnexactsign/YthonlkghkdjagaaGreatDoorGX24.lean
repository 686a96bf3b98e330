import Derived.Test.YthonlkghkdjagaaGreatDoorGX19
import Derived.Test.YthonlkghkdjagaaGreatDoorGX23
namespace Go.Proofs.YthonlkghkdjagaaGreatDoor
set_option maxRecDepth 100000
open Go.RowKit
abbrev num (xs : List Int) : Int := lsum (fun j => xs.getD j 0) xs.length
def canN (xs : List Int) : Bool := decide (xs.length = 32) && decide (num xs < PP)
theorem lsum_nonneg {a : Nat → Int} (h : Bt a) : ∀ k, 0 ≤ lsum a k
  | 0 => by simp [lsum]
  | k + 1 => by
    have ih := lsum_nonneg h k
    have := Int.mul_nonneg (h k).1 (Int.le_of_lt (p256_pos k))
    rw [lsum]; omega
end Go.Proofs.YthonlkghkdjagaaGreatDoor
