
/-
  FieldCanonical, the program's; the element of thirty-two bytes.
-/
import Derived.Test.YthonlkghkdjagaaGreatDoorSpF
import Derived.Test.YthonlkghkdjagaaGreatDoorElmB
namespace Go.Proofs.YthonlkghkdjagaaGreatDoor
set_option maxRecDepth 100000
open Go.RowKit

/-- What thirty-two bytes stand for. -/
abbrev num (xs : List Int) : Int := lsum (fun j => xs.getD j 0) xs.length

def canN (xs : List Int) : Bool := decide (xs.length = 32) && decide (num xs < PP)

theorem lsum_nonneg {a : Nat → Int} (h : Bt a) : ∀ k, 0 ≤ lsum a k
  | 0 => by simp [lsum]
  | k + 1 => by
    have ih := lsum_nonneg h k
    have := Int.mul_nonneg (h k).1 (Int.le_of_lt (p256_pos k))
    rw [lsum]; omega





end Go.Proofs.YthonlkghkdjagaaGreatDoor
