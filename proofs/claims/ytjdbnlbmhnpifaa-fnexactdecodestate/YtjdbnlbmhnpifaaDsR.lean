
/-
  A StateResult's lists are short. No Go.
-/
import Derived.Test.YtjdbnlbmhnpifaaDsS
namespace Go.Proofs.Ytjdbnlbmhnpifaa
open Go Go.RowKit

theorem rX_len (b : List Int) : (rX b).length ≤ 1048576 := by
  unfold rX
  split
  · rw [dX_len]; decide
  · decide
theorem rY_len (b : List Int) : (rY b).length ≤ 1048576 := by
  unfold rY
  split
  · rw [dY_len]; decide
  · decide
end Go.Proofs.Ytjdbnlbmhnpifaa
