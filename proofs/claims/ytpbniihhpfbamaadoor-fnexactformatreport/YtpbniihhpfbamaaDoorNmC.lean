
/-
  The program's and the model's NameInside, and the law.
-/
import Derived.Test.YtpbniihhpfbamaaDoorNmB
namespace Go.Proofs.YtpbniihhpfbamaaDoor
set_option maxRecDepth 100000
open Go Go.RowKit

theorem tail_step {n a : List (List UInt8)} {k : Nat} (h : tailEq n a k) (h1 : a.getD (a.length - 1 - k) [] = n.getD (n.length - 1 - k) []) : tailEq n a (k + 1) := by
  intro i hi
  by_cases e : i = k
  · subst e
    exact h1
  · exact h i (by omega)
end Go.Proofs.YtpbniihhpfbamaaDoor
