
/-
  The contracts of the model's small functions of chapter 1: a digit, a comparison, the limit.
-/
import Derived.Test.YtpbniihhpfbamaaDoorRows
import Derived.Test.YtpbniihhpfbamaaDoorNum
import Derived.WalkSpells
import Derived.Deep.QuietTactic
import Derived.BigQuiet
namespace Go.Proofs.YtpbniihhpfbamaaDoor
set_option maxRecDepth 100000
open Go.RowKit

/-- Above place k the two are one. -/
def HiEq (a b : List Int) (k : Nat) : Prop := hi a k = hi b k

end Go.Proofs.YtpbniihhpfbamaaDoor
