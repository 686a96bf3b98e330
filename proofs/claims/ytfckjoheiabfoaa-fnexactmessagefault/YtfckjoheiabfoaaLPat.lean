
/-
  The model's PatternFault, and the law.
-/
import Derived.Test.YtfckjoheiabfoaaLpB
namespace Go.Proofs.Ytfckjoheiabfoaa
open Go Go.RowKit

end Go.Proofs.Ytfckjoheiabfoaa
