
/-
  The laws' count of a list's bytes.
-/
import Derived.Test.YtjfggcefdobooaaDoorHelp
namespace Go.Proofs.YtjfggcefdobooaaDoor
set_option maxRecDepth 100000
open Go Go.RowKit

end Go.Proofs.YtjfggcefdobooaaDoor
