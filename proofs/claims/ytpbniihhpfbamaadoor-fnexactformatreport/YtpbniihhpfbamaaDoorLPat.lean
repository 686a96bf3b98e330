
/-
  The model's PatternFault, and the law.
-/
import Derived.Test.YtpbniihhpfbamaaDoorLpB
namespace Go.Proofs.YtpbniihhpfbamaaDoor
set_option maxRecDepth 100000
open Go Go.RowKit

end Go.Proofs.YtpbniihhpfbamaaDoor
