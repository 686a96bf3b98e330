
/-
  bytes.Equal.
-/
import Derived.Test.YtpbniihhpfbamaaDoorSm8
namespace Go.Proofs.YtpbniihhpfbamaaDoor
set_option maxRecDepth 100000
open Go Go.RowKit

end Go.Proofs.YtpbniihhpfbamaaDoor
