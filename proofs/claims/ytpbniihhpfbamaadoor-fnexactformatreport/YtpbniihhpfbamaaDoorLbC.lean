
/-
  The program's NameFault.
-/
import Derived.Test.YtpbniihhpfbamaaDoorLbA
namespace Go.Proofs.YtpbniihhpfbamaaDoor
set_option maxRecDepth 100000
open Go Go.RowKit

end Go.Proofs.YtpbniihhpfbamaaDoor
