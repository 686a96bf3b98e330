
/-
  Whether two ends agree; the model's (written by gens/kmm.py).
-/
import Derived.Test.YtpbniihhpfbamaaDoorKmL
namespace Go.Proofs.YtpbniihhpfbamaaDoor
set_option maxRecDepth 100000
open Go Go.RowKit

end Go.Proofs.YtpbniihhpfbamaaDoor
