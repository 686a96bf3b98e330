/-
  The law of OrderBytes, with the listed words at hand.
-/
import Derived.Test.YtbhmhkimddjhaaaDoorLOrderBytes
import Derived.Test.YtbhmhkimddjhaaaDoorLaidQ
namespace Go.Proofs.YtbhmhkimddjhaaaDoor
set_option maxRecDepth 100000
end Go.Proofs.YtbhmhkimddjhaaaDoor
