import Derived.Test.YtbhmhkimddjhaaaDoorGA49
import Derived.Test.YtbhmhkimddjhaaaDoorGA43
/-
  The law of the order by numbers, with the listed words at hand.
-/
namespace Go.Proofs.YtbhmhkimddjhaaaDoor
set_option maxRecDepth 100000
end Go.Proofs.YtbhmhkimddjhaaaDoor
