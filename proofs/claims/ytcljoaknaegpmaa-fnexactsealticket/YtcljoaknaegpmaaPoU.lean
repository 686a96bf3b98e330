
/-
  The program's OneTime (written by gens/pou.py).
-/
import Derived.Test.YtcljoaknaegpmaaPoT
namespace Go.Proofs.Ytcljoaknaegpmaa
open Go Go.RowKit

end Go.Proofs.Ytcljoaknaegpmaa
