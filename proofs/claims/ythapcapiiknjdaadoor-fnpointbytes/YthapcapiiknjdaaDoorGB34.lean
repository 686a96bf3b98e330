import Derived.Test.YthapcapiiknjdaaDoorGB33

/-
  The law of PointValid.
-/
namespace Go.Proofs.YthapcapiiknjdaaDoor
set_option maxRecDepth 100000
open Go Go.RowKit

end Go.Proofs.YthapcapiiknjdaaDoor
