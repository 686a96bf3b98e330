
/-
  The law's own helpers on rows of records: eqRecord, eqRecordS, eqRecordList.
-/
import Derived.Test.YtjfggcefdobooaaDoorCrR
import Derived.Test.YtjfggcefdobooaaDoorRcC
import Derived.Deep.RegionWith
namespace Go.Proofs.YtjfggcefdobooaaDoor
set_option maxRecDepth 100000
open Go Go.RowKit

end Go.Proofs.YtjfggcefdobooaaDoor
