
/-
  Whether two ends agree; the program's and the model's (written by gens/kml.py).
-/
import Derived.Test.YtpbniihhpfbamaaDoorKmK
import Derived.Deep.MidRow
namespace Go.Proofs.YtpbniihhpfbamaaDoor
set_option maxRecDepth 100000
open Go Go.RowKit

theorem rangeQ {w w' : World} {b o : Nat} {cs : List Value} (h : w.rangeAt b o cs) (n : Below w.heap.size w w') : w'.rangeAt b o cs := fun j v hj => (n.cell (block_lt_of_cell (h j v hj))).trans (h j v hj)
end Go.Proofs.YtpbniihhpfbamaaDoor
