
/-
  The program's extend, words of 64 bits (written by gens/ext.py).
-/
import Derived.Test.YtnfciobpfiibcaaDoorRgV
import Derived.Test.YtnfciobpfiibcaaDoorHw64
namespace Go.Proofs.YtnfciobpfiibcaaDoor
set_option maxRecDepth 100000
open Go Go.RowKit

/-- What extend puts in the place of a word. -/
def extv64 (y0 y2 y7 y15 : Int) : Int := (y0 + (((sg164 y2 + y7) % 18446744073709551616) + sg064 y15) % 18446744073709551616) % 18446744073709551616
end Go.Proofs.YtnfciobpfiibcaaDoor
