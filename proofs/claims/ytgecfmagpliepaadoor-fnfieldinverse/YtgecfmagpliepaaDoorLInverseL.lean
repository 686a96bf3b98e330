/-
  The law of the inverse, with what the variables give.
-/
import Derived.Test.YtgecfmagpliepaaDoorLInverse
namespace Go.Proofs.YtgecfmagpliepaaDoor
set_option maxRecDepth 100000
open Go.RowKit
theorem laid_inverse {W : World} (h : laidMetH Tryd.prog Rows.fnFieldInverseRow.laid W) : HasSt W 4 ∧ Has3 W 1 12 5 4 :=
  ⟨st_of_reads (reads_of h (by kernel_rfl) (.head _)), three_of_reads gIn tIn (reads_of h (by kernel_rfl) (.tail _ (.head _)))⟩
end Go.Proofs.YtgecfmagpliepaaDoor
