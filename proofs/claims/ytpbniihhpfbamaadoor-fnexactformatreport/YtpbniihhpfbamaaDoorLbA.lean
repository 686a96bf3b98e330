
/-
  The program's labels: isLabelByte, labelFault, labelsFault, NameFault.
-/
import Derived.Test.YtpbniihhpfbamaaDoorLbN
import Derived.Test.YtpbniihhpfbamaaDoorRows
import Derived.WalkSpells
import Derived.Deep.QuietTactic
import Derived.BigQuiet
import Derived.WalkMore
namespace Go.Proofs.YtpbniihhpfbamaaDoor
set_option maxRecDepth 100000
open Go Go.RowKit

end Go.Proofs.YtpbniihhpfbamaaDoor
