
/-
  Whether two ends agree; the program's and the model's (written by gens/kmk.py).
-/
import Derived.Test.YtpbniihhpfbamaaDoorKmE
import Derived.Test.YtpbniihhpfbamaaDoorBeQ
import Derived.Deep.QuietTactic
import Derived.BigQuiet
namespace Go.Proofs.YtpbniihhpfbamaaDoor
set_option maxRecDepth 100000
open Go Go.RowKit

/-- All that two ends that agree have in common. -/
def agS (d e : ED) : Bool := decide (d.tr = e.tr) && (decide (d.ex = e.ex) && (decide (d.pr.toList = e.pr.toList) && ((d.rs == e.rs) && (d.et == e.et))))
/-- Whether two ends agree. -/
def agV (d e : ED) : Int := if d.ph = 3 then 3 else if e.ph = 3 then 3 else if d.tr.length = 0 ∧ e.tr.length = 0 then 0 else if d.tr.length = 0 ∨ e.tr.length = 0 then 1 else if agS d e = true then 2 else 4
structure BtE (d : ED) : Prop where
  tr : Byt d.tr
  ex : Byt d.ex
end Go.Proofs.YtpbniihhpfbamaaDoor
