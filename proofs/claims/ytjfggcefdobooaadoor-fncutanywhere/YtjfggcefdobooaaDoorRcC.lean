
/-
  The laws' helpers on a record: counted, copied, held against each other, marked.
-/
import Derived.Test.YtjfggcefdobooaaDoorTcH
import Derived.Test.YtjfggcefdobooaaDoorHelp
import Derived.Test.YtjfggcefdobooaaDoorSzR
import Derived.Deep.DeepCutAuto
namespace Go.Proofs.YtjfggcefdobooaaDoor
set_option maxRecDepth 100000
open Go Go.RowKit

theorem iRc : (Tryd.prog.info? 25).map (·.size) = some 2 := by kernel_rfl
theorem rowRc : ∃ d, Tryd.prog.underlying 25 = some d ∧ d.isRow = true := ⟨_, Tryd.underlying25, rfl⟩
theorem oneRc (k : Int) (a : Option Addr) (n c : Nat) : ([.int .i64 k, .slice a n c] : List Value).toArray.all (·.oneCell') = true := all_oneCell_toArray fun v hv => by
  simp only [List.mem_cons, List.not_mem_nil, or_false] at hv
  rcases hv with rfl | rfl
  all_goals rfl
end Go.Proofs.YtjfggcefdobooaaDoor
