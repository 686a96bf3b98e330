
/-
  The laws' helpers on a Saved: counted, copied, held against each other (written by gens/svc.py).
-/
import Derived.Test.YtjjoimlnpbelpaaTcH
import Derived.Test.YtjjoimlnpbelpaaHelp
import Derived.Test.YtjjoimlnpbelpaaSzR
import Derived.Deep.DeepCutAuto
namespace Go.Proofs.Ytjjoimlnpbelpaa
open Go Go.RowKit

theorem oneSv (md li : Int) (ho pr : ByteArray) (ea : Int) (a : Option Addr) (n c : Nat) (a' : Option Addr) (n' c' : Nat) (a'' : Option Addr) (n'' c'' : Nat) : ([.slice a n c, .slice a' n' c', .slice a'' n'' c'', .int .i64 md, .int .i64 li, .string ho, .string pr, .int .i64 ea] : List Value).toArray.all (·.oneCell') = true := all_oneCell_toArray fun v hv => by
  simp only [List.mem_cons, List.not_mem_nil, or_false] at hv
  rcases hv with rfl | rfl | rfl | rfl | rfl | rfl | rfl | rfl
  all_goals rfl
end Go.Proofs.Ytjjoimlnpbelpaa
