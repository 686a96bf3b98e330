
/-
  Times that are drawn.
-/
import Derived.Test.YthkhfljoflffpaaDrB
import Derived.Test.YthkhfljoflffpaaRwB
import Derived.Test.YthkhfljoflffpaaTmS
import Derived.Test.YthkhfljoflffpaaDtS
import Derived.Deep.DeepCutAuto
namespace Go.Proofs.Ythkhfljoflffpaa
open Go Go.RowKit

theorem Rd.src {w w' : World} {g q : Nat} {a : Option Addr} {k : IntKind} {xs : List Int} (h : Rd w g a k xs) (n : Only q w w') (hne : 0 < xs.length → g ≠ q) : Rd w' g a k xs := h.only n hne

end Go.Proofs.Ythkhfljoflffpaa
