
/-
  Times that are drawn.
-/
import Derived.Test.YtdgbioekofmekaaDrB
import Derived.Test.YtdgbioekofmekaaRwB
import Derived.Test.YtdgbioekofmekaaTmS
import Derived.Test.YtdgbioekofmekaaDtS
import Derived.Deep.DeepCutAuto
namespace Go.Proofs.Ytdgbioekofmekaa
open Go Go.RowKit

theorem Rd.src {w w' : World} {g q : Nat} {a : Option Addr} {k : IntKind} {xs : List Int} (h : Rd w g a k xs) (n : Only q w w') (hne : 0 < xs.length → g ≠ q) : Rd w' g a k xs := h.only n hne

end Go.Proofs.Ytdgbioekofmekaa
