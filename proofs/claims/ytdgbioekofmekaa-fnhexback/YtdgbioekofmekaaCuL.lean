
/-
  The cursor's length.
-/
import Derived.Test.YtdgbioekofmekaaCuA
import Derived.Test.YtdgbioekofmekaaIcA
import Derived.Test.YtdgbioekofmekaaItP
namespace Go.Proofs.Ytdgbioekofmekaa
open Go Go.RowKit

theorem Cur.only {w w' : World} {p q : Nat} {l : Value} {i : Int} (h : Cur w p l i) (n : Only q w w') (hne : p ≠ q) : Cur w' p l i := h.of_block (n.block p hne)
theorem Rd.only {w w' : World} {g q : Nat} {a : Option Addr} {k : IntKind} {xs : List Int} (h : Rd w g a k xs) (n : Only q w w') (hne : 0 < xs.length → g ≠ q) : Rd w' g a k xs := by
  by_cases h0 : 0 < xs.length
  · exact h.of_block (n.block g (hne h0))
  · obtain rfl : xs = [] := List.eq_nil_of_length_eq_zero (by omega)
    exact Rd.nil _ _ _ _

end Go.Proofs.Ytdgbioekofmekaa
