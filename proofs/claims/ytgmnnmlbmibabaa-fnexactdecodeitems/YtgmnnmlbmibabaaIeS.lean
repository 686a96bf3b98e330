
/-
  The model's l10Signed, EncodeInteger and DecodeInteger.
-/
import Derived.Test.YtgmnnmlbmibabaaL64
import Derived.Test.YtgmnnmlbmibabaaApd
import Derived.Test.YtgmnnmlbmibabaaSm8
import Derived.Test.YtgmnnmlbmibabaaTrim
import Derived.Test.YtgmnnmlbmibabaaRdT
namespace Go.Proofs.Ytgmnnmlbmibabaa
open Go.RowKit

theorem sgB_take_succ (v : Int) (k : Nat) (hk : k < 8) : (sgB 8 v).take k ++ [v / 2 ^ (8 * (7 - k)) % 256] = (sgB 8 v).take (k + 1) := by
  have hl : k < (sgB 8 v).length := by rw [sgB_len]; exact hk
  rw [List.take_add_one, List.getElem?_eq_getElem hl]
  have e := sgB_get 8 v k hk
  rw [List.getD_eq_getElem?_getD, List.getElem?_eq_getElem hl] at e
  simp only [Option.getD_some] at e
  rw [e, show 8 - 1 - k = 7 - k by omega]
  rfl

end Go.Proofs.Ytgmnnmlbmibabaa
