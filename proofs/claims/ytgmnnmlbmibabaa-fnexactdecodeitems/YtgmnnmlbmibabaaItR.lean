
/-
  Items read from bytes, case by case: numbers alone.
-/
import Derived.Test.YtgmnnmlbmibabaaItP
namespace Go.Proofs.Ytgmnnmlbmibabaa

theorem itA_out {xs : List Int} {i : Nat} (h : xs.length ≤ i) : itA xs i = none := if_neg (by omega)
theorem itA_zero {xs : List Int} {i : Nat} (h : xs.getD i 0 = 0) : itA xs i = none := if_neg (fun k => k.2 h)
theorem itA_ln {xs : List Int} {i : Nat} (h : lnA xs (i + 1) = none) : itA xs i = none := by
  unfold itA
  split
  · rw [h]
  · rfl
theorem itA_short {xs : List Int} {i m n : Nat} (h : lnA xs (i + 1) = some (m, n)) (hl : xs.length < i + 1 + m + n) : itA xs i = none := by
  unfold itA
  split
  · rw [h]
    exact if_neg (by omega)
  · rfl
theorem itA_yes {xs : List Int} {i m n : Nat} (h0 : i < xs.length) (hx : xs.getD i 0 ≠ 0) (h : lnA xs (i + 1) = some (m, n)) (hl : i + 1 + m + n ≤ xs.length) : itA xs i = some (xs.getD i 0, i + 1 + m, n) := by
  unfold itA
  rw [if_pos ⟨h0, hx⟩, h]
  exact if_pos hl
end Go.Proofs.Ytgmnnmlbmibabaa
