
/-
  The cursor's number of at most four bytes; the program's.
-/
import Derived.Test.YtghlcebjnnlmhaaCuA
import Derived.Test.YtghlcebjnnlmhaaBtA
import Derived.Deep.Cut
namespace Go.Proofs.Ytghlcebjnnlmhaa
open Go Go.RowKit

/-- A number of k bytes from place i on. -/
def beN (xs : List Int) (i : Nat) : Nat → Int
  | 0 => 0
  | k + 1 => beN xs i k * 256 + xs.getD (i + k) 0
theorem beN_rng {xs : List Int} (h : Byt xs) (i : Nat) : ∀ k, 0 ≤ beN xs i k ∧ beN xs i k < 256 ^ k
  | 0 => ⟨Int.le_refl _, by simp [beN]⟩
  | k + 1 => by
    have ih := beN_rng h i k
    have b := h (i + k)
    rw [beN, Int.pow_succ]
    omega
theorem Rd.of_block' {w w' : World} {g : Nat} {a : Option Addr} {k : IntKind} {xs : List Int} (h : Rd w g a k xs) (hb : 0 < xs.length → w'.heap[g]? = w.heap[g]?) : Rd w' g a k xs := by
  by_cases h0 : 0 < xs.length
  · exact h.of_block (hb h0)
  · exact fun q => absurd q h0
end Go.Proofs.Ytghlcebjnnlmhaa
