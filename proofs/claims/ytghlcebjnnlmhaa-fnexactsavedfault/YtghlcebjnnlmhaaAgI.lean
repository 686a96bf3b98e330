
/-
  Ages of tickets; the program's.
-/
import Derived.Test.YtghlcebjnnlmhaaNuA
namespace Go.Proofs.Ytghlcebjnnlmhaa
open Go Go.RowKit

def isAg (n : Int) : Bool := decide (0 ≤ n) && decide (n ≤ 4294967295)
def isWd (n : Int) : Bool := decide (0 ≤ n) && decide (n ≤ 86400)
theorem isAg_iff (n : Int) : isAg n = true ↔ 0 ≤ n ∧ n ≤ 4294967295 := by simp [isAg]
theorem isWd_iff (n : Int) : isWd n = true ↔ 0 ≤ n ∧ n ≤ 86400 := by simp [isWd]
set_option maxRecDepth 100000 in
theorem isAge_any (w : World) (n : Int) : Calls Try.prog 15 #[.int .i64 n] w fun e w' => e = .returned (.bool (isAg n)) ∧ w' = w := by
  by_cases h : 0 ≤ n
  · have u : decide (0 ≤ n) = true := decide_eq_true h
    unfold isAg
    rw [u]
    go_enter Try.func15, Try.ntmps15
    go_wp2
    go_ret
    exact ⟨by simp, rfl⟩
  · have u : decide (0 ≤ n) = false := decide_eq_false h
    unfold isAg
    rw [u]
    go_enter Try.func15, Try.ntmps15
    go_wp2
    go_ret
    exact ⟨by simp, rfl⟩
def agV (xs : List Int) (s : Int) : Int := if xs.length = 32 ∧ isAg s = true then (s + beN xs 0 4) % 4294967296 else -1
def frV (xs : List Int) (n s d : Int) : Bool := decide (xs.length = 32) && isAg n && isAg s && isWd d && decide ((n - beN xs 0 4) % 4294967296 - s ≤ d) && decide (s - (n - beN xs 0 4) % 4294967296 ≤ d)
end Go.Proofs.Ytghlcebjnnlmhaa
