
/-
  The laws' count of a list's bytes.
-/
import Derived.Test.YtjjoimlnpbelpaaHelp
namespace Go.Proofs.Ytjjoimlnpbelpaa
open Go Go.RowKit

theorem szByteR (w : World) (a : Option Addr) (n c : Nat) (left : Int) (hn : n < 9223372036854775808) (hl : 0 ≤ left) (hm : left ≤ 1048576) :
    Calls Try.prog 42 #[.slice a n c, .int .i64 left] w fun e w' => e = .returned (.int .i64 (if left < (n : Int) then -1 else left - (n : Int))) ∧ w' = w := by
  by_cases h : left < (n : Int)
  · have t1 : decide (left - (n : Int) < 0) = true := by simp; omega
    rw [if_pos h]
    go_enter Try.func42, Try.ntmps42
    go_wp2
    go_ret
    exact ⟨rfl, rfl⟩
  · have t1 : decide (left - (n : Int) < 0) = false := by simp; omega
    rw [if_neg h]
    go_enter Try.func42, Try.ntmps42
    go_wp2
    go_ret
    exact ⟨rfl, rfl⟩
end Go.Proofs.Ytjjoimlnpbelpaa
