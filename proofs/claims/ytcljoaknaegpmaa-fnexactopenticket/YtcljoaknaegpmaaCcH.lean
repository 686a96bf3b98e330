
/-
  The program's StreamXor.
-/
import Derived.Test.YtcljoaknaegpmaaCcG
namespace Go.Proofs.Ytcljoaknaegpmaa
open Go Go.RowKit

/-- The counters are enough. -/
def hasC (c : Int) (n : Nat) : Bool := decide ((n : Int) ≤ (4294967296 - c) * 64)
theorem hasC_any (w : World) (c : Int) (h0 : 0 ≤ c) (h1 : c ≤ 4294967295) (a : Option Addr) (n cp : Nat) : Calls Try.prog 44 #[.int .i64 c, .slice a n cp] w fun e w' => e = .returned (.bool (hasC c n)) ∧ w' = w := by
  have b1 : 0 ≤ 4294967296 - c := by omega
  have b2 : 4294967296 - c ≤ 4294967296 := by omega
  unfold hasC
  go_enter Try.func44, Try.ntmps44
  go_wp2
  go_ret
  refine ⟨?_, rfl⟩
  show Ending.returned (Value.bool (decide ((n : Int) ≤ (4294967295 - c + 1) * 64))) = _
  rw [show (4294967295 : Int) - c + 1 = 4294967296 - c by omega]
/-- What StreamXor answers. -/
def sxA (key : List Int) (c : Int) (non data : List Int) : List Int :=
  if fitB key c non = true ∧ hasC c data.length = true then xoG (nsW key non) c data ((data.length + 63) / 64) else []
theorem sxA_len (key : List Int) (c : Int) (non data : List Int) (h : data.length ≤ 1048576) : (sxA key c non data).length ≤ 1048576 := by
  unfold sxA
  split
  · rw [xoG_len]; exact h
  · decide
end Go.Proofs.Ytcljoaknaegpmaa
