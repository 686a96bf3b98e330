
/-
  The program's PatternFault.
-/
import Derived.Test.YtpbniihhpfbamaaDoorLpA
namespace Go.Proofs.YtpbniihhpfbamaaDoor
set_option maxRecDepth 100000
open Go Go.RowKit

theorem idx_dot : ∀ l : List UInt8, Lib.indexByte l 46 < 0 ↔ dot l = false
  | [] => by simp [Lib.indexByte, dot]
  | c :: l => by
    have ih := idx_dot l
    have ge := Lib.indexByte_ge l 46
    have e : dot (c :: l) = (decide ((c.toNat : Int) = 46) || dot l) := by simp [dot]
    rw [e]
    unfold Lib.indexByte
    by_cases h : c = 46
    · subst h
      simp
    · have h1 : ¬ ((c.toNat : Int) = 46) := fun k => h (by
        have : c.toNat = 46 := by omega
        exact UInt8.toNat.inj (by rw [this]; rfl))
      have h2 : (c == 46) = false := by simpa using h
      rw [h2, decide_eq_false h1, Bool.false_or, ← ih]
      simp only [Bool.false_eq_true, if_false]
      split
      · rename_i k
        have : Lib.indexByte l 46 = -1 := by simpa using k
        omega
      · rename_i k
        have : Lib.indexByte l 46 ≠ -1 := by simpa using k
        omega

end Go.Proofs.YtpbniihhpfbamaaDoor
