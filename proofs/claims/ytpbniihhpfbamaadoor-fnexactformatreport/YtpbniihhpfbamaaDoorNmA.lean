
/-
  The program's NameMatches and NameInside.
-/
import Derived.Test.YtpbniihhpfbamaaDoorNmN
namespace Go.Proofs.YtpbniihhpfbamaaDoor
set_option maxRecDepth 100000
open Go Go.RowKit

theorem suf_iff (n a : List UInt8) : decide (n.drop (n.length - a.length) = a) = a.isSuffixOf n := by
  rw [Bool.eq_iff_iff, decide_eq_true_eq, List.isSuffixOf_iff_suffix]
  constructor
  · intro e
    have := List.take_append_drop (n.length - a.length) n
    rw [e] at this
    exact ⟨_, this⟩
  · rintro ⟨x, rfl⟩
    simp
theorem suf_none (n a : List UInt8) (h : n.length < a.length) : a.isSuffixOf n = false := by
  cases k : a.isSuffixOf n with
  | false => rfl
  | true =>
    have := (List.isSuffixOf_iff_suffix.1 k).length_le
    omega
theorem beq_dec (a b : List UInt8) : (a == b) = decide (a = b) := by
  rw [Bool.eq_iff_iff]
  simp

/-- What stands ahead of the first point. -/
def ahd (h : List UInt8) : List UInt8 := if 0 ≤ Lib.indexByte h 46 then h.take (Lib.indexByte h 46).toNat else h
end Go.Proofs.YtpbniihhpfbamaaDoor
