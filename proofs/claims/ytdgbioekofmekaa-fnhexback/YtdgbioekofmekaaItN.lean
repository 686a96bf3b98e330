
/-
  Items as bytes: numbers alone.
-/
import Derived.Test.YtdgbioekofmekaaBase
namespace Go.Proofs.Ytdgbioekofmekaa

/-- The first byte of a length, and its one form. -/
def lenS (n : Nat) : Nat := if n < 128 then n else if n < 256 then 129 else 130
def lenL (n : Nat) : List Int := if n < 128 then [(n : Int)] else if n < 256 then [129, (n : Int)] else [130, (n : Int) / 256, (n : Int) % 256]
theorem lenL_len (n : Nat) : 1 ≤ (lenL n).length ∧ (lenL n).length ≤ 3 := by unfold lenL; split; · simp
                                                                             split <;> simp
theorem lenL_byt (n : Nat) (h : n ≤ 65535) : Byt (lenL n) := by
  intro i
  unfold lenL
  split
  · match i with
    | 0 => simp; omega
    | i + 1 => simp
  split
  · match i with
    | 0 => simp
    | 1 => simp; omega
    | i + 2 => simp
  · match i with
    | 0 => simp
    | 1 => simp; omega
    | 2 => simp; omega
    | i + 3 => simp
/-- What EncodeItem answers. -/
def itB (tag : Int) (n : Nat) : Bool := decide (1 ≤ tag) && (decide (tag ≤ 255) && decide (n ≤ 65535))
def itL (tag : Int) (body : List Int) : List Int := if itB tag body.length = true then tag :: (lenL body.length ++ body) else []
theorem itL_len (tag : Int) (body : List Int) : (itL tag body).length ≤ body.length + 4 := by
  unfold itL
  split
  · have := lenL_len body.length
    simp
    omega
  · simp
end Go.Proofs.Ytdgbioekofmekaa
