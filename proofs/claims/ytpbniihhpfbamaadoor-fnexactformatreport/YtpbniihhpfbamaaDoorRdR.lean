
/-
  What a list of bytes in a statement's frame gives, with its length's bound.
-/
import Derived.Test.YtpbniihhpfbamaaDoorHelp
namespace Go.Proofs.YtpbniihhpfbamaaDoor
set_option maxRecDepth 100000
open Go Go.RowKit

theorem rd_of_row3 {w : World} {a : Option Addr} {len cap : Nat} {zs : List Int}
    (h : (a = none ∧ len = 0 ∧ cap = 0 ∧ zs = []) ∨ ∃ x, a = some x ∧ len ≤ cap ∧ cap ≤ maxLen ∧ zs.length = cap ∧ (∀ i, i < zs.length → w.cell? (x.add i) = some (.int .u8 (zs.getD i 0))) ∧ ∀ n ∈ zs, (Lit.int .u8 n).wf = true) :
    ∃ (g : Nat) (xs : List Int), xs.length = len ∧ Rd w g a .u8 xs ∧ Byt xs ∧ xs.length < 9223372036854775808 := by
  obtain ⟨g, xs, hl, r, b⟩ := rd_of_row h
  refine ⟨g, xs, hl, r, b, ?_⟩
  rcases h with ⟨_, h, _⟩ | ⟨_, _, h1, h2, _⟩
  · omega
  · have : maxLen = 9223372036854775807 := rfl
    omega
end Go.Proofs.YtpbniihhpfbamaaDoor
