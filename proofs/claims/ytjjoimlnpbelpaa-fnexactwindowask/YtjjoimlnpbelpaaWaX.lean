
/-
  The law FnExactWindowAsk, as the claim's frame wants it.
-/
import Derived.Test.YtjjoimlnpbelpaaWaW
import Derived.Test.YtjjoimlnpbelpaaKwF
namespace Go.Proofs.Ytjjoimlnpbelpaa
open Go Go.RowKit

theorem rd_of_rowN {w : World} {a : Option Addr} {len cap : Nat} {zs : List Int}
    (h : (a = none ∧ len = 0 ∧ cap = 0 ∧ zs = []) ∨ ∃ x, a = some x ∧ len ≤ cap ∧ cap ≤ maxLen ∧ zs.length = cap ∧ (∀ i, i < zs.length → w.cell? (x.add i) = some (.int .u8 (zs.getD i 0))) ∧ ∀ n ∈ zs, (Lit.int .u8 n).wf = true) :
    ∃ (g : Nat) (xs : List Int), xs.length = len ∧ Rd w g a .u8 xs ∧ Byt xs ∧ xs.length < 9223372036854775808 := rd_of_row3 h
theorem ask_law (w : World) (q : WA) (d : WD) (H : HasW w q d) (B : BgW d) (g : Nat) (a : Option Addr) (cap : Nat) (x : List Int) (r : Rd w g a .u8 x) (y : Byt x) (l : x.length < 9223372036854775808) (n : Int) (_ : (Lit.int .i64 n).wf = true) :
    Calls Try.prog 3 #[.agg (winV q d), .slice a x.length cap, .int .i64 n] w fun e w' => e = .returned (.bool true) ∧ Below w.heap.size w w' :=
  ask_core w d.wd q.g q.a q.c d.ms q.pl H.r B.ms B.mz B.by' g a cap x r y l n
end Go.Proofs.Ytjjoimlnpbelpaa
