/-
  NARROWER THAN 'FOR EVERY INPUT', by the rows' own cells (each row's printed sentence says how): FnExactLadder: laid · FnExactLadderPublic: laid · FnExactLadderShared: laid · FnLadderShares: laid.
  DERIVED. THE GIVEN ROWS OF THIS SEAT. 4 by the template 'for every input the law returns true; each argument reads behind the call as it read before'; 0 by the template 'total and deterministic' (their statements: YtblkjpmkikhpbaaDoorTotals.lean).
  GIVEN WITH THE SEED: the statements are not yours to turn. If you find one false, say at which input.
  Laid BY PROGRAM, IN A SANDBOX (cutbox-rows.mjs): the forced cells as the released guide's own fill.sh prints them over the translation 81cb9cc1aebc26d3… (all of the seat's roots in one cut). By AI agents, Wed Nov 11 2026. No macro, syntax, notation, axiom, sorry.
-/
import Derived.Test.YtblkjpmkikhpbaaDoorChecked
import GoSem.Claim
import GoSem.ClaimJoined
import GoSem.ClaimMapViews
import Derived.JoinedTies
import Derived.KernelRfl
namespace Go.Proofs.YtblkjpmkikhpbaaDoor
/- THE CELL 'sum', in the pinned program and in every row, IS THE sha256 OF THE DUMP (.gsa) THAT YtblkjpmkikhpbaaDoorProg.lean LOADS. Nothing in Lean hashes anything: it is a label: what it is worth is what the hold of that sum in a sandbox is worth. -/
noncomputable def Tryd.pinned : Pinned := { name := "ytblkjpmkikhpbaadoor", sum := "81cb9cc1aebc26d316c4d6d12f1abd3af05d27db4c9cac6a1b89d5643f9bbd2b", checked := Tryd.checked }
namespace Rows
def none {H : Type} : Left H := { results := [], args := [] }

/- WHAT THE LISTED PACKAGE-LEVEL VARIABLES READ AS WHEN THE CALL BEGINS. Each datum BY PROGRAM (the guide's laid-datum.mjs) off the statement by which the dump's own 'gosem.cut.vars' lays the variable. In a bare row this is a premise. The card (YtblkjpmkikhpbaaDoorCards.lean) ties it to the program's text. -/
def laid_loop_example_g00004_impl_chainSteps {H : Type} : DataW H := .agg [.agg [.lit (.int .i64 1), .lit (.int .i64 1), .lit (.int .i64 0)], .agg [.lit (.int .i64 2), .lit (.int .i64 2), .lit (.int .i64 1)], .agg [.lit (.int .i64 3), .lit (.int .i64 0), .lit (.int .i64 2)], .agg [.lit (.int .i64 4), .lit (.int .i64 1), .lit (.int .i64 3)], .agg [.lit (.int .i64 5), .lit (.int .i64 5), .lit (.int .i64 5)], .agg [.lit (.int .i64 6), .lit (.int .i64 10), .lit (.int .i64 6)], .agg [.lit (.int .i64 7), .lit (.int .i64 20), .lit (.int .i64 7)], .agg [.lit (.int .i64 8), .lit (.int .i64 10), .lit (.int .i64 6)], .agg [.lit (.int .i64 9), .lit (.int .i64 50), .lit (.int .i64 9)], .agg [.lit (.int .i64 10), .lit (.int .i64 100), .lit (.int .i64 10)], .agg [.lit (.int .i64 11), .lit (.int .i64 50), .lit (.int .i64 9)]]
def laid_loop_example_g00004_impl_inverseStep {H : Type} : DataW H := .agg [.lit (.int .i64 12), .lit (.int .i64 5), .lit (.int .i64 4)]
def laid_loop_example_g00004_impl_twiceP {H : Type} : DataW H := .agg [.lit (.int .u64 4503599627370458), .lit (.int .u64 4503599627370494), .lit (.int .u64 4503599627370494), .lit (.int .u64 4503599627370494), .lit (.int .u64 4503599627370494)]

/-- 'laws.FnExactLadder': WHATEVER THE INPUT: true; the input reads as it did. -/
def fnExactLadderSpec : ChangeSpec := { name := "fnExactLadder", vars := ["loop.example/g00004/impl.twiceP", "loop.example/g00004/impl.inverseStep", "loop.example/g00004/impl.chainSteps"], fn := fun _ => fun
  | [d1, d2, g1, g2, g3] => { results := [.lit (.bool true)], args := [d1, d2], vars := [g1, g2, g3] }
  | _ => none }
def fnExactLadderRow : OpenClaim := { program := "ytblkjpmkikhpbaadoor", sum := "81cb9cc1aebc26d316c4d6d12f1abd3af05d27db4c9cac6a1b89d5643f9bbd2b", func := "loop.example/g00004/laws.FnExactLadder", spec := "fnExactLadder", inPlace := ["math/bits.Add64"], named := ["loop.example/g00004/impl.twiceP", "loop.example/g00004/impl.inverseStep", "loop.example/g00004/impl.chainSteps"], apart := false, laid := [("loop.example/g00004/impl.chainSteps", laid_loop_example_g00004_impl_chainSteps), ("loop.example/g00004/impl.inverseStep", laid_loop_example_g00004_impl_inverseStep), ("loop.example/g00004/impl.twiceP", laid_loop_example_g00004_impl_twiceP)] }
def FnExactLadderSaid : Prop := fnExactLadderRow.holds Tryd.pinned (OpenSpec.ofChange fnExactLadderSpec)

/-- ITS FALSE NEIGHBOUR: 'it returns false'. Refute it at one input. -/
def fnExactLadderWrong : ChangeSpec := { name := "fnExactLadder", vars := ["loop.example/g00004/impl.twiceP", "loop.example/g00004/impl.inverseStep", "loop.example/g00004/impl.chainSteps"], fn := fun _ => fun
  | [d1, d2, g1, g2, g3] => { results := [.lit (.bool false)], args := [d1, d2], vars := [g1, g2, g3] }
  | _ => none }
def FnExactLadderWrongFalsely : Prop := fnExactLadderRow.holds Tryd.pinned (OpenSpec.ofChange fnExactLadderWrong)

/-- 'laws.FnExactLadderPublic': WHATEVER THE INPUT: true; the input reads as it did. -/
def fnExactLadderPublicSpec : ChangeSpec := { name := "fnExactLadderPublic", vars := ["loop.example/g00004/impl.twiceP", "loop.example/g00004/impl.inverseStep", "loop.example/g00004/impl.chainSteps"], fn := fun _ => fun
  | [d, g1, g2, g3] => { results := [.lit (.bool true)], args := [d], vars := [g1, g2, g3] }
  | _ => none }
def fnExactLadderPublicRow : OpenClaim := { program := "ytblkjpmkikhpbaadoor", sum := "81cb9cc1aebc26d316c4d6d12f1abd3af05d27db4c9cac6a1b89d5643f9bbd2b", func := "loop.example/g00004/laws.FnExactLadderPublic", spec := "fnExactLadderPublic", inPlace := ["math/bits.Add64"], named := ["loop.example/g00004/impl.twiceP", "loop.example/g00004/impl.inverseStep", "loop.example/g00004/impl.chainSteps"], apart := false, laid := [("loop.example/g00004/impl.chainSteps", laid_loop_example_g00004_impl_chainSteps), ("loop.example/g00004/impl.inverseStep", laid_loop_example_g00004_impl_inverseStep), ("loop.example/g00004/impl.twiceP", laid_loop_example_g00004_impl_twiceP)] }
def FnExactLadderPublicSaid : Prop := fnExactLadderPublicRow.holds Tryd.pinned (OpenSpec.ofChange fnExactLadderPublicSpec)

/-- ITS FALSE NEIGHBOUR: 'it returns false'. Refute it at one input. -/
def fnExactLadderPublicWrong : ChangeSpec := { name := "fnExactLadderPublic", vars := ["loop.example/g00004/impl.twiceP", "loop.example/g00004/impl.inverseStep", "loop.example/g00004/impl.chainSteps"], fn := fun _ => fun
  | [d, g1, g2, g3] => { results := [.lit (.bool false)], args := [d], vars := [g1, g2, g3] }
  | _ => none }
def FnExactLadderPublicWrongFalsely : Prop := fnExactLadderPublicRow.holds Tryd.pinned (OpenSpec.ofChange fnExactLadderPublicWrong)

/-- 'laws.FnExactLadderShared': WHATEVER THE INPUT: true; the input reads as it did. -/
def fnExactLadderSharedSpec : ChangeSpec := { name := "fnExactLadderShared", vars := ["loop.example/g00004/impl.twiceP", "loop.example/g00004/impl.inverseStep", "loop.example/g00004/impl.chainSteps"], fn := fun _ => fun
  | [d1, d2, g1, g2, g3] => { results := [.lit (.bool true)], args := [d1, d2], vars := [g1, g2, g3] }
  | _ => none }
def fnExactLadderSharedRow : OpenClaim := { program := "ytblkjpmkikhpbaadoor", sum := "81cb9cc1aebc26d316c4d6d12f1abd3af05d27db4c9cac6a1b89d5643f9bbd2b", func := "loop.example/g00004/laws.FnExactLadderShared", spec := "fnExactLadderShared", inPlace := ["math/bits.Add64"], named := ["loop.example/g00004/impl.twiceP", "loop.example/g00004/impl.inverseStep", "loop.example/g00004/impl.chainSteps"], apart := false, laid := [("loop.example/g00004/impl.chainSteps", laid_loop_example_g00004_impl_chainSteps), ("loop.example/g00004/impl.inverseStep", laid_loop_example_g00004_impl_inverseStep), ("loop.example/g00004/impl.twiceP", laid_loop_example_g00004_impl_twiceP)] }
def FnExactLadderSharedSaid : Prop := fnExactLadderSharedRow.holds Tryd.pinned (OpenSpec.ofChange fnExactLadderSharedSpec)

/-- ITS FALSE NEIGHBOUR: 'it returns false'. Refute it at one input. -/
def fnExactLadderSharedWrong : ChangeSpec := { name := "fnExactLadderShared", vars := ["loop.example/g00004/impl.twiceP", "loop.example/g00004/impl.inverseStep", "loop.example/g00004/impl.chainSteps"], fn := fun _ => fun
  | [d1, d2, g1, g2, g3] => { results := [.lit (.bool false)], args := [d1, d2], vars := [g1, g2, g3] }
  | _ => none }
def FnExactLadderSharedWrongFalsely : Prop := fnExactLadderSharedRow.holds Tryd.pinned (OpenSpec.ofChange fnExactLadderSharedWrong)

/-- 'laws.FnLadderShares': WHATEVER THE INPUT: true; the input reads as it did. -/
def fnLadderSharesSpec : ChangeSpec := { name := "fnLadderShares", vars := ["loop.example/g00004/impl.twiceP", "loop.example/g00004/impl.inverseStep", "loop.example/g00004/impl.chainSteps"], fn := fun _ => fun
  | [d1, d2, g1, g2, g3] => { results := [.lit (.bool true)], args := [d1, d2], vars := [g1, g2, g3] }
  | _ => none }
def fnLadderSharesRow : OpenClaim := { program := "ytblkjpmkikhpbaadoor", sum := "81cb9cc1aebc26d316c4d6d12f1abd3af05d27db4c9cac6a1b89d5643f9bbd2b", func := "loop.example/g00004/laws.FnLadderShares", spec := "fnLadderShares", inPlace := ["math/bits.Add64"], named := ["loop.example/g00004/impl.twiceP", "loop.example/g00004/impl.inverseStep", "loop.example/g00004/impl.chainSteps"], apart := false, laid := [("loop.example/g00004/impl.chainSteps", laid_loop_example_g00004_impl_chainSteps), ("loop.example/g00004/impl.inverseStep", laid_loop_example_g00004_impl_inverseStep), ("loop.example/g00004/impl.twiceP", laid_loop_example_g00004_impl_twiceP)] }
def FnLadderSharesSaid : Prop := fnLadderSharesRow.holds Tryd.pinned (OpenSpec.ofChange fnLadderSharesSpec)

/-- ITS FALSE NEIGHBOUR: 'it returns false'. Refute it at one input. -/
def fnLadderSharesWrong : ChangeSpec := { name := "fnLadderShares", vars := ["loop.example/g00004/impl.twiceP", "loop.example/g00004/impl.inverseStep", "loop.example/g00004/impl.chainSteps"], fn := fun _ => fun
  | [d1, d2, g1, g2, g3] => { results := [.lit (.bool false)], args := [d1, d2], vars := [g1, g2, g3] }
  | _ => none }
def FnLadderSharesWrongFalsely : Prop := fnLadderSharesRow.holds Tryd.pinned (OpenSpec.ofChange fnLadderSharesWrong)

/- THE SECOND FORM. 'bulk': how many values and letters a reading holds, each counted each time it is reached (what is shared counts as often as it is met; a slice's spare places count too). A statement '..UptoSaid' is the law's where the arguments, and the package variables that the reading takes, are together of bulk at most 1048576: NARROWER than '..Said'. Prove '..Said' where nothing that the law and all that it calls make is longer than what came in: it says more and counts as full. Else prove '..UptoSaid'. A law counts once. -/
mutual
def uptoBulk {H : Type} : DataW H → Nat
  | .lit (.string bytes) => bytes.length + 1
  | .lit _ => 1
  | .nil => 1
  | .ptr d => uptoBulk d + 1
  | .slice elems spare => uptoBulkAll elems + uptoBulkAll spare + 1
  | .agg parts => uptoBulkAll parts + 1
  | .iface _ d => uptoBulk d + 1
  | .map entries => uptoBulkEntries entries + 1
  | .held _ => 1
def uptoBulkAll {H : Type} : List (DataW H) → Nat
  | [] => 0
  | d :: r => uptoBulk d + uptoBulkAll r
def uptoBulkEntries {H : Type} : List (Lit × DataW H) → Nat
  | [] => 0
  | x :: r => uptoBulkEntry x + uptoBulkEntries r
def uptoBulkEntry {H : Type} : Lit × DataW H → Nat
  | (.string bytes, d) => bytes.length + uptoBulk d + 1
  | (_, d) => uptoBulk d + 1
 end
def uptoSmall : (H : Type) → List (DataW H) → Bool := fun _ ds => decide (uptoBulkAll ds ≤ 1048576)
def OpenSpec.upto (s : _root_.Go.ChangeSpec) : _root_.Go.OpenSpec := { _root_.Go.OpenSpec.ofChange s with cond := some uptoSmall }

/-- 'laws.FnExactLadder', WHERE WHAT IT READS IS OF BULK AT MOST 1048576: true; the input reads as it did. -/
def fnExactLadderUptoRow : OpenClaim := { program := "ytblkjpmkikhpbaadoor", sum := "81cb9cc1aebc26d316c4d6d12f1abd3af05d27db4c9cac6a1b89d5643f9bbd2b", func := "loop.example/g00004/laws.FnExactLadder", spec := "fnExactLadder", inPlace := ["math/bits.Add64"], named := ["loop.example/g00004/impl.twiceP", "loop.example/g00004/impl.inverseStep", "loop.example/g00004/impl.chainSteps"], apart := false, laid := [("loop.example/g00004/impl.chainSteps", laid_loop_example_g00004_impl_chainSteps), ("loop.example/g00004/impl.inverseStep", laid_loop_example_g00004_impl_inverseStep), ("loop.example/g00004/impl.twiceP", laid_loop_example_g00004_impl_twiceP)], narrowed := true }
def FnExactLadderUptoSaid : Prop := fnExactLadderUptoRow.holds Tryd.pinned (OpenSpec.upto fnExactLadderSpec)

/-- 'laws.FnExactLadderPublic', WHERE WHAT IT READS IS OF BULK AT MOST 1048576: true; the input reads as it did. -/
def fnExactLadderPublicUptoRow : OpenClaim := { program := "ytblkjpmkikhpbaadoor", sum := "81cb9cc1aebc26d316c4d6d12f1abd3af05d27db4c9cac6a1b89d5643f9bbd2b", func := "loop.example/g00004/laws.FnExactLadderPublic", spec := "fnExactLadderPublic", inPlace := ["math/bits.Add64"], named := ["loop.example/g00004/impl.twiceP", "loop.example/g00004/impl.inverseStep", "loop.example/g00004/impl.chainSteps"], apart := false, laid := [("loop.example/g00004/impl.chainSteps", laid_loop_example_g00004_impl_chainSteps), ("loop.example/g00004/impl.inverseStep", laid_loop_example_g00004_impl_inverseStep), ("loop.example/g00004/impl.twiceP", laid_loop_example_g00004_impl_twiceP)], narrowed := true }
def FnExactLadderPublicUptoSaid : Prop := fnExactLadderPublicUptoRow.holds Tryd.pinned (OpenSpec.upto fnExactLadderPublicSpec)

/-- 'laws.FnExactLadderShared', WHERE WHAT IT READS IS OF BULK AT MOST 1048576: true; the input reads as it did. -/
def fnExactLadderSharedUptoRow : OpenClaim := { program := "ytblkjpmkikhpbaadoor", sum := "81cb9cc1aebc26d316c4d6d12f1abd3af05d27db4c9cac6a1b89d5643f9bbd2b", func := "loop.example/g00004/laws.FnExactLadderShared", spec := "fnExactLadderShared", inPlace := ["math/bits.Add64"], named := ["loop.example/g00004/impl.twiceP", "loop.example/g00004/impl.inverseStep", "loop.example/g00004/impl.chainSteps"], apart := false, laid := [("loop.example/g00004/impl.chainSteps", laid_loop_example_g00004_impl_chainSteps), ("loop.example/g00004/impl.inverseStep", laid_loop_example_g00004_impl_inverseStep), ("loop.example/g00004/impl.twiceP", laid_loop_example_g00004_impl_twiceP)], narrowed := true }
def FnExactLadderSharedUptoSaid : Prop := fnExactLadderSharedUptoRow.holds Tryd.pinned (OpenSpec.upto fnExactLadderSharedSpec)

/-- 'laws.FnLadderShares', WHERE WHAT IT READS IS OF BULK AT MOST 1048576: true; the input reads as it did. -/
def fnLadderSharesUptoRow : OpenClaim := { program := "ytblkjpmkikhpbaadoor", sum := "81cb9cc1aebc26d316c4d6d12f1abd3af05d27db4c9cac6a1b89d5643f9bbd2b", func := "loop.example/g00004/laws.FnLadderShares", spec := "fnLadderShares", inPlace := ["math/bits.Add64"], named := ["loop.example/g00004/impl.twiceP", "loop.example/g00004/impl.inverseStep", "loop.example/g00004/impl.chainSteps"], apart := false, laid := [("loop.example/g00004/impl.chainSteps", laid_loop_example_g00004_impl_chainSteps), ("loop.example/g00004/impl.inverseStep", laid_loop_example_g00004_impl_inverseStep), ("loop.example/g00004/impl.twiceP", laid_loop_example_g00004_impl_twiceP)], narrowed := true }
def FnLadderSharesUptoSaid : Prop := fnLadderSharesUptoRow.holds Tryd.pinned (OpenSpec.upto fnLadderSharesSpec)

end Rows
end Go.Proofs.YtblkjpmkikhpbaaDoor
