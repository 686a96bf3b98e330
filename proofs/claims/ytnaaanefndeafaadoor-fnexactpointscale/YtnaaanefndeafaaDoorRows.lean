/-
  NARROWER THAN 'FOR EVERY INPUT', by the rows' own cells (each row's printed sentence says how): FnExactPointScale: laid · FnPointBytes: laid.
  DERIVED. THE GIVEN ROWS OF THIS SEAT. 2 by the template 'for every input the law returns true; each argument reads behind the call as it read before'; 0 by the template 'total and deterministic' (their statements: YtnaaanefndeafaaDoorTotals.lean).
  GIVEN WITH THE SEED: the statements are not yours to turn. If you find one false, say at which input.
  Laid BY PROGRAM, IN A SANDBOX (cutbox-rows.mjs): the forced cells as the released guide's own fill.sh prints them over the translation 152b350340b9534e… (all of the seat's roots in one cut). By AI agents, Wed Nov 11 2026. No macro, syntax, notation, axiom, sorry.
-/
import Derived.Test.YtnaaanefndeafaaDoorChecked
import GoSem.Claim
import GoSem.ClaimJoined
import GoSem.ClaimMapViews
import Derived.JoinedTies
import Derived.KernelRfl
namespace Go.Proofs.YtnaaanefndeafaaDoor
/- THE CELL 'sum', in the pinned program and in every row, IS THE sha256 OF THE DUMP (.gsa) THAT YtnaaanefndeafaaDoorProg.lean LOADS. Nothing in Lean hashes anything: it is a label: what it is worth is what the hold of that sum in a sandbox is worth. -/
noncomputable def Tryd.pinned : Pinned := { name := "ytnaaanefndeafaadoor", sum := "152b350340b9534ecc78070a8eafb1f6927801c6ee1a213a43a1931163459393", checked := Tryd.checked }
namespace Rows
def none {H : Type} : Left H := { results := [], args := [] }

/- WHAT THE LISTED PACKAGE-LEVEL VARIABLES READ AS WHEN THE CALL BEGINS. Each datum BY PROGRAM (the guide's laid-datum.mjs) off the statement by which the dump's own 'gosem.cut.vars' lays the variable. In a bare row this is a premise. The card (YtnaaanefndeafaaDoorCards.lean) ties it to the program's text. -/
def laid_loop_example_g00004_impl_chainSteps {H : Type} : DataW H := .agg [.agg [.lit (.int .i64 1), .lit (.int .i64 1), .lit (.int .i64 0)], .agg [.lit (.int .i64 2), .lit (.int .i64 2), .lit (.int .i64 1)], .agg [.lit (.int .i64 3), .lit (.int .i64 0), .lit (.int .i64 2)], .agg [.lit (.int .i64 4), .lit (.int .i64 1), .lit (.int .i64 3)], .agg [.lit (.int .i64 5), .lit (.int .i64 5), .lit (.int .i64 5)], .agg [.lit (.int .i64 6), .lit (.int .i64 10), .lit (.int .i64 6)], .agg [.lit (.int .i64 7), .lit (.int .i64 20), .lit (.int .i64 7)], .agg [.lit (.int .i64 8), .lit (.int .i64 10), .lit (.int .i64 6)], .agg [.lit (.int .i64 9), .lit (.int .i64 50), .lit (.int .i64 9)], .agg [.lit (.int .i64 10), .lit (.int .i64 100), .lit (.int .i64 10)], .agg [.lit (.int .i64 11), .lit (.int .i64 50), .lit (.int .i64 9)]]
def laid_loop_example_g00004_impl_inverseStep {H : Type} : DataW H := .agg [.lit (.int .i64 12), .lit (.int .i64 5), .lit (.int .i64 4)]
def laid_loop_example_g00004_impl_twiceP {H : Type} : DataW H := .agg [.lit (.int .u64 4503599627370458), .lit (.int .u64 4503599627370494), .lit (.int .u64 4503599627370494), .lit (.int .u64 4503599627370494), .lit (.int .u64 4503599627370494)]
def laid_loop_example_g00004_impl_curveFactor {H : Type} : DataW H := .agg [.lit (.int .u64 929955233495203), .lit (.int .u64 466365720129213), .lit (.int .u64 1662059464998953), .lit (.int .u64 2033849074728123), .lit (.int .u64 1442794654840575)]
def laid_loop_example_g00004_impl_zeroPoint {H : Type} : DataW H := .agg [.agg [.lit (.int .u64 0), .lit (.int .u64 0), .lit (.int .u64 0), .lit (.int .u64 0), .lit (.int .u64 0)], .agg [.lit (.int .u64 1), .lit (.int .u64 0), .lit (.int .u64 0), .lit (.int .u64 0), .lit (.int .u64 0)]]
def laid_loop_example_g00004_impl_rootStep {H : Type} : DataW H := .agg [.lit (.int .i64 12), .lit (.int .i64 2), .lit (.int .i64 2)]
def laid_loop_example_g00004_impl_rootOfMinusOne {H : Type} : DataW H := .agg [.lit (.int .u64 1718705420411056), .lit (.int .u64 234908883556509), .lit (.int .u64 2233514472574048), .lit (.int .u64 2117202627021982), .lit (.int .u64 765476049583133)]

/-- 'laws.FnExactPointScale': WHATEVER THE INPUT: true; the input reads as it did. -/
def fnExactPointScaleSpec : ChangeSpec := { name := "fnExactPointScale", vars := ["loop.example/g00004/impl.curveFactor", "loop.example/g00004/impl.twiceP", "loop.example/g00004/impl.zeroPoint", "loop.example/g00004/impl.inverseStep", "loop.example/g00004/impl.chainSteps"], fn := fun _ => fun
  | [d1, d2, g1, g2, g3, g4, g5] => { results := [.lit (.bool true)], args := [d1, d2], vars := [g1, g2, g3, g4, g5] }
  | _ => none }
def fnExactPointScaleRow : OpenClaim := { program := "ytnaaanefndeafaadoor", sum := "152b350340b9534ecc78070a8eafb1f6927801c6ee1a213a43a1931163459393", func := "loop.example/g00004/laws.FnExactPointScale", spec := "fnExactPointScale", inPlace := ["math/bits.Add64"], unfollowed := true, recurses := true, named := ["loop.example/g00004/impl.curveFactor", "loop.example/g00004/impl.twiceP", "loop.example/g00004/impl.zeroPoint", "loop.example/g00004/impl.inverseStep", "loop.example/g00004/impl.chainSteps"], apart := false, laid := [("loop.example/g00004/impl.chainSteps", laid_loop_example_g00004_impl_chainSteps), ("loop.example/g00004/impl.inverseStep", laid_loop_example_g00004_impl_inverseStep), ("loop.example/g00004/impl.twiceP", laid_loop_example_g00004_impl_twiceP), ("loop.example/g00004/impl.curveFactor", laid_loop_example_g00004_impl_curveFactor), ("loop.example/g00004/impl.zeroPoint", laid_loop_example_g00004_impl_zeroPoint)] }
def FnExactPointScaleSaid : Prop := fnExactPointScaleRow.holds Tryd.pinned (OpenSpec.ofChange fnExactPointScaleSpec)

/-- ITS FALSE NEIGHBOUR: 'it returns false'. Refute it at one input. -/
def fnExactPointScaleWrong : ChangeSpec := { name := "fnExactPointScale", vars := ["loop.example/g00004/impl.curveFactor", "loop.example/g00004/impl.twiceP", "loop.example/g00004/impl.zeroPoint", "loop.example/g00004/impl.inverseStep", "loop.example/g00004/impl.chainSteps"], fn := fun _ => fun
  | [d1, d2, g1, g2, g3, g4, g5] => { results := [.lit (.bool false)], args := [d1, d2], vars := [g1, g2, g3, g4, g5] }
  | _ => none }
def FnExactPointScaleWrongFalsely : Prop := fnExactPointScaleRow.holds Tryd.pinned (OpenSpec.ofChange fnExactPointScaleWrong)

/-- 'laws.FnPointBytes': WHATEVER THE INPUT: true; the input reads as it did. -/
def fnPointBytesSpec : ChangeSpec := { name := "fnPointBytes", vars := ["loop.example/g00004/impl.curveFactor", "loop.example/g00004/impl.twiceP", "loop.example/g00004/impl.inverseStep", "loop.example/g00004/impl.chainSteps", "loop.example/g00004/impl.rootStep", "loop.example/g00004/impl.rootOfMinusOne"], fn := fun _ => fun
  | [d1, d2, g1, g2, g3, g4, g5, g6] => { results := [.lit (.bool true)], args := [d1, d2], vars := [g1, g2, g3, g4, g5, g6] }
  | _ => none }
def fnPointBytesRow : OpenClaim := { program := "ytnaaanefndeafaadoor", sum := "152b350340b9534ecc78070a8eafb1f6927801c6ee1a213a43a1931163459393", func := "loop.example/g00004/laws.FnPointBytes", spec := "fnPointBytes", inPlace := ["math/bits.Add64"], named := ["loop.example/g00004/impl.curveFactor", "loop.example/g00004/impl.twiceP", "loop.example/g00004/impl.inverseStep", "loop.example/g00004/impl.chainSteps", "loop.example/g00004/impl.rootStep", "loop.example/g00004/impl.rootOfMinusOne"], apart := false, laid := [("loop.example/g00004/impl.chainSteps", laid_loop_example_g00004_impl_chainSteps), ("loop.example/g00004/impl.inverseStep", laid_loop_example_g00004_impl_inverseStep), ("loop.example/g00004/impl.rootStep", laid_loop_example_g00004_impl_rootStep), ("loop.example/g00004/impl.rootOfMinusOne", laid_loop_example_g00004_impl_rootOfMinusOne), ("loop.example/g00004/impl.twiceP", laid_loop_example_g00004_impl_twiceP), ("loop.example/g00004/impl.curveFactor", laid_loop_example_g00004_impl_curveFactor)] }
def FnPointBytesSaid : Prop := fnPointBytesRow.holds Tryd.pinned (OpenSpec.ofChange fnPointBytesSpec)

/-- ITS FALSE NEIGHBOUR: 'it returns false'. Refute it at one input. -/
def fnPointBytesWrong : ChangeSpec := { name := "fnPointBytes", vars := ["loop.example/g00004/impl.curveFactor", "loop.example/g00004/impl.twiceP", "loop.example/g00004/impl.inverseStep", "loop.example/g00004/impl.chainSteps", "loop.example/g00004/impl.rootStep", "loop.example/g00004/impl.rootOfMinusOne"], fn := fun _ => fun
  | [d1, d2, g1, g2, g3, g4, g5, g6] => { results := [.lit (.bool false)], args := [d1, d2], vars := [g1, g2, g3, g4, g5, g6] }
  | _ => none }
def FnPointBytesWrongFalsely : Prop := fnPointBytesRow.holds Tryd.pinned (OpenSpec.ofChange fnPointBytesWrong)

/- THE SECOND FORM. 'bulk': how many values and letters a reading holds, each counted each time it is reached (what is shared counts as often as it is met; a slice's spare places count too). A statement '..UptoSaid' is the law's where the arguments, and the package variables that the reading takes, are together of bulk at most 1048576: NARROWER than '..Said'. Prove '..Said' where nothing that the law and all that it calls make is longer than what came in: it says more and counts as full. Else prove '..UptoSaid'. A law counts once. -/
mutual
def uptoBulk {H : Type} : DataW H → Nat
  | .lit (.string bytes) => bytes.length + 1
  | .lit _ => 1
  | .nil => 1
  | .ptr d => uptoBulk d + 1
  | .slice elems spare => uptoBulkAll elems + uptoBulkAll spare + 1
  | .agg parts => uptoBulkAll parts + 1
  | .iface _ d => uptoBulk d + 1
  | .map entries => uptoBulkEntries entries + 1
  | .held _ => 1
def uptoBulkAll {H : Type} : List (DataW H) → Nat
  | [] => 0
  | d :: r => uptoBulk d + uptoBulkAll r
def uptoBulkEntries {H : Type} : List (Lit × DataW H) → Nat
  | [] => 0
  | x :: r => uptoBulkEntry x + uptoBulkEntries r
def uptoBulkEntry {H : Type} : Lit × DataW H → Nat
  | (.string bytes, d) => bytes.length + uptoBulk d + 1
  | (_, d) => uptoBulk d + 1
 end
def uptoSmall : (H : Type) → List (DataW H) → Bool := fun _ ds => decide (uptoBulkAll ds ≤ 1048576)
def OpenSpec.upto (s : _root_.Go.ChangeSpec) : _root_.Go.OpenSpec := { _root_.Go.OpenSpec.ofChange s with cond := some uptoSmall }

/-- 'laws.FnExactPointScale', WHERE WHAT IT READS IS OF BULK AT MOST 1048576: true; the input reads as it did. -/
def fnExactPointScaleUptoRow : OpenClaim := { program := "ytnaaanefndeafaadoor", sum := "152b350340b9534ecc78070a8eafb1f6927801c6ee1a213a43a1931163459393", func := "loop.example/g00004/laws.FnExactPointScale", spec := "fnExactPointScale", inPlace := ["math/bits.Add64"], unfollowed := true, recurses := true, named := ["loop.example/g00004/impl.curveFactor", "loop.example/g00004/impl.twiceP", "loop.example/g00004/impl.zeroPoint", "loop.example/g00004/impl.inverseStep", "loop.example/g00004/impl.chainSteps"], apart := false, laid := [("loop.example/g00004/impl.chainSteps", laid_loop_example_g00004_impl_chainSteps), ("loop.example/g00004/impl.inverseStep", laid_loop_example_g00004_impl_inverseStep), ("loop.example/g00004/impl.twiceP", laid_loop_example_g00004_impl_twiceP), ("loop.example/g00004/impl.curveFactor", laid_loop_example_g00004_impl_curveFactor), ("loop.example/g00004/impl.zeroPoint", laid_loop_example_g00004_impl_zeroPoint)], narrowed := true }
def FnExactPointScaleUptoSaid : Prop := fnExactPointScaleUptoRow.holds Tryd.pinned (OpenSpec.upto fnExactPointScaleSpec)

/-- 'laws.FnPointBytes', WHERE WHAT IT READS IS OF BULK AT MOST 1048576: true; the input reads as it did. -/
def fnPointBytesUptoRow : OpenClaim := { program := "ytnaaanefndeafaadoor", sum := "152b350340b9534ecc78070a8eafb1f6927801c6ee1a213a43a1931163459393", func := "loop.example/g00004/laws.FnPointBytes", spec := "fnPointBytes", inPlace := ["math/bits.Add64"], named := ["loop.example/g00004/impl.curveFactor", "loop.example/g00004/impl.twiceP", "loop.example/g00004/impl.inverseStep", "loop.example/g00004/impl.chainSteps", "loop.example/g00004/impl.rootStep", "loop.example/g00004/impl.rootOfMinusOne"], apart := false, laid := [("loop.example/g00004/impl.chainSteps", laid_loop_example_g00004_impl_chainSteps), ("loop.example/g00004/impl.inverseStep", laid_loop_example_g00004_impl_inverseStep), ("loop.example/g00004/impl.rootStep", laid_loop_example_g00004_impl_rootStep), ("loop.example/g00004/impl.rootOfMinusOne", laid_loop_example_g00004_impl_rootOfMinusOne), ("loop.example/g00004/impl.twiceP", laid_loop_example_g00004_impl_twiceP), ("loop.example/g00004/impl.curveFactor", laid_loop_example_g00004_impl_curveFactor)], narrowed := true }
def FnPointBytesUptoSaid : Prop := fnPointBytesUptoRow.holds Tryd.pinned (OpenSpec.upto fnPointBytesSpec)

end Rows
end Go.Proofs.YtnaaanefndeafaaDoor
