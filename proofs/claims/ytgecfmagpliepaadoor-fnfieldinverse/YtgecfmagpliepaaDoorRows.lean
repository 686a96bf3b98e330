/-
  NARROWER THAN 'FOR EVERY INPUT', by the rows' own cells (each row's printed sentence says how): FnExactFieldSub: laid · FnExactFieldInvert: laid · FnFieldInverse: laid · FnExactFieldRoot: laid · FnFieldSquares: laid · FnFieldRing: laid.
  DERIVED. THE GIVEN ROWS OF THIS SEAT. 6 by the template 'for every input the law returns true; each argument reads behind the call as it read before'; 0 by the template 'total and deterministic' (their statements: YtgecfmagpliepaaDoorTotals.lean).
  GIVEN WITH THE SEED: the statements are not yours to turn. If you find one false, say at which input.
  Laid BY PROGRAM, IN A SANDBOX (cutbox-rows.mjs): the forced cells as the released guide's own fill.sh prints them over the translation b614cdb131242f36… (all of the seat's roots in one cut). By AI agents, Wed Nov 11 2026. No macro, syntax, notation, axiom, sorry.
-/
import Derived.Test.YtgecfmagpliepaaDoorChecked
import GoSem.Claim
import GoSem.ClaimJoined
import GoSem.ClaimMapViews
import Derived.JoinedTies
import Derived.KernelRfl
namespace Go.Proofs.YtgecfmagpliepaaDoor
/- THE CELL 'sum', in the pinned program and in every row, IS THE sha256 OF THE DUMP (.gsa) THAT YtgecfmagpliepaaDoorProg.lean LOADS. Nothing in Lean hashes anything: it is a label: what it is worth is what the hold of that sum in a sandbox is worth. -/
noncomputable def Tryd.pinned : Pinned := { name := "ytgecfmagpliepaadoor", sum := "b614cdb131242f36fe199bdace8b1aae570fed590c5ee015e76376a926427313", checked := Tryd.checked }
namespace Rows
def none {H : Type} : Left H := { results := [], args := [] }

/- WHAT THE LISTED PACKAGE-LEVEL VARIABLES READ AS WHEN THE CALL BEGINS. Each datum BY PROGRAM (the guide's laid-datum.mjs) off the statement by which the dump's own 'gosem.cut.vars' lays the variable. In a bare row this is a premise. The card (YtgecfmagpliepaaDoorCards.lean) ties it to the program's text. -/
def laid_loop_example_g00004_impl_twiceP {H : Type} : DataW H := .agg [.lit (.int .u64 4503599627370458), .lit (.int .u64 4503599627370494), .lit (.int .u64 4503599627370494), .lit (.int .u64 4503599627370494), .lit (.int .u64 4503599627370494)]
def laid_loop_example_g00004_impl_chainSteps {H : Type} : DataW H := .agg [.agg [.lit (.int .i64 1), .lit (.int .i64 1), .lit (.int .i64 0)], .agg [.lit (.int .i64 2), .lit (.int .i64 2), .lit (.int .i64 1)], .agg [.lit (.int .i64 3), .lit (.int .i64 0), .lit (.int .i64 2)], .agg [.lit (.int .i64 4), .lit (.int .i64 1), .lit (.int .i64 3)], .agg [.lit (.int .i64 5), .lit (.int .i64 5), .lit (.int .i64 5)], .agg [.lit (.int .i64 6), .lit (.int .i64 10), .lit (.int .i64 6)], .agg [.lit (.int .i64 7), .lit (.int .i64 20), .lit (.int .i64 7)], .agg [.lit (.int .i64 8), .lit (.int .i64 10), .lit (.int .i64 6)], .agg [.lit (.int .i64 9), .lit (.int .i64 50), .lit (.int .i64 9)], .agg [.lit (.int .i64 10), .lit (.int .i64 100), .lit (.int .i64 10)], .agg [.lit (.int .i64 11), .lit (.int .i64 50), .lit (.int .i64 9)]]
def laid_loop_example_g00004_impl_inverseStep {H : Type} : DataW H := .agg [.lit (.int .i64 12), .lit (.int .i64 5), .lit (.int .i64 4)]
def laid_loop_example_g00004_impl_rootStep {H : Type} : DataW H := .agg [.lit (.int .i64 12), .lit (.int .i64 2), .lit (.int .i64 2)]
def laid_loop_example_g00004_impl_rootOfMinusOne {H : Type} : DataW H := .agg [.lit (.int .u64 1718705420411056), .lit (.int .u64 234908883556509), .lit (.int .u64 2233514472574048), .lit (.int .u64 2117202627021982), .lit (.int .u64 765476049583133)]

/-- 'laws.FnExactFieldSub': WHATEVER THE INPUT: true; the input reads as it did. -/
def fnExactFieldSubSpec : ChangeSpec := { name := "fnExactFieldSub", vars := ["loop.example/g00004/impl.twiceP"], fn := fun _ => fun
  | [d1, d2, g1] => { results := [.lit (.bool true)], args := [d1, d2], vars := [g1] }
  | _ => none }
def fnExactFieldSubRow : OpenClaim := { program := "ytgecfmagpliepaadoor", sum := "b614cdb131242f36fe199bdace8b1aae570fed590c5ee015e76376a926427313", func := "loop.example/g00004/laws.FnExactFieldSub", spec := "fnExactFieldSub", named := ["loop.example/g00004/impl.twiceP"], apart := false, laid := [("loop.example/g00004/impl.twiceP", laid_loop_example_g00004_impl_twiceP)] }
def FnExactFieldSubSaid : Prop := fnExactFieldSubRow.holds Tryd.pinned (OpenSpec.ofChange fnExactFieldSubSpec)

/-- ITS FALSE NEIGHBOUR: 'it returns false'. Refute it at one input. -/
def fnExactFieldSubWrong : ChangeSpec := { name := "fnExactFieldSub", vars := ["loop.example/g00004/impl.twiceP"], fn := fun _ => fun
  | [d1, d2, g1] => { results := [.lit (.bool false)], args := [d1, d2], vars := [g1] }
  | _ => none }
def FnExactFieldSubWrongFalsely : Prop := fnExactFieldSubRow.holds Tryd.pinned (OpenSpec.ofChange fnExactFieldSubWrong)

/-- 'laws.FnExactFieldInvert': WHATEVER THE INPUT: true; the input reads as it did. -/
def fnExactFieldInvertSpec : ChangeSpec := { name := "fnExactFieldInvert", vars := ["loop.example/g00004/impl.inverseStep", "loop.example/g00004/impl.chainSteps"], fn := fun _ => fun
  | [d, g1, g2] => { results := [.lit (.bool true)], args := [d], vars := [g1, g2] }
  | _ => none }
def fnExactFieldInvertRow : OpenClaim := { program := "ytgecfmagpliepaadoor", sum := "b614cdb131242f36fe199bdace8b1aae570fed590c5ee015e76376a926427313", func := "loop.example/g00004/laws.FnExactFieldInvert", spec := "fnExactFieldInvert", inPlace := ["math/bits.Add64"], named := ["loop.example/g00004/impl.inverseStep", "loop.example/g00004/impl.chainSteps"], apart := false, laid := [("loop.example/g00004/impl.chainSteps", laid_loop_example_g00004_impl_chainSteps), ("loop.example/g00004/impl.inverseStep", laid_loop_example_g00004_impl_inverseStep)] }
def FnExactFieldInvertSaid : Prop := fnExactFieldInvertRow.holds Tryd.pinned (OpenSpec.ofChange fnExactFieldInvertSpec)

/-- ITS FALSE NEIGHBOUR: 'it returns false'. Refute it at one input. -/
def fnExactFieldInvertWrong : ChangeSpec := { name := "fnExactFieldInvert", vars := ["loop.example/g00004/impl.inverseStep", "loop.example/g00004/impl.chainSteps"], fn := fun _ => fun
  | [d, g1, g2] => { results := [.lit (.bool false)], args := [d], vars := [g1, g2] }
  | _ => none }
def FnExactFieldInvertWrongFalsely : Prop := fnExactFieldInvertRow.holds Tryd.pinned (OpenSpec.ofChange fnExactFieldInvertWrong)

/-- 'laws.FnFieldInverse': WHATEVER THE INPUT: true; the input reads as it did. -/
def fnFieldInverseSpec : ChangeSpec := { name := "fnFieldInverse", vars := ["loop.example/g00004/impl.inverseStep", "loop.example/g00004/impl.chainSteps"], fn := fun _ => fun
  | [d, g1, g2] => { results := [.lit (.bool true)], args := [d], vars := [g1, g2] }
  | _ => none }
def fnFieldInverseRow : OpenClaim := { program := "ytgecfmagpliepaadoor", sum := "b614cdb131242f36fe199bdace8b1aae570fed590c5ee015e76376a926427313", func := "loop.example/g00004/laws.FnFieldInverse", spec := "fnFieldInverse", inPlace := ["math/bits.Add64"], named := ["loop.example/g00004/impl.inverseStep", "loop.example/g00004/impl.chainSteps"], apart := false, laid := [("loop.example/g00004/impl.chainSteps", laid_loop_example_g00004_impl_chainSteps), ("loop.example/g00004/impl.inverseStep", laid_loop_example_g00004_impl_inverseStep)] }
def FnFieldInverseSaid : Prop := fnFieldInverseRow.holds Tryd.pinned (OpenSpec.ofChange fnFieldInverseSpec)

/-- ITS FALSE NEIGHBOUR: 'it returns false'. Refute it at one input. -/
def fnFieldInverseWrong : ChangeSpec := { name := "fnFieldInverse", vars := ["loop.example/g00004/impl.inverseStep", "loop.example/g00004/impl.chainSteps"], fn := fun _ => fun
  | [d, g1, g2] => { results := [.lit (.bool false)], args := [d], vars := [g1, g2] }
  | _ => none }
def FnFieldInverseWrongFalsely : Prop := fnFieldInverseRow.holds Tryd.pinned (OpenSpec.ofChange fnFieldInverseWrong)

/-- 'laws.FnExactFieldRoot': WHATEVER THE INPUT: true; the input reads as it did. -/
def fnExactFieldRootSpec : ChangeSpec := { name := "fnExactFieldRoot", vars := ["loop.example/g00004/impl.rootStep", "loop.example/g00004/impl.rootOfMinusOne", "loop.example/g00004/impl.chainSteps", "loop.example/g00004/impl.twiceP"], fn := fun _ => fun
  | [d, g1, g2, g3, g4] => { results := [.lit (.bool true)], args := [d], vars := [g1, g2, g3, g4] }
  | _ => none }
def fnExactFieldRootRow : OpenClaim := { program := "ytgecfmagpliepaadoor", sum := "b614cdb131242f36fe199bdace8b1aae570fed590c5ee015e76376a926427313", func := "loop.example/g00004/laws.FnExactFieldRoot", spec := "fnExactFieldRoot", inPlace := ["math/bits.Add64"], named := ["loop.example/g00004/impl.rootStep", "loop.example/g00004/impl.rootOfMinusOne", "loop.example/g00004/impl.chainSteps", "loop.example/g00004/impl.twiceP"], apart := false, laid := [("loop.example/g00004/impl.chainSteps", laid_loop_example_g00004_impl_chainSteps), ("loop.example/g00004/impl.rootStep", laid_loop_example_g00004_impl_rootStep), ("loop.example/g00004/impl.rootOfMinusOne", laid_loop_example_g00004_impl_rootOfMinusOne), ("loop.example/g00004/impl.twiceP", laid_loop_example_g00004_impl_twiceP)] }
def FnExactFieldRootSaid : Prop := fnExactFieldRootRow.holds Tryd.pinned (OpenSpec.ofChange fnExactFieldRootSpec)

/-- ITS FALSE NEIGHBOUR: 'it returns false'. Refute it at one input. -/
def fnExactFieldRootWrong : ChangeSpec := { name := "fnExactFieldRoot", vars := ["loop.example/g00004/impl.rootStep", "loop.example/g00004/impl.rootOfMinusOne", "loop.example/g00004/impl.chainSteps", "loop.example/g00004/impl.twiceP"], fn := fun _ => fun
  | [d, g1, g2, g3, g4] => { results := [.lit (.bool false)], args := [d], vars := [g1, g2, g3, g4] }
  | _ => none }
def FnExactFieldRootWrongFalsely : Prop := fnExactFieldRootRow.holds Tryd.pinned (OpenSpec.ofChange fnExactFieldRootWrong)

/-- 'laws.FnFieldSquares': WHATEVER THE INPUT: true; the input reads as it did. -/
def fnFieldSquaresSpec : ChangeSpec := { name := "fnFieldSquares", vars := ["loop.example/g00004/impl.rootStep", "loop.example/g00004/impl.rootOfMinusOne", "loop.example/g00004/impl.chainSteps", "loop.example/g00004/impl.twiceP"], fn := fun _ => fun
  | [d, g1, g2, g3, g4] => { results := [.lit (.bool true)], args := [d], vars := [g1, g2, g3, g4] }
  | _ => none }
def fnFieldSquaresRow : OpenClaim := { program := "ytgecfmagpliepaadoor", sum := "b614cdb131242f36fe199bdace8b1aae570fed590c5ee015e76376a926427313", func := "loop.example/g00004/laws.FnFieldSquares", spec := "fnFieldSquares", inPlace := ["math/bits.Add64"], named := ["loop.example/g00004/impl.rootStep", "loop.example/g00004/impl.rootOfMinusOne", "loop.example/g00004/impl.chainSteps", "loop.example/g00004/impl.twiceP"], apart := false, laid := [("loop.example/g00004/impl.chainSteps", laid_loop_example_g00004_impl_chainSteps), ("loop.example/g00004/impl.rootStep", laid_loop_example_g00004_impl_rootStep), ("loop.example/g00004/impl.rootOfMinusOne", laid_loop_example_g00004_impl_rootOfMinusOne), ("loop.example/g00004/impl.twiceP", laid_loop_example_g00004_impl_twiceP)] }
def FnFieldSquaresSaid : Prop := fnFieldSquaresRow.holds Tryd.pinned (OpenSpec.ofChange fnFieldSquaresSpec)

/-- ITS FALSE NEIGHBOUR: 'it returns false'. Refute it at one input. -/
def fnFieldSquaresWrong : ChangeSpec := { name := "fnFieldSquares", vars := ["loop.example/g00004/impl.rootStep", "loop.example/g00004/impl.rootOfMinusOne", "loop.example/g00004/impl.chainSteps", "loop.example/g00004/impl.twiceP"], fn := fun _ => fun
  | [d, g1, g2, g3, g4] => { results := [.lit (.bool false)], args := [d], vars := [g1, g2, g3, g4] }
  | _ => none }
def FnFieldSquaresWrongFalsely : Prop := fnFieldSquaresRow.holds Tryd.pinned (OpenSpec.ofChange fnFieldSquaresWrong)

/-- 'laws.FnFieldRing': WHATEVER THE INPUT: true; the input reads as it did. -/
def fnFieldRingSpec : ChangeSpec := { name := "fnFieldRing", vars := ["loop.example/g00004/impl.twiceP"], fn := fun _ => fun
  | [d1, d2, g1] => { results := [.lit (.bool true)], args := [d1, d2], vars := [g1] }
  | _ => none }
def fnFieldRingRow : OpenClaim := { program := "ytgecfmagpliepaadoor", sum := "b614cdb131242f36fe199bdace8b1aae570fed590c5ee015e76376a926427313", func := "loop.example/g00004/laws.FnFieldRing", spec := "fnFieldRing", inPlace := ["math/bits.Add64"], named := ["loop.example/g00004/impl.twiceP"], apart := false, laid := [("loop.example/g00004/impl.twiceP", laid_loop_example_g00004_impl_twiceP)] }
def FnFieldRingSaid : Prop := fnFieldRingRow.holds Tryd.pinned (OpenSpec.ofChange fnFieldRingSpec)

/-- ITS FALSE NEIGHBOUR: 'it returns false'. Refute it at one input. -/
def fnFieldRingWrong : ChangeSpec := { name := "fnFieldRing", vars := ["loop.example/g00004/impl.twiceP"], fn := fun _ => fun
  | [d1, d2, g1] => { results := [.lit (.bool false)], args := [d1, d2], vars := [g1] }
  | _ => none }
def FnFieldRingWrongFalsely : Prop := fnFieldRingRow.holds Tryd.pinned (OpenSpec.ofChange fnFieldRingWrong)

/- THE SECOND FORM. 'bulk': how many values and letters a reading holds, each counted each time it is reached (what is shared counts as often as it is met; a slice's spare places count too). A statement '..UptoSaid' is the law's where the arguments, and the package variables that the reading takes, are together of bulk at most 1048576: NARROWER than '..Said'. Prove '..Said' where nothing that the law and all that it calls make is longer than what came in: it says more and counts as full. Else prove '..UptoSaid'. A law counts once. -/
mutual
def uptoBulk {H : Type} : DataW H → Nat
  | .lit (.string bytes) => bytes.length + 1
  | .lit _ => 1
  | .nil => 1
  | .ptr d => uptoBulk d + 1
  | .slice elems spare => uptoBulkAll elems + uptoBulkAll spare + 1
  | .agg parts => uptoBulkAll parts + 1
  | .iface _ d => uptoBulk d + 1
  | .map entries => uptoBulkEntries entries + 1
  | .held _ => 1
def uptoBulkAll {H : Type} : List (DataW H) → Nat
  | [] => 0
  | d :: r => uptoBulk d + uptoBulkAll r
def uptoBulkEntries {H : Type} : List (Lit × DataW H) → Nat
  | [] => 0
  | x :: r => uptoBulkEntry x + uptoBulkEntries r
def uptoBulkEntry {H : Type} : Lit × DataW H → Nat
  | (.string bytes, d) => bytes.length + uptoBulk d + 1
  | (_, d) => uptoBulk d + 1
 end
def uptoSmall : (H : Type) → List (DataW H) → Bool := fun _ ds => decide (uptoBulkAll ds ≤ 1048576)
def OpenSpec.upto (s : _root_.Go.ChangeSpec) : _root_.Go.OpenSpec := { _root_.Go.OpenSpec.ofChange s with cond := some uptoSmall }

/-- 'laws.FnExactFieldSub', WHERE WHAT IT READS IS OF BULK AT MOST 1048576: true; the input reads as it did. -/
def fnExactFieldSubUptoRow : OpenClaim := { program := "ytgecfmagpliepaadoor", sum := "b614cdb131242f36fe199bdace8b1aae570fed590c5ee015e76376a926427313", func := "loop.example/g00004/laws.FnExactFieldSub", spec := "fnExactFieldSub", named := ["loop.example/g00004/impl.twiceP"], apart := false, laid := [("loop.example/g00004/impl.twiceP", laid_loop_example_g00004_impl_twiceP)], narrowed := true }
def FnExactFieldSubUptoSaid : Prop := fnExactFieldSubUptoRow.holds Tryd.pinned (OpenSpec.upto fnExactFieldSubSpec)

/-- 'laws.FnExactFieldInvert', WHERE WHAT IT READS IS OF BULK AT MOST 1048576: true; the input reads as it did. -/
def fnExactFieldInvertUptoRow : OpenClaim := { program := "ytgecfmagpliepaadoor", sum := "b614cdb131242f36fe199bdace8b1aae570fed590c5ee015e76376a926427313", func := "loop.example/g00004/laws.FnExactFieldInvert", spec := "fnExactFieldInvert", inPlace := ["math/bits.Add64"], named := ["loop.example/g00004/impl.inverseStep", "loop.example/g00004/impl.chainSteps"], apart := false, laid := [("loop.example/g00004/impl.chainSteps", laid_loop_example_g00004_impl_chainSteps), ("loop.example/g00004/impl.inverseStep", laid_loop_example_g00004_impl_inverseStep)], narrowed := true }
def FnExactFieldInvertUptoSaid : Prop := fnExactFieldInvertUptoRow.holds Tryd.pinned (OpenSpec.upto fnExactFieldInvertSpec)

/-- 'laws.FnFieldInverse', WHERE WHAT IT READS IS OF BULK AT MOST 1048576: true; the input reads as it did. -/
def fnFieldInverseUptoRow : OpenClaim := { program := "ytgecfmagpliepaadoor", sum := "b614cdb131242f36fe199bdace8b1aae570fed590c5ee015e76376a926427313", func := "loop.example/g00004/laws.FnFieldInverse", spec := "fnFieldInverse", inPlace := ["math/bits.Add64"], named := ["loop.example/g00004/impl.inverseStep", "loop.example/g00004/impl.chainSteps"], apart := false, laid := [("loop.example/g00004/impl.chainSteps", laid_loop_example_g00004_impl_chainSteps), ("loop.example/g00004/impl.inverseStep", laid_loop_example_g00004_impl_inverseStep)], narrowed := true }
def FnFieldInverseUptoSaid : Prop := fnFieldInverseUptoRow.holds Tryd.pinned (OpenSpec.upto fnFieldInverseSpec)

/-- 'laws.FnExactFieldRoot', WHERE WHAT IT READS IS OF BULK AT MOST 1048576: true; the input reads as it did. -/
def fnExactFieldRootUptoRow : OpenClaim := { program := "ytgecfmagpliepaadoor", sum := "b614cdb131242f36fe199bdace8b1aae570fed590c5ee015e76376a926427313", func := "loop.example/g00004/laws.FnExactFieldRoot", spec := "fnExactFieldRoot", inPlace := ["math/bits.Add64"], named := ["loop.example/g00004/impl.rootStep", "loop.example/g00004/impl.rootOfMinusOne", "loop.example/g00004/impl.chainSteps", "loop.example/g00004/impl.twiceP"], apart := false, laid := [("loop.example/g00004/impl.chainSteps", laid_loop_example_g00004_impl_chainSteps), ("loop.example/g00004/impl.rootStep", laid_loop_example_g00004_impl_rootStep), ("loop.example/g00004/impl.rootOfMinusOne", laid_loop_example_g00004_impl_rootOfMinusOne), ("loop.example/g00004/impl.twiceP", laid_loop_example_g00004_impl_twiceP)], narrowed := true }
def FnExactFieldRootUptoSaid : Prop := fnExactFieldRootUptoRow.holds Tryd.pinned (OpenSpec.upto fnExactFieldRootSpec)

/-- 'laws.FnFieldSquares', WHERE WHAT IT READS IS OF BULK AT MOST 1048576: true; the input reads as it did. -/
def fnFieldSquaresUptoRow : OpenClaim := { program := "ytgecfmagpliepaadoor", sum := "b614cdb131242f36fe199bdace8b1aae570fed590c5ee015e76376a926427313", func := "loop.example/g00004/laws.FnFieldSquares", spec := "fnFieldSquares", inPlace := ["math/bits.Add64"], named := ["loop.example/g00004/impl.rootStep", "loop.example/g00004/impl.rootOfMinusOne", "loop.example/g00004/impl.chainSteps", "loop.example/g00004/impl.twiceP"], apart := false, laid := [("loop.example/g00004/impl.chainSteps", laid_loop_example_g00004_impl_chainSteps), ("loop.example/g00004/impl.rootStep", laid_loop_example_g00004_impl_rootStep), ("loop.example/g00004/impl.rootOfMinusOne", laid_loop_example_g00004_impl_rootOfMinusOne), ("loop.example/g00004/impl.twiceP", laid_loop_example_g00004_impl_twiceP)], narrowed := true }
def FnFieldSquaresUptoSaid : Prop := fnFieldSquaresUptoRow.holds Tryd.pinned (OpenSpec.upto fnFieldSquaresSpec)

/-- 'laws.FnFieldRing', WHERE WHAT IT READS IS OF BULK AT MOST 1048576: true; the input reads as it did. -/
def fnFieldRingUptoRow : OpenClaim := { program := "ytgecfmagpliepaadoor", sum := "b614cdb131242f36fe199bdace8b1aae570fed590c5ee015e76376a926427313", func := "loop.example/g00004/laws.FnFieldRing", spec := "fnFieldRing", inPlace := ["math/bits.Add64"], named := ["loop.example/g00004/impl.twiceP"], apart := false, laid := [("loop.example/g00004/impl.twiceP", laid_loop_example_g00004_impl_twiceP)], narrowed := true }
def FnFieldRingUptoSaid : Prop := fnFieldRingUptoRow.holds Tryd.pinned (OpenSpec.upto fnFieldRingSpec)

end Rows
end Go.Proofs.YtgecfmagpliepaaDoor
