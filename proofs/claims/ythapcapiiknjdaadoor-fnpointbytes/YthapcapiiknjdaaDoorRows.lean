/-
  NARROWER THAN 'FOR EVERY INPUT', by the rows' own cells (each row's printed sentence says how): FnExactPointZero: laid · FnExactPointValid: laid · FnExactPointBase: laid · FnExactPointEncode: laid · FnExactPointToLadder: laid · FnExactPointAdd: laid · FnExactPointNegate: laid · FnExactPointScale: laid · FnExactPointDecode: laid · FnPointGroup: laid · FnPointBytes: laid.
  DERIVED. THE GIVEN ROWS OF THIS SEAT. 11 by the template 'for every input the law returns true; each argument reads behind the call as it read before'; 0 by the template 'total and deterministic' (their statements: YthapcapiiknjdaaDoorTotals.lean).
  GIVEN WITH THE SEED: the statements are not yours to turn. If you find one false, say at which input.
  Laid BY PROGRAM, IN A SANDBOX (cutbox-rows.mjs): the forced cells as the released guide's own fill.sh prints them over the translation 83dfda5491129791… (all of the seat's roots in one cut). By AI agents, Wed Nov 11 2026. No macro, syntax, notation, axiom, sorry.
-/
import Derived.Test.YthapcapiiknjdaaDoorChecked
import GoSem.Claim
import GoSem.ClaimJoined
import GoSem.ClaimMapViews
import Derived.JoinedTies
import Derived.KernelRfl
namespace Go.Proofs.YthapcapiiknjdaaDoor
/- THE CELL 'sum', in the pinned program and in every row, IS THE sha256 OF THE DUMP (.gsa) THAT YthapcapiiknjdaaDoorProg.lean LOADS. Nothing in Lean hashes anything: it is a label: what it is worth is what the hold of that sum in a sandbox is worth. -/
noncomputable def Tryd.pinned : Pinned := { name := "ythapcapiiknjdaadoor", sum := "83dfda54911297915db90ddca36db30fef61b2cdcaa774f0396703521949ca11", checked := Tryd.checked }
namespace Rows
def none {H : Type} : Left H := { results := [], args := [] }

/- WHAT THE LISTED PACKAGE-LEVEL VARIABLES READ AS WHEN THE CALL BEGINS. Each datum BY PROGRAM (the guide's laid-datum.mjs) off the statement by which the dump's own 'gosem.cut.vars' lays the variable. In a bare row this is a premise. The card (YthapcapiiknjdaaDoorCards.lean) ties it to the program's text. -/
def laid_loop_example_g00004_impl_zeroPoint {H : Type} : DataW H := .agg [.agg [.lit (.int .u64 0), .lit (.int .u64 0), .lit (.int .u64 0), .lit (.int .u64 0), .lit (.int .u64 0)], .agg [.lit (.int .u64 1), .lit (.int .u64 0), .lit (.int .u64 0), .lit (.int .u64 0), .lit (.int .u64 0)]]
def laid_loop_example_g00004_impl_twiceP {H : Type} : DataW H := .agg [.lit (.int .u64 4503599627370458), .lit (.int .u64 4503599627370494), .lit (.int .u64 4503599627370494), .lit (.int .u64 4503599627370494), .lit (.int .u64 4503599627370494)]
def laid_loop_example_g00004_impl_curveFactor {H : Type} : DataW H := .agg [.lit (.int .u64 929955233495203), .lit (.int .u64 466365720129213), .lit (.int .u64 1662059464998953), .lit (.int .u64 2033849074728123), .lit (.int .u64 1442794654840575)]
def laid_loop_example_g00004_impl_basePoint {H : Type} : DataW H := .agg [.agg [.lit (.int .u64 1738742601995546), .lit (.int .u64 1146398526822698), .lit (.int .u64 2070867633025821), .lit (.int .u64 562264141797630), .lit (.int .u64 587772402128613)], .agg [.lit (.int .u64 1801439850948184), .lit (.int .u64 1351079888211148), .lit (.int .u64 450359962737049), .lit (.int .u64 900719925474099), .lit (.int .u64 1801439850948198)]]
def laid_loop_example_g00004_impl_chainSteps {H : Type} : DataW H := .agg [.agg [.lit (.int .i64 1), .lit (.int .i64 1), .lit (.int .i64 0)], .agg [.lit (.int .i64 2), .lit (.int .i64 2), .lit (.int .i64 1)], .agg [.lit (.int .i64 3), .lit (.int .i64 0), .lit (.int .i64 2)], .agg [.lit (.int .i64 4), .lit (.int .i64 1), .lit (.int .i64 3)], .agg [.lit (.int .i64 5), .lit (.int .i64 5), .lit (.int .i64 5)], .agg [.lit (.int .i64 6), .lit (.int .i64 10), .lit (.int .i64 6)], .agg [.lit (.int .i64 7), .lit (.int .i64 20), .lit (.int .i64 7)], .agg [.lit (.int .i64 8), .lit (.int .i64 10), .lit (.int .i64 6)], .agg [.lit (.int .i64 9), .lit (.int .i64 50), .lit (.int .i64 9)], .agg [.lit (.int .i64 10), .lit (.int .i64 100), .lit (.int .i64 10)], .agg [.lit (.int .i64 11), .lit (.int .i64 50), .lit (.int .i64 9)]]
def laid_loop_example_g00004_impl_inverseStep {H : Type} : DataW H := .agg [.lit (.int .i64 12), .lit (.int .i64 5), .lit (.int .i64 4)]
def laid_loop_example_g00004_impl_rootStep {H : Type} : DataW H := .agg [.lit (.int .i64 12), .lit (.int .i64 2), .lit (.int .i64 2)]
def laid_loop_example_g00004_impl_rootOfMinusOne {H : Type} : DataW H := .agg [.lit (.int .u64 1718705420411056), .lit (.int .u64 234908883556509), .lit (.int .u64 2233514472574048), .lit (.int .u64 2117202627021982), .lit (.int .u64 765476049583133)]

/-- 'laws.FnExactPointZero': WHATEVER THE INPUT: true; the input reads as it did. -/
def fnExactPointZeroSpec : ChangeSpec := { name := "fnExactPointZero", vars := ["loop.example/g00004/impl.zeroPoint"], fn := fun _ => fun
  | [g1] => { results := [.lit (.bool true)], args := [], vars := [g1] }
  | _ => none }
def fnExactPointZeroRow : OpenClaim := { program := "ythapcapiiknjdaadoor", sum := "83dfda54911297915db90ddca36db30fef61b2cdcaa774f0396703521949ca11", func := "loop.example/g00004/laws.FnExactPointZero", spec := "fnExactPointZero", named := ["loop.example/g00004/impl.zeroPoint"], apart := false, laid := [("loop.example/g00004/impl.zeroPoint", laid_loop_example_g00004_impl_zeroPoint)] }
def FnExactPointZeroSaid : Prop := fnExactPointZeroRow.holds Tryd.pinned (OpenSpec.ofChange fnExactPointZeroSpec)

/-- ITS FALSE NEIGHBOUR: 'it returns false'. Refute it at one input. -/
def fnExactPointZeroWrong : ChangeSpec := { name := "fnExactPointZero", vars := ["loop.example/g00004/impl.zeroPoint"], fn := fun _ => fun
  | [g1] => { results := [.lit (.bool false)], args := [], vars := [g1] }
  | _ => none }
def FnExactPointZeroWrongFalsely : Prop := fnExactPointZeroRow.holds Tryd.pinned (OpenSpec.ofChange fnExactPointZeroWrong)

/-- 'laws.FnExactPointValid': WHATEVER THE INPUT: true; the input reads as it did. -/
def fnExactPointValidSpec : ChangeSpec := { name := "fnExactPointValid", vars := ["loop.example/g00004/impl.curveFactor", "loop.example/g00004/impl.twiceP"], fn := fun _ => fun
  | [d, g1, g2] => { results := [.lit (.bool true)], args := [d], vars := [g1, g2] }
  | _ => none }
def fnExactPointValidRow : OpenClaim := { program := "ythapcapiiknjdaadoor", sum := "83dfda54911297915db90ddca36db30fef61b2cdcaa774f0396703521949ca11", func := "loop.example/g00004/laws.FnExactPointValid", spec := "fnExactPointValid", inPlace := ["math/bits.Add64"], named := ["loop.example/g00004/impl.curveFactor", "loop.example/g00004/impl.twiceP"], apart := false, laid := [("loop.example/g00004/impl.twiceP", laid_loop_example_g00004_impl_twiceP), ("loop.example/g00004/impl.curveFactor", laid_loop_example_g00004_impl_curveFactor)] }
def FnExactPointValidSaid : Prop := fnExactPointValidRow.holds Tryd.pinned (OpenSpec.ofChange fnExactPointValidSpec)

/-- ITS FALSE NEIGHBOUR: 'it returns false'. Refute it at one input. -/
def fnExactPointValidWrong : ChangeSpec := { name := "fnExactPointValid", vars := ["loop.example/g00004/impl.curveFactor", "loop.example/g00004/impl.twiceP"], fn := fun _ => fun
  | [d, g1, g2] => { results := [.lit (.bool false)], args := [d], vars := [g1, g2] }
  | _ => none }
def FnExactPointValidWrongFalsely : Prop := fnExactPointValidRow.holds Tryd.pinned (OpenSpec.ofChange fnExactPointValidWrong)

/-- 'laws.FnExactPointBase': WHATEVER THE INPUT: true; the input reads as it did. -/
def fnExactPointBaseSpec : ChangeSpec := { name := "fnExactPointBase", vars := ["loop.example/g00004/impl.basePoint"], fn := fun _ => fun
  | [g1] => { results := [.lit (.bool true)], args := [], vars := [g1] }
  | _ => none }
def fnExactPointBaseRow : OpenClaim := { program := "ythapcapiiknjdaadoor", sum := "83dfda54911297915db90ddca36db30fef61b2cdcaa774f0396703521949ca11", func := "loop.example/g00004/laws.FnExactPointBase", spec := "fnExactPointBase", named := ["loop.example/g00004/impl.basePoint"], apart := false, laid := [("loop.example/g00004/impl.basePoint", laid_loop_example_g00004_impl_basePoint)] }
def FnExactPointBaseSaid : Prop := fnExactPointBaseRow.holds Tryd.pinned (OpenSpec.ofChange fnExactPointBaseSpec)

/-- ITS FALSE NEIGHBOUR: 'it returns false'. Refute it at one input. -/
def fnExactPointBaseWrong : ChangeSpec := { name := "fnExactPointBase", vars := ["loop.example/g00004/impl.basePoint"], fn := fun _ => fun
  | [g1] => { results := [.lit (.bool false)], args := [], vars := [g1] }
  | _ => none }
def FnExactPointBaseWrongFalsely : Prop := fnExactPointBaseRow.holds Tryd.pinned (OpenSpec.ofChange fnExactPointBaseWrong)

/-- 'laws.FnExactPointEncode': WHATEVER THE INPUT: true; the input reads as it did. -/
def fnExactPointEncodeSpec : ChangeSpec := { name := "fnExactPointEncode", vars := ["loop.example/g00004/impl.curveFactor", "loop.example/g00004/impl.twiceP"], fn := fun _ => fun
  | [d, g1, g2] => { results := [.lit (.bool true)], args := [d], vars := [g1, g2] }
  | _ => none }
def fnExactPointEncodeRow : OpenClaim := { program := "ythapcapiiknjdaadoor", sum := "83dfda54911297915db90ddca36db30fef61b2cdcaa774f0396703521949ca11", func := "loop.example/g00004/laws.FnExactPointEncode", spec := "fnExactPointEncode", inPlace := ["math/bits.Add64"], named := ["loop.example/g00004/impl.curveFactor", "loop.example/g00004/impl.twiceP"], apart := false, laid := [("loop.example/g00004/impl.twiceP", laid_loop_example_g00004_impl_twiceP), ("loop.example/g00004/impl.curveFactor", laid_loop_example_g00004_impl_curveFactor)] }
def FnExactPointEncodeSaid : Prop := fnExactPointEncodeRow.holds Tryd.pinned (OpenSpec.ofChange fnExactPointEncodeSpec)

/-- ITS FALSE NEIGHBOUR: 'it returns false'. Refute it at one input. -/
def fnExactPointEncodeWrong : ChangeSpec := { name := "fnExactPointEncode", vars := ["loop.example/g00004/impl.curveFactor", "loop.example/g00004/impl.twiceP"], fn := fun _ => fun
  | [d, g1, g2] => { results := [.lit (.bool false)], args := [d], vars := [g1, g2] }
  | _ => none }
def FnExactPointEncodeWrongFalsely : Prop := fnExactPointEncodeRow.holds Tryd.pinned (OpenSpec.ofChange fnExactPointEncodeWrong)

/-- 'laws.FnExactPointToLadder': WHATEVER THE INPUT: true; the input reads as it did. -/
def fnExactPointToLadderSpec : ChangeSpec := { name := "fnExactPointToLadder", vars := ["loop.example/g00004/impl.curveFactor", "loop.example/g00004/impl.twiceP", "loop.example/g00004/impl.inverseStep", "loop.example/g00004/impl.chainSteps"], fn := fun _ => fun
  | [d, g1, g2, g3, g4] => { results := [.lit (.bool true)], args := [d], vars := [g1, g2, g3, g4] }
  | _ => none }
def fnExactPointToLadderRow : OpenClaim := { program := "ythapcapiiknjdaadoor", sum := "83dfda54911297915db90ddca36db30fef61b2cdcaa774f0396703521949ca11", func := "loop.example/g00004/laws.FnExactPointToLadder", spec := "fnExactPointToLadder", inPlace := ["math/bits.Add64"], named := ["loop.example/g00004/impl.curveFactor", "loop.example/g00004/impl.twiceP", "loop.example/g00004/impl.inverseStep", "loop.example/g00004/impl.chainSteps"], apart := false, laid := [("loop.example/g00004/impl.chainSteps", laid_loop_example_g00004_impl_chainSteps), ("loop.example/g00004/impl.inverseStep", laid_loop_example_g00004_impl_inverseStep), ("loop.example/g00004/impl.twiceP", laid_loop_example_g00004_impl_twiceP), ("loop.example/g00004/impl.curveFactor", laid_loop_example_g00004_impl_curveFactor)] }
def FnExactPointToLadderSaid : Prop := fnExactPointToLadderRow.holds Tryd.pinned (OpenSpec.ofChange fnExactPointToLadderSpec)

/-- ITS FALSE NEIGHBOUR: 'it returns false'. Refute it at one input. -/
def fnExactPointToLadderWrong : ChangeSpec := { name := "fnExactPointToLadder", vars := ["loop.example/g00004/impl.curveFactor", "loop.example/g00004/impl.twiceP", "loop.example/g00004/impl.inverseStep", "loop.example/g00004/impl.chainSteps"], fn := fun _ => fun
  | [d, g1, g2, g3, g4] => { results := [.lit (.bool false)], args := [d], vars := [g1, g2, g3, g4] }
  | _ => none }
def FnExactPointToLadderWrongFalsely : Prop := fnExactPointToLadderRow.holds Tryd.pinned (OpenSpec.ofChange fnExactPointToLadderWrong)

/-- 'laws.FnExactPointAdd': WHATEVER THE INPUT: true; the input reads as it did. -/
def fnExactPointAddSpec : ChangeSpec := { name := "fnExactPointAdd", vars := ["loop.example/g00004/impl.curveFactor", "loop.example/g00004/impl.twiceP", "loop.example/g00004/impl.inverseStep", "loop.example/g00004/impl.chainSteps"], fn := fun _ => fun
  | [d1, d2, g1, g2, g3, g4] => { results := [.lit (.bool true)], args := [d1, d2], vars := [g1, g2, g3, g4] }
  | _ => none }
def fnExactPointAddRow : OpenClaim := { program := "ythapcapiiknjdaadoor", sum := "83dfda54911297915db90ddca36db30fef61b2cdcaa774f0396703521949ca11", func := "loop.example/g00004/laws.FnExactPointAdd", spec := "fnExactPointAdd", inPlace := ["math/bits.Add64"], named := ["loop.example/g00004/impl.curveFactor", "loop.example/g00004/impl.twiceP", "loop.example/g00004/impl.inverseStep", "loop.example/g00004/impl.chainSteps"], apart := false, laid := [("loop.example/g00004/impl.chainSteps", laid_loop_example_g00004_impl_chainSteps), ("loop.example/g00004/impl.inverseStep", laid_loop_example_g00004_impl_inverseStep), ("loop.example/g00004/impl.twiceP", laid_loop_example_g00004_impl_twiceP), ("loop.example/g00004/impl.curveFactor", laid_loop_example_g00004_impl_curveFactor)] }
def FnExactPointAddSaid : Prop := fnExactPointAddRow.holds Tryd.pinned (OpenSpec.ofChange fnExactPointAddSpec)

/-- ITS FALSE NEIGHBOUR: 'it returns false'. Refute it at one input. -/
def fnExactPointAddWrong : ChangeSpec := { name := "fnExactPointAdd", vars := ["loop.example/g00004/impl.curveFactor", "loop.example/g00004/impl.twiceP", "loop.example/g00004/impl.inverseStep", "loop.example/g00004/impl.chainSteps"], fn := fun _ => fun
  | [d1, d2, g1, g2, g3, g4] => { results := [.lit (.bool false)], args := [d1, d2], vars := [g1, g2, g3, g4] }
  | _ => none }
def FnExactPointAddWrongFalsely : Prop := fnExactPointAddRow.holds Tryd.pinned (OpenSpec.ofChange fnExactPointAddWrong)

/-- 'laws.FnExactPointNegate': WHATEVER THE INPUT: true; the input reads as it did. -/
def fnExactPointNegateSpec : ChangeSpec := { name := "fnExactPointNegate", vars := ["loop.example/g00004/impl.curveFactor", "loop.example/g00004/impl.twiceP"], fn := fun _ => fun
  | [d, g1, g2] => { results := [.lit (.bool true)], args := [d], vars := [g1, g2] }
  | _ => none }
def fnExactPointNegateRow : OpenClaim := { program := "ythapcapiiknjdaadoor", sum := "83dfda54911297915db90ddca36db30fef61b2cdcaa774f0396703521949ca11", func := "loop.example/g00004/laws.FnExactPointNegate", spec := "fnExactPointNegate", inPlace := ["math/bits.Add64"], named := ["loop.example/g00004/impl.curveFactor", "loop.example/g00004/impl.twiceP"], apart := false, laid := [("loop.example/g00004/impl.twiceP", laid_loop_example_g00004_impl_twiceP), ("loop.example/g00004/impl.curveFactor", laid_loop_example_g00004_impl_curveFactor)] }
def FnExactPointNegateSaid : Prop := fnExactPointNegateRow.holds Tryd.pinned (OpenSpec.ofChange fnExactPointNegateSpec)

/-- ITS FALSE NEIGHBOUR: 'it returns false'. Refute it at one input. -/
def fnExactPointNegateWrong : ChangeSpec := { name := "fnExactPointNegate", vars := ["loop.example/g00004/impl.curveFactor", "loop.example/g00004/impl.twiceP"], fn := fun _ => fun
  | [d, g1, g2] => { results := [.lit (.bool false)], args := [d], vars := [g1, g2] }
  | _ => none }
def FnExactPointNegateWrongFalsely : Prop := fnExactPointNegateRow.holds Tryd.pinned (OpenSpec.ofChange fnExactPointNegateWrong)

/-- 'laws.FnExactPointScale': WHATEVER THE INPUT: true; the input reads as it did. -/
def fnExactPointScaleSpec : ChangeSpec := { name := "fnExactPointScale", vars := ["loop.example/g00004/impl.curveFactor", "loop.example/g00004/impl.twiceP", "loop.example/g00004/impl.zeroPoint", "loop.example/g00004/impl.inverseStep", "loop.example/g00004/impl.chainSteps"], fn := fun _ => fun
  | [d1, d2, g1, g2, g3, g4, g5] => { results := [.lit (.bool true)], args := [d1, d2], vars := [g1, g2, g3, g4, g5] }
  | _ => none }
def fnExactPointScaleRow : OpenClaim := { program := "ythapcapiiknjdaadoor", sum := "83dfda54911297915db90ddca36db30fef61b2cdcaa774f0396703521949ca11", func := "loop.example/g00004/laws.FnExactPointScale", spec := "fnExactPointScale", inPlace := ["math/bits.Add64"], unfollowed := true, recurses := true, named := ["loop.example/g00004/impl.curveFactor", "loop.example/g00004/impl.twiceP", "loop.example/g00004/impl.zeroPoint", "loop.example/g00004/impl.inverseStep", "loop.example/g00004/impl.chainSteps"], apart := false, laid := [("loop.example/g00004/impl.chainSteps", laid_loop_example_g00004_impl_chainSteps), ("loop.example/g00004/impl.inverseStep", laid_loop_example_g00004_impl_inverseStep), ("loop.example/g00004/impl.twiceP", laid_loop_example_g00004_impl_twiceP), ("loop.example/g00004/impl.curveFactor", laid_loop_example_g00004_impl_curveFactor), ("loop.example/g00004/impl.zeroPoint", laid_loop_example_g00004_impl_zeroPoint)] }
def FnExactPointScaleSaid : Prop := fnExactPointScaleRow.holds Tryd.pinned (OpenSpec.ofChange fnExactPointScaleSpec)

/-- ITS FALSE NEIGHBOUR: 'it returns false'. Refute it at one input. -/
def fnExactPointScaleWrong : ChangeSpec := { name := "fnExactPointScale", vars := ["loop.example/g00004/impl.curveFactor", "loop.example/g00004/impl.twiceP", "loop.example/g00004/impl.zeroPoint", "loop.example/g00004/impl.inverseStep", "loop.example/g00004/impl.chainSteps"], fn := fun _ => fun
  | [d1, d2, g1, g2, g3, g4, g5] => { results := [.lit (.bool false)], args := [d1, d2], vars := [g1, g2, g3, g4, g5] }
  | _ => none }
def FnExactPointScaleWrongFalsely : Prop := fnExactPointScaleRow.holds Tryd.pinned (OpenSpec.ofChange fnExactPointScaleWrong)

/-- 'laws.FnExactPointDecode': WHATEVER THE INPUT: true; the input reads as it did. -/
def fnExactPointDecodeSpec : ChangeSpec := { name := "fnExactPointDecode", vars := ["loop.example/g00004/impl.curveFactor", "loop.example/g00004/impl.twiceP", "loop.example/g00004/impl.inverseStep", "loop.example/g00004/impl.chainSteps", "loop.example/g00004/impl.rootStep", "loop.example/g00004/impl.rootOfMinusOne"], fn := fun _ => fun
  | [d, g1, g2, g3, g4, g5, g6] => { results := [.lit (.bool true)], args := [d], vars := [g1, g2, g3, g4, g5, g6] }
  | _ => none }
def fnExactPointDecodeRow : OpenClaim := { program := "ythapcapiiknjdaadoor", sum := "83dfda54911297915db90ddca36db30fef61b2cdcaa774f0396703521949ca11", func := "loop.example/g00004/laws.FnExactPointDecode", spec := "fnExactPointDecode", inPlace := ["math/bits.Add64"], named := ["loop.example/g00004/impl.curveFactor", "loop.example/g00004/impl.twiceP", "loop.example/g00004/impl.inverseStep", "loop.example/g00004/impl.chainSteps", "loop.example/g00004/impl.rootStep", "loop.example/g00004/impl.rootOfMinusOne"], apart := false, laid := [("loop.example/g00004/impl.chainSteps", laid_loop_example_g00004_impl_chainSteps), ("loop.example/g00004/impl.inverseStep", laid_loop_example_g00004_impl_inverseStep), ("loop.example/g00004/impl.rootStep", laid_loop_example_g00004_impl_rootStep), ("loop.example/g00004/impl.rootOfMinusOne", laid_loop_example_g00004_impl_rootOfMinusOne), ("loop.example/g00004/impl.twiceP", laid_loop_example_g00004_impl_twiceP), ("loop.example/g00004/impl.curveFactor", laid_loop_example_g00004_impl_curveFactor)] }
def FnExactPointDecodeSaid : Prop := fnExactPointDecodeRow.holds Tryd.pinned (OpenSpec.ofChange fnExactPointDecodeSpec)

/-- ITS FALSE NEIGHBOUR: 'it returns false'. Refute it at one input. -/
def fnExactPointDecodeWrong : ChangeSpec := { name := "fnExactPointDecode", vars := ["loop.example/g00004/impl.curveFactor", "loop.example/g00004/impl.twiceP", "loop.example/g00004/impl.inverseStep", "loop.example/g00004/impl.chainSteps", "loop.example/g00004/impl.rootStep", "loop.example/g00004/impl.rootOfMinusOne"], fn := fun _ => fun
  | [d, g1, g2, g3, g4, g5, g6] => { results := [.lit (.bool false)], args := [d], vars := [g1, g2, g3, g4, g5, g6] }
  | _ => none }
def FnExactPointDecodeWrongFalsely : Prop := fnExactPointDecodeRow.holds Tryd.pinned (OpenSpec.ofChange fnExactPointDecodeWrong)

/-- 'laws.FnPointGroup': WHATEVER THE INPUT: true; the input reads as it did. -/
def fnPointGroupSpec : ChangeSpec := { name := "fnPointGroup", vars := ["loop.example/g00004/impl.curveFactor", "loop.example/g00004/impl.twiceP", "loop.example/g00004/impl.inverseStep", "loop.example/g00004/impl.chainSteps", "loop.example/g00004/impl.zeroPoint"], fn := fun _ => fun
  | [d1, d2, g1, g2, g3, g4, g5] => { results := [.lit (.bool true)], args := [d1, d2], vars := [g1, g2, g3, g4, g5] }
  | _ => none }
def fnPointGroupRow : OpenClaim := { program := "ythapcapiiknjdaadoor", sum := "83dfda54911297915db90ddca36db30fef61b2cdcaa774f0396703521949ca11", func := "loop.example/g00004/laws.FnPointGroup", spec := "fnPointGroup", inPlace := ["math/bits.Add64"], named := ["loop.example/g00004/impl.curveFactor", "loop.example/g00004/impl.twiceP", "loop.example/g00004/impl.inverseStep", "loop.example/g00004/impl.chainSteps", "loop.example/g00004/impl.zeroPoint"], apart := false, laid := [("loop.example/g00004/impl.chainSteps", laid_loop_example_g00004_impl_chainSteps), ("loop.example/g00004/impl.inverseStep", laid_loop_example_g00004_impl_inverseStep), ("loop.example/g00004/impl.twiceP", laid_loop_example_g00004_impl_twiceP), ("loop.example/g00004/impl.curveFactor", laid_loop_example_g00004_impl_curveFactor), ("loop.example/g00004/impl.zeroPoint", laid_loop_example_g00004_impl_zeroPoint)] }
def FnPointGroupSaid : Prop := fnPointGroupRow.holds Tryd.pinned (OpenSpec.ofChange fnPointGroupSpec)

/-- ITS FALSE NEIGHBOUR: 'it returns false'. Refute it at one input. -/
def fnPointGroupWrong : ChangeSpec := { name := "fnPointGroup", vars := ["loop.example/g00004/impl.curveFactor", "loop.example/g00004/impl.twiceP", "loop.example/g00004/impl.inverseStep", "loop.example/g00004/impl.chainSteps", "loop.example/g00004/impl.zeroPoint"], fn := fun _ => fun
  | [d1, d2, g1, g2, g3, g4, g5] => { results := [.lit (.bool false)], args := [d1, d2], vars := [g1, g2, g3, g4, g5] }
  | _ => none }
def FnPointGroupWrongFalsely : Prop := fnPointGroupRow.holds Tryd.pinned (OpenSpec.ofChange fnPointGroupWrong)

/-- 'laws.FnPointBytes': WHATEVER THE INPUT: true; the input reads as it did. -/
def fnPointBytesSpec : ChangeSpec := { name := "fnPointBytes", vars := ["loop.example/g00004/impl.curveFactor", "loop.example/g00004/impl.twiceP", "loop.example/g00004/impl.inverseStep", "loop.example/g00004/impl.chainSteps", "loop.example/g00004/impl.rootStep", "loop.example/g00004/impl.rootOfMinusOne"], fn := fun _ => fun
  | [d1, d2, g1, g2, g3, g4, g5, g6] => { results := [.lit (.bool true)], args := [d1, d2], vars := [g1, g2, g3, g4, g5, g6] }
  | _ => none }
def fnPointBytesRow : OpenClaim := { program := "ythapcapiiknjdaadoor", sum := "83dfda54911297915db90ddca36db30fef61b2cdcaa774f0396703521949ca11", func := "loop.example/g00004/laws.FnPointBytes", spec := "fnPointBytes", inPlace := ["math/bits.Add64"], named := ["loop.example/g00004/impl.curveFactor", "loop.example/g00004/impl.twiceP", "loop.example/g00004/impl.inverseStep", "loop.example/g00004/impl.chainSteps", "loop.example/g00004/impl.rootStep", "loop.example/g00004/impl.rootOfMinusOne"], apart := false, laid := [("loop.example/g00004/impl.chainSteps", laid_loop_example_g00004_impl_chainSteps), ("loop.example/g00004/impl.inverseStep", laid_loop_example_g00004_impl_inverseStep), ("loop.example/g00004/impl.rootStep", laid_loop_example_g00004_impl_rootStep), ("loop.example/g00004/impl.rootOfMinusOne", laid_loop_example_g00004_impl_rootOfMinusOne), ("loop.example/g00004/impl.twiceP", laid_loop_example_g00004_impl_twiceP), ("loop.example/g00004/impl.curveFactor", laid_loop_example_g00004_impl_curveFactor)] }
def FnPointBytesSaid : Prop := fnPointBytesRow.holds Tryd.pinned (OpenSpec.ofChange fnPointBytesSpec)

/-- ITS FALSE NEIGHBOUR: 'it returns false'. Refute it at one input. -/
def fnPointBytesWrong : ChangeSpec := { name := "fnPointBytes", vars := ["loop.example/g00004/impl.curveFactor", "loop.example/g00004/impl.twiceP", "loop.example/g00004/impl.inverseStep", "loop.example/g00004/impl.chainSteps", "loop.example/g00004/impl.rootStep", "loop.example/g00004/impl.rootOfMinusOne"], fn := fun _ => fun
  | [d1, d2, g1, g2, g3, g4, g5, g6] => { results := [.lit (.bool false)], args := [d1, d2], vars := [g1, g2, g3, g4, g5, g6] }
  | _ => none }
def FnPointBytesWrongFalsely : Prop := fnPointBytesRow.holds Tryd.pinned (OpenSpec.ofChange fnPointBytesWrong)

/- THE SECOND FORM. 'bulk': how many values and letters a reading holds, each counted each time it is reached (what is shared counts as often as it is met; a slice's spare places count too). A statement '..UptoSaid' is the law's where the arguments, and the package variables that the reading takes, are together of bulk at most 1048576: NARROWER than '..Said'. Prove '..Said' where nothing that the law and all that it calls make is longer than what came in: it says more and counts as full. Else prove '..UptoSaid'. A law counts once. -/
mutual
def uptoBulk {H : Type} : DataW H → Nat
  | .lit (.string bytes) => bytes.length + 1
  | .lit _ => 1
  | .nil => 1
  | .ptr d => uptoBulk d + 1
  | .slice elems spare => uptoBulkAll elems + uptoBulkAll spare + 1
  | .agg parts => uptoBulkAll parts + 1
  | .iface _ d => uptoBulk d + 1
  | .map entries => uptoBulkEntries entries + 1
  | .held _ => 1
def uptoBulkAll {H : Type} : List (DataW H) → Nat
  | [] => 0
  | d :: r => uptoBulk d + uptoBulkAll r
def uptoBulkEntries {H : Type} : List (Lit × DataW H) → Nat
  | [] => 0
  | x :: r => uptoBulkEntry x + uptoBulkEntries r
def uptoBulkEntry {H : Type} : Lit × DataW H → Nat
  | (.string bytes, d) => bytes.length + uptoBulk d + 1
  | (_, d) => uptoBulk d + 1
 end
def uptoSmall : (H : Type) → List (DataW H) → Bool := fun _ ds => decide (uptoBulkAll ds ≤ 1048576)
def OpenSpec.upto (s : _root_.Go.ChangeSpec) : _root_.Go.OpenSpec := { _root_.Go.OpenSpec.ofChange s with cond := some uptoSmall }

/-- 'laws.FnExactPointZero', WHERE WHAT IT READS IS OF BULK AT MOST 1048576: true; the input reads as it did. -/
def fnExactPointZeroUptoRow : OpenClaim := { program := "ythapcapiiknjdaadoor", sum := "83dfda54911297915db90ddca36db30fef61b2cdcaa774f0396703521949ca11", func := "loop.example/g00004/laws.FnExactPointZero", spec := "fnExactPointZero", named := ["loop.example/g00004/impl.zeroPoint"], apart := false, laid := [("loop.example/g00004/impl.zeroPoint", laid_loop_example_g00004_impl_zeroPoint)], narrowed := true }
def FnExactPointZeroUptoSaid : Prop := fnExactPointZeroUptoRow.holds Tryd.pinned (OpenSpec.upto fnExactPointZeroSpec)

/-- 'laws.FnExactPointValid', WHERE WHAT IT READS IS OF BULK AT MOST 1048576: true; the input reads as it did. -/
def fnExactPointValidUptoRow : OpenClaim := { program := "ythapcapiiknjdaadoor", sum := "83dfda54911297915db90ddca36db30fef61b2cdcaa774f0396703521949ca11", func := "loop.example/g00004/laws.FnExactPointValid", spec := "fnExactPointValid", inPlace := ["math/bits.Add64"], named := ["loop.example/g00004/impl.curveFactor", "loop.example/g00004/impl.twiceP"], apart := false, laid := [("loop.example/g00004/impl.twiceP", laid_loop_example_g00004_impl_twiceP), ("loop.example/g00004/impl.curveFactor", laid_loop_example_g00004_impl_curveFactor)], narrowed := true }
def FnExactPointValidUptoSaid : Prop := fnExactPointValidUptoRow.holds Tryd.pinned (OpenSpec.upto fnExactPointValidSpec)

/-- 'laws.FnExactPointBase', WHERE WHAT IT READS IS OF BULK AT MOST 1048576: true; the input reads as it did. -/
def fnExactPointBaseUptoRow : OpenClaim := { program := "ythapcapiiknjdaadoor", sum := "83dfda54911297915db90ddca36db30fef61b2cdcaa774f0396703521949ca11", func := "loop.example/g00004/laws.FnExactPointBase", spec := "fnExactPointBase", named := ["loop.example/g00004/impl.basePoint"], apart := false, laid := [("loop.example/g00004/impl.basePoint", laid_loop_example_g00004_impl_basePoint)], narrowed := true }
def FnExactPointBaseUptoSaid : Prop := fnExactPointBaseUptoRow.holds Tryd.pinned (OpenSpec.upto fnExactPointBaseSpec)

/-- 'laws.FnExactPointEncode', WHERE WHAT IT READS IS OF BULK AT MOST 1048576: true; the input reads as it did. -/
def fnExactPointEncodeUptoRow : OpenClaim := { program := "ythapcapiiknjdaadoor", sum := "83dfda54911297915db90ddca36db30fef61b2cdcaa774f0396703521949ca11", func := "loop.example/g00004/laws.FnExactPointEncode", spec := "fnExactPointEncode", inPlace := ["math/bits.Add64"], named := ["loop.example/g00004/impl.curveFactor", "loop.example/g00004/impl.twiceP"], apart := false, laid := [("loop.example/g00004/impl.twiceP", laid_loop_example_g00004_impl_twiceP), ("loop.example/g00004/impl.curveFactor", laid_loop_example_g00004_impl_curveFactor)], narrowed := true }
def FnExactPointEncodeUptoSaid : Prop := fnExactPointEncodeUptoRow.holds Tryd.pinned (OpenSpec.upto fnExactPointEncodeSpec)

/-- 'laws.FnExactPointToLadder', WHERE WHAT IT READS IS OF BULK AT MOST 1048576: true; the input reads as it did. -/
def fnExactPointToLadderUptoRow : OpenClaim := { program := "ythapcapiiknjdaadoor", sum := "83dfda54911297915db90ddca36db30fef61b2cdcaa774f0396703521949ca11", func := "loop.example/g00004/laws.FnExactPointToLadder", spec := "fnExactPointToLadder", inPlace := ["math/bits.Add64"], named := ["loop.example/g00004/impl.curveFactor", "loop.example/g00004/impl.twiceP", "loop.example/g00004/impl.inverseStep", "loop.example/g00004/impl.chainSteps"], apart := false, laid := [("loop.example/g00004/impl.chainSteps", laid_loop_example_g00004_impl_chainSteps), ("loop.example/g00004/impl.inverseStep", laid_loop_example_g00004_impl_inverseStep), ("loop.example/g00004/impl.twiceP", laid_loop_example_g00004_impl_twiceP), ("loop.example/g00004/impl.curveFactor", laid_loop_example_g00004_impl_curveFactor)], narrowed := true }
def FnExactPointToLadderUptoSaid : Prop := fnExactPointToLadderUptoRow.holds Tryd.pinned (OpenSpec.upto fnExactPointToLadderSpec)

/-- 'laws.FnExactPointAdd', WHERE WHAT IT READS IS OF BULK AT MOST 1048576: true; the input reads as it did. -/
def fnExactPointAddUptoRow : OpenClaim := { program := "ythapcapiiknjdaadoor", sum := "83dfda54911297915db90ddca36db30fef61b2cdcaa774f0396703521949ca11", func := "loop.example/g00004/laws.FnExactPointAdd", spec := "fnExactPointAdd", inPlace := ["math/bits.Add64"], named := ["loop.example/g00004/impl.curveFactor", "loop.example/g00004/impl.twiceP", "loop.example/g00004/impl.inverseStep", "loop.example/g00004/impl.chainSteps"], apart := false, laid := [("loop.example/g00004/impl.chainSteps", laid_loop_example_g00004_impl_chainSteps), ("loop.example/g00004/impl.inverseStep", laid_loop_example_g00004_impl_inverseStep), ("loop.example/g00004/impl.twiceP", laid_loop_example_g00004_impl_twiceP), ("loop.example/g00004/impl.curveFactor", laid_loop_example_g00004_impl_curveFactor)], narrowed := true }
def FnExactPointAddUptoSaid : Prop := fnExactPointAddUptoRow.holds Tryd.pinned (OpenSpec.upto fnExactPointAddSpec)

/-- 'laws.FnExactPointNegate', WHERE WHAT IT READS IS OF BULK AT MOST 1048576: true; the input reads as it did. -/
def fnExactPointNegateUptoRow : OpenClaim := { program := "ythapcapiiknjdaadoor", sum := "83dfda54911297915db90ddca36db30fef61b2cdcaa774f0396703521949ca11", func := "loop.example/g00004/laws.FnExactPointNegate", spec := "fnExactPointNegate", inPlace := ["math/bits.Add64"], named := ["loop.example/g00004/impl.curveFactor", "loop.example/g00004/impl.twiceP"], apart := false, laid := [("loop.example/g00004/impl.twiceP", laid_loop_example_g00004_impl_twiceP), ("loop.example/g00004/impl.curveFactor", laid_loop_example_g00004_impl_curveFactor)], narrowed := true }
def FnExactPointNegateUptoSaid : Prop := fnExactPointNegateUptoRow.holds Tryd.pinned (OpenSpec.upto fnExactPointNegateSpec)

/-- 'laws.FnExactPointScale', WHERE WHAT IT READS IS OF BULK AT MOST 1048576: true; the input reads as it did. -/
def fnExactPointScaleUptoRow : OpenClaim := { program := "ythapcapiiknjdaadoor", sum := "83dfda54911297915db90ddca36db30fef61b2cdcaa774f0396703521949ca11", func := "loop.example/g00004/laws.FnExactPointScale", spec := "fnExactPointScale", inPlace := ["math/bits.Add64"], unfollowed := true, recurses := true, named := ["loop.example/g00004/impl.curveFactor", "loop.example/g00004/impl.twiceP", "loop.example/g00004/impl.zeroPoint", "loop.example/g00004/impl.inverseStep", "loop.example/g00004/impl.chainSteps"], apart := false, laid := [("loop.example/g00004/impl.chainSteps", laid_loop_example_g00004_impl_chainSteps), ("loop.example/g00004/impl.inverseStep", laid_loop_example_g00004_impl_inverseStep), ("loop.example/g00004/impl.twiceP", laid_loop_example_g00004_impl_twiceP), ("loop.example/g00004/impl.curveFactor", laid_loop_example_g00004_impl_curveFactor), ("loop.example/g00004/impl.zeroPoint", laid_loop_example_g00004_impl_zeroPoint)], narrowed := true }
def FnExactPointScaleUptoSaid : Prop := fnExactPointScaleUptoRow.holds Tryd.pinned (OpenSpec.upto fnExactPointScaleSpec)

/-- 'laws.FnExactPointDecode', WHERE WHAT IT READS IS OF BULK AT MOST 1048576: true; the input reads as it did. -/
def fnExactPointDecodeUptoRow : OpenClaim := { program := "ythapcapiiknjdaadoor", sum := "83dfda54911297915db90ddca36db30fef61b2cdcaa774f0396703521949ca11", func := "loop.example/g00004/laws.FnExactPointDecode", spec := "fnExactPointDecode", inPlace := ["math/bits.Add64"], named := ["loop.example/g00004/impl.curveFactor", "loop.example/g00004/impl.twiceP", "loop.example/g00004/impl.inverseStep", "loop.example/g00004/impl.chainSteps", "loop.example/g00004/impl.rootStep", "loop.example/g00004/impl.rootOfMinusOne"], apart := false, laid := [("loop.example/g00004/impl.chainSteps", laid_loop_example_g00004_impl_chainSteps), ("loop.example/g00004/impl.inverseStep", laid_loop_example_g00004_impl_inverseStep), ("loop.example/g00004/impl.rootStep", laid_loop_example_g00004_impl_rootStep), ("loop.example/g00004/impl.rootOfMinusOne", laid_loop_example_g00004_impl_rootOfMinusOne), ("loop.example/g00004/impl.twiceP", laid_loop_example_g00004_impl_twiceP), ("loop.example/g00004/impl.curveFactor", laid_loop_example_g00004_impl_curveFactor)], narrowed := true }
def FnExactPointDecodeUptoSaid : Prop := fnExactPointDecodeUptoRow.holds Tryd.pinned (OpenSpec.upto fnExactPointDecodeSpec)

/-- 'laws.FnPointGroup', WHERE WHAT IT READS IS OF BULK AT MOST 1048576: true; the input reads as it did. -/
def fnPointGroupUptoRow : OpenClaim := { program := "ythapcapiiknjdaadoor", sum := "83dfda54911297915db90ddca36db30fef61b2cdcaa774f0396703521949ca11", func := "loop.example/g00004/laws.FnPointGroup", spec := "fnPointGroup", inPlace := ["math/bits.Add64"], named := ["loop.example/g00004/impl.curveFactor", "loop.example/g00004/impl.twiceP", "loop.example/g00004/impl.inverseStep", "loop.example/g00004/impl.chainSteps", "loop.example/g00004/impl.zeroPoint"], apart := false, laid := [("loop.example/g00004/impl.chainSteps", laid_loop_example_g00004_impl_chainSteps), ("loop.example/g00004/impl.inverseStep", laid_loop_example_g00004_impl_inverseStep), ("loop.example/g00004/impl.twiceP", laid_loop_example_g00004_impl_twiceP), ("loop.example/g00004/impl.curveFactor", laid_loop_example_g00004_impl_curveFactor), ("loop.example/g00004/impl.zeroPoint", laid_loop_example_g00004_impl_zeroPoint)], narrowed := true }
def FnPointGroupUptoSaid : Prop := fnPointGroupUptoRow.holds Tryd.pinned (OpenSpec.upto fnPointGroupSpec)

/-- 'laws.FnPointBytes', WHERE WHAT IT READS IS OF BULK AT MOST 1048576: true; the input reads as it did. -/
def fnPointBytesUptoRow : OpenClaim := { program := "ythapcapiiknjdaadoor", sum := "83dfda54911297915db90ddca36db30fef61b2cdcaa774f0396703521949ca11", func := "loop.example/g00004/laws.FnPointBytes", spec := "fnPointBytes", inPlace := ["math/bits.Add64"], named := ["loop.example/g00004/impl.curveFactor", "loop.example/g00004/impl.twiceP", "loop.example/g00004/impl.inverseStep", "loop.example/g00004/impl.chainSteps", "loop.example/g00004/impl.rootStep", "loop.example/g00004/impl.rootOfMinusOne"], apart := false, laid := [("loop.example/g00004/impl.chainSteps", laid_loop_example_g00004_impl_chainSteps), ("loop.example/g00004/impl.inverseStep", laid_loop_example_g00004_impl_inverseStep), ("loop.example/g00004/impl.rootStep", laid_loop_example_g00004_impl_rootStep), ("loop.example/g00004/impl.rootOfMinusOne", laid_loop_example_g00004_impl_rootOfMinusOne), ("loop.example/g00004/impl.twiceP", laid_loop_example_g00004_impl_twiceP), ("loop.example/g00004/impl.curveFactor", laid_loop_example_g00004_impl_curveFactor)], narrowed := true }
def FnPointBytesUptoSaid : Prop := fnPointBytesUptoRow.holds Tryd.pinned (OpenSpec.upto fnPointBytesSpec)

end Rows
end Go.Proofs.YthapcapiiknjdaaDoor
