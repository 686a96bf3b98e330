/-
  NARROWER THAN 'FOR EVERY INPUT', by the rows' own cells (each row's printed sentence says how): FnExactOrderBytes: laid · FnExactOrderValid: laid · FnExactOrderReduce: laid · FnExactOrderMulAdd: laid · FnOrderByNumbers: laid · FnExactFieldRoot: laid · FnFieldSquares: laid · FnFieldRing: laid.
  DERIVED. THE GIVEN ROWS OF THIS SEAT. 8 by the template 'for every input the law returns true; each argument reads behind the call as it read before'; 0 by the template 'total and deterministic' (their statements: YtbhmhkimddjhaaaDoorTotals.lean).
  GIVEN WITH THE SEED: the statements are not yours to turn. If you find one false, say at which input.
  Laid BY PROGRAM, IN A SANDBOX (cutbox-rows.mjs): the forced cells as the released guide's own fill.sh prints them over the translation d751fbc699478b66… (all of the seat's roots in one cut). By AI agents, Wed Nov 11 2026. No macro, syntax, notation, axiom, sorry.
-/
import Derived.Test.YtbhmhkimddjhaaaDoorChecked
import GoSem.Claim
import GoSem.ClaimJoined
import GoSem.ClaimMapViews
import Derived.JoinedTies
import Derived.KernelRfl
namespace Go.Proofs.YtbhmhkimddjhaaaDoor
/- THE CELL 'sum', in the pinned program and in every row, IS THE sha256 OF THE DUMP (.gsa) THAT YtbhmhkimddjhaaaDoorProg.lean LOADS. Nothing in Lean hashes anything: it is a label: what it is worth is what the hold of that sum in a sandbox is worth. -/
noncomputable def Tryd.pinned : Pinned := { name := "ytbhmhkimddjhaaadoor", sum := "d751fbc699478b664edeb5dbddaaf4819c7e7dc431dd90cd79bd0600d5dda4ee", checked := Tryd.checked }
namespace Rows
def none {H : Type} : Left H := { results := [], args := [] }

/- WHAT THE LISTED PACKAGE-LEVEL VARIABLES READ AS WHEN THE CALL BEGINS. Each datum BY PROGRAM (the guide's laid-datum.mjs) off the statement by which the dump's own 'gosem.cut.vars' lays the variable. In a bare row this is a premise. The card (YtbhmhkimddjhaaaDoorCards.lean) ties it to the program's text. -/
def laid_loop_example_g00004_impl_orderOfGroup {H : Type} : DataW H := .agg [.lit (.int .u64 6346243789798364141), .lit (.int .u64 1503914060200516822), .lit (.int .u64 0), .lit (.int .u64 1152921504606846976)]
def laid_loop_example_g00004_impl_orderSixteenfold {H : Type} : DataW H := .agg [.lit (.int .u64 9306180268226068176), .lit (.int .u64 5615880889498717541), .lit (.int .u64 1), .lit (.int .u64 0)]
def laid_loop_example_g00004_impl_orderFolds {H : Type} : DataW H := .agg [.agg [.lit (.int .u64 15486807595281847581), .lit (.int .u64 14334777244411350896), .lit (.int .u64 18446744073709551614), .lit (.int .u64 1152921504606846975)], .agg [.lit (.int .u64 6346243789798364141), .lit (.int .u64 10644477865684000262), .lit (.int .u64 12830863184210834074), .lit (.int .u64 1152921504606846974)], .agg [.lit (.int .u64 4143911069798785649), .lit (.int .u64 13135451190501301653), .lit (.int .u64 9140563805483483441), .lit (.int .u64 148726633535517338)], .agg [.lit (.int .u64 8780599943985023845), .lit (.int .u64 16306315709310425001), .lit (.int .u64 12941446590529313341), .lit (.int .u64 1070113273235554609)]]
def laid_loop_example_g00004_impl_chainSteps {H : Type} : DataW H := .agg [.agg [.lit (.int .i64 1), .lit (.int .i64 1), .lit (.int .i64 0)], .agg [.lit (.int .i64 2), .lit (.int .i64 2), .lit (.int .i64 1)], .agg [.lit (.int .i64 3), .lit (.int .i64 0), .lit (.int .i64 2)], .agg [.lit (.int .i64 4), .lit (.int .i64 1), .lit (.int .i64 3)], .agg [.lit (.int .i64 5), .lit (.int .i64 5), .lit (.int .i64 5)], .agg [.lit (.int .i64 6), .lit (.int .i64 10), .lit (.int .i64 6)], .agg [.lit (.int .i64 7), .lit (.int .i64 20), .lit (.int .i64 7)], .agg [.lit (.int .i64 8), .lit (.int .i64 10), .lit (.int .i64 6)], .agg [.lit (.int .i64 9), .lit (.int .i64 50), .lit (.int .i64 9)], .agg [.lit (.int .i64 10), .lit (.int .i64 100), .lit (.int .i64 10)], .agg [.lit (.int .i64 11), .lit (.int .i64 50), .lit (.int .i64 9)]]
def laid_loop_example_g00004_impl_rootStep {H : Type} : DataW H := .agg [.lit (.int .i64 12), .lit (.int .i64 2), .lit (.int .i64 2)]
def laid_loop_example_g00004_impl_rootOfMinusOne {H : Type} : DataW H := .agg [.lit (.int .u64 1718705420411056), .lit (.int .u64 234908883556509), .lit (.int .u64 2233514472574048), .lit (.int .u64 2117202627021982), .lit (.int .u64 765476049583133)]
def laid_loop_example_g00004_impl_twiceP {H : Type} : DataW H := .agg [.lit (.int .u64 4503599627370458), .lit (.int .u64 4503599627370494), .lit (.int .u64 4503599627370494), .lit (.int .u64 4503599627370494), .lit (.int .u64 4503599627370494)]

/-- 'laws.FnExactOrderBytes': WHATEVER THE INPUT: true; the input reads as it did. -/
def fnExactOrderBytesSpec : ChangeSpec := { name := "fnExactOrderBytes", vars := ["loop.example/g00004/impl.orderOfGroup"], fn := fun _ => fun
  | [g1] => { results := [.lit (.bool true)], args := [], vars := [g1] }
  | _ => none }
def fnExactOrderBytesRow : OpenClaim := { program := "ytbhmhkimddjhaaadoor", sum := "d751fbc699478b664edeb5dbddaaf4819c7e7dc431dd90cd79bd0600d5dda4ee", func := "loop.example/g00004/laws.FnExactOrderBytes", spec := "fnExactOrderBytes", named := ["loop.example/g00004/impl.orderOfGroup"], apart := false, laid := [("loop.example/g00004/impl.orderOfGroup", laid_loop_example_g00004_impl_orderOfGroup)] }
def FnExactOrderBytesSaid : Prop := fnExactOrderBytesRow.holds Tryd.pinned (OpenSpec.ofChange fnExactOrderBytesSpec)

/-- ITS FALSE NEIGHBOUR: 'it returns false'. Refute it at one input. -/
def fnExactOrderBytesWrong : ChangeSpec := { name := "fnExactOrderBytes", vars := ["loop.example/g00004/impl.orderOfGroup"], fn := fun _ => fun
  | [g1] => { results := [.lit (.bool false)], args := [], vars := [g1] }
  | _ => none }
def FnExactOrderBytesWrongFalsely : Prop := fnExactOrderBytesRow.holds Tryd.pinned (OpenSpec.ofChange fnExactOrderBytesWrong)

/-- 'laws.FnExactOrderValid': WHATEVER THE INPUT: true; the input reads as it did. -/
def fnExactOrderValidSpec : ChangeSpec := { name := "fnExactOrderValid", vars := ["loop.example/g00004/impl.orderOfGroup"], fn := fun _ => fun
  | [d, g1] => { results := [.lit (.bool true)], args := [d], vars := [g1] }
  | _ => none }
def fnExactOrderValidRow : OpenClaim := { program := "ytbhmhkimddjhaaadoor", sum := "d751fbc699478b664edeb5dbddaaf4819c7e7dc431dd90cd79bd0600d5dda4ee", func := "loop.example/g00004/laws.FnExactOrderValid", spec := "fnExactOrderValid", inPlace := ["math/bits.Add64", "math/bits.Sub64"], named := ["loop.example/g00004/impl.orderOfGroup"], apart := false, laid := [("loop.example/g00004/impl.orderOfGroup", laid_loop_example_g00004_impl_orderOfGroup)] }
def FnExactOrderValidSaid : Prop := fnExactOrderValidRow.holds Tryd.pinned (OpenSpec.ofChange fnExactOrderValidSpec)

/-- ITS FALSE NEIGHBOUR: 'it returns false'. Refute it at one input. -/
def fnExactOrderValidWrong : ChangeSpec := { name := "fnExactOrderValid", vars := ["loop.example/g00004/impl.orderOfGroup"], fn := fun _ => fun
  | [d, g1] => { results := [.lit (.bool false)], args := [d], vars := [g1] }
  | _ => none }
def FnExactOrderValidWrongFalsely : Prop := fnExactOrderValidRow.holds Tryd.pinned (OpenSpec.ofChange fnExactOrderValidWrong)

/-- 'laws.FnExactOrderReduce': WHATEVER THE INPUT: true; the input reads as it did. -/
def fnExactOrderReduceSpec : ChangeSpec := { name := "fnExactOrderReduce", vars := ["loop.example/g00004/impl.orderFolds", "loop.example/g00004/impl.orderSixteenfold", "loop.example/g00004/impl.orderOfGroup"], fn := fun _ => fun
  | [d, g1, g2, g3] => { results := [.lit (.bool true)], args := [d], vars := [g1, g2, g3] }
  | _ => none }
def fnExactOrderReduceRow : OpenClaim := { program := "ytbhmhkimddjhaaadoor", sum := "d751fbc699478b664edeb5dbddaaf4819c7e7dc431dd90cd79bd0600d5dda4ee", func := "loop.example/g00004/laws.FnExactOrderReduce", spec := "fnExactOrderReduce", inPlace := ["math/bits.Add64", "math/bits.Sub64"], named := ["loop.example/g00004/impl.orderFolds", "loop.example/g00004/impl.orderSixteenfold", "loop.example/g00004/impl.orderOfGroup"], apart := false, laid := [("loop.example/g00004/impl.orderOfGroup", laid_loop_example_g00004_impl_orderOfGroup), ("loop.example/g00004/impl.orderSixteenfold", laid_loop_example_g00004_impl_orderSixteenfold), ("loop.example/g00004/impl.orderFolds", laid_loop_example_g00004_impl_orderFolds)] }
def FnExactOrderReduceSaid : Prop := fnExactOrderReduceRow.holds Tryd.pinned (OpenSpec.ofChange fnExactOrderReduceSpec)

/-- ITS FALSE NEIGHBOUR: 'it returns false'. Refute it at one input. -/
def fnExactOrderReduceWrong : ChangeSpec := { name := "fnExactOrderReduce", vars := ["loop.example/g00004/impl.orderFolds", "loop.example/g00004/impl.orderSixteenfold", "loop.example/g00004/impl.orderOfGroup"], fn := fun _ => fun
  | [d, g1, g2, g3] => { results := [.lit (.bool false)], args := [d], vars := [g1, g2, g3] }
  | _ => none }
def FnExactOrderReduceWrongFalsely : Prop := fnExactOrderReduceRow.holds Tryd.pinned (OpenSpec.ofChange fnExactOrderReduceWrong)

/-- 'laws.FnExactOrderMulAdd': WHATEVER THE INPUT: true; the input reads as it did. -/
def fnExactOrderMulAddSpec : ChangeSpec := { name := "fnExactOrderMulAdd", vars := ["loop.example/g00004/impl.orderFolds", "loop.example/g00004/impl.orderSixteenfold", "loop.example/g00004/impl.orderOfGroup"], fn := fun _ => fun
  | [d1, d2, d3, g1, g2, g3] => { results := [.lit (.bool true)], args := [d1, d2, d3], vars := [g1, g2, g3] }
  | _ => none }
def fnExactOrderMulAddRow : OpenClaim := { program := "ytbhmhkimddjhaaadoor", sum := "d751fbc699478b664edeb5dbddaaf4819c7e7dc431dd90cd79bd0600d5dda4ee", func := "loop.example/g00004/laws.FnExactOrderMulAdd", spec := "fnExactOrderMulAdd", inPlace := ["math/bits.Add64", "math/bits.Sub64"], named := ["loop.example/g00004/impl.orderFolds", "loop.example/g00004/impl.orderSixteenfold", "loop.example/g00004/impl.orderOfGroup"], apart := false, laid := [("loop.example/g00004/impl.orderOfGroup", laid_loop_example_g00004_impl_orderOfGroup), ("loop.example/g00004/impl.orderSixteenfold", laid_loop_example_g00004_impl_orderSixteenfold), ("loop.example/g00004/impl.orderFolds", laid_loop_example_g00004_impl_orderFolds)] }
def FnExactOrderMulAddSaid : Prop := fnExactOrderMulAddRow.holds Tryd.pinned (OpenSpec.ofChange fnExactOrderMulAddSpec)

/-- ITS FALSE NEIGHBOUR: 'it returns false'. Refute it at one input. -/
def fnExactOrderMulAddWrong : ChangeSpec := { name := "fnExactOrderMulAdd", vars := ["loop.example/g00004/impl.orderFolds", "loop.example/g00004/impl.orderSixteenfold", "loop.example/g00004/impl.orderOfGroup"], fn := fun _ => fun
  | [d1, d2, d3, g1, g2, g3] => { results := [.lit (.bool false)], args := [d1, d2, d3], vars := [g1, g2, g3] }
  | _ => none }
def FnExactOrderMulAddWrongFalsely : Prop := fnExactOrderMulAddRow.holds Tryd.pinned (OpenSpec.ofChange fnExactOrderMulAddWrong)

/-- 'laws.FnOrderByNumbers': WHATEVER THE INPUT: true; the input reads as it did. -/
def fnOrderByNumbersSpec : ChangeSpec := { name := "fnOrderByNumbers", vars := ["loop.example/g00004/impl.orderFolds", "loop.example/g00004/impl.orderSixteenfold", "loop.example/g00004/impl.orderOfGroup"], fn := fun _ => fun
  | [d1, d2, g1, g2, g3] => { results := [.lit (.bool true)], args := [d1, d2], vars := [g1, g2, g3] }
  | _ => none }
def fnOrderByNumbersRow : OpenClaim := { program := "ytbhmhkimddjhaaadoor", sum := "d751fbc699478b664edeb5dbddaaf4819c7e7dc431dd90cd79bd0600d5dda4ee", func := "loop.example/g00004/laws.FnOrderByNumbers", spec := "fnOrderByNumbers", inPlace := ["math/bits.Add64", "math/bits.Sub64"], named := ["loop.example/g00004/impl.orderFolds", "loop.example/g00004/impl.orderSixteenfold", "loop.example/g00004/impl.orderOfGroup"], apart := false, laid := [("loop.example/g00004/impl.orderOfGroup", laid_loop_example_g00004_impl_orderOfGroup), ("loop.example/g00004/impl.orderSixteenfold", laid_loop_example_g00004_impl_orderSixteenfold), ("loop.example/g00004/impl.orderFolds", laid_loop_example_g00004_impl_orderFolds)] }
def FnOrderByNumbersSaid : Prop := fnOrderByNumbersRow.holds Tryd.pinned (OpenSpec.ofChange fnOrderByNumbersSpec)

/-- ITS FALSE NEIGHBOUR: 'it returns false'. Refute it at one input. -/
def fnOrderByNumbersWrong : ChangeSpec := { name := "fnOrderByNumbers", vars := ["loop.example/g00004/impl.orderFolds", "loop.example/g00004/impl.orderSixteenfold", "loop.example/g00004/impl.orderOfGroup"], fn := fun _ => fun
  | [d1, d2, g1, g2, g3] => { results := [.lit (.bool false)], args := [d1, d2], vars := [g1, g2, g3] }
  | _ => none }
def FnOrderByNumbersWrongFalsely : Prop := fnOrderByNumbersRow.holds Tryd.pinned (OpenSpec.ofChange fnOrderByNumbersWrong)

/-- 'laws.FnExactFieldRoot': WHATEVER THE INPUT: true; the input reads as it did. -/
def fnExactFieldRootSpec : ChangeSpec := { name := "fnExactFieldRoot", vars := ["loop.example/g00004/impl.rootStep", "loop.example/g00004/impl.rootOfMinusOne", "loop.example/g00004/impl.chainSteps", "loop.example/g00004/impl.twiceP"], fn := fun _ => fun
  | [d, g1, g2, g3, g4] => { results := [.lit (.bool true)], args := [d], vars := [g1, g2, g3, g4] }
  | _ => none }
def fnExactFieldRootRow : OpenClaim := { program := "ytbhmhkimddjhaaadoor", sum := "d751fbc699478b664edeb5dbddaaf4819c7e7dc431dd90cd79bd0600d5dda4ee", func := "loop.example/g00004/laws.FnExactFieldRoot", spec := "fnExactFieldRoot", inPlace := ["math/bits.Add64"], named := ["loop.example/g00004/impl.rootStep", "loop.example/g00004/impl.rootOfMinusOne", "loop.example/g00004/impl.chainSteps", "loop.example/g00004/impl.twiceP"], apart := false, laid := [("loop.example/g00004/impl.chainSteps", laid_loop_example_g00004_impl_chainSteps), ("loop.example/g00004/impl.rootStep", laid_loop_example_g00004_impl_rootStep), ("loop.example/g00004/impl.rootOfMinusOne", laid_loop_example_g00004_impl_rootOfMinusOne), ("loop.example/g00004/impl.twiceP", laid_loop_example_g00004_impl_twiceP)] }
def FnExactFieldRootSaid : Prop := fnExactFieldRootRow.holds Tryd.pinned (OpenSpec.ofChange fnExactFieldRootSpec)

/-- ITS FALSE NEIGHBOUR: 'it returns false'. Refute it at one input. -/
def fnExactFieldRootWrong : ChangeSpec := { name := "fnExactFieldRoot", vars := ["loop.example/g00004/impl.rootStep", "loop.example/g00004/impl.rootOfMinusOne", "loop.example/g00004/impl.chainSteps", "loop.example/g00004/impl.twiceP"], fn := fun _ => fun
  | [d, g1, g2, g3, g4] => { results := [.lit (.bool false)], args := [d], vars := [g1, g2, g3, g4] }
  | _ => none }
def FnExactFieldRootWrongFalsely : Prop := fnExactFieldRootRow.holds Tryd.pinned (OpenSpec.ofChange fnExactFieldRootWrong)

/-- 'laws.FnFieldSquares': WHATEVER THE INPUT: true; the input reads as it did. -/
def fnFieldSquaresSpec : ChangeSpec := { name := "fnFieldSquares", vars := ["loop.example/g00004/impl.rootStep", "loop.example/g00004/impl.rootOfMinusOne", "loop.example/g00004/impl.chainSteps", "loop.example/g00004/impl.twiceP"], fn := fun _ => fun
  | [d, g1, g2, g3, g4] => { results := [.lit (.bool true)], args := [d], vars := [g1, g2, g3, g4] }
  | _ => none }
def fnFieldSquaresRow : OpenClaim := { program := "ytbhmhkimddjhaaadoor", sum := "d751fbc699478b664edeb5dbddaaf4819c7e7dc431dd90cd79bd0600d5dda4ee", func := "loop.example/g00004/laws.FnFieldSquares", spec := "fnFieldSquares", inPlace := ["math/bits.Add64"], named := ["loop.example/g00004/impl.rootStep", "loop.example/g00004/impl.rootOfMinusOne", "loop.example/g00004/impl.chainSteps", "loop.example/g00004/impl.twiceP"], apart := false, laid := [("loop.example/g00004/impl.chainSteps", laid_loop_example_g00004_impl_chainSteps), ("loop.example/g00004/impl.rootStep", laid_loop_example_g00004_impl_rootStep), ("loop.example/g00004/impl.rootOfMinusOne", laid_loop_example_g00004_impl_rootOfMinusOne), ("loop.example/g00004/impl.twiceP", laid_loop_example_g00004_impl_twiceP)] }
def FnFieldSquaresSaid : Prop := fnFieldSquaresRow.holds Tryd.pinned (OpenSpec.ofChange fnFieldSquaresSpec)

/-- ITS FALSE NEIGHBOUR: 'it returns false'. Refute it at one input. -/
def fnFieldSquaresWrong : ChangeSpec := { name := "fnFieldSquares", vars := ["loop.example/g00004/impl.rootStep", "loop.example/g00004/impl.rootOfMinusOne", "loop.example/g00004/impl.chainSteps", "loop.example/g00004/impl.twiceP"], fn := fun _ => fun
  | [d, g1, g2, g3, g4] => { results := [.lit (.bool false)], args := [d], vars := [g1, g2, g3, g4] }
  | _ => none }
def FnFieldSquaresWrongFalsely : Prop := fnFieldSquaresRow.holds Tryd.pinned (OpenSpec.ofChange fnFieldSquaresWrong)

/-- 'laws.FnFieldRing': WHATEVER THE INPUT: true; the input reads as it did. -/
def fnFieldRingSpec : ChangeSpec := { name := "fnFieldRing", vars := ["loop.example/g00004/impl.twiceP"], fn := fun _ => fun
  | [d1, d2, g1] => { results := [.lit (.bool true)], args := [d1, d2], vars := [g1] }
  | _ => none }
def fnFieldRingRow : OpenClaim := { program := "ytbhmhkimddjhaaadoor", sum := "d751fbc699478b664edeb5dbddaaf4819c7e7dc431dd90cd79bd0600d5dda4ee", func := "loop.example/g00004/laws.FnFieldRing", spec := "fnFieldRing", inPlace := ["math/bits.Add64"], named := ["loop.example/g00004/impl.twiceP"], apart := false, laid := [("loop.example/g00004/impl.twiceP", laid_loop_example_g00004_impl_twiceP)] }
def FnFieldRingSaid : Prop := fnFieldRingRow.holds Tryd.pinned (OpenSpec.ofChange fnFieldRingSpec)

/-- ITS FALSE NEIGHBOUR: 'it returns false'. Refute it at one input. -/
def fnFieldRingWrong : ChangeSpec := { name := "fnFieldRing", vars := ["loop.example/g00004/impl.twiceP"], fn := fun _ => fun
  | [d1, d2, g1] => { results := [.lit (.bool false)], args := [d1, d2], vars := [g1] }
  | _ => none }
def FnFieldRingWrongFalsely : Prop := fnFieldRingRow.holds Tryd.pinned (OpenSpec.ofChange fnFieldRingWrong)

/- THE SECOND FORM. 'bulk': how many values and letters a reading holds, each counted each time it is reached (what is shared counts as often as it is met; a slice's spare places count too). A statement '..UptoSaid' is the law's where the arguments, and the package variables that the reading takes, are together of bulk at most 1048576: NARROWER than '..Said'. Prove '..Said' where nothing that the law and all that it calls make is longer than what came in: it says more and counts as full. Else prove '..UptoSaid'. A law counts once. -/
mutual
def uptoBulk {H : Type} : DataW H → Nat
  | .lit (.string bytes) => bytes.length + 1
  | .lit _ => 1
  | .nil => 1
  | .ptr d => uptoBulk d + 1
  | .slice elems spare => uptoBulkAll elems + uptoBulkAll spare + 1
  | .agg parts => uptoBulkAll parts + 1
  | .iface _ d => uptoBulk d + 1
  | .map entries => uptoBulkEntries entries + 1
  | .held _ => 1
def uptoBulkAll {H : Type} : List (DataW H) → Nat
  | [] => 0
  | d :: r => uptoBulk d + uptoBulkAll r
def uptoBulkEntries {H : Type} : List (Lit × DataW H) → Nat
  | [] => 0
  | x :: r => uptoBulkEntry x + uptoBulkEntries r
def uptoBulkEntry {H : Type} : Lit × DataW H → Nat
  | (.string bytes, d) => bytes.length + uptoBulk d + 1
  | (_, d) => uptoBulk d + 1
 end
def uptoSmall : (H : Type) → List (DataW H) → Bool := fun _ ds => decide (uptoBulkAll ds ≤ 1048576)
def OpenSpec.upto (s : _root_.Go.ChangeSpec) : _root_.Go.OpenSpec := { _root_.Go.OpenSpec.ofChange s with cond := some uptoSmall }

/-- 'laws.FnExactOrderBytes', WHERE WHAT IT READS IS OF BULK AT MOST 1048576: true; the input reads as it did. -/
def fnExactOrderBytesUptoRow : OpenClaim := { program := "ytbhmhkimddjhaaadoor", sum := "d751fbc699478b664edeb5dbddaaf4819c7e7dc431dd90cd79bd0600d5dda4ee", func := "loop.example/g00004/laws.FnExactOrderBytes", spec := "fnExactOrderBytes", named := ["loop.example/g00004/impl.orderOfGroup"], apart := false, laid := [("loop.example/g00004/impl.orderOfGroup", laid_loop_example_g00004_impl_orderOfGroup)], narrowed := true }
def FnExactOrderBytesUptoSaid : Prop := fnExactOrderBytesUptoRow.holds Tryd.pinned (OpenSpec.upto fnExactOrderBytesSpec)

/-- 'laws.FnExactOrderValid', WHERE WHAT IT READS IS OF BULK AT MOST 1048576: true; the input reads as it did. -/
def fnExactOrderValidUptoRow : OpenClaim := { program := "ytbhmhkimddjhaaadoor", sum := "d751fbc699478b664edeb5dbddaaf4819c7e7dc431dd90cd79bd0600d5dda4ee", func := "loop.example/g00004/laws.FnExactOrderValid", spec := "fnExactOrderValid", inPlace := ["math/bits.Add64", "math/bits.Sub64"], named := ["loop.example/g00004/impl.orderOfGroup"], apart := false, laid := [("loop.example/g00004/impl.orderOfGroup", laid_loop_example_g00004_impl_orderOfGroup)], narrowed := true }
def FnExactOrderValidUptoSaid : Prop := fnExactOrderValidUptoRow.holds Tryd.pinned (OpenSpec.upto fnExactOrderValidSpec)

/-- 'laws.FnExactOrderReduce', WHERE WHAT IT READS IS OF BULK AT MOST 1048576: true; the input reads as it did. -/
def fnExactOrderReduceUptoRow : OpenClaim := { program := "ytbhmhkimddjhaaadoor", sum := "d751fbc699478b664edeb5dbddaaf4819c7e7dc431dd90cd79bd0600d5dda4ee", func := "loop.example/g00004/laws.FnExactOrderReduce", spec := "fnExactOrderReduce", inPlace := ["math/bits.Add64", "math/bits.Sub64"], named := ["loop.example/g00004/impl.orderFolds", "loop.example/g00004/impl.orderSixteenfold", "loop.example/g00004/impl.orderOfGroup"], apart := false, laid := [("loop.example/g00004/impl.orderOfGroup", laid_loop_example_g00004_impl_orderOfGroup), ("loop.example/g00004/impl.orderSixteenfold", laid_loop_example_g00004_impl_orderSixteenfold), ("loop.example/g00004/impl.orderFolds", laid_loop_example_g00004_impl_orderFolds)], narrowed := true }
def FnExactOrderReduceUptoSaid : Prop := fnExactOrderReduceUptoRow.holds Tryd.pinned (OpenSpec.upto fnExactOrderReduceSpec)

/-- 'laws.FnExactOrderMulAdd', WHERE WHAT IT READS IS OF BULK AT MOST 1048576: true; the input reads as it did. -/
def fnExactOrderMulAddUptoRow : OpenClaim := { program := "ytbhmhkimddjhaaadoor", sum := "d751fbc699478b664edeb5dbddaaf4819c7e7dc431dd90cd79bd0600d5dda4ee", func := "loop.example/g00004/laws.FnExactOrderMulAdd", spec := "fnExactOrderMulAdd", inPlace := ["math/bits.Add64", "math/bits.Sub64"], named := ["loop.example/g00004/impl.orderFolds", "loop.example/g00004/impl.orderSixteenfold", "loop.example/g00004/impl.orderOfGroup"], apart := false, laid := [("loop.example/g00004/impl.orderOfGroup", laid_loop_example_g00004_impl_orderOfGroup), ("loop.example/g00004/impl.orderSixteenfold", laid_loop_example_g00004_impl_orderSixteenfold), ("loop.example/g00004/impl.orderFolds", laid_loop_example_g00004_impl_orderFolds)], narrowed := true }
def FnExactOrderMulAddUptoSaid : Prop := fnExactOrderMulAddUptoRow.holds Tryd.pinned (OpenSpec.upto fnExactOrderMulAddSpec)

/-- 'laws.FnOrderByNumbers', WHERE WHAT IT READS IS OF BULK AT MOST 1048576: true; the input reads as it did. -/
def fnOrderByNumbersUptoRow : OpenClaim := { program := "ytbhmhkimddjhaaadoor", sum := "d751fbc699478b664edeb5dbddaaf4819c7e7dc431dd90cd79bd0600d5dda4ee", func := "loop.example/g00004/laws.FnOrderByNumbers", spec := "fnOrderByNumbers", inPlace := ["math/bits.Add64", "math/bits.Sub64"], named := ["loop.example/g00004/impl.orderFolds", "loop.example/g00004/impl.orderSixteenfold", "loop.example/g00004/impl.orderOfGroup"], apart := false, laid := [("loop.example/g00004/impl.orderOfGroup", laid_loop_example_g00004_impl_orderOfGroup), ("loop.example/g00004/impl.orderSixteenfold", laid_loop_example_g00004_impl_orderSixteenfold), ("loop.example/g00004/impl.orderFolds", laid_loop_example_g00004_impl_orderFolds)], narrowed := true }
def FnOrderByNumbersUptoSaid : Prop := fnOrderByNumbersUptoRow.holds Tryd.pinned (OpenSpec.upto fnOrderByNumbersSpec)

/-- 'laws.FnExactFieldRoot', WHERE WHAT IT READS IS OF BULK AT MOST 1048576: true; the input reads as it did. -/
def fnExactFieldRootUptoRow : OpenClaim := { program := "ytbhmhkimddjhaaadoor", sum := "d751fbc699478b664edeb5dbddaaf4819c7e7dc431dd90cd79bd0600d5dda4ee", func := "loop.example/g00004/laws.FnExactFieldRoot", spec := "fnExactFieldRoot", inPlace := ["math/bits.Add64"], named := ["loop.example/g00004/impl.rootStep", "loop.example/g00004/impl.rootOfMinusOne", "loop.example/g00004/impl.chainSteps", "loop.example/g00004/impl.twiceP"], apart := false, laid := [("loop.example/g00004/impl.chainSteps", laid_loop_example_g00004_impl_chainSteps), ("loop.example/g00004/impl.rootStep", laid_loop_example_g00004_impl_rootStep), ("loop.example/g00004/impl.rootOfMinusOne", laid_loop_example_g00004_impl_rootOfMinusOne), ("loop.example/g00004/impl.twiceP", laid_loop_example_g00004_impl_twiceP)], narrowed := true }
def FnExactFieldRootUptoSaid : Prop := fnExactFieldRootUptoRow.holds Tryd.pinned (OpenSpec.upto fnExactFieldRootSpec)

/-- 'laws.FnFieldSquares', WHERE WHAT IT READS IS OF BULK AT MOST 1048576: true; the input reads as it did. -/
def fnFieldSquaresUptoRow : OpenClaim := { program := "ytbhmhkimddjhaaadoor", sum := "d751fbc699478b664edeb5dbddaaf4819c7e7dc431dd90cd79bd0600d5dda4ee", func := "loop.example/g00004/laws.FnFieldSquares", spec := "fnFieldSquares", inPlace := ["math/bits.Add64"], named := ["loop.example/g00004/impl.rootStep", "loop.example/g00004/impl.rootOfMinusOne", "loop.example/g00004/impl.chainSteps", "loop.example/g00004/impl.twiceP"], apart := false, laid := [("loop.example/g00004/impl.chainSteps", laid_loop_example_g00004_impl_chainSteps), ("loop.example/g00004/impl.rootStep", laid_loop_example_g00004_impl_rootStep), ("loop.example/g00004/impl.rootOfMinusOne", laid_loop_example_g00004_impl_rootOfMinusOne), ("loop.example/g00004/impl.twiceP", laid_loop_example_g00004_impl_twiceP)], narrowed := true }
def FnFieldSquaresUptoSaid : Prop := fnFieldSquaresUptoRow.holds Tryd.pinned (OpenSpec.upto fnFieldSquaresSpec)

/-- 'laws.FnFieldRing', WHERE WHAT IT READS IS OF BULK AT MOST 1048576: true; the input reads as it did. -/
def fnFieldRingUptoRow : OpenClaim := { program := "ytbhmhkimddjhaaadoor", sum := "d751fbc699478b664edeb5dbddaaf4819c7e7dc431dd90cd79bd0600d5dda4ee", func := "loop.example/g00004/laws.FnFieldRing", spec := "fnFieldRing", inPlace := ["math/bits.Add64"], named := ["loop.example/g00004/impl.twiceP"], apart := false, laid := [("loop.example/g00004/impl.twiceP", laid_loop_example_g00004_impl_twiceP)], narrowed := true }
def FnFieldRingUptoSaid : Prop := fnFieldRingUptoRow.holds Tryd.pinned (OpenSpec.upto fnFieldRingSpec)

end Rows
end Go.Proofs.YtbhmhkimddjhaaaDoor
