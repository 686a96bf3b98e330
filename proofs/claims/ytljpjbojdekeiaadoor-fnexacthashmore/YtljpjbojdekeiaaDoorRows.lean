/-
  NARROWER THAN 'FOR EVERY INPUT', by the rows' own cells (each row's printed sentence says how): FnPadEnds: laid · FnHashPieces: laid · FnExpandBegins: laid · FnMacKeys: laid · FnExactHashMore: laid · FnExactMac: laid · FnExactExtract: laid · FnExactHashEnd: laid · FnExactExpand: laid · FnExactExpandLabel: laid · FnExactDerive: laid.
  DERIVED. THE GIVEN ROWS OF THIS SEAT. 11 by the template 'for every input the law returns true; each argument reads behind the call as it read before'; 0 by the template 'total and deterministic' (their statements: YtljpjbojdekeiaaDoorTotals.lean).
  GIVEN WITH THE SEED: the statements are not yours to turn. If you find one false, say at which input.
  Laid BY PROGRAM, IN A SANDBOX (cutbox-rows.mjs): the forced cells as the released guide's own fill.sh prints them over the translation d08fc5b07fbd5fa2… (all of the seat's roots in one cut). By AI agents, Wed Nov 11 2026. No macro, syntax, notation, axiom, sorry.
-/
import Derived.Test.YtljpjbojdekeiaaDoorChecked
import GoSem.Claim
import GoSem.ClaimJoined
import GoSem.ClaimMapViews
import Derived.JoinedTies
import Derived.KernelRfl
namespace Go.Proofs.YtljpjbojdekeiaaDoor
/- THE CELL 'sum', in the pinned program and in every row, IS THE sha256 OF THE DUMP (.gsa) THAT YtljpjbojdekeiaaDoorProg.lean LOADS. Nothing in Lean hashes anything: it is a label: what it is worth is what the hold of that sum in a sandbox is worth. -/
noncomputable def Tryd.pinned : Pinned := { name := "ytljpjbojdekeiaadoor", sum := "d08fc5b07fbd5fa24dbba47ecd31459a804a7c86563286694402812bb29606c4", checked := Tryd.checked }
namespace Rows
def none {H : Type} : Left H := { results := [], args := [] }

/- WHAT THE LISTED PACKAGE-LEVEL VARIABLES READ AS WHEN THE CALL BEGINS. Each datum BY PROGRAM (the guide's laid-datum.mjs) off the statement by which the dump's own 'gosem.cut.vars' lays the variable. In a bare row this is a premise. The card (YtljpjbojdekeiaaDoorCards.lean) ties it to the program's text. -/
def laid_loop_example_g00004_impl_startWords {H : Type} : DataW H := .agg [.lit (.int .u64 7640891576956012808), .lit (.int .u64 13503953896175478587), .lit (.int .u64 4354685564936845355), .lit (.int .u64 11912009170470909681), .lit (.int .u64 5840696475078001361), .lit (.int .u64 11170449401992604703), .lit (.int .u64 2270897969802886507), .lit (.int .u64 6620516959819538809)]
def laid_loop_example_g00004_impl_stepWords {H : Type} : DataW H := .agg [.lit (.int .u64 4794697086780616226), .lit (.int .u64 8158064640168781261), .lit (.int .u64 13096744586834688815), .lit (.int .u64 16840607885511220156), .lit (.int .u64 4131703408338449720), .lit (.int .u64 6480981068601479193), .lit (.int .u64 10538285296894168987), .lit (.int .u64 12329834152419229976), .lit (.int .u64 15566598209576043074), .lit (.int .u64 1334009975649890238), .lit (.int .u64 2608012711638119052), .lit (.int .u64 6128411473006802146), .lit (.int .u64 8268148722764581231), .lit (.int .u64 9286055187155687089), .lit (.int .u64 11230858885718282805), .lit (.int .u64 13951009754708518548), .lit (.int .u64 16472876342353939154), .lit (.int .u64 17275323862435702243), .lit (.int .u64 1135362057144423861), .lit (.int .u64 2597628984639134821), .lit (.int .u64 3308224258029322869), .lit (.int .u64 5365058923640841347), .lit (.int .u64 6679025012923562964), .lit (.int .u64 8573033837759648693), .lit (.int .u64 10970295158949994411), .lit (.int .u64 12119686244451234320), .lit (.int .u64 12683024718118986047), .lit (.int .u64 13788192230050041572), .lit (.int .u64 14330467153632333762), .lit (.int .u64 15395433587784984357), .lit (.int .u64 489312712824947311), .lit (.int .u64 1452737877330783856), .lit (.int .u64 2861767655752347644), .lit (.int .u64 3322285676063803686), .lit (.int .u64 5560940570517711597), .lit (.int .u64 5996557281743188959), .lit (.int .u64 7280758554555802590), .lit (.int .u64 8532644243296465576), .lit (.int .u64 9350256976987008742), .lit (.int .u64 10552545826968843579), .lit (.int .u64 11727347734174303076), .lit (.int .u64 12113106623233404929), .lit (.int .u64 14000437183269869457), .lit (.int .u64 14369950271660146224), .lit (.int .u64 15101387698204529176), .lit (.int .u64 15463397548674623760), .lit (.int .u64 17586052441742319658), .lit (.int .u64 1182934255886127544), .lit (.int .u64 1847814050463011016), .lit (.int .u64 2177327727835720531), .lit (.int .u64 2830643537854262169), .lit (.int .u64 3796741975233480872), .lit (.int .u64 4115178125766777443), .lit (.int .u64 5681478168544905931), .lit (.int .u64 6601373596472566643), .lit (.int .u64 7507060721942968483), .lit (.int .u64 8399075790359081724), .lit (.int .u64 8693463985226723168), .lit (.int .u64 9568029438360202098), .lit (.int .u64 10144078919501101548), .lit (.int .u64 10430055236837252648), .lit (.int .u64 11840083180663258601), .lit (.int .u64 13761210420658862357), .lit (.int .u64 14299343276471374635), .lit (.int .u64 14566680578165727644), .lit (.int .u64 15097957966210449927), .lit (.int .u64 16922976911328602910), .lit (.int .u64 17689382322260857208), .lit (.int .u64 500013540394364858), .lit (.int .u64 748580250866718886), .lit (.int .u64 1242879168328830382), .lit (.int .u64 1977374033974150939), .lit (.int .u64 2944078676154940804), .lit (.int .u64 3659926193048069267), .lit (.int .u64 4368137639120453308), .lit (.int .u64 4836135668995329356), .lit (.int .u64 5532061633213252278), .lit (.int .u64 6448918945643986474), .lit (.int .u64 6902733635092675308), .lit (.int .u64 7801388544844847127)]

/-- 'laws.FnPadEnds': WHATEVER THE INPUT: true; the input reads as it did. -/
def fnPadEndsSpec : ChangeSpec := { name := "fnPadEnds", vars := ["loop.example/g00004/impl.startWords", "loop.example/g00004/impl.stepWords"], fn := fun _ => fun
  | [d, g1, g2] => { results := [.lit (.bool true)], args := [d], vars := [g1, g2] }
  | _ => none }
def fnPadEndsRow : OpenClaim := { program := "ytljpjbojdekeiaadoor", sum := "d08fc5b07fbd5fa24dbba47ecd31459a804a7c86563286694402812bb29606c4", func := "loop.example/g00004/laws.FnPadEnds", spec := "fnPadEnds", named := ["loop.example/g00004/impl.startWords", "loop.example/g00004/impl.stepWords"], apart := false, laid := [("loop.example/g00004/impl.startWords", laid_loop_example_g00004_impl_startWords), ("loop.example/g00004/impl.stepWords", laid_loop_example_g00004_impl_stepWords)] }
def FnPadEndsSaid : Prop := fnPadEndsRow.holds Tryd.pinned (OpenSpec.ofChange fnPadEndsSpec)

/-- ITS FALSE NEIGHBOUR: 'it returns false'. Refute it at one input. -/
def fnPadEndsWrong : ChangeSpec := { name := "fnPadEnds", vars := ["loop.example/g00004/impl.startWords", "loop.example/g00004/impl.stepWords"], fn := fun _ => fun
  | [d, g1, g2] => { results := [.lit (.bool false)], args := [d], vars := [g1, g2] }
  | _ => none }
def FnPadEndsWrongFalsely : Prop := fnPadEndsRow.holds Tryd.pinned (OpenSpec.ofChange fnPadEndsWrong)

/-- 'laws.FnHashPieces': WHATEVER THE INPUT: true; the input reads as it did. -/
def fnHashPiecesSpec : ChangeSpec := { name := "fnHashPieces", vars := ["loop.example/g00004/impl.startWords", "loop.example/g00004/impl.stepWords"], fn := fun _ => fun
  | [d1, d2, g1, g2] => { results := [.lit (.bool true)], args := [d1, d2], vars := [g1, g2] }
  | _ => none }
def fnHashPiecesRow : OpenClaim := { program := "ytljpjbojdekeiaadoor", sum := "d08fc5b07fbd5fa24dbba47ecd31459a804a7c86563286694402812bb29606c4", func := "loop.example/g00004/laws.FnHashPieces", spec := "fnHashPieces", named := ["loop.example/g00004/impl.startWords", "loop.example/g00004/impl.stepWords"], apart := false, laid := [("loop.example/g00004/impl.startWords", laid_loop_example_g00004_impl_startWords), ("loop.example/g00004/impl.stepWords", laid_loop_example_g00004_impl_stepWords)] }
def FnHashPiecesSaid : Prop := fnHashPiecesRow.holds Tryd.pinned (OpenSpec.ofChange fnHashPiecesSpec)

/-- ITS FALSE NEIGHBOUR: 'it returns false'. Refute it at one input. -/
def fnHashPiecesWrong : ChangeSpec := { name := "fnHashPieces", vars := ["loop.example/g00004/impl.startWords", "loop.example/g00004/impl.stepWords"], fn := fun _ => fun
  | [d1, d2, g1, g2] => { results := [.lit (.bool false)], args := [d1, d2], vars := [g1, g2] }
  | _ => none }
def FnHashPiecesWrongFalsely : Prop := fnHashPiecesRow.holds Tryd.pinned (OpenSpec.ofChange fnHashPiecesWrong)

/-- 'laws.FnExpandBegins': WHATEVER THE INPUT: true; the input reads as it did. -/
def fnExpandBeginsSpec : ChangeSpec := { name := "fnExpandBegins", vars := ["loop.example/g00004/impl.startWords", "loop.example/g00004/impl.stepWords"], fn := fun _ => fun
  | [d1, d2, g1, g2] => { results := [.lit (.bool true)], args := [d1, d2], vars := [g1, g2] }
  | _ => none }
def fnExpandBeginsRow : OpenClaim := { program := "ytljpjbojdekeiaadoor", sum := "d08fc5b07fbd5fa24dbba47ecd31459a804a7c86563286694402812bb29606c4", func := "loop.example/g00004/laws.FnExpandBegins", spec := "fnExpandBegins", unfollowed := true, recurses := true, named := ["loop.example/g00004/impl.startWords", "loop.example/g00004/impl.stepWords"], apart := false, laid := [("loop.example/g00004/impl.startWords", laid_loop_example_g00004_impl_startWords), ("loop.example/g00004/impl.stepWords", laid_loop_example_g00004_impl_stepWords)] }
def FnExpandBeginsSaid : Prop := fnExpandBeginsRow.holds Tryd.pinned (OpenSpec.ofChange fnExpandBeginsSpec)

/-- ITS FALSE NEIGHBOUR: 'it returns false'. Refute it at one input. -/
def fnExpandBeginsWrong : ChangeSpec := { name := "fnExpandBegins", vars := ["loop.example/g00004/impl.startWords", "loop.example/g00004/impl.stepWords"], fn := fun _ => fun
  | [d1, d2, g1, g2] => { results := [.lit (.bool false)], args := [d1, d2], vars := [g1, g2] }
  | _ => none }
def FnExpandBeginsWrongFalsely : Prop := fnExpandBeginsRow.holds Tryd.pinned (OpenSpec.ofChange fnExpandBeginsWrong)

/-- 'laws.FnMacKeys': WHATEVER THE INPUT: true; the input reads as it did. -/
def fnMacKeysSpec : ChangeSpec := { name := "fnMacKeys", vars := ["loop.example/g00004/impl.startWords", "loop.example/g00004/impl.stepWords"], fn := fun _ => fun
  | [d, g1, g2] => { results := [.lit (.bool true)], args := [d], vars := [g1, g2] }
  | _ => none }
def fnMacKeysRow : OpenClaim := { program := "ytljpjbojdekeiaadoor", sum := "d08fc5b07fbd5fa24dbba47ecd31459a804a7c86563286694402812bb29606c4", func := "loop.example/g00004/laws.FnMacKeys", spec := "fnMacKeys", named := ["loop.example/g00004/impl.startWords", "loop.example/g00004/impl.stepWords"], apart := false, laid := [("loop.example/g00004/impl.startWords", laid_loop_example_g00004_impl_startWords), ("loop.example/g00004/impl.stepWords", laid_loop_example_g00004_impl_stepWords)] }
def FnMacKeysSaid : Prop := fnMacKeysRow.holds Tryd.pinned (OpenSpec.ofChange fnMacKeysSpec)

/-- ITS FALSE NEIGHBOUR: 'it returns false'. Refute it at one input. -/
def fnMacKeysWrong : ChangeSpec := { name := "fnMacKeys", vars := ["loop.example/g00004/impl.startWords", "loop.example/g00004/impl.stepWords"], fn := fun _ => fun
  | [d, g1, g2] => { results := [.lit (.bool false)], args := [d], vars := [g1, g2] }
  | _ => none }
def FnMacKeysWrongFalsely : Prop := fnMacKeysRow.holds Tryd.pinned (OpenSpec.ofChange fnMacKeysWrong)

/-- 'laws.FnExactHashMore': WHATEVER THE INPUT: true; the input reads as it did. -/
def fnExactHashMoreSpec : ChangeSpec := { name := "fnExactHashMore", vars := ["loop.example/g00004/impl.stepWords"], fn := fun _ => fun
  | [d1, d2, g1] => { results := [.lit (.bool true)], args := [d1, d2], vars := [g1] }
  | _ => none }
def fnExactHashMoreRow : OpenClaim := { program := "ytljpjbojdekeiaadoor", sum := "d08fc5b07fbd5fa24dbba47ecd31459a804a7c86563286694402812bb29606c4", func := "loop.example/g00004/laws.FnExactHashMore", spec := "fnExactHashMore", named := ["loop.example/g00004/impl.stepWords"], apart := false, laid := [("loop.example/g00004/impl.stepWords", laid_loop_example_g00004_impl_stepWords)] }
def FnExactHashMoreSaid : Prop := fnExactHashMoreRow.holds Tryd.pinned (OpenSpec.ofChange fnExactHashMoreSpec)

/-- ITS FALSE NEIGHBOUR: 'it returns false'. Refute it at one input. -/
def fnExactHashMoreWrong : ChangeSpec := { name := "fnExactHashMore", vars := ["loop.example/g00004/impl.stepWords"], fn := fun _ => fun
  | [d1, d2, g1] => { results := [.lit (.bool false)], args := [d1, d2], vars := [g1] }
  | _ => none }
def FnExactHashMoreWrongFalsely : Prop := fnExactHashMoreRow.holds Tryd.pinned (OpenSpec.ofChange fnExactHashMoreWrong)

/-- 'laws.FnExactMac': WHATEVER THE INPUT: true; the input reads as it did. -/
def fnExactMacSpec : ChangeSpec := { name := "fnExactMac", vars := ["loop.example/g00004/impl.startWords", "loop.example/g00004/impl.stepWords"], fn := fun _ => fun
  | [d1, d2, g1, g2] => { results := [.lit (.bool true)], args := [d1, d2], vars := [g1, g2] }
  | _ => none }
def fnExactMacRow : OpenClaim := { program := "ytljpjbojdekeiaadoor", sum := "d08fc5b07fbd5fa24dbba47ecd31459a804a7c86563286694402812bb29606c4", func := "loop.example/g00004/laws.FnExactMac", spec := "fnExactMac", named := ["loop.example/g00004/impl.startWords", "loop.example/g00004/impl.stepWords"], apart := false, laid := [("loop.example/g00004/impl.startWords", laid_loop_example_g00004_impl_startWords), ("loop.example/g00004/impl.stepWords", laid_loop_example_g00004_impl_stepWords)] }
def FnExactMacSaid : Prop := fnExactMacRow.holds Tryd.pinned (OpenSpec.ofChange fnExactMacSpec)

/-- ITS FALSE NEIGHBOUR: 'it returns false'. Refute it at one input. -/
def fnExactMacWrong : ChangeSpec := { name := "fnExactMac", vars := ["loop.example/g00004/impl.startWords", "loop.example/g00004/impl.stepWords"], fn := fun _ => fun
  | [d1, d2, g1, g2] => { results := [.lit (.bool false)], args := [d1, d2], vars := [g1, g2] }
  | _ => none }
def FnExactMacWrongFalsely : Prop := fnExactMacRow.holds Tryd.pinned (OpenSpec.ofChange fnExactMacWrong)

/-- 'laws.FnExactExtract': WHATEVER THE INPUT: true; the input reads as it did. -/
def fnExactExtractSpec : ChangeSpec := { name := "fnExactExtract", vars := ["loop.example/g00004/impl.startWords", "loop.example/g00004/impl.stepWords"], fn := fun _ => fun
  | [d1, d2, g1, g2] => { results := [.lit (.bool true)], args := [d1, d2], vars := [g1, g2] }
  | _ => none }
def fnExactExtractRow : OpenClaim := { program := "ytljpjbojdekeiaadoor", sum := "d08fc5b07fbd5fa24dbba47ecd31459a804a7c86563286694402812bb29606c4", func := "loop.example/g00004/laws.FnExactExtract", spec := "fnExactExtract", named := ["loop.example/g00004/impl.startWords", "loop.example/g00004/impl.stepWords"], apart := false, laid := [("loop.example/g00004/impl.startWords", laid_loop_example_g00004_impl_startWords), ("loop.example/g00004/impl.stepWords", laid_loop_example_g00004_impl_stepWords)] }
def FnExactExtractSaid : Prop := fnExactExtractRow.holds Tryd.pinned (OpenSpec.ofChange fnExactExtractSpec)

/-- ITS FALSE NEIGHBOUR: 'it returns false'. Refute it at one input. -/
def fnExactExtractWrong : ChangeSpec := { name := "fnExactExtract", vars := ["loop.example/g00004/impl.startWords", "loop.example/g00004/impl.stepWords"], fn := fun _ => fun
  | [d1, d2, g1, g2] => { results := [.lit (.bool false)], args := [d1, d2], vars := [g1, g2] }
  | _ => none }
def FnExactExtractWrongFalsely : Prop := fnExactExtractRow.holds Tryd.pinned (OpenSpec.ofChange fnExactExtractWrong)

/-- 'laws.FnExactHashEnd': WHATEVER THE INPUT: true; the input reads as it did. -/
def fnExactHashEndSpec : ChangeSpec := { name := "fnExactHashEnd", vars := ["loop.example/g00004/impl.stepWords"], fn := fun _ => fun
  | [d, g1] => { results := [.lit (.bool true)], args := [d], vars := [g1] }
  | _ => none }
def fnExactHashEndRow : OpenClaim := { program := "ytljpjbojdekeiaadoor", sum := "d08fc5b07fbd5fa24dbba47ecd31459a804a7c86563286694402812bb29606c4", func := "loop.example/g00004/laws.FnExactHashEnd", spec := "fnExactHashEnd", named := ["loop.example/g00004/impl.stepWords"], apart := false, laid := [("loop.example/g00004/impl.stepWords", laid_loop_example_g00004_impl_stepWords)] }
def FnExactHashEndSaid : Prop := fnExactHashEndRow.holds Tryd.pinned (OpenSpec.ofChange fnExactHashEndSpec)

/-- ITS FALSE NEIGHBOUR: 'it returns false'. Refute it at one input. -/
def fnExactHashEndWrong : ChangeSpec := { name := "fnExactHashEnd", vars := ["loop.example/g00004/impl.stepWords"], fn := fun _ => fun
  | [d, g1] => { results := [.lit (.bool false)], args := [d], vars := [g1] }
  | _ => none }
def FnExactHashEndWrongFalsely : Prop := fnExactHashEndRow.holds Tryd.pinned (OpenSpec.ofChange fnExactHashEndWrong)

/-- 'laws.FnExactExpand': WHATEVER THE INPUT: true; the input reads as it did. -/
def fnExactExpandSpec : ChangeSpec := { name := "fnExactExpand", vars := ["loop.example/g00004/impl.startWords", "loop.example/g00004/impl.stepWords"], fn := fun _ => fun
  | [d1, d2, d3, g1, g2] => { results := [.lit (.bool true)], args := [d1, d2, d3], vars := [g1, g2] }
  | _ => none }
def fnExactExpandRow : OpenClaim := { program := "ytljpjbojdekeiaadoor", sum := "d08fc5b07fbd5fa24dbba47ecd31459a804a7c86563286694402812bb29606c4", func := "loop.example/g00004/laws.FnExactExpand", spec := "fnExactExpand", unfollowed := true, recurses := true, named := ["loop.example/g00004/impl.startWords", "loop.example/g00004/impl.stepWords"], apart := false, laid := [("loop.example/g00004/impl.startWords", laid_loop_example_g00004_impl_startWords), ("loop.example/g00004/impl.stepWords", laid_loop_example_g00004_impl_stepWords)] }
def FnExactExpandSaid : Prop := fnExactExpandRow.holds Tryd.pinned (OpenSpec.ofChange fnExactExpandSpec)

/-- ITS FALSE NEIGHBOUR: 'it returns false'. Refute it at one input. -/
def fnExactExpandWrong : ChangeSpec := { name := "fnExactExpand", vars := ["loop.example/g00004/impl.startWords", "loop.example/g00004/impl.stepWords"], fn := fun _ => fun
  | [d1, d2, d3, g1, g2] => { results := [.lit (.bool false)], args := [d1, d2, d3], vars := [g1, g2] }
  | _ => none }
def FnExactExpandWrongFalsely : Prop := fnExactExpandRow.holds Tryd.pinned (OpenSpec.ofChange fnExactExpandWrong)

/-- 'laws.FnExactExpandLabel': WHATEVER THE INPUT: true; the input reads as it did. -/
def fnExactExpandLabelSpec : ChangeSpec := { name := "fnExactExpandLabel", vars := ["loop.example/g00004/impl.startWords", "loop.example/g00004/impl.stepWords"], fn := fun _ => fun
  | [d1, d2, d3, d4, g1, g2] => { results := [.lit (.bool true)], args := [d1, d2, d3, d4], vars := [g1, g2] }
  | _ => none }
def fnExactExpandLabelRow : OpenClaim := { program := "ytljpjbojdekeiaadoor", sum := "d08fc5b07fbd5fa24dbba47ecd31459a804a7c86563286694402812bb29606c4", func := "loop.example/g00004/laws.FnExactExpandLabel", spec := "fnExactExpandLabel", unfollowed := true, recurses := true, named := ["loop.example/g00004/impl.startWords", "loop.example/g00004/impl.stepWords"], apart := false, laid := [("loop.example/g00004/impl.startWords", laid_loop_example_g00004_impl_startWords), ("loop.example/g00004/impl.stepWords", laid_loop_example_g00004_impl_stepWords)] }
def FnExactExpandLabelSaid : Prop := fnExactExpandLabelRow.holds Tryd.pinned (OpenSpec.ofChange fnExactExpandLabelSpec)

/-- ITS FALSE NEIGHBOUR: 'it returns false'. Refute it at one input. -/
def fnExactExpandLabelWrong : ChangeSpec := { name := "fnExactExpandLabel", vars := ["loop.example/g00004/impl.startWords", "loop.example/g00004/impl.stepWords"], fn := fun _ => fun
  | [d1, d2, d3, d4, g1, g2] => { results := [.lit (.bool false)], args := [d1, d2, d3, d4], vars := [g1, g2] }
  | _ => none }
def FnExactExpandLabelWrongFalsely : Prop := fnExactExpandLabelRow.holds Tryd.pinned (OpenSpec.ofChange fnExactExpandLabelWrong)

/-- 'laws.FnExactDerive': WHATEVER THE INPUT: true; the input reads as it did. -/
def fnExactDeriveSpec : ChangeSpec := { name := "fnExactDerive", vars := ["loop.example/g00004/impl.startWords", "loop.example/g00004/impl.stepWords"], fn := fun _ => fun
  | [d1, d2, d3, g1, g2] => { results := [.lit (.bool true)], args := [d1, d2, d3], vars := [g1, g2] }
  | _ => none }
def fnExactDeriveRow : OpenClaim := { program := "ytljpjbojdekeiaadoor", sum := "d08fc5b07fbd5fa24dbba47ecd31459a804a7c86563286694402812bb29606c4", func := "loop.example/g00004/laws.FnExactDerive", spec := "fnExactDerive", unfollowed := true, recurses := true, named := ["loop.example/g00004/impl.startWords", "loop.example/g00004/impl.stepWords"], apart := false, laid := [("loop.example/g00004/impl.startWords", laid_loop_example_g00004_impl_startWords), ("loop.example/g00004/impl.stepWords", laid_loop_example_g00004_impl_stepWords)] }
def FnExactDeriveSaid : Prop := fnExactDeriveRow.holds Tryd.pinned (OpenSpec.ofChange fnExactDeriveSpec)

/-- ITS FALSE NEIGHBOUR: 'it returns false'. Refute it at one input. -/
def fnExactDeriveWrong : ChangeSpec := { name := "fnExactDerive", vars := ["loop.example/g00004/impl.startWords", "loop.example/g00004/impl.stepWords"], fn := fun _ => fun
  | [d1, d2, d3, g1, g2] => { results := [.lit (.bool false)], args := [d1, d2, d3], vars := [g1, g2] }
  | _ => none }
def FnExactDeriveWrongFalsely : Prop := fnExactDeriveRow.holds Tryd.pinned (OpenSpec.ofChange fnExactDeriveWrong)

/- THE SECOND FORM. 'bulk': how many values and letters a reading holds, each counted each time it is reached (what is shared counts as often as it is met; a slice's spare places count too). A statement '..UptoSaid' is the law's where the arguments, and the package variables that the reading takes, are together of bulk at most 1048576: NARROWER than '..Said'. Prove '..Said' where nothing that the law and all that it calls make is longer than what came in: it says more and counts as full. Else prove '..UptoSaid'. A law counts once. -/
mutual
def uptoBulk {H : Type} : DataW H → Nat
  | .lit (.string bytes) => bytes.length + 1
  | .lit _ => 1
  | .nil => 1
  | .ptr d => uptoBulk d + 1
  | .slice elems spare => uptoBulkAll elems + uptoBulkAll spare + 1
  | .agg parts => uptoBulkAll parts + 1
  | .iface _ d => uptoBulk d + 1
  | .map entries => uptoBulkEntries entries + 1
  | .held _ => 1
def uptoBulkAll {H : Type} : List (DataW H) → Nat
  | [] => 0
  | d :: r => uptoBulk d + uptoBulkAll r
def uptoBulkEntries {H : Type} : List (Lit × DataW H) → Nat
  | [] => 0
  | x :: r => uptoBulkEntry x + uptoBulkEntries r
def uptoBulkEntry {H : Type} : Lit × DataW H → Nat
  | (.string bytes, d) => bytes.length + uptoBulk d + 1
  | (_, d) => uptoBulk d + 1
 end
def uptoSmall : (H : Type) → List (DataW H) → Bool := fun _ ds => decide (uptoBulkAll ds ≤ 1048576)
def OpenSpec.upto (s : _root_.Go.ChangeSpec) : _root_.Go.OpenSpec := { _root_.Go.OpenSpec.ofChange s with cond := some uptoSmall }

/-- 'laws.FnPadEnds', WHERE WHAT IT READS IS OF BULK AT MOST 1048576: true; the input reads as it did. -/
def fnPadEndsUptoRow : OpenClaim := { program := "ytljpjbojdekeiaadoor", sum := "d08fc5b07fbd5fa24dbba47ecd31459a804a7c86563286694402812bb29606c4", func := "loop.example/g00004/laws.FnPadEnds", spec := "fnPadEnds", named := ["loop.example/g00004/impl.startWords", "loop.example/g00004/impl.stepWords"], apart := false, laid := [("loop.example/g00004/impl.startWords", laid_loop_example_g00004_impl_startWords), ("loop.example/g00004/impl.stepWords", laid_loop_example_g00004_impl_stepWords)], narrowed := true }
def FnPadEndsUptoSaid : Prop := fnPadEndsUptoRow.holds Tryd.pinned (OpenSpec.upto fnPadEndsSpec)

/-- 'laws.FnHashPieces', WHERE WHAT IT READS IS OF BULK AT MOST 1048576: true; the input reads as it did. -/
def fnHashPiecesUptoRow : OpenClaim := { program := "ytljpjbojdekeiaadoor", sum := "d08fc5b07fbd5fa24dbba47ecd31459a804a7c86563286694402812bb29606c4", func := "loop.example/g00004/laws.FnHashPieces", spec := "fnHashPieces", named := ["loop.example/g00004/impl.startWords", "loop.example/g00004/impl.stepWords"], apart := false, laid := [("loop.example/g00004/impl.startWords", laid_loop_example_g00004_impl_startWords), ("loop.example/g00004/impl.stepWords", laid_loop_example_g00004_impl_stepWords)], narrowed := true }
def FnHashPiecesUptoSaid : Prop := fnHashPiecesUptoRow.holds Tryd.pinned (OpenSpec.upto fnHashPiecesSpec)

/-- 'laws.FnExpandBegins', WHERE WHAT IT READS IS OF BULK AT MOST 1048576: true; the input reads as it did. -/
def fnExpandBeginsUptoRow : OpenClaim := { program := "ytljpjbojdekeiaadoor", sum := "d08fc5b07fbd5fa24dbba47ecd31459a804a7c86563286694402812bb29606c4", func := "loop.example/g00004/laws.FnExpandBegins", spec := "fnExpandBegins", unfollowed := true, recurses := true, named := ["loop.example/g00004/impl.startWords", "loop.example/g00004/impl.stepWords"], apart := false, laid := [("loop.example/g00004/impl.startWords", laid_loop_example_g00004_impl_startWords), ("loop.example/g00004/impl.stepWords", laid_loop_example_g00004_impl_stepWords)], narrowed := true }
def FnExpandBeginsUptoSaid : Prop := fnExpandBeginsUptoRow.holds Tryd.pinned (OpenSpec.upto fnExpandBeginsSpec)

/-- 'laws.FnMacKeys', WHERE WHAT IT READS IS OF BULK AT MOST 1048576: true; the input reads as it did. -/
def fnMacKeysUptoRow : OpenClaim := { program := "ytljpjbojdekeiaadoor", sum := "d08fc5b07fbd5fa24dbba47ecd31459a804a7c86563286694402812bb29606c4", func := "loop.example/g00004/laws.FnMacKeys", spec := "fnMacKeys", named := ["loop.example/g00004/impl.startWords", "loop.example/g00004/impl.stepWords"], apart := false, laid := [("loop.example/g00004/impl.startWords", laid_loop_example_g00004_impl_startWords), ("loop.example/g00004/impl.stepWords", laid_loop_example_g00004_impl_stepWords)], narrowed := true }
def FnMacKeysUptoSaid : Prop := fnMacKeysUptoRow.holds Tryd.pinned (OpenSpec.upto fnMacKeysSpec)

/-- 'laws.FnExactHashMore', WHERE WHAT IT READS IS OF BULK AT MOST 1048576: true; the input reads as it did. -/
def fnExactHashMoreUptoRow : OpenClaim := { program := "ytljpjbojdekeiaadoor", sum := "d08fc5b07fbd5fa24dbba47ecd31459a804a7c86563286694402812bb29606c4", func := "loop.example/g00004/laws.FnExactHashMore", spec := "fnExactHashMore", named := ["loop.example/g00004/impl.stepWords"], apart := false, laid := [("loop.example/g00004/impl.stepWords", laid_loop_example_g00004_impl_stepWords)], narrowed := true }
def FnExactHashMoreUptoSaid : Prop := fnExactHashMoreUptoRow.holds Tryd.pinned (OpenSpec.upto fnExactHashMoreSpec)

/-- 'laws.FnExactMac', WHERE WHAT IT READS IS OF BULK AT MOST 1048576: true; the input reads as it did. -/
def fnExactMacUptoRow : OpenClaim := { program := "ytljpjbojdekeiaadoor", sum := "d08fc5b07fbd5fa24dbba47ecd31459a804a7c86563286694402812bb29606c4", func := "loop.example/g00004/laws.FnExactMac", spec := "fnExactMac", named := ["loop.example/g00004/impl.startWords", "loop.example/g00004/impl.stepWords"], apart := false, laid := [("loop.example/g00004/impl.startWords", laid_loop_example_g00004_impl_startWords), ("loop.example/g00004/impl.stepWords", laid_loop_example_g00004_impl_stepWords)], narrowed := true }
def FnExactMacUptoSaid : Prop := fnExactMacUptoRow.holds Tryd.pinned (OpenSpec.upto fnExactMacSpec)

/-- 'laws.FnExactExtract', WHERE WHAT IT READS IS OF BULK AT MOST 1048576: true; the input reads as it did. -/
def fnExactExtractUptoRow : OpenClaim := { program := "ytljpjbojdekeiaadoor", sum := "d08fc5b07fbd5fa24dbba47ecd31459a804a7c86563286694402812bb29606c4", func := "loop.example/g00004/laws.FnExactExtract", spec := "fnExactExtract", named := ["loop.example/g00004/impl.startWords", "loop.example/g00004/impl.stepWords"], apart := false, laid := [("loop.example/g00004/impl.startWords", laid_loop_example_g00004_impl_startWords), ("loop.example/g00004/impl.stepWords", laid_loop_example_g00004_impl_stepWords)], narrowed := true }
def FnExactExtractUptoSaid : Prop := fnExactExtractUptoRow.holds Tryd.pinned (OpenSpec.upto fnExactExtractSpec)

/-- 'laws.FnExactHashEnd', WHERE WHAT IT READS IS OF BULK AT MOST 1048576: true; the input reads as it did. -/
def fnExactHashEndUptoRow : OpenClaim := { program := "ytljpjbojdekeiaadoor", sum := "d08fc5b07fbd5fa24dbba47ecd31459a804a7c86563286694402812bb29606c4", func := "loop.example/g00004/laws.FnExactHashEnd", spec := "fnExactHashEnd", named := ["loop.example/g00004/impl.stepWords"], apart := false, laid := [("loop.example/g00004/impl.stepWords", laid_loop_example_g00004_impl_stepWords)], narrowed := true }
def FnExactHashEndUptoSaid : Prop := fnExactHashEndUptoRow.holds Tryd.pinned (OpenSpec.upto fnExactHashEndSpec)

/-- 'laws.FnExactExpand', WHERE WHAT IT READS IS OF BULK AT MOST 1048576: true; the input reads as it did. -/
def fnExactExpandUptoRow : OpenClaim := { program := "ytljpjbojdekeiaadoor", sum := "d08fc5b07fbd5fa24dbba47ecd31459a804a7c86563286694402812bb29606c4", func := "loop.example/g00004/laws.FnExactExpand", spec := "fnExactExpand", unfollowed := true, recurses := true, named := ["loop.example/g00004/impl.startWords", "loop.example/g00004/impl.stepWords"], apart := false, laid := [("loop.example/g00004/impl.startWords", laid_loop_example_g00004_impl_startWords), ("loop.example/g00004/impl.stepWords", laid_loop_example_g00004_impl_stepWords)], narrowed := true }
def FnExactExpandUptoSaid : Prop := fnExactExpandUptoRow.holds Tryd.pinned (OpenSpec.upto fnExactExpandSpec)

/-- 'laws.FnExactExpandLabel', WHERE WHAT IT READS IS OF BULK AT MOST 1048576: true; the input reads as it did. -/
def fnExactExpandLabelUptoRow : OpenClaim := { program := "ytljpjbojdekeiaadoor", sum := "d08fc5b07fbd5fa24dbba47ecd31459a804a7c86563286694402812bb29606c4", func := "loop.example/g00004/laws.FnExactExpandLabel", spec := "fnExactExpandLabel", unfollowed := true, recurses := true, named := ["loop.example/g00004/impl.startWords", "loop.example/g00004/impl.stepWords"], apart := false, laid := [("loop.example/g00004/impl.startWords", laid_loop_example_g00004_impl_startWords), ("loop.example/g00004/impl.stepWords", laid_loop_example_g00004_impl_stepWords)], narrowed := true }
def FnExactExpandLabelUptoSaid : Prop := fnExactExpandLabelUptoRow.holds Tryd.pinned (OpenSpec.upto fnExactExpandLabelSpec)

/-- 'laws.FnExactDerive', WHERE WHAT IT READS IS OF BULK AT MOST 1048576: true; the input reads as it did. -/
def fnExactDeriveUptoRow : OpenClaim := { program := "ytljpjbojdekeiaadoor", sum := "d08fc5b07fbd5fa24dbba47ecd31459a804a7c86563286694402812bb29606c4", func := "loop.example/g00004/laws.FnExactDerive", spec := "fnExactDerive", unfollowed := true, recurses := true, named := ["loop.example/g00004/impl.startWords", "loop.example/g00004/impl.stepWords"], apart := false, laid := [("loop.example/g00004/impl.startWords", laid_loop_example_g00004_impl_startWords), ("loop.example/g00004/impl.stepWords", laid_loop_example_g00004_impl_stepWords)], narrowed := true }
def FnExactDeriveUptoSaid : Prop := fnExactDeriveUptoRow.holds Tryd.pinned (OpenSpec.upto fnExactDeriveSpec)

end Rows
end Go.Proofs.YtljpjbojdekeiaaDoor
