/-
  NARROWER THAN 'FOR EVERY INPUT', by the rows' own cells (each row's printed sentence says how): FnSealedStream: ifaces, laid.
  DERIVED. THE GIVEN ROWS OF THIS SEAT. 1 by the template 'for every input the law returns true; each argument reads behind the call as it read before'; 0 by the template 'total and deterministic' (their statements: YtkpomobhjkikeaaGreatDoorTotals.lean).
  GIVEN WITH THE SEED: the statements are not yours to turn. If you find one false, say at which input.
  Laid BY PROGRAM, IN A SANDBOX (cutbox-rows.mjs): the forced cells as the released guide's own fill.sh prints them over the translation 3bed78be66a250e7… (all of the seat's roots in one cut). By AI agents, Wed Nov 11 2026. No macro, syntax, notation, axiom, sorry.
-/
import Derived.Test.YtkpomobhjkikeaaGreatDoorChecked
import GoSem.PinnedTables
import GoSem.Claim
import GoSem.ClaimJoined
import GoSem.ClaimMapViews
import Derived.JoinedTies
import Derived.KernelRfl
namespace Go.Proofs.YtkpomobhjkikeaaGreatDoor
/- THE CELL 'sum', in the pinned program and in every row, IS THE sha256 OF THE DUMP (.gsa) THAT YtkpomobhjkikeaaGreatDoorProg.lean LOADS. Nothing in Lean hashes anything: it is a label: what it is worth is what the hold of that sum in a sandbox is worth. -/
noncomputable def Tryz.pinned : Pinned := { name := "ytkpomobhjkikeaagreatdoor", sum := "3bed78be66a250e771b5215a8ab033b0bb519c4b7392426eb283d2a3bf7fa77e", checked := Tryz.checked }
namespace Rows
def none {H : Type} : Left H := { results := [], args := [] }

/- WHAT THE LISTED PACKAGE-LEVEL VARIABLES READ AS WHEN THE CALL BEGINS. Each datum BY PROGRAM (the guide's laid-datum.mjs) off the statement by which the dump's own 'gosem.cut.vars' lays the variable. In a bare row this is a premise. The card (YtkpomobhjkikeaaGreatDoorCards.lean) ties it to the program's text. -/
def laid_unicode_utf8_acceptRanges {H : Type} : DataW H := .agg [.agg [.lit (.int .u8 128), .lit (.int .u8 191)], .agg [.lit (.int .u8 160), .lit (.int .u8 191)], .agg [.lit (.int .u8 128), .lit (.int .u8 159)], .agg [.lit (.int .u8 144), .lit (.int .u8 191)], .agg [.lit (.int .u8 128), .lit (.int .u8 143)], .agg [.lit (.int .u8 0), .lit (.int .u8 0)], .agg [.lit (.int .u8 0), .lit (.int .u8 0)], .agg [.lit (.int .u8 0), .lit (.int .u8 0)], .agg [.lit (.int .u8 0), .lit (.int .u8 0)], .agg [.lit (.int .u8 0), .lit (.int .u8 0)], .agg [.lit (.int .u8 0), .lit (.int .u8 0)], .agg [.lit (.int .u8 0), .lit (.int .u8 0)], .agg [.lit (.int .u8 0), .lit (.int .u8 0)], .agg [.lit (.int .u8 0), .lit (.int .u8 0)], .agg [.lit (.int .u8 0), .lit (.int .u8 0)], .agg [.lit (.int .u8 0), .lit (.int .u8 0)]]
def laid_loop_example_g00004_impl_errNotWhole {H : Type} : DataW H := .iface "*errors.errorString" (.ptr (.agg [.lit (.string [116, 104, 101, 32, 114, 101, 99, 111, 114, 100, 32, 105, 115, 32, 110, 111, 116, 32, 119, 104, 111, 108, 101, 32, 121, 101, 116])]))
def laid_loop_example_g00004_impl_errNoKind {H : Type} : DataW H := .iface "*errors.errorString" (.ptr (.agg [.lit (.string [116, 104, 101, 32, 107, 105, 110, 100, 32, 105, 115, 32, 110, 111, 110, 101, 32, 111, 102, 32, 97, 32, 114, 101, 99, 111, 114, 100])]))
def laid_loop_example_g00004_impl_errWrongSize {H : Type} : DataW H := .iface "*errors.errorString" (.ptr (.agg [.lit (.string [116, 104, 101, 32, 98, 111, 100, 121, 32, 104, 97, 115, 32, 97, 32, 108, 101, 110, 103, 116, 104, 32, 116, 104, 97, 116, 32, 110, 111, 32, 114, 101, 99, 111, 114, 100, 32, 104, 97, 115])]))
def laid_loop_example_g00004_impl_errWrongKeys {H : Type} : DataW H := .iface "*errors.errorString" (.ptr (.agg [.lit (.string [110, 111, 116, 104, 105, 110, 103, 32, 105, 115, 32, 115, 101, 97, 108, 101, 100, 32, 119, 105, 116, 104, 32, 116, 104, 101, 115, 101, 32, 107, 101, 121, 115, 32, 111, 114, 32, 116, 104, 105, 115, 32, 110, 117, 109, 98, 101, 114])]))
def laid_loop_example_g00004_impl_errNotOpened {H : Type} : DataW H := .iface "*errors.errorString" (.ptr (.agg [.lit (.string [116, 104, 101, 32, 98, 111, 100, 121, 32, 100, 111, 101, 115, 32, 110, 111, 116, 32, 111, 112, 101, 110])]))
def laid_loop_example_g00004_impl_errAllPad {H : Type} : DataW H := .iface "*errors.errorString" (.ptr (.agg [.lit (.string [116, 104, 101, 114, 101, 32, 105, 115, 32, 110, 111, 116, 104, 105, 110, 103, 32, 98, 117, 116, 32, 112, 97, 100, 100, 105, 110, 103, 32, 105, 110, 115, 105, 100, 101])]))
def laid_loop_example_g00004_impl_errMuchData {H : Type} : DataW H := .iface "*errors.errorString" (.ptr (.agg [.lit (.string [116, 104, 101, 114, 101, 32, 97, 114, 101, 32, 109, 111, 114, 101, 32, 100, 97, 116, 97, 32, 116, 104, 97, 110, 32, 97, 32, 114, 101, 99, 111, 114, 100, 32, 109, 97, 121, 32, 104, 97, 118, 101])]))
def laid_loop_example_g00004_impl_errNoData {H : Type} : DataW H := .iface "*errors.errorString" (.ptr (.agg [.lit (.string [116, 104, 101, 114, 101, 32, 97, 114, 101, 32, 110, 111, 32, 100, 97, 116, 97, 44, 32, 97, 110, 100, 32, 116, 104, 101, 32, 107, 105, 110, 100, 32, 110, 101, 101, 100, 115, 32, 115, 111, 109, 101])]))
/-- One of Go's own tables, pinned by name: the form's constant. -/
def laid_unicode_utf8_first : DataW Unit := Go.Pinned.utf8First

/-- 'laws.FnSealedStream': WHATEVER THE INPUT: true; the input reads as it did. -/
def fnSealedStreamSpec : ChangeSpec := { name := "fnSealedStream", vars := ["loop.example/g00004/impl.errNoKind", "loop.example/g00004/impl.errMuchData", "loop.example/g00004/impl.errNoData", "loop.example/g00004/impl.errWrongKeys", "loop.example/g00004/impl.errWrongSize", "loop.example/g00004/impl.errNotWhole", "loop.example/g00004/impl.errNotOpened", "loop.example/g00004/impl.errAllPad"], fn := fun _ => fun
  | [d1, d2, g1, g2, g3, g4, g5, g6, g7, g8] => { results := [.lit (.bool true)], args := [d1, d2], vars := [g1, g2, g3, g4, g5, g6, g7, g8] }
  | _ => none }
def fnSealedStreamRow : OpenClaim := { program := "ytkpomobhjkikeaagreatdoor", sum := "3bed78be66a250e771b5215a8ab033b0bb519c4b7392426eb283d2a3bf7fa77e", func := "loop.example/g00004/laws.FnSealedStream", spec := "fnSealedStream", inPlace := ["math/bits.Add64", "internal/reflectlite.TypeOf"], unfollowed := true, recurses := true, named := ["loop.example/g00004/impl.errNoKind", "loop.example/g00004/impl.errMuchData", "loop.example/g00004/impl.errNoData", "loop.example/g00004/impl.errWrongKeys", "loop.example/g00004/impl.errWrongSize", "loop.example/g00004/impl.errNotWhole", "loop.example/g00004/impl.errNotOpened", "loop.example/g00004/impl.errAllPad", "unicode/utf8.first", "unicode/utf8.acceptRanges"], ifaces := true, apart := false, laid := [("unicode/utf8.acceptRanges", laid_unicode_utf8_acceptRanges), ("loop.example/g00004/impl.errNotWhole", laid_loop_example_g00004_impl_errNotWhole), ("loop.example/g00004/impl.errNoKind", laid_loop_example_g00004_impl_errNoKind), ("loop.example/g00004/impl.errWrongSize", laid_loop_example_g00004_impl_errWrongSize), ("loop.example/g00004/impl.errWrongKeys", laid_loop_example_g00004_impl_errWrongKeys), ("loop.example/g00004/impl.errNotOpened", laid_loop_example_g00004_impl_errNotOpened), ("loop.example/g00004/impl.errAllPad", laid_loop_example_g00004_impl_errAllPad), ("loop.example/g00004/impl.errMuchData", laid_loop_example_g00004_impl_errMuchData), ("loop.example/g00004/impl.errNoData", laid_loop_example_g00004_impl_errNoData), ("unicode/utf8.first", laid_unicode_utf8_first)] }
def FnSealedStreamSaid : Prop := fnSealedStreamRow.holds Tryz.pinned (OpenSpec.ofChange fnSealedStreamSpec)

/-- ITS FALSE NEIGHBOUR: 'it returns false'. Refute it at one input. -/
def fnSealedStreamWrong : ChangeSpec := { name := "fnSealedStream", vars := ["loop.example/g00004/impl.errNoKind", "loop.example/g00004/impl.errMuchData", "loop.example/g00004/impl.errNoData", "loop.example/g00004/impl.errWrongKeys", "loop.example/g00004/impl.errWrongSize", "loop.example/g00004/impl.errNotWhole", "loop.example/g00004/impl.errNotOpened", "loop.example/g00004/impl.errAllPad"], fn := fun _ => fun
  | [d1, d2, g1, g2, g3, g4, g5, g6, g7, g8] => { results := [.lit (.bool false)], args := [d1, d2], vars := [g1, g2, g3, g4, g5, g6, g7, g8] }
  | _ => none }
def FnSealedStreamWrongFalsely : Prop := fnSealedStreamRow.holds Tryz.pinned (OpenSpec.ofChange fnSealedStreamWrong)

/- THE SECOND FORM. 'bulk': how many values and letters a reading holds, each counted each time it is reached (what is shared counts as often as it is met; a slice's spare places count too). A statement '..UptoSaid' is the law's where the arguments, and the package variables that the reading takes, are together of bulk at most 1048576: NARROWER than '..Said'. Prove '..Said' where nothing that the law and all that it calls make is longer than what came in: it says more and counts as full. Else prove '..UptoSaid'. A law counts once. -/
mutual
def uptoBulk {H : Type} : DataW H → Nat
  | .lit (.string bytes) => bytes.length + 1
  | .lit _ => 1
  | .nil => 1
  | .ptr d => uptoBulk d + 1
  | .slice elems spare => uptoBulkAll elems + uptoBulkAll spare + 1
  | .agg parts => uptoBulkAll parts + 1
  | .iface _ d => uptoBulk d + 1
  | .map entries => uptoBulkEntries entries + 1
  | .held _ => 1
def uptoBulkAll {H : Type} : List (DataW H) → Nat
  | [] => 0
  | d :: r => uptoBulk d + uptoBulkAll r
def uptoBulkEntries {H : Type} : List (Lit × DataW H) → Nat
  | [] => 0
  | x :: r => uptoBulkEntry x + uptoBulkEntries r
def uptoBulkEntry {H : Type} : Lit × DataW H → Nat
  | (.string bytes, d) => bytes.length + uptoBulk d + 1
  | (_, d) => uptoBulk d + 1
 end
def uptoSmall : (H : Type) → List (DataW H) → Bool := fun _ ds => decide (uptoBulkAll ds ≤ 1048576)
def OpenSpec.upto (s : _root_.Go.ChangeSpec) : _root_.Go.OpenSpec := { _root_.Go.OpenSpec.ofChange s with cond := some uptoSmall }

/-- 'laws.FnSealedStream', WHERE WHAT IT READS IS OF BULK AT MOST 1048576: true; the input reads as it did. -/
def fnSealedStreamUptoRow : OpenClaim := { program := "ytkpomobhjkikeaagreatdoor", sum := "3bed78be66a250e771b5215a8ab033b0bb519c4b7392426eb283d2a3bf7fa77e", func := "loop.example/g00004/laws.FnSealedStream", spec := "fnSealedStream", inPlace := ["math/bits.Add64", "internal/reflectlite.TypeOf"], unfollowed := true, recurses := true, named := ["loop.example/g00004/impl.errNoKind", "loop.example/g00004/impl.errMuchData", "loop.example/g00004/impl.errNoData", "loop.example/g00004/impl.errWrongKeys", "loop.example/g00004/impl.errWrongSize", "loop.example/g00004/impl.errNotWhole", "loop.example/g00004/impl.errNotOpened", "loop.example/g00004/impl.errAllPad", "unicode/utf8.first", "unicode/utf8.acceptRanges"], ifaces := true, apart := false, laid := [("unicode/utf8.acceptRanges", laid_unicode_utf8_acceptRanges), ("loop.example/g00004/impl.errNotWhole", laid_loop_example_g00004_impl_errNotWhole), ("loop.example/g00004/impl.errNoKind", laid_loop_example_g00004_impl_errNoKind), ("loop.example/g00004/impl.errWrongSize", laid_loop_example_g00004_impl_errWrongSize), ("loop.example/g00004/impl.errWrongKeys", laid_loop_example_g00004_impl_errWrongKeys), ("loop.example/g00004/impl.errNotOpened", laid_loop_example_g00004_impl_errNotOpened), ("loop.example/g00004/impl.errAllPad", laid_loop_example_g00004_impl_errAllPad), ("loop.example/g00004/impl.errMuchData", laid_loop_example_g00004_impl_errMuchData), ("loop.example/g00004/impl.errNoData", laid_loop_example_g00004_impl_errNoData), ("unicode/utf8.first", laid_unicode_utf8_first)], narrowed := true }
def FnSealedStreamUptoSaid : Prop := fnSealedStreamUptoRow.holds Tryz.pinned (OpenSpec.upto fnSealedStreamSpec)

end Rows
end Go.Proofs.YtkpomobhjkikeaaGreatDoor
