/-
  No cell of these rows narrows 'for every input' (looked for: loops, veiled, ifaces, maps, wideKeys, modest, calm, conditions, laid).
  DERIVED. THE GIVEN ROWS OF THIS SEAT. 10 by the template 'for every input the law returns true; each argument reads behind the call as it read before'; 0 by the template 'total and deterministic' (their statements: YtheggghidhjplaaTotals.lean).
  GIVEN WITH THE SEED: the statements are not yours to turn. If you find one false, say at which input.
  Laid BY PROGRAM, IN A SANDBOX (cutbox-rows.mjs): the forced cells as the released guide's own fill.sh prints them over the translation df64bb6450236944… (all of the seat's roots in one cut). By AI agents, Wed Nov 11 2026. No macro, syntax, notation, axiom, sorry.
-/
import Derived.Test.YtheggghidhjplaaChecked
import GoSem.Claim
import GoSem.ClaimJoined
import GoSem.ClaimMapViews
import Derived.JoinedTies
import Derived.KernelRfl
namespace Go.Proofs.Ytheggghidhjplaa
/- THE CELL 'sum', in the pinned program and in every row, IS THE sha256 OF THE DUMP (.gsa) THAT YtheggghidhjplaaProg.lean LOADS. Nothing in Lean hashes anything: it is a label: what it is worth is what the hold of that sum in a sandbox is worth. -/
noncomputable def Try.pinned : Pinned := { name := "ytheggghidhjplaa", sum := "df64bb6450236944ac3f20ba010b95979d30e1723e5caa14f0c1dd69e4840daf", checked := Try.checked }
namespace Rows
def none {H : Type} : Left H := { results := [], args := [] }

/-- 'laws.FnExactNameInside': WHATEVER THE INPUT: true; the input reads as it did. -/
def fnExactNameInsideSpec : ChangeSpec := { name := "fnExactNameInside", fn := fun _ => fun
  | [d1, d2] => { results := [.lit (.bool true)], args := [d1, d2] }
  | _ => none }
def fnExactNameInsideRow : OpenClaim := { program := "ytheggghidhjplaa", sum := "df64bb6450236944ac3f20ba010b95979d30e1723e5caa14f0c1dd69e4840daf", func := "loop.example/g00004/laws.FnExactNameInside", spec := "fnExactNameInside", apart := false }
def FnExactNameInsideSaid : Prop := fnExactNameInsideRow.holds Try.pinned (OpenSpec.ofChange fnExactNameInsideSpec)

/-- ITS FALSE NEIGHBOUR: 'it returns false'. Refute it at one input. -/
def fnExactNameInsideWrong : ChangeSpec := { name := "fnExactNameInside", fn := fun _ => fun
  | [d1, d2] => { results := [.lit (.bool false)], args := [d1, d2] }
  | _ => none }
def FnExactNameInsideWrongFalsely : Prop := fnExactNameInsideRow.holds Try.pinned (OpenSpec.ofChange fnExactNameInsideWrong)

/-- 'laws.FnExactNameMatches': WHATEVER THE INPUT: true; the input reads as it did. -/
def fnExactNameMatchesSpec : ChangeSpec := { name := "fnExactNameMatches", fn := fun _ => fun
  | [d1, d2] => { results := [.lit (.bool true)], args := [d1, d2] }
  | _ => none }
def fnExactNameMatchesRow : OpenClaim := { program := "ytheggghidhjplaa", sum := "df64bb6450236944ac3f20ba010b95979d30e1723e5caa14f0c1dd69e4840daf", func := "loop.example/g00004/laws.FnExactNameMatches", spec := "fnExactNameMatches", inPlace := ["internal/bytealg.IndexByteString", "internal/bytealg.IndexString"], named := ["internal/bytealg.MaxLen"], apart := false }
def FnExactNameMatchesSaid : Prop := fnExactNameMatchesRow.holds Try.pinned (OpenSpec.ofChange fnExactNameMatchesSpec)

/-- ITS FALSE NEIGHBOUR: 'it returns false'. Refute it at one input. -/
def fnExactNameMatchesWrong : ChangeSpec := { name := "fnExactNameMatches", fn := fun _ => fun
  | [d1, d2] => { results := [.lit (.bool false)], args := [d1, d2] }
  | _ => none }
def FnExactNameMatchesWrongFalsely : Prop := fnExactNameMatchesRow.holds Try.pinned (OpenSpec.ofChange fnExactNameMatchesWrong)

/-- 'laws.FnNamesInside': WHATEVER THE INPUT: true; the input reads as it did. -/
def fnNamesInsideSpec : ChangeSpec := { name := "fnNamesInside", fn := fun _ => fun
  | [d1, d2] => { results := [.lit (.bool true)], args := [d1, d2] }
  | _ => none }
def fnNamesInsideRow : OpenClaim := { program := "ytheggghidhjplaa", sum := "df64bb6450236944ac3f20ba010b95979d30e1723e5caa14f0c1dd69e4840daf", func := "loop.example/g00004/laws.FnNamesInside", spec := "fnNamesInside", inPlace := ["internal/bytealg.IndexByteString", "internal/bytealg.IndexString"], named := ["internal/bytealg.MaxLen"], apart := false }
def FnNamesInsideSaid : Prop := fnNamesInsideRow.holds Try.pinned (OpenSpec.ofChange fnNamesInsideSpec)

/-- ITS FALSE NEIGHBOUR: 'it returns false'. Refute it at one input. -/
def fnNamesInsideWrong : ChangeSpec := { name := "fnNamesInside", fn := fun _ => fun
  | [d1, d2] => { results := [.lit (.bool false)], args := [d1, d2] }
  | _ => none }
def FnNamesInsideWrongFalsely : Prop := fnNamesInsideRow.holds Try.pinned (OpenSpec.ofChange fnNamesInsideWrong)

/-- 'laws.FnExactPatternOutside': WHATEVER THE INPUT: true; the input reads as it did. -/
def fnExactPatternOutsideSpec : ChangeSpec := { name := "fnExactPatternOutside", fn := fun _ => fun
  | [d1, d2, d3] => { results := [.lit (.bool true)], args := [d1, d2, d3] }
  | _ => none }
def fnExactPatternOutsideRow : OpenClaim := { program := "ytheggghidhjplaa", sum := "df64bb6450236944ac3f20ba010b95979d30e1723e5caa14f0c1dd69e4840daf", func := "loop.example/g00004/laws.FnExactPatternOutside", spec := "fnExactPatternOutside", inPlace := ["internal/bytealg.IndexByteString", "internal/bytealg.IndexString"], unfollowed := true, recurses := true, named := ["internal/bytealg.MaxLen"], apart := false }
def FnExactPatternOutsideSaid : Prop := fnExactPatternOutsideRow.holds Try.pinned (OpenSpec.ofChange fnExactPatternOutsideSpec)

/-- ITS FALSE NEIGHBOUR: 'it returns false'. Refute it at one input. -/
def fnExactPatternOutsideWrong : ChangeSpec := { name := "fnExactPatternOutside", fn := fun _ => fun
  | [d1, d2, d3] => { results := [.lit (.bool false)], args := [d1, d2, d3] }
  | _ => none }
def FnExactPatternOutsideWrongFalsely : Prop := fnExactPatternOutsideRow.holds Try.pinned (OpenSpec.ofChange fnExactPatternOutsideWrong)

/-- 'laws.FnExactDecodeItems': WHATEVER THE INPUT: true; the input reads as it did. -/
def fnExactDecodeItemsSpec : ChangeSpec := { name := "fnExactDecodeItems", fn := fun _ => fun
  | [d] => { results := [.lit (.bool true)], args := [d] }
  | _ => none }
def fnExactDecodeItemsRow : OpenClaim := { program := "ytheggghidhjplaa", sum := "df64bb6450236944ac3f20ba010b95979d30e1723e5caa14f0c1dd69e4840daf", func := "loop.example/g00004/laws.FnExactDecodeItems", spec := "fnExactDecodeItems", unfollowed := true, recurses := true, apart := false }
def FnExactDecodeItemsSaid : Prop := fnExactDecodeItemsRow.holds Try.pinned (OpenSpec.ofChange fnExactDecodeItemsSpec)

/-- ITS FALSE NEIGHBOUR: 'it returns false'. Refute it at one input. -/
def fnExactDecodeItemsWrong : ChangeSpec := { name := "fnExactDecodeItems", fn := fun _ => fun
  | [d] => { results := [.lit (.bool false)], args := [d] }
  | _ => none }
def FnExactDecodeItemsWrongFalsely : Prop := fnExactDecodeItemsRow.holds Try.pinned (OpenSpec.ofChange fnExactDecodeItemsWrong)

/-- 'laws.FnItemsBack': WHATEVER THE INPUT: true; the input reads as it did. -/
def fnItemsBackSpec : ChangeSpec := { name := "fnItemsBack", fn := fun _ => fun
  | [d1, d2] => { results := [.lit (.bool true)], args := [d1, d2] }
  | _ => none }
def fnItemsBackRow : OpenClaim := { program := "ytheggghidhjplaa", sum := "df64bb6450236944ac3f20ba010b95979d30e1723e5caa14f0c1dd69e4840daf", func := "loop.example/g00004/laws.FnItemsBack", spec := "fnItemsBack", unfollowed := true, recurses := true, apart := false }
def FnItemsBackSaid : Prop := fnItemsBackRow.holds Try.pinned (OpenSpec.ofChange fnItemsBackSpec)

/-- ITS FALSE NEIGHBOUR: 'it returns false'. Refute it at one input. -/
def fnItemsBackWrong : ChangeSpec := { name := "fnItemsBack", fn := fun _ => fun
  | [d1, d2] => { results := [.lit (.bool false)], args := [d1, d2] }
  | _ => none }
def FnItemsBackWrongFalsely : Prop := fnItemsBackRow.holds Try.pinned (OpenSpec.ofChange fnItemsBackWrong)

/-- 'laws.FnAreasHold': WHATEVER THE INPUT: true; the input reads as it did. -/
def fnAreasHoldSpec : ChangeSpec := { name := "fnAreasHold", fn := fun _ => fun
  | [d1, d2] => { results := [.lit (.bool true)], args := [d1, d2] }
  | _ => none }
def fnAreasHoldRow : OpenClaim := { program := "ytheggghidhjplaa", sum := "df64bb6450236944ac3f20ba010b95979d30e1723e5caa14f0c1dd69e4840daf", func := "loop.example/g00004/laws.FnAreasHold", spec := "fnAreasHold", inPlace := ["internal/bytealg.IndexByteString", "internal/bytealg.IndexString"], unfollowed := true, recurses := true, named := ["internal/bytealg.MaxLen"], apart := false }
def FnAreasHoldSaid : Prop := fnAreasHoldRow.holds Try.pinned (OpenSpec.ofChange fnAreasHoldSpec)

/-- ITS FALSE NEIGHBOUR: 'it returns false'. Refute it at one input. -/
def fnAreasHoldWrong : ChangeSpec := { name := "fnAreasHold", fn := fun _ => fun
  | [d1, d2] => { results := [.lit (.bool false)], args := [d1, d2] }
  | _ => none }
def FnAreasHoldWrongFalsely : Prop := fnAreasHoldRow.holds Try.pinned (OpenSpec.ofChange fnAreasHoldWrong)

/-- 'laws.FnExactCertFault': WHATEVER THE INPUT: true; the input reads as it did. -/
def fnExactCertFaultSpec : ChangeSpec := { name := "fnExactCertFault", fn := fun _ => fun
  | [d] => { results := [.lit (.bool true)], args := [d] }
  | _ => none }
def fnExactCertFaultRow : OpenClaim := { program := "ytheggghidhjplaa", sum := "df64bb6450236944ac3f20ba010b95979d30e1723e5caa14f0c1dd69e4840daf", func := "loop.example/g00004/laws.FnExactCertFault", spec := "fnExactCertFault", inPlace := ["internal/bytealg.IndexByteString"], unfollowed := true, recurses := true, apart := false }
def FnExactCertFaultSaid : Prop := fnExactCertFaultRow.holds Try.pinned (OpenSpec.ofChange fnExactCertFaultSpec)

/-- ITS FALSE NEIGHBOUR: 'it returns false'. Refute it at one input. -/
def fnExactCertFaultWrong : ChangeSpec := { name := "fnExactCertFault", fn := fun _ => fun
  | [d] => { results := [.lit (.bool false)], args := [d] }
  | _ => none }
def FnExactCertFaultWrongFalsely : Prop := fnExactCertFaultRow.holds Try.pinned (OpenSpec.ofChange fnExactCertFaultWrong)

/-- 'laws.FnExactCertBody': WHATEVER THE INPUT: true; the input reads as it did. -/
def fnExactCertBodySpec : ChangeSpec := { name := "fnExactCertBody", fn := fun _ => fun
  | [d] => { results := [.lit (.bool true)], args := [d] }
  | _ => none }
def fnExactCertBodyRow : OpenClaim := { program := "ytheggghidhjplaa", sum := "df64bb6450236944ac3f20ba010b95979d30e1723e5caa14f0c1dd69e4840daf", func := "loop.example/g00004/laws.FnExactCertBody", spec := "fnExactCertBody", inPlace := ["internal/bytealg.IndexByteString"], unfollowed := true, recurses := true, apart := false }
def FnExactCertBodySaid : Prop := fnExactCertBodyRow.holds Try.pinned (OpenSpec.ofChange fnExactCertBodySpec)

/-- ITS FALSE NEIGHBOUR: 'it returns false'. Refute it at one input. -/
def fnExactCertBodyWrong : ChangeSpec := { name := "fnExactCertBody", fn := fun _ => fun
  | [d] => { results := [.lit (.bool false)], args := [d] }
  | _ => none }
def FnExactCertBodyWrongFalsely : Prop := fnExactCertBodyRow.holds Try.pinned (OpenSpec.ofChange fnExactCertBodyWrong)

/-- 'laws.FnExactEncodeCert': WHATEVER THE INPUT: true; the input reads as it did. -/
def fnExactEncodeCertSpec : ChangeSpec := { name := "fnExactEncodeCert", fn := fun _ => fun
  | [d] => { results := [.lit (.bool true)], args := [d] }
  | _ => none }
def fnExactEncodeCertRow : OpenClaim := { program := "ytheggghidhjplaa", sum := "df64bb6450236944ac3f20ba010b95979d30e1723e5caa14f0c1dd69e4840daf", func := "loop.example/g00004/laws.FnExactEncodeCert", spec := "fnExactEncodeCert", inPlace := ["internal/bytealg.IndexByteString"], unfollowed := true, recurses := true, apart := false }
def FnExactEncodeCertSaid : Prop := fnExactEncodeCertRow.holds Try.pinned (OpenSpec.ofChange fnExactEncodeCertSpec)

/-- ITS FALSE NEIGHBOUR: 'it returns false'. Refute it at one input. -/
def fnExactEncodeCertWrong : ChangeSpec := { name := "fnExactEncodeCert", fn := fun _ => fun
  | [d] => { results := [.lit (.bool false)], args := [d] }
  | _ => none }
def FnExactEncodeCertWrongFalsely : Prop := fnExactEncodeCertRow.holds Try.pinned (OpenSpec.ofChange fnExactEncodeCertWrong)

/- THE SECOND FORM. 'bulk': how many values and letters a reading holds, each counted each time it is reached (what is shared counts as often as it is met; a slice's spare places count too). A statement '..UptoSaid' is the law's where the arguments, and the package variables that the reading takes, are together of bulk at most 1048576: NARROWER than '..Said'. Prove '..Said' where nothing that the law and all that it calls make is longer than what came in: it says more and counts as full. Else prove '..UptoSaid'. A law counts once. -/
mutual
def uptoBulk {H : Type} : DataW H → Nat
  | .lit (.string bytes) => bytes.length + 1
  | .lit _ => 1
  | .nil => 1
  | .ptr d => uptoBulk d + 1
  | .slice elems spare => uptoBulkAll elems + uptoBulkAll spare + 1
  | .agg parts => uptoBulkAll parts + 1
  | .iface _ d => uptoBulk d + 1
  | .map entries => uptoBulkEntries entries + 1
  | .held _ => 1
def uptoBulkAll {H : Type} : List (DataW H) → Nat
  | [] => 0
  | d :: r => uptoBulk d + uptoBulkAll r
def uptoBulkEntries {H : Type} : List (Lit × DataW H) → Nat
  | [] => 0
  | x :: r => uptoBulkEntry x + uptoBulkEntries r
def uptoBulkEntry {H : Type} : Lit × DataW H → Nat
  | (.string bytes, d) => bytes.length + uptoBulk d + 1
  | (_, d) => uptoBulk d + 1
 end
def uptoSmall : (H : Type) → List (DataW H) → Bool := fun _ ds => decide (uptoBulkAll ds ≤ 1048576)
def OpenSpec.upto (s : _root_.Go.ChangeSpec) : _root_.Go.OpenSpec := { _root_.Go.OpenSpec.ofChange s with cond := some uptoSmall }

/-- 'laws.FnExactNameInside', WHERE WHAT IT READS IS OF BULK AT MOST 1048576: true; the input reads as it did. -/
def fnExactNameInsideUptoRow : OpenClaim := { program := "ytheggghidhjplaa", sum := "df64bb6450236944ac3f20ba010b95979d30e1723e5caa14f0c1dd69e4840daf", func := "loop.example/g00004/laws.FnExactNameInside", spec := "fnExactNameInside", apart := false, narrowed := true }
def FnExactNameInsideUptoSaid : Prop := fnExactNameInsideUptoRow.holds Try.pinned (OpenSpec.upto fnExactNameInsideSpec)

/-- 'laws.FnExactNameMatches', WHERE WHAT IT READS IS OF BULK AT MOST 1048576: true; the input reads as it did. -/
def fnExactNameMatchesUptoRow : OpenClaim := { program := "ytheggghidhjplaa", sum := "df64bb6450236944ac3f20ba010b95979d30e1723e5caa14f0c1dd69e4840daf", func := "loop.example/g00004/laws.FnExactNameMatches", spec := "fnExactNameMatches", inPlace := ["internal/bytealg.IndexByteString", "internal/bytealg.IndexString"], named := ["internal/bytealg.MaxLen"], apart := false, narrowed := true }
def FnExactNameMatchesUptoSaid : Prop := fnExactNameMatchesUptoRow.holds Try.pinned (OpenSpec.upto fnExactNameMatchesSpec)

/-- 'laws.FnNamesInside', WHERE WHAT IT READS IS OF BULK AT MOST 1048576: true; the input reads as it did. -/
def fnNamesInsideUptoRow : OpenClaim := { program := "ytheggghidhjplaa", sum := "df64bb6450236944ac3f20ba010b95979d30e1723e5caa14f0c1dd69e4840daf", func := "loop.example/g00004/laws.FnNamesInside", spec := "fnNamesInside", inPlace := ["internal/bytealg.IndexByteString", "internal/bytealg.IndexString"], named := ["internal/bytealg.MaxLen"], apart := false, narrowed := true }
def FnNamesInsideUptoSaid : Prop := fnNamesInsideUptoRow.holds Try.pinned (OpenSpec.upto fnNamesInsideSpec)

/-- 'laws.FnExactPatternOutside', WHERE WHAT IT READS IS OF BULK AT MOST 1048576: true; the input reads as it did. -/
def fnExactPatternOutsideUptoRow : OpenClaim := { program := "ytheggghidhjplaa", sum := "df64bb6450236944ac3f20ba010b95979d30e1723e5caa14f0c1dd69e4840daf", func := "loop.example/g00004/laws.FnExactPatternOutside", spec := "fnExactPatternOutside", inPlace := ["internal/bytealg.IndexByteString", "internal/bytealg.IndexString"], unfollowed := true, recurses := true, named := ["internal/bytealg.MaxLen"], apart := false, narrowed := true }
def FnExactPatternOutsideUptoSaid : Prop := fnExactPatternOutsideUptoRow.holds Try.pinned (OpenSpec.upto fnExactPatternOutsideSpec)

/-- 'laws.FnExactDecodeItems', WHERE WHAT IT READS IS OF BULK AT MOST 1048576: true; the input reads as it did. -/
def fnExactDecodeItemsUptoRow : OpenClaim := { program := "ytheggghidhjplaa", sum := "df64bb6450236944ac3f20ba010b95979d30e1723e5caa14f0c1dd69e4840daf", func := "loop.example/g00004/laws.FnExactDecodeItems", spec := "fnExactDecodeItems", unfollowed := true, recurses := true, apart := false, narrowed := true }
def FnExactDecodeItemsUptoSaid : Prop := fnExactDecodeItemsUptoRow.holds Try.pinned (OpenSpec.upto fnExactDecodeItemsSpec)

/-- 'laws.FnItemsBack', WHERE WHAT IT READS IS OF BULK AT MOST 1048576: true; the input reads as it did. -/
def fnItemsBackUptoRow : OpenClaim := { program := "ytheggghidhjplaa", sum := "df64bb6450236944ac3f20ba010b95979d30e1723e5caa14f0c1dd69e4840daf", func := "loop.example/g00004/laws.FnItemsBack", spec := "fnItemsBack", unfollowed := true, recurses := true, apart := false, narrowed := true }
def FnItemsBackUptoSaid : Prop := fnItemsBackUptoRow.holds Try.pinned (OpenSpec.upto fnItemsBackSpec)

/-- 'laws.FnAreasHold', WHERE WHAT IT READS IS OF BULK AT MOST 1048576: true; the input reads as it did. -/
def fnAreasHoldUptoRow : OpenClaim := { program := "ytheggghidhjplaa", sum := "df64bb6450236944ac3f20ba010b95979d30e1723e5caa14f0c1dd69e4840daf", func := "loop.example/g00004/laws.FnAreasHold", spec := "fnAreasHold", inPlace := ["internal/bytealg.IndexByteString", "internal/bytealg.IndexString"], unfollowed := true, recurses := true, named := ["internal/bytealg.MaxLen"], apart := false, narrowed := true }
def FnAreasHoldUptoSaid : Prop := fnAreasHoldUptoRow.holds Try.pinned (OpenSpec.upto fnAreasHoldSpec)

/-- 'laws.FnExactCertFault', WHERE WHAT IT READS IS OF BULK AT MOST 1048576: true; the input reads as it did. -/
def fnExactCertFaultUptoRow : OpenClaim := { program := "ytheggghidhjplaa", sum := "df64bb6450236944ac3f20ba010b95979d30e1723e5caa14f0c1dd69e4840daf", func := "loop.example/g00004/laws.FnExactCertFault", spec := "fnExactCertFault", inPlace := ["internal/bytealg.IndexByteString"], unfollowed := true, recurses := true, apart := false, narrowed := true }
def FnExactCertFaultUptoSaid : Prop := fnExactCertFaultUptoRow.holds Try.pinned (OpenSpec.upto fnExactCertFaultSpec)

/-- 'laws.FnExactCertBody', WHERE WHAT IT READS IS OF BULK AT MOST 1048576: true; the input reads as it did. -/
def fnExactCertBodyUptoRow : OpenClaim := { program := "ytheggghidhjplaa", sum := "df64bb6450236944ac3f20ba010b95979d30e1723e5caa14f0c1dd69e4840daf", func := "loop.example/g00004/laws.FnExactCertBody", spec := "fnExactCertBody", inPlace := ["internal/bytealg.IndexByteString"], unfollowed := true, recurses := true, apart := false, narrowed := true }
def FnExactCertBodyUptoSaid : Prop := fnExactCertBodyUptoRow.holds Try.pinned (OpenSpec.upto fnExactCertBodySpec)

/-- 'laws.FnExactEncodeCert', WHERE WHAT IT READS IS OF BULK AT MOST 1048576: true; the input reads as it did. -/
def fnExactEncodeCertUptoRow : OpenClaim := { program := "ytheggghidhjplaa", sum := "df64bb6450236944ac3f20ba010b95979d30e1723e5caa14f0c1dd69e4840daf", func := "loop.example/g00004/laws.FnExactEncodeCert", spec := "fnExactEncodeCert", inPlace := ["internal/bytealg.IndexByteString"], unfollowed := true, recurses := true, apart := false, narrowed := true }
def FnExactEncodeCertUptoSaid : Prop := fnExactEncodeCertUptoRow.holds Try.pinned (OpenSpec.upto fnExactEncodeCertSpec)

end Rows
end Go.Proofs.Ytheggghidhjplaa
