/-
  No cell of these rows narrows 'for every input' (looked for: loops, veiled, ifaces, maps, wideKeys, modest, calm, conditions, laid).
  DERIVED. THE GIVEN ROWS OF THIS SEAT. 4 by the template 'for every input the law returns true; each argument reads behind the call as it read before'; 0 by the template 'total and deterministic' (their statements: YtgecfmagpliepaaTotals.lean).
  GIVEN WITH THE SEED: the statements are not yours to turn. If you find one false, say at which input.
  Laid BY PROGRAM, IN A SANDBOX (cutbox-rows.mjs): the forced cells as the released guide's own fill.sh prints them over the translation 639a7ed2b767fe5e… (all of the seat's roots in one cut). By AI agents, Wed Nov 11 2026. No macro, syntax, notation, axiom, sorry.
-/
import Derived.Test.YtgecfmagpliepaaChecked
import GoSem.Claim
import GoSem.ClaimJoined
import GoSem.ClaimMapViews
import Derived.JoinedTies
import Derived.KernelRfl
namespace Go.Proofs.Ytgecfmagpliepaa
/- THE CELL 'sum', in the pinned program and in every row, IS THE sha256 OF THE DUMP (.gsa) THAT YtgecfmagpliepaaProg.lean LOADS. Nothing in Lean hashes anything: it is a label: what it is worth is what the hold of that sum in a sandbox is worth. -/
noncomputable def Try.pinned : Pinned := { name := "ytgecfmagpliepaa", sum := "639a7ed2b767fe5ee251bf66fe80e3309a7c644e7e5ceeb1f0f1ecf924b468c6", checked := Try.checked }
namespace Rows
def none {H : Type} : Left H := { results := [], args := [] }

/-- 'laws.FnExactFieldCanonical': WHATEVER THE INPUT: true; the input reads as it did. -/
def fnExactFieldCanonicalSpec : ChangeSpec := { name := "fnExactFieldCanonical", fn := fun _ => fun
  | [d] => { results := [.lit (.bool true)], args := [d] }
  | _ => none }
def fnExactFieldCanonicalRow : OpenClaim := { program := "ytgecfmagpliepaa", sum := "639a7ed2b767fe5ee251bf66fe80e3309a7c644e7e5ceeb1f0f1ecf924b468c6", func := "loop.example/g00004/laws.FnExactFieldCanonical", spec := "fnExactFieldCanonical", apart := false }
def FnExactFieldCanonicalSaid : Prop := fnExactFieldCanonicalRow.holds Try.pinned (OpenSpec.ofChange fnExactFieldCanonicalSpec)

/-- ITS FALSE NEIGHBOUR: 'it returns false'. Refute it at one input. -/
def fnExactFieldCanonicalWrong : ChangeSpec := { name := "fnExactFieldCanonical", fn := fun _ => fun
  | [d] => { results := [.lit (.bool false)], args := [d] }
  | _ => none }
def FnExactFieldCanonicalWrongFalsely : Prop := fnExactFieldCanonicalRow.holds Try.pinned (OpenSpec.ofChange fnExactFieldCanonicalWrong)

/-- 'laws.FnExactFieldReduce': WHATEVER THE INPUT: true; the input reads as it did. -/
def fnExactFieldReduceSpec : ChangeSpec := { name := "fnExactFieldReduce", fn := fun _ => fun
  | [d] => { results := [.lit (.bool true)], args := [d] }
  | _ => none }
def fnExactFieldReduceRow : OpenClaim := { program := "ytgecfmagpliepaa", sum := "639a7ed2b767fe5ee251bf66fe80e3309a7c644e7e5ceeb1f0f1ecf924b468c6", func := "loop.example/g00004/laws.FnExactFieldReduce", spec := "fnExactFieldReduce", inPlace := ["math/bits.Add64"], apart := false }
def FnExactFieldReduceSaid : Prop := fnExactFieldReduceRow.holds Try.pinned (OpenSpec.ofChange fnExactFieldReduceSpec)

/-- ITS FALSE NEIGHBOUR: 'it returns false'. Refute it at one input. -/
def fnExactFieldReduceWrong : ChangeSpec := { name := "fnExactFieldReduce", fn := fun _ => fun
  | [d] => { results := [.lit (.bool false)], args := [d] }
  | _ => none }
def FnExactFieldReduceWrongFalsely : Prop := fnExactFieldReduceRow.holds Try.pinned (OpenSpec.ofChange fnExactFieldReduceWrong)

/-- 'laws.FnExactFieldAdd': WHATEVER THE INPUT: true; the input reads as it did. -/
def fnExactFieldAddSpec : ChangeSpec := { name := "fnExactFieldAdd", fn := fun _ => fun
  | [d1, d2] => { results := [.lit (.bool true)], args := [d1, d2] }
  | _ => none }
def fnExactFieldAddRow : OpenClaim := { program := "ytgecfmagpliepaa", sum := "639a7ed2b767fe5ee251bf66fe80e3309a7c644e7e5ceeb1f0f1ecf924b468c6", func := "loop.example/g00004/laws.FnExactFieldAdd", spec := "fnExactFieldAdd", apart := false }
def FnExactFieldAddSaid : Prop := fnExactFieldAddRow.holds Try.pinned (OpenSpec.ofChange fnExactFieldAddSpec)

/-- ITS FALSE NEIGHBOUR: 'it returns false'. Refute it at one input. -/
def fnExactFieldAddWrong : ChangeSpec := { name := "fnExactFieldAdd", fn := fun _ => fun
  | [d1, d2] => { results := [.lit (.bool false)], args := [d1, d2] }
  | _ => none }
def FnExactFieldAddWrongFalsely : Prop := fnExactFieldAddRow.holds Try.pinned (OpenSpec.ofChange fnExactFieldAddWrong)

/-- 'laws.FnExactFieldMul': WHATEVER THE INPUT: true; the input reads as it did. -/
def fnExactFieldMulSpec : ChangeSpec := { name := "fnExactFieldMul", fn := fun _ => fun
  | [d1, d2] => { results := [.lit (.bool true)], args := [d1, d2] }
  | _ => none }
def fnExactFieldMulRow : OpenClaim := { program := "ytgecfmagpliepaa", sum := "639a7ed2b767fe5ee251bf66fe80e3309a7c644e7e5ceeb1f0f1ecf924b468c6", func := "loop.example/g00004/laws.FnExactFieldMul", spec := "fnExactFieldMul", inPlace := ["math/bits.Add64"], apart := false }
def FnExactFieldMulSaid : Prop := fnExactFieldMulRow.holds Try.pinned (OpenSpec.ofChange fnExactFieldMulSpec)

/-- ITS FALSE NEIGHBOUR: 'it returns false'. Refute it at one input. -/
def fnExactFieldMulWrong : ChangeSpec := { name := "fnExactFieldMul", fn := fun _ => fun
  | [d1, d2] => { results := [.lit (.bool false)], args := [d1, d2] }
  | _ => none }
def FnExactFieldMulWrongFalsely : Prop := fnExactFieldMulRow.holds Try.pinned (OpenSpec.ofChange fnExactFieldMulWrong)

/- THE SECOND FORM. 'bulk': how many values and letters a reading holds, each counted each time it is reached (what is shared counts as often as it is met; a slice's spare places count too). A statement '..UptoSaid' is the law's where the arguments, and the package variables that the reading takes, are together of bulk at most 1048576: NARROWER than '..Said'. Prove '..Said' where nothing that the law and all that it calls make is longer than what came in: it says more and counts as full. Else prove '..UptoSaid'. A law counts once. -/
mutual
def uptoBulk {H : Type} : DataW H → Nat
  | .lit (.string bytes) => bytes.length + 1
  | .lit _ => 1
  | .nil => 1
  | .ptr d => uptoBulk d + 1
  | .slice elems spare => uptoBulkAll elems + uptoBulkAll spare + 1
  | .agg parts => uptoBulkAll parts + 1
  | .iface _ d => uptoBulk d + 1
  | .map entries => uptoBulkEntries entries + 1
  | .held _ => 1
def uptoBulkAll {H : Type} : List (DataW H) → Nat
  | [] => 0
  | d :: r => uptoBulk d + uptoBulkAll r
def uptoBulkEntries {H : Type} : List (Lit × DataW H) → Nat
  | [] => 0
  | x :: r => uptoBulkEntry x + uptoBulkEntries r
def uptoBulkEntry {H : Type} : Lit × DataW H → Nat
  | (.string bytes, d) => bytes.length + uptoBulk d + 1
  | (_, d) => uptoBulk d + 1
 end
def uptoSmall : (H : Type) → List (DataW H) → Bool := fun _ ds => decide (uptoBulkAll ds ≤ 1048576)
def OpenSpec.upto (s : _root_.Go.ChangeSpec) : _root_.Go.OpenSpec := { _root_.Go.OpenSpec.ofChange s with cond := some uptoSmall }

/-- 'laws.FnExactFieldCanonical', WHERE WHAT IT READS IS OF BULK AT MOST 1048576: true; the input reads as it did. -/
def fnExactFieldCanonicalUptoRow : OpenClaim := { program := "ytgecfmagpliepaa", sum := "639a7ed2b767fe5ee251bf66fe80e3309a7c644e7e5ceeb1f0f1ecf924b468c6", func := "loop.example/g00004/laws.FnExactFieldCanonical", spec := "fnExactFieldCanonical", apart := false, narrowed := true }
def FnExactFieldCanonicalUptoSaid : Prop := fnExactFieldCanonicalUptoRow.holds Try.pinned (OpenSpec.upto fnExactFieldCanonicalSpec)

/-- 'laws.FnExactFieldReduce', WHERE WHAT IT READS IS OF BULK AT MOST 1048576: true; the input reads as it did. -/
def fnExactFieldReduceUptoRow : OpenClaim := { program := "ytgecfmagpliepaa", sum := "639a7ed2b767fe5ee251bf66fe80e3309a7c644e7e5ceeb1f0f1ecf924b468c6", func := "loop.example/g00004/laws.FnExactFieldReduce", spec := "fnExactFieldReduce", inPlace := ["math/bits.Add64"], apart := false, narrowed := true }
def FnExactFieldReduceUptoSaid : Prop := fnExactFieldReduceUptoRow.holds Try.pinned (OpenSpec.upto fnExactFieldReduceSpec)

/-- 'laws.FnExactFieldAdd', WHERE WHAT IT READS IS OF BULK AT MOST 1048576: true; the input reads as it did. -/
def fnExactFieldAddUptoRow : OpenClaim := { program := "ytgecfmagpliepaa", sum := "639a7ed2b767fe5ee251bf66fe80e3309a7c644e7e5ceeb1f0f1ecf924b468c6", func := "loop.example/g00004/laws.FnExactFieldAdd", spec := "fnExactFieldAdd", apart := false, narrowed := true }
def FnExactFieldAddUptoSaid : Prop := fnExactFieldAddUptoRow.holds Try.pinned (OpenSpec.upto fnExactFieldAddSpec)

/-- 'laws.FnExactFieldMul', WHERE WHAT IT READS IS OF BULK AT MOST 1048576: true; the input reads as it did. -/
def fnExactFieldMulUptoRow : OpenClaim := { program := "ytgecfmagpliepaa", sum := "639a7ed2b767fe5ee251bf66fe80e3309a7c644e7e5ceeb1f0f1ecf924b468c6", func := "loop.example/g00004/laws.FnExactFieldMul", spec := "fnExactFieldMul", inPlace := ["math/bits.Add64"], apart := false, narrowed := true }
def FnExactFieldMulUptoSaid : Prop := fnExactFieldMulUptoRow.holds Try.pinned (OpenSpec.upto fnExactFieldMulSpec)

end Rows
end Go.Proofs.Ytgecfmagpliepaa
