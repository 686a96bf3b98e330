/-
  No cell of these rows narrows 'for every input' (looked for: loops, veiled, ifaces, maps, wideKeys, modest, calm, conditions, laid).
  DERIVED. THE GIVEN ROWS OF THIS SEAT. 3 by the template 'for every input the law returns true; each argument reads behind the call as it read before'; 0 by the template 'total and deterministic' (their statements: YtjdbnlbmhnpifaaTotals.lean).
  GIVEN WITH THE SEED: the statements are not yours to turn. If you find one false, say at which input.
  Laid BY PROGRAM, IN A SANDBOX (cutbox-rows.mjs): the forced cells as the released guide's own fill.sh prints them over the translation 9d5751b1d79c20f1… (all of the seat's roots in one cut). By AI agents, Wed Nov 11 2026. No macro, syntax, notation, axiom, sorry.
-/
import Derived.Test.YtjdbnlbmhnpifaaChecked
import GoSem.Claim
import GoSem.ClaimJoined
import GoSem.ClaimMapViews
import Derived.JoinedTies
import Derived.KernelRfl
namespace Go.Proofs.Ytjdbnlbmhnpifaa
/- THE CELL 'sum', in the pinned program and in every row, IS THE sha256 OF THE DUMP (.gsa) THAT YtjdbnlbmhnpifaaProg.lean LOADS. Nothing in Lean hashes anything: it is a label: what it is worth is what the hold of that sum in a sandbox is worth. -/
noncomputable def Try.pinned : Pinned := { name := "ytjdbnlbmhnpifaa", sum := "9d5751b1d79c20f132c7cfde56fe7f8ff576ceb520815e40ae51827bcf16f567", checked := Try.checked }
namespace Rows
def none {H : Type} : Left H := { results := [], args := [] }

/-- 'laws.FnExactStateFault': WHATEVER THE INPUT: true; the input reads as it did. -/
def fnExactStateFaultSpec : ChangeSpec := { name := "fnExactStateFault", fn := fun _ => fun
  | [d] => { results := [.lit (.bool true)], args := [d] }
  | _ => none }
def fnExactStateFaultRow : OpenClaim := { program := "ytjdbnlbmhnpifaa", sum := "9d5751b1d79c20f132c7cfde56fe7f8ff576ceb520815e40ae51827bcf16f567", func := "loop.example/g00004/laws.FnExactStateFault", spec := "fnExactStateFault", apart := false }
def FnExactStateFaultSaid : Prop := fnExactStateFaultRow.holds Try.pinned (OpenSpec.ofChange fnExactStateFaultSpec)

/-- ITS FALSE NEIGHBOUR: 'it returns false'. Refute it at one input. -/
def fnExactStateFaultWrong : ChangeSpec := { name := "fnExactStateFault", fn := fun _ => fun
  | [d] => { results := [.lit (.bool false)], args := [d] }
  | _ => none }
def FnExactStateFaultWrongFalsely : Prop := fnExactStateFaultRow.holds Try.pinned (OpenSpec.ofChange fnExactStateFaultWrong)

/-- 'laws.FnExactEncodeState': WHATEVER THE INPUT: true; the input reads as it did. -/
def fnExactEncodeStateSpec : ChangeSpec := { name := "fnExactEncodeState", fn := fun _ => fun
  | [d] => { results := [.lit (.bool true)], args := [d] }
  | _ => none }
def fnExactEncodeStateRow : OpenClaim := { program := "ytjdbnlbmhnpifaa", sum := "9d5751b1d79c20f132c7cfde56fe7f8ff576ceb520815e40ae51827bcf16f567", func := "loop.example/g00004/laws.FnExactEncodeState", spec := "fnExactEncodeState", apart := false }
def FnExactEncodeStateSaid : Prop := fnExactEncodeStateRow.holds Try.pinned (OpenSpec.ofChange fnExactEncodeStateSpec)

/-- ITS FALSE NEIGHBOUR: 'it returns false'. Refute it at one input. -/
def fnExactEncodeStateWrong : ChangeSpec := { name := "fnExactEncodeState", fn := fun _ => fun
  | [d] => { results := [.lit (.bool false)], args := [d] }
  | _ => none }
def FnExactEncodeStateWrongFalsely : Prop := fnExactEncodeStateRow.holds Try.pinned (OpenSpec.ofChange fnExactEncodeStateWrong)

/-- 'laws.FnExactDecodeState': WHATEVER THE INPUT: true; the input reads as it did. -/
def fnExactDecodeStateSpec : ChangeSpec := { name := "fnExactDecodeState", fn := fun _ => fun
  | [d] => { results := [.lit (.bool true)], args := [d] }
  | _ => none }
def fnExactDecodeStateRow : OpenClaim := { program := "ytjdbnlbmhnpifaa", sum := "9d5751b1d79c20f132c7cfde56fe7f8ff576ceb520815e40ae51827bcf16f567", func := "loop.example/g00004/laws.FnExactDecodeState", spec := "fnExactDecodeState", unfollowed := true, recurses := true, apart := false }
def FnExactDecodeStateSaid : Prop := fnExactDecodeStateRow.holds Try.pinned (OpenSpec.ofChange fnExactDecodeStateSpec)

/-- ITS FALSE NEIGHBOUR: 'it returns false'. Refute it at one input. -/
def fnExactDecodeStateWrong : ChangeSpec := { name := "fnExactDecodeState", fn := fun _ => fun
  | [d] => { results := [.lit (.bool false)], args := [d] }
  | _ => none }
def FnExactDecodeStateWrongFalsely : Prop := fnExactDecodeStateRow.holds Try.pinned (OpenSpec.ofChange fnExactDecodeStateWrong)

/- THE SECOND FORM. 'bulk': how many values and letters a reading holds, each counted each time it is reached (what is shared counts as often as it is met; a slice's spare places count too). A statement '..UptoSaid' is the law's where the arguments, and the package variables that the reading takes, are together of bulk at most 1048576: NARROWER than '..Said'. Prove '..Said' where nothing that the law and all that it calls make is longer than what came in: it says more and counts as full. Else prove '..UptoSaid'. A law counts once. -/
mutual
def uptoBulk {H : Type} : DataW H → Nat
  | .lit (.string bytes) => bytes.length + 1
  | .lit _ => 1
  | .nil => 1
  | .ptr d => uptoBulk d + 1
  | .slice elems spare => uptoBulkAll elems + uptoBulkAll spare + 1
  | .agg parts => uptoBulkAll parts + 1
  | .iface _ d => uptoBulk d + 1
  | .map entries => uptoBulkEntries entries + 1
  | .held _ => 1
def uptoBulkAll {H : Type} : List (DataW H) → Nat
  | [] => 0
  | d :: r => uptoBulk d + uptoBulkAll r
def uptoBulkEntries {H : Type} : List (Lit × DataW H) → Nat
  | [] => 0
  | x :: r => uptoBulkEntry x + uptoBulkEntries r
def uptoBulkEntry {H : Type} : Lit × DataW H → Nat
  | (.string bytes, d) => bytes.length + uptoBulk d + 1
  | (_, d) => uptoBulk d + 1
 end
def uptoSmall : (H : Type) → List (DataW H) → Bool := fun _ ds => decide (uptoBulkAll ds ≤ 1048576)
def OpenSpec.upto (s : _root_.Go.ChangeSpec) : _root_.Go.OpenSpec := { _root_.Go.OpenSpec.ofChange s with cond := some uptoSmall }

/-- 'laws.FnExactStateFault', WHERE WHAT IT READS IS OF BULK AT MOST 1048576: true; the input reads as it did. -/
def fnExactStateFaultUptoRow : OpenClaim := { program := "ytjdbnlbmhnpifaa", sum := "9d5751b1d79c20f132c7cfde56fe7f8ff576ceb520815e40ae51827bcf16f567", func := "loop.example/g00004/laws.FnExactStateFault", spec := "fnExactStateFault", apart := false, narrowed := true }
def FnExactStateFaultUptoSaid : Prop := fnExactStateFaultUptoRow.holds Try.pinned (OpenSpec.upto fnExactStateFaultSpec)

/-- 'laws.FnExactEncodeState', WHERE WHAT IT READS IS OF BULK AT MOST 1048576: true; the input reads as it did. -/
def fnExactEncodeStateUptoRow : OpenClaim := { program := "ytjdbnlbmhnpifaa", sum := "9d5751b1d79c20f132c7cfde56fe7f8ff576ceb520815e40ae51827bcf16f567", func := "loop.example/g00004/laws.FnExactEncodeState", spec := "fnExactEncodeState", apart := false, narrowed := true }
def FnExactEncodeStateUptoSaid : Prop := fnExactEncodeStateUptoRow.holds Try.pinned (OpenSpec.upto fnExactEncodeStateSpec)

/-- 'laws.FnExactDecodeState', WHERE WHAT IT READS IS OF BULK AT MOST 1048576: true; the input reads as it did. -/
def fnExactDecodeStateUptoRow : OpenClaim := { program := "ytjdbnlbmhnpifaa", sum := "9d5751b1d79c20f132c7cfde56fe7f8ff576ceb520815e40ae51827bcf16f567", func := "loop.example/g00004/laws.FnExactDecodeState", spec := "fnExactDecodeState", unfollowed := true, recurses := true, apart := false, narrowed := true }
def FnExactDecodeStateUptoSaid : Prop := fnExactDecodeStateUptoRow.holds Try.pinned (OpenSpec.upto fnExactDecodeStateSpec)

end Rows
end Go.Proofs.Ytjdbnlbmhnpifaa
