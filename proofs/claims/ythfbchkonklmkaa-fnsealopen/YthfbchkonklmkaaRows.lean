/-
  No cell of these rows narrows 'for every input' (looked for: loops, veiled, ifaces, maps, wideKeys, modest, calm, conditions, laid).
  DERIVED. THE GIVEN ROWS OF THIS SEAT. 4 by the template 'for every input the law returns true; each argument reads behind the call as it read before'; 0 by the template 'total and deterministic' (their statements: YthfbchkonklmkaaTotals.lean).
  GIVEN WITH THE SEED: the statements are not yours to turn. If you find one false, say at which input.
  Laid BY PROGRAM, IN A SANDBOX (cutbox-rows.mjs): the forced cells as the released guide's own fill.sh prints them over the translation 6101e7879cb036cc… (all of the seat's roots in one cut). By AI agents, Wed Nov 11 2026. No macro, syntax, notation, axiom, sorry.
-/
import Derived.Test.YthfbchkonklmkaaChecked
import GoSem.Claim
import GoSem.ClaimJoined
import GoSem.ClaimMapViews
import Derived.JoinedTies
import Derived.KernelRfl
namespace Go.Proofs.Ythfbchkonklmkaa
/- THE CELL 'sum', in the pinned program and in every row, IS THE sha256 OF THE DUMP (.gsa) THAT YthfbchkonklmkaaProg.lean LOADS. Nothing in Lean hashes anything: it is a label: what it is worth is what the hold of that sum in a sandbox is worth. -/
noncomputable def Try.pinned : Pinned := { name := "ythfbchkonklmkaa", sum := "6101e7879cb036ccce870141d5a5655bd000cb26fff13a3e7b643e1b14889868", checked := Try.checked }
namespace Rows
def none {H : Type} : Left H := { results := [], args := [] }

/-- 'laws.FnExactOneTime': WHATEVER THE INPUT: true; the input reads as it did. -/
def fnExactOneTimeSpec : ChangeSpec := { name := "fnExactOneTime", fn := fun _ => fun
  | [d1, d2] => { results := [.lit (.bool true)], args := [d1, d2] }
  | _ => none }
def fnExactOneTimeRow : OpenClaim := { program := "ythfbchkonklmkaa", sum := "6101e7879cb036ccce870141d5a5655bd000cb26fff13a3e7b643e1b14889868", func := "loop.example/g00004/laws.FnExactOneTime", spec := "fnExactOneTime", inPlace := ["math/bits.Add64"], unfollowed := true, recurses := true, apart := false }
def FnExactOneTimeSaid : Prop := fnExactOneTimeRow.holds Try.pinned (OpenSpec.ofChange fnExactOneTimeSpec)

/-- ITS FALSE NEIGHBOUR: 'it returns false'. Refute it at one input. -/
def fnExactOneTimeWrong : ChangeSpec := { name := "fnExactOneTime", fn := fun _ => fun
  | [d1, d2] => { results := [.lit (.bool false)], args := [d1, d2] }
  | _ => none }
def FnExactOneTimeWrongFalsely : Prop := fnExactOneTimeRow.holds Try.pinned (OpenSpec.ofChange fnExactOneTimeWrong)

/-- 'laws.FnExactSeal': WHATEVER THE INPUT: true; the input reads as it did. -/
def fnExactSealSpec : ChangeSpec := { name := "fnExactSeal", fn := fun _ => fun
  | [d1, d2, d3, d4] => { results := [.lit (.bool true)], args := [d1, d2, d3, d4] }
  | _ => none }
def fnExactSealRow : OpenClaim := { program := "ythfbchkonklmkaa", sum := "6101e7879cb036ccce870141d5a5655bd000cb26fff13a3e7b643e1b14889868", func := "loop.example/g00004/laws.FnExactSeal", spec := "fnExactSeal", inPlace := ["math/bits.Add64"], unfollowed := true, recurses := true, apart := false }
def FnExactSealSaid : Prop := fnExactSealRow.holds Try.pinned (OpenSpec.ofChange fnExactSealSpec)

/-- ITS FALSE NEIGHBOUR: 'it returns false'. Refute it at one input. -/
def fnExactSealWrong : ChangeSpec := { name := "fnExactSeal", fn := fun _ => fun
  | [d1, d2, d3, d4] => { results := [.lit (.bool false)], args := [d1, d2, d3, d4] }
  | _ => none }
def FnExactSealWrongFalsely : Prop := fnExactSealRow.holds Try.pinned (OpenSpec.ofChange fnExactSealWrong)

/-- 'laws.FnExactOpen': WHATEVER THE INPUT: true; the input reads as it did. -/
def fnExactOpenSpec : ChangeSpec := { name := "fnExactOpen", fn := fun _ => fun
  | [d1, d2, d3, d4] => { results := [.lit (.bool true)], args := [d1, d2, d3, d4] }
  | _ => none }
def fnExactOpenRow : OpenClaim := { program := "ythfbchkonklmkaa", sum := "6101e7879cb036ccce870141d5a5655bd000cb26fff13a3e7b643e1b14889868", func := "loop.example/g00004/laws.FnExactOpen", spec := "fnExactOpen", inPlace := ["math/bits.Add64"], unfollowed := true, recurses := true, apart := false }
def FnExactOpenSaid : Prop := fnExactOpenRow.holds Try.pinned (OpenSpec.ofChange fnExactOpenSpec)

/-- ITS FALSE NEIGHBOUR: 'it returns false'. Refute it at one input. -/
def fnExactOpenWrong : ChangeSpec := { name := "fnExactOpen", fn := fun _ => fun
  | [d1, d2, d3, d4] => { results := [.lit (.bool false)], args := [d1, d2, d3, d4] }
  | _ => none }
def FnExactOpenWrongFalsely : Prop := fnExactOpenRow.holds Try.pinned (OpenSpec.ofChange fnExactOpenWrong)

/-- 'laws.FnSealOpen': WHATEVER THE INPUT: true; the input reads as it did. -/
def fnSealOpenSpec : ChangeSpec := { name := "fnSealOpen", fn := fun _ => fun
  | [d1, d2] => { results := [.lit (.bool true)], args := [d1, d2] }
  | _ => none }
def fnSealOpenRow : OpenClaim := { program := "ythfbchkonklmkaa", sum := "6101e7879cb036ccce870141d5a5655bd000cb26fff13a3e7b643e1b14889868", func := "loop.example/g00004/laws.FnSealOpen", spec := "fnSealOpen", inPlace := ["math/bits.Add64"], unfollowed := true, recurses := true, apart := false }
def FnSealOpenSaid : Prop := fnSealOpenRow.holds Try.pinned (OpenSpec.ofChange fnSealOpenSpec)

/-- ITS FALSE NEIGHBOUR: 'it returns false'. Refute it at one input. -/
def fnSealOpenWrong : ChangeSpec := { name := "fnSealOpen", fn := fun _ => fun
  | [d1, d2] => { results := [.lit (.bool false)], args := [d1, d2] }
  | _ => none }
def FnSealOpenWrongFalsely : Prop := fnSealOpenRow.holds Try.pinned (OpenSpec.ofChange fnSealOpenWrong)

/- THE SECOND FORM. 'bulk': how many values and letters a reading holds, each counted each time it is reached (what is shared counts as often as it is met; a slice's spare places count too). A statement '..UptoSaid' is the law's where the arguments, and the package variables that the reading takes, are together of bulk at most 1048576: NARROWER than '..Said'. Prove '..Said' where nothing that the law and all that it calls make is longer than what came in: it says more and counts as full. Else prove '..UptoSaid'. A law counts once. -/
mutual
def uptoBulk {H : Type} : DataW H → Nat
  | .lit (.string bytes) => bytes.length + 1
  | .lit _ => 1
  | .nil => 1
  | .ptr d => uptoBulk d + 1
  | .slice elems spare => uptoBulkAll elems + uptoBulkAll spare + 1
  | .agg parts => uptoBulkAll parts + 1
  | .iface _ d => uptoBulk d + 1
  | .map entries => uptoBulkEntries entries + 1
  | .held _ => 1
def uptoBulkAll {H : Type} : List (DataW H) → Nat
  | [] => 0
  | d :: r => uptoBulk d + uptoBulkAll r
def uptoBulkEntries {H : Type} : List (Lit × DataW H) → Nat
  | [] => 0
  | x :: r => uptoBulkEntry x + uptoBulkEntries r
def uptoBulkEntry {H : Type} : Lit × DataW H → Nat
  | (.string bytes, d) => bytes.length + uptoBulk d + 1
  | (_, d) => uptoBulk d + 1
 end
def uptoSmall : (H : Type) → List (DataW H) → Bool := fun _ ds => decide (uptoBulkAll ds ≤ 1048576)
def OpenSpec.upto (s : _root_.Go.ChangeSpec) : _root_.Go.OpenSpec := { _root_.Go.OpenSpec.ofChange s with cond := some uptoSmall }

/-- 'laws.FnExactOneTime', WHERE WHAT IT READS IS OF BULK AT MOST 1048576: true; the input reads as it did. -/
def fnExactOneTimeUptoRow : OpenClaim := { program := "ythfbchkonklmkaa", sum := "6101e7879cb036ccce870141d5a5655bd000cb26fff13a3e7b643e1b14889868", func := "loop.example/g00004/laws.FnExactOneTime", spec := "fnExactOneTime", inPlace := ["math/bits.Add64"], unfollowed := true, recurses := true, apart := false, narrowed := true }
def FnExactOneTimeUptoSaid : Prop := fnExactOneTimeUptoRow.holds Try.pinned (OpenSpec.upto fnExactOneTimeSpec)

/-- 'laws.FnExactSeal', WHERE WHAT IT READS IS OF BULK AT MOST 1048576: true; the input reads as it did. -/
def fnExactSealUptoRow : OpenClaim := { program := "ythfbchkonklmkaa", sum := "6101e7879cb036ccce870141d5a5655bd000cb26fff13a3e7b643e1b14889868", func := "loop.example/g00004/laws.FnExactSeal", spec := "fnExactSeal", inPlace := ["math/bits.Add64"], unfollowed := true, recurses := true, apart := false, narrowed := true }
def FnExactSealUptoSaid : Prop := fnExactSealUptoRow.holds Try.pinned (OpenSpec.upto fnExactSealSpec)

/-- 'laws.FnExactOpen', WHERE WHAT IT READS IS OF BULK AT MOST 1048576: true; the input reads as it did. -/
def fnExactOpenUptoRow : OpenClaim := { program := "ythfbchkonklmkaa", sum := "6101e7879cb036ccce870141d5a5655bd000cb26fff13a3e7b643e1b14889868", func := "loop.example/g00004/laws.FnExactOpen", spec := "fnExactOpen", inPlace := ["math/bits.Add64"], unfollowed := true, recurses := true, apart := false, narrowed := true }
def FnExactOpenUptoSaid : Prop := fnExactOpenUptoRow.holds Try.pinned (OpenSpec.upto fnExactOpenSpec)

/-- 'laws.FnSealOpen', WHERE WHAT IT READS IS OF BULK AT MOST 1048576: true; the input reads as it did. -/
def fnSealOpenUptoRow : OpenClaim := { program := "ythfbchkonklmkaa", sum := "6101e7879cb036ccce870141d5a5655bd000cb26fff13a3e7b643e1b14889868", func := "loop.example/g00004/laws.FnSealOpen", spec := "fnSealOpen", inPlace := ["math/bits.Add64"], unfollowed := true, recurses := true, apart := false, narrowed := true }
def FnSealOpenUptoSaid : Prop := fnSealOpenUptoRow.holds Try.pinned (OpenSpec.upto fnSealOpenSpec)

end Rows
end Go.Proofs.Ythfbchkonklmkaa
