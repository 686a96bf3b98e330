/-
  No cell of these rows narrows 'for every input' (looked for: loops, veiled, ifaces, maps, wideKeys, modest, calm, conditions, laid).
  DERIVED. THE GIVEN ROWS OF THIS SEAT. 5 by the template 'for every input the law returns true; each argument reads behind the call as it read before'; 0 by the template 'total and deterministic' (their statements: YtdblpjnicgmjmaaTotals.lean).
  GIVEN WITH THE SEED: the statements are not yours to turn. If you find one false, say at which input.
  Laid BY PROGRAM, IN A SANDBOX (cutbox-rows.mjs): the forced cells as the released guide's own fill.sh prints them over the translation f394d26f4f4373dc… (all of the seat's roots in one cut). By AI agents, Wed Nov 11 2026. No macro, syntax, notation, axiom, sorry.
-/
import Derived.Test.YtdblpjnicgmjmaaChecked
import GoSem.Claim
import GoSem.ClaimJoined
import GoSem.ClaimMapViews
import Derived.JoinedTies
import Derived.KernelRfl
namespace Go.Proofs.Ytdblpjnicgmjmaa
/- THE CELL 'sum', in the pinned program and in every row, IS THE sha256 OF THE DUMP (.gsa) THAT YtdblpjnicgmjmaaProg.lean LOADS. Nothing in Lean hashes anything: it is a label: what it is worth is what the hold of that sum in a sandbox is worth. -/
noncomputable def Try.pinned : Pinned := { name := "ytdblpjnicgmjmaa", sum := "f394d26f4f4373dc47d1b41e54e3b000284c691f0a47ee608ff47c752086f4ea", checked := Try.checked }
namespace Rows
def none {H : Type} : Left H := { results := [], args := [] }

/-- 'laws.FnExactNameFault': WHATEVER THE INPUT: true; the input reads as it did. -/
def fnExactNameFaultSpec : ChangeSpec := { name := "fnExactNameFault", fn := fun _ => fun
  | [d] => { results := [.lit (.bool true)], args := [d] }
  | _ => none }
def fnExactNameFaultRow : OpenClaim := { program := "ytdblpjnicgmjmaa", sum := "f394d26f4f4373dc47d1b41e54e3b000284c691f0a47ee608ff47c752086f4ea", func := "loop.example/g00004/laws.FnExactNameFault", spec := "fnExactNameFault", apart := false }
def FnExactNameFaultSaid : Prop := fnExactNameFaultRow.holds Try.pinned (OpenSpec.ofChange fnExactNameFaultSpec)

/-- ITS FALSE NEIGHBOUR: 'it returns false'. Refute it at one input. -/
def fnExactNameFaultWrong : ChangeSpec := { name := "fnExactNameFault", fn := fun _ => fun
  | [d] => { results := [.lit (.bool false)], args := [d] }
  | _ => none }
def FnExactNameFaultWrongFalsely : Prop := fnExactNameFaultRow.holds Try.pinned (OpenSpec.ofChange fnExactNameFaultWrong)

/-- 'laws.FnExactPatternFault': WHATEVER THE INPUT: true; the input reads as it did. -/
def fnExactPatternFaultSpec : ChangeSpec := { name := "fnExactPatternFault", fn := fun _ => fun
  | [d] => { results := [.lit (.bool true)], args := [d] }
  | _ => none }
def fnExactPatternFaultRow : OpenClaim := { program := "ytdblpjnicgmjmaa", sum := "f394d26f4f4373dc47d1b41e54e3b000284c691f0a47ee608ff47c752086f4ea", func := "loop.example/g00004/laws.FnExactPatternFault", spec := "fnExactPatternFault", inPlace := ["internal/bytealg.IndexByteString"], apart := false }
def FnExactPatternFaultSaid : Prop := fnExactPatternFaultRow.holds Try.pinned (OpenSpec.ofChange fnExactPatternFaultSpec)

/-- ITS FALSE NEIGHBOUR: 'it returns false'. Refute it at one input. -/
def fnExactPatternFaultWrong : ChangeSpec := { name := "fnExactPatternFault", fn := fun _ => fun
  | [d] => { results := [.lit (.bool false)], args := [d] }
  | _ => none }
def FnExactPatternFaultWrongFalsely : Prop := fnExactPatternFaultRow.holds Try.pinned (OpenSpec.ofChange fnExactPatternFaultWrong)

/-- 'laws.FnExactCertFault': WHATEVER THE INPUT: true; the input reads as it did. -/
def fnExactCertFaultSpec : ChangeSpec := { name := "fnExactCertFault", fn := fun _ => fun
  | [d] => { results := [.lit (.bool true)], args := [d] }
  | _ => none }
def fnExactCertFaultRow : OpenClaim := { program := "ytdblpjnicgmjmaa", sum := "f394d26f4f4373dc47d1b41e54e3b000284c691f0a47ee608ff47c752086f4ea", func := "loop.example/g00004/laws.FnExactCertFault", spec := "fnExactCertFault", inPlace := ["internal/bytealg.IndexByteString"], unfollowed := true, recurses := true, apart := false }
def FnExactCertFaultSaid : Prop := fnExactCertFaultRow.holds Try.pinned (OpenSpec.ofChange fnExactCertFaultSpec)

/-- ITS FALSE NEIGHBOUR: 'it returns false'. Refute it at one input. -/
def fnExactCertFaultWrong : ChangeSpec := { name := "fnExactCertFault", fn := fun _ => fun
  | [d] => { results := [.lit (.bool false)], args := [d] }
  | _ => none }
def FnExactCertFaultWrongFalsely : Prop := fnExactCertFaultRow.holds Try.pinned (OpenSpec.ofChange fnExactCertFaultWrong)

/-- 'laws.FnExactCertBody': WHATEVER THE INPUT: true; the input reads as it did. -/
def fnExactCertBodySpec : ChangeSpec := { name := "fnExactCertBody", fn := fun _ => fun
  | [d] => { results := [.lit (.bool true)], args := [d] }
  | _ => none }
def fnExactCertBodyRow : OpenClaim := { program := "ytdblpjnicgmjmaa", sum := "f394d26f4f4373dc47d1b41e54e3b000284c691f0a47ee608ff47c752086f4ea", func := "loop.example/g00004/laws.FnExactCertBody", spec := "fnExactCertBody", inPlace := ["internal/bytealg.IndexByteString"], unfollowed := true, recurses := true, apart := false }
def FnExactCertBodySaid : Prop := fnExactCertBodyRow.holds Try.pinned (OpenSpec.ofChange fnExactCertBodySpec)

/-- ITS FALSE NEIGHBOUR: 'it returns false'. Refute it at one input. -/
def fnExactCertBodyWrong : ChangeSpec := { name := "fnExactCertBody", fn := fun _ => fun
  | [d] => { results := [.lit (.bool false)], args := [d] }
  | _ => none }
def FnExactCertBodyWrongFalsely : Prop := fnExactCertBodyRow.holds Try.pinned (OpenSpec.ofChange fnExactCertBodyWrong)

/-- 'laws.FnExactEncodeCert': WHATEVER THE INPUT: true; the input reads as it did. -/
def fnExactEncodeCertSpec : ChangeSpec := { name := "fnExactEncodeCert", fn := fun _ => fun
  | [d] => { results := [.lit (.bool true)], args := [d] }
  | _ => none }
def fnExactEncodeCertRow : OpenClaim := { program := "ytdblpjnicgmjmaa", sum := "f394d26f4f4373dc47d1b41e54e3b000284c691f0a47ee608ff47c752086f4ea", func := "loop.example/g00004/laws.FnExactEncodeCert", spec := "fnExactEncodeCert", inPlace := ["internal/bytealg.IndexByteString"], unfollowed := true, recurses := true, apart := false }
def FnExactEncodeCertSaid : Prop := fnExactEncodeCertRow.holds Try.pinned (OpenSpec.ofChange fnExactEncodeCertSpec)

/-- ITS FALSE NEIGHBOUR: 'it returns false'. Refute it at one input. -/
def fnExactEncodeCertWrong : ChangeSpec := { name := "fnExactEncodeCert", fn := fun _ => fun
  | [d] => { results := [.lit (.bool false)], args := [d] }
  | _ => none }
def FnExactEncodeCertWrongFalsely : Prop := fnExactEncodeCertRow.holds Try.pinned (OpenSpec.ofChange fnExactEncodeCertWrong)

/- THE SECOND FORM. 'bulk': how many values and letters a reading holds, each counted each time it is reached (what is shared counts as often as it is met; a slice's spare places count too). A statement '..UptoSaid' is the law's where the arguments, and the package variables that the reading takes, are together of bulk at most 1048576: NARROWER than '..Said'. Prove '..Said' where nothing that the law and all that it calls make is longer than what came in: it says more and counts as full. Else prove '..UptoSaid'. A law counts once. -/
mutual
def uptoBulk {H : Type} : DataW H → Nat
  | .lit (.string bytes) => bytes.length + 1
  | .lit _ => 1
  | .nil => 1
  | .ptr d => uptoBulk d + 1
  | .slice elems spare => uptoBulkAll elems + uptoBulkAll spare + 1
  | .agg parts => uptoBulkAll parts + 1
  | .iface _ d => uptoBulk d + 1
  | .map entries => uptoBulkEntries entries + 1
  | .held _ => 1
def uptoBulkAll {H : Type} : List (DataW H) → Nat
  | [] => 0
  | d :: r => uptoBulk d + uptoBulkAll r
def uptoBulkEntries {H : Type} : List (Lit × DataW H) → Nat
  | [] => 0
  | x :: r => uptoBulkEntry x + uptoBulkEntries r
def uptoBulkEntry {H : Type} : Lit × DataW H → Nat
  | (.string bytes, d) => bytes.length + uptoBulk d + 1
  | (_, d) => uptoBulk d + 1
 end
def uptoSmall : (H : Type) → List (DataW H) → Bool := fun _ ds => decide (uptoBulkAll ds ≤ 1048576)
def OpenSpec.upto (s : _root_.Go.ChangeSpec) : _root_.Go.OpenSpec := { _root_.Go.OpenSpec.ofChange s with cond := some uptoSmall }

/-- 'laws.FnExactNameFault', WHERE WHAT IT READS IS OF BULK AT MOST 1048576: true; the input reads as it did. -/
def fnExactNameFaultUptoRow : OpenClaim := { program := "ytdblpjnicgmjmaa", sum := "f394d26f4f4373dc47d1b41e54e3b000284c691f0a47ee608ff47c752086f4ea", func := "loop.example/g00004/laws.FnExactNameFault", spec := "fnExactNameFault", apart := false, narrowed := true }
def FnExactNameFaultUptoSaid : Prop := fnExactNameFaultUptoRow.holds Try.pinned (OpenSpec.upto fnExactNameFaultSpec)

/-- 'laws.FnExactPatternFault', WHERE WHAT IT READS IS OF BULK AT MOST 1048576: true; the input reads as it did. -/
def fnExactPatternFaultUptoRow : OpenClaim := { program := "ytdblpjnicgmjmaa", sum := "f394d26f4f4373dc47d1b41e54e3b000284c691f0a47ee608ff47c752086f4ea", func := "loop.example/g00004/laws.FnExactPatternFault", spec := "fnExactPatternFault", inPlace := ["internal/bytealg.IndexByteString"], apart := false, narrowed := true }
def FnExactPatternFaultUptoSaid : Prop := fnExactPatternFaultUptoRow.holds Try.pinned (OpenSpec.upto fnExactPatternFaultSpec)

/-- 'laws.FnExactCertFault', WHERE WHAT IT READS IS OF BULK AT MOST 1048576: true; the input reads as it did. -/
def fnExactCertFaultUptoRow : OpenClaim := { program := "ytdblpjnicgmjmaa", sum := "f394d26f4f4373dc47d1b41e54e3b000284c691f0a47ee608ff47c752086f4ea", func := "loop.example/g00004/laws.FnExactCertFault", spec := "fnExactCertFault", inPlace := ["internal/bytealg.IndexByteString"], unfollowed := true, recurses := true, apart := false, narrowed := true }
def FnExactCertFaultUptoSaid : Prop := fnExactCertFaultUptoRow.holds Try.pinned (OpenSpec.upto fnExactCertFaultSpec)

/-- 'laws.FnExactCertBody', WHERE WHAT IT READS IS OF BULK AT MOST 1048576: true; the input reads as it did. -/
def fnExactCertBodyUptoRow : OpenClaim := { program := "ytdblpjnicgmjmaa", sum := "f394d26f4f4373dc47d1b41e54e3b000284c691f0a47ee608ff47c752086f4ea", func := "loop.example/g00004/laws.FnExactCertBody", spec := "fnExactCertBody", inPlace := ["internal/bytealg.IndexByteString"], unfollowed := true, recurses := true, apart := false, narrowed := true }
def FnExactCertBodyUptoSaid : Prop := fnExactCertBodyUptoRow.holds Try.pinned (OpenSpec.upto fnExactCertBodySpec)

/-- 'laws.FnExactEncodeCert', WHERE WHAT IT READS IS OF BULK AT MOST 1048576: true; the input reads as it did. -/
def fnExactEncodeCertUptoRow : OpenClaim := { program := "ytdblpjnicgmjmaa", sum := "f394d26f4f4373dc47d1b41e54e3b000284c691f0a47ee608ff47c752086f4ea", func := "loop.example/g00004/laws.FnExactEncodeCert", spec := "fnExactEncodeCert", inPlace := ["internal/bytealg.IndexByteString"], unfollowed := true, recurses := true, apart := false, narrowed := true }
def FnExactEncodeCertUptoSaid : Prop := fnExactEncodeCertUptoRow.holds Try.pinned (OpenSpec.upto fnExactEncodeCertSpec)

end Rows
end Go.Proofs.Ytdblpjnicgmjmaa
