/-
  No cell of these rows narrows 'for every input' (looked for: loops, veiled, ifaces, maps, wideKeys, modest, calm, conditions, laid).
  DERIVED. THE GIVEN ROWS OF THIS SEAT. 11 by the template 'for every input the law returns true; each argument reads behind the call as it read before'; 0 by the template 'total and deterministic' (their statements: YthdjopkmlcdoeaaTotals.lean).
  GIVEN WITH THE SEED: the statements are not yours to turn. If you find one false, say at which input.
  Laid BY PROGRAM, IN A SANDBOX (cutbox-rows.mjs): the forced cells as the released guide's own fill.sh prints them over the translation db743280ef75fe83… (all of the seat's roots in one cut). By AI agents, Wed Nov 11 2026. No macro, syntax, notation, axiom, sorry.
-/
import Derived.Test.YthdjopkmlcdoeaaChecked
import GoSem.Claim
import GoSem.ClaimJoined
import GoSem.ClaimMapViews
import Derived.JoinedTies
import Derived.KernelRfl
namespace Go.Proofs.Ythdjopkmlcdoeaa
/- THE CELL 'sum', in the pinned program and in every row, IS THE sha256 OF THE DUMP (.gsa) THAT YthdjopkmlcdoeaaProg.lean LOADS. Nothing in Lean hashes anything: it is a label: what it is worth is what the hold of that sum in a sandbox is worth. -/
noncomputable def Try.pinned : Pinned := { name := "ythdjopkmlcdoeaa", sum := "db743280ef75fe833cbcec7809f32103199df826999f63b629af9c022fdbbe31", checked := Try.checked }
namespace Rows
def none {H : Type} : Left H := { results := [], args := [] }

/-- 'laws.FnExactNumCompare': WHATEVER THE INPUT: true; the input reads as it did. -/
def fnExactNumCompareSpec : ChangeSpec := { name := "fnExactNumCompare", fn := fun _ => fun
  | [d1, d2] => { results := [.lit (.bool true)], args := [d1, d2] }
  | _ => none }
def fnExactNumCompareRow : OpenClaim := { program := "ythdjopkmlcdoeaa", sum := "db743280ef75fe833cbcec7809f32103199df826999f63b629af9c022fdbbe31", func := "loop.example/g00004/laws.FnExactNumCompare", spec := "fnExactNumCompare", apart := false }
def FnExactNumCompareSaid : Prop := fnExactNumCompareRow.holds Try.pinned (OpenSpec.ofChange fnExactNumCompareSpec)

/-- ITS FALSE NEIGHBOUR: 'it returns false'. Refute it at one input. -/
def fnExactNumCompareWrong : ChangeSpec := { name := "fnExactNumCompare", fn := fun _ => fun
  | [d1, d2] => { results := [.lit (.bool false)], args := [d1, d2] }
  | _ => none }
def FnExactNumCompareWrongFalsely : Prop := fnExactNumCompareRow.holds Try.pinned (OpenSpec.ofChange fnExactNumCompareWrong)

/-- 'laws.FnExactNumTrim': WHATEVER THE INPUT: true; the input reads as it did. -/
def fnExactNumTrimSpec : ChangeSpec := { name := "fnExactNumTrim", fn := fun _ => fun
  | [d] => { results := [.lit (.bool true)], args := [d] }
  | _ => none }
def fnExactNumTrimRow : OpenClaim := { program := "ythdjopkmlcdoeaa", sum := "db743280ef75fe833cbcec7809f32103199df826999f63b629af9c022fdbbe31", func := "loop.example/g00004/laws.FnExactNumTrim", spec := "fnExactNumTrim", apart := false }
def FnExactNumTrimSaid : Prop := fnExactNumTrimRow.holds Try.pinned (OpenSpec.ofChange fnExactNumTrimSpec)

/-- ITS FALSE NEIGHBOUR: 'it returns false'. Refute it at one input. -/
def fnExactNumTrimWrong : ChangeSpec := { name := "fnExactNumTrim", fn := fun _ => fun
  | [d] => { results := [.lit (.bool false)], args := [d] }
  | _ => none }
def FnExactNumTrimWrongFalsely : Prop := fnExactNumTrimRow.holds Try.pinned (OpenSpec.ofChange fnExactNumTrimWrong)

/-- 'laws.FnExactNumTurn': WHATEVER THE INPUT: true; the input reads as it did. -/
def fnExactNumTurnSpec : ChangeSpec := { name := "fnExactNumTurn", fn := fun _ => fun
  | [d1, d2] => { results := [.lit (.bool true)], args := [d1, d2] }
  | _ => none }
def fnExactNumTurnRow : OpenClaim := { program := "ythdjopkmlcdoeaa", sum := "db743280ef75fe833cbcec7809f32103199df826999f63b629af9c022fdbbe31", func := "loop.example/g00004/laws.FnExactNumTurn", spec := "fnExactNumTurn", apart := false }
def FnExactNumTurnSaid : Prop := fnExactNumTurnRow.holds Try.pinned (OpenSpec.ofChange fnExactNumTurnSpec)

/-- ITS FALSE NEIGHBOUR: 'it returns false'. Refute it at one input. -/
def fnExactNumTurnWrong : ChangeSpec := { name := "fnExactNumTurn", fn := fun _ => fun
  | [d1, d2] => { results := [.lit (.bool false)], args := [d1, d2] }
  | _ => none }
def FnExactNumTurnWrongFalsely : Prop := fnExactNumTurnRow.holds Try.pinned (OpenSpec.ofChange fnExactNumTurnWrong)

/-- 'laws.FnExactNumAdd': WHATEVER THE INPUT: true; the input reads as it did. -/
def fnExactNumAddSpec : ChangeSpec := { name := "fnExactNumAdd", fn := fun _ => fun
  | [d1, d2] => { results := [.lit (.bool true)], args := [d1, d2] }
  | _ => none }
def fnExactNumAddRow : OpenClaim := { program := "ythdjopkmlcdoeaa", sum := "db743280ef75fe833cbcec7809f32103199df826999f63b629af9c022fdbbe31", func := "loop.example/g00004/laws.FnExactNumAdd", spec := "fnExactNumAdd", apart := false }
def FnExactNumAddSaid : Prop := fnExactNumAddRow.holds Try.pinned (OpenSpec.ofChange fnExactNumAddSpec)

/-- ITS FALSE NEIGHBOUR: 'it returns false'. Refute it at one input. -/
def fnExactNumAddWrong : ChangeSpec := { name := "fnExactNumAdd", fn := fun _ => fun
  | [d1, d2] => { results := [.lit (.bool false)], args := [d1, d2] }
  | _ => none }
def FnExactNumAddWrongFalsely : Prop := fnExactNumAddRow.holds Try.pinned (OpenSpec.ofChange fnExactNumAddWrong)

/-- 'laws.FnExactNumMul': WHATEVER THE INPUT: true; the input reads as it did. -/
def fnExactNumMulSpec : ChangeSpec := { name := "fnExactNumMul", fn := fun _ => fun
  | [d1, d2] => { results := [.lit (.bool true)], args := [d1, d2] }
  | _ => none }
def fnExactNumMulRow : OpenClaim := { program := "ythdjopkmlcdoeaa", sum := "db743280ef75fe833cbcec7809f32103199df826999f63b629af9c022fdbbe31", func := "loop.example/g00004/laws.FnExactNumMul", spec := "fnExactNumMul", apart := false }
def FnExactNumMulSaid : Prop := fnExactNumMulRow.holds Try.pinned (OpenSpec.ofChange fnExactNumMulSpec)

/-- ITS FALSE NEIGHBOUR: 'it returns false'. Refute it at one input. -/
def fnExactNumMulWrong : ChangeSpec := { name := "fnExactNumMul", fn := fun _ => fun
  | [d1, d2] => { results := [.lit (.bool false)], args := [d1, d2] }
  | _ => none }
def FnExactNumMulWrongFalsely : Prop := fnExactNumMulRow.holds Try.pinned (OpenSpec.ofChange fnExactNumMulWrong)

/-- 'laws.FnExactNumDivide': WHATEVER THE INPUT: true; the input reads as it did. -/
def fnExactNumDivideSpec : ChangeSpec := { name := "fnExactNumDivide", fn := fun _ => fun
  | [d1, d2] => { results := [.lit (.bool true)], args := [d1, d2] }
  | _ => none }
def fnExactNumDivideRow : OpenClaim := { program := "ythdjopkmlcdoeaa", sum := "db743280ef75fe833cbcec7809f32103199df826999f63b629af9c022fdbbe31", func := "loop.example/g00004/laws.FnExactNumDivide", spec := "fnExactNumDivide", apart := false }
def FnExactNumDivideSaid : Prop := fnExactNumDivideRow.holds Try.pinned (OpenSpec.ofChange fnExactNumDivideSpec)

/-- ITS FALSE NEIGHBOUR: 'it returns false'. Refute it at one input. -/
def fnExactNumDivideWrong : ChangeSpec := { name := "fnExactNumDivide", fn := fun _ => fun
  | [d1, d2] => { results := [.lit (.bool false)], args := [d1, d2] }
  | _ => none }
def FnExactNumDivideWrongFalsely : Prop := fnExactNumDivideRow.holds Try.pinned (OpenSpec.ofChange fnExactNumDivideWrong)

/-- 'laws.FnExactNumSub': WHATEVER THE INPUT: true; the input reads as it did. -/
def fnExactNumSubSpec : ChangeSpec := { name := "fnExactNumSub", fn := fun _ => fun
  | [d1, d2] => { results := [.lit (.bool true)], args := [d1, d2] }
  | _ => none }
def fnExactNumSubRow : OpenClaim := { program := "ythdjopkmlcdoeaa", sum := "db743280ef75fe833cbcec7809f32103199df826999f63b629af9c022fdbbe31", func := "loop.example/g00004/laws.FnExactNumSub", spec := "fnExactNumSub", apart := false }
def FnExactNumSubSaid : Prop := fnExactNumSubRow.holds Try.pinned (OpenSpec.ofChange fnExactNumSubSpec)

/-- ITS FALSE NEIGHBOUR: 'it returns false'. Refute it at one input. -/
def fnExactNumSubWrong : ChangeSpec := { name := "fnExactNumSub", fn := fun _ => fun
  | [d1, d2] => { results := [.lit (.bool false)], args := [d1, d2] }
  | _ => none }
def FnExactNumSubWrongFalsely : Prop := fnExactNumSubRow.holds Try.pinned (OpenSpec.ofChange fnExactNumSubWrong)

/-- 'laws.FnExactNumPower': WHATEVER THE INPUT: true; the input reads as it did. -/
def fnExactNumPowerSpec : ChangeSpec := { name := "fnExactNumPower", fn := fun _ => fun
  | [d1, d2, d3] => { results := [.lit (.bool true)], args := [d1, d2, d3] }
  | _ => none }
def fnExactNumPowerRow : OpenClaim := { program := "ythdjopkmlcdoeaa", sum := "db743280ef75fe833cbcec7809f32103199df826999f63b629af9c022fdbbe31", func := "loop.example/g00004/laws.FnExactNumPower", spec := "fnExactNumPower", apart := false }
def FnExactNumPowerSaid : Prop := fnExactNumPowerRow.holds Try.pinned (OpenSpec.ofChange fnExactNumPowerSpec)

/-- ITS FALSE NEIGHBOUR: 'it returns false'. Refute it at one input. -/
def fnExactNumPowerWrong : ChangeSpec := { name := "fnExactNumPower", fn := fun _ => fun
  | [d1, d2, d3] => { results := [.lit (.bool false)], args := [d1, d2, d3] }
  | _ => none }
def FnExactNumPowerWrongFalsely : Prop := fnExactNumPowerRow.holds Try.pinned (OpenSpec.ofChange fnExactNumPowerWrong)

/-- 'laws.FnSubOfAdd': WHATEVER THE INPUT: true; the input reads as it did. -/
def fnSubOfAddSpec : ChangeSpec := { name := "fnSubOfAdd", fn := fun _ => fun
  | [d] => { results := [.lit (.bool true)], args := [d] }
  | _ => none }
def fnSubOfAddRow : OpenClaim := { program := "ythdjopkmlcdoeaa", sum := "db743280ef75fe833cbcec7809f32103199df826999f63b629af9c022fdbbe31", func := "loop.example/g00004/laws.FnSubOfAdd", spec := "fnSubOfAdd", apart := false }
def FnSubOfAddSaid : Prop := fnSubOfAddRow.holds Try.pinned (OpenSpec.ofChange fnSubOfAddSpec)

/-- ITS FALSE NEIGHBOUR: 'it returns false'. Refute it at one input. -/
def fnSubOfAddWrong : ChangeSpec := { name := "fnSubOfAdd", fn := fun _ => fun
  | [d] => { results := [.lit (.bool false)], args := [d] }
  | _ => none }
def FnSubOfAddWrongFalsely : Prop := fnSubOfAddRow.holds Try.pinned (OpenSpec.ofChange fnSubOfAddWrong)

/-- 'laws.FnDivideBack': WHATEVER THE INPUT: true; the input reads as it did. -/
def fnDivideBackSpec : ChangeSpec := { name := "fnDivideBack", fn := fun _ => fun
  | [d] => { results := [.lit (.bool true)], args := [d] }
  | _ => none }
def fnDivideBackRow : OpenClaim := { program := "ythdjopkmlcdoeaa", sum := "db743280ef75fe833cbcec7809f32103199df826999f63b629af9c022fdbbe31", func := "loop.example/g00004/laws.FnDivideBack", spec := "fnDivideBack", apart := false }
def FnDivideBackSaid : Prop := fnDivideBackRow.holds Try.pinned (OpenSpec.ofChange fnDivideBackSpec)

/-- ITS FALSE NEIGHBOUR: 'it returns false'. Refute it at one input. -/
def fnDivideBackWrong : ChangeSpec := { name := "fnDivideBack", fn := fun _ => fun
  | [d] => { results := [.lit (.bool false)], args := [d] }
  | _ => none }
def FnDivideBackWrongFalsely : Prop := fnDivideBackRow.holds Try.pinned (OpenSpec.ofChange fnDivideBackWrong)

/-- 'laws.FnPowerAdds': WHATEVER THE INPUT: true; the input reads as it did. -/
def fnPowerAddsSpec : ChangeSpec := { name := "fnPowerAdds", fn := fun _ => fun
  | [d1, d2] => { results := [.lit (.bool true)], args := [d1, d2] }
  | _ => none }
def fnPowerAddsRow : OpenClaim := { program := "ythdjopkmlcdoeaa", sum := "db743280ef75fe833cbcec7809f32103199df826999f63b629af9c022fdbbe31", func := "loop.example/g00004/laws.FnPowerAdds", spec := "fnPowerAdds", apart := false }
def FnPowerAddsSaid : Prop := fnPowerAddsRow.holds Try.pinned (OpenSpec.ofChange fnPowerAddsSpec)

/-- ITS FALSE NEIGHBOUR: 'it returns false'. Refute it at one input. -/
def fnPowerAddsWrong : ChangeSpec := { name := "fnPowerAdds", fn := fun _ => fun
  | [d1, d2] => { results := [.lit (.bool false)], args := [d1, d2] }
  | _ => none }
def FnPowerAddsWrongFalsely : Prop := fnPowerAddsRow.holds Try.pinned (OpenSpec.ofChange fnPowerAddsWrong)

/- THE SECOND FORM. 'bulk': how many values and letters a reading holds, each counted each time it is reached (what is shared counts as often as it is met; a slice's spare places count too). A statement '..UptoSaid' is the law's where the arguments, and the package variables that the reading takes, are together of bulk at most 1048576: NARROWER than '..Said'. Prove '..Said' where nothing that the law and all that it calls make is longer than what came in: it says more and counts as full. Else prove '..UptoSaid'. A law counts once. -/
mutual
def uptoBulk {H : Type} : DataW H → Nat
  | .lit (.string bytes) => bytes.length + 1
  | .lit _ => 1
  | .nil => 1
  | .ptr d => uptoBulk d + 1
  | .slice elems spare => uptoBulkAll elems + uptoBulkAll spare + 1
  | .agg parts => uptoBulkAll parts + 1
  | .iface _ d => uptoBulk d + 1
  | .map entries => uptoBulkEntries entries + 1
  | .held _ => 1
def uptoBulkAll {H : Type} : List (DataW H) → Nat
  | [] => 0
  | d :: r => uptoBulk d + uptoBulkAll r
def uptoBulkEntries {H : Type} : List (Lit × DataW H) → Nat
  | [] => 0
  | x :: r => uptoBulkEntry x + uptoBulkEntries r
def uptoBulkEntry {H : Type} : Lit × DataW H → Nat
  | (.string bytes, d) => bytes.length + uptoBulk d + 1
  | (_, d) => uptoBulk d + 1
 end
def uptoSmall : (H : Type) → List (DataW H) → Bool := fun _ ds => decide (uptoBulkAll ds ≤ 1048576)
def OpenSpec.upto (s : _root_.Go.ChangeSpec) : _root_.Go.OpenSpec := { _root_.Go.OpenSpec.ofChange s with cond := some uptoSmall }

/-- 'laws.FnExactNumCompare', WHERE WHAT IT READS IS OF BULK AT MOST 1048576: true; the input reads as it did. -/
def fnExactNumCompareUptoRow : OpenClaim := { program := "ythdjopkmlcdoeaa", sum := "db743280ef75fe833cbcec7809f32103199df826999f63b629af9c022fdbbe31", func := "loop.example/g00004/laws.FnExactNumCompare", spec := "fnExactNumCompare", apart := false, narrowed := true }
def FnExactNumCompareUptoSaid : Prop := fnExactNumCompareUptoRow.holds Try.pinned (OpenSpec.upto fnExactNumCompareSpec)

/-- 'laws.FnExactNumTrim', WHERE WHAT IT READS IS OF BULK AT MOST 1048576: true; the input reads as it did. -/
def fnExactNumTrimUptoRow : OpenClaim := { program := "ythdjopkmlcdoeaa", sum := "db743280ef75fe833cbcec7809f32103199df826999f63b629af9c022fdbbe31", func := "loop.example/g00004/laws.FnExactNumTrim", spec := "fnExactNumTrim", apart := false, narrowed := true }
def FnExactNumTrimUptoSaid : Prop := fnExactNumTrimUptoRow.holds Try.pinned (OpenSpec.upto fnExactNumTrimSpec)

/-- 'laws.FnExactNumTurn', WHERE WHAT IT READS IS OF BULK AT MOST 1048576: true; the input reads as it did. -/
def fnExactNumTurnUptoRow : OpenClaim := { program := "ythdjopkmlcdoeaa", sum := "db743280ef75fe833cbcec7809f32103199df826999f63b629af9c022fdbbe31", func := "loop.example/g00004/laws.FnExactNumTurn", spec := "fnExactNumTurn", apart := false, narrowed := true }
def FnExactNumTurnUptoSaid : Prop := fnExactNumTurnUptoRow.holds Try.pinned (OpenSpec.upto fnExactNumTurnSpec)

/-- 'laws.FnExactNumAdd', WHERE WHAT IT READS IS OF BULK AT MOST 1048576: true; the input reads as it did. -/
def fnExactNumAddUptoRow : OpenClaim := { program := "ythdjopkmlcdoeaa", sum := "db743280ef75fe833cbcec7809f32103199df826999f63b629af9c022fdbbe31", func := "loop.example/g00004/laws.FnExactNumAdd", spec := "fnExactNumAdd", apart := false, narrowed := true }
def FnExactNumAddUptoSaid : Prop := fnExactNumAddUptoRow.holds Try.pinned (OpenSpec.upto fnExactNumAddSpec)

/-- 'laws.FnExactNumMul', WHERE WHAT IT READS IS OF BULK AT MOST 1048576: true; the input reads as it did. -/
def fnExactNumMulUptoRow : OpenClaim := { program := "ythdjopkmlcdoeaa", sum := "db743280ef75fe833cbcec7809f32103199df826999f63b629af9c022fdbbe31", func := "loop.example/g00004/laws.FnExactNumMul", spec := "fnExactNumMul", apart := false, narrowed := true }
def FnExactNumMulUptoSaid : Prop := fnExactNumMulUptoRow.holds Try.pinned (OpenSpec.upto fnExactNumMulSpec)

/-- 'laws.FnExactNumDivide', WHERE WHAT IT READS IS OF BULK AT MOST 1048576: true; the input reads as it did. -/
def fnExactNumDivideUptoRow : OpenClaim := { program := "ythdjopkmlcdoeaa", sum := "db743280ef75fe833cbcec7809f32103199df826999f63b629af9c022fdbbe31", func := "loop.example/g00004/laws.FnExactNumDivide", spec := "fnExactNumDivide", apart := false, narrowed := true }
def FnExactNumDivideUptoSaid : Prop := fnExactNumDivideUptoRow.holds Try.pinned (OpenSpec.upto fnExactNumDivideSpec)

/-- 'laws.FnExactNumSub', WHERE WHAT IT READS IS OF BULK AT MOST 1048576: true; the input reads as it did. -/
def fnExactNumSubUptoRow : OpenClaim := { program := "ythdjopkmlcdoeaa", sum := "db743280ef75fe833cbcec7809f32103199df826999f63b629af9c022fdbbe31", func := "loop.example/g00004/laws.FnExactNumSub", spec := "fnExactNumSub", apart := false, narrowed := true }
def FnExactNumSubUptoSaid : Prop := fnExactNumSubUptoRow.holds Try.pinned (OpenSpec.upto fnExactNumSubSpec)

/-- 'laws.FnExactNumPower', WHERE WHAT IT READS IS OF BULK AT MOST 1048576: true; the input reads as it did. -/
def fnExactNumPowerUptoRow : OpenClaim := { program := "ythdjopkmlcdoeaa", sum := "db743280ef75fe833cbcec7809f32103199df826999f63b629af9c022fdbbe31", func := "loop.example/g00004/laws.FnExactNumPower", spec := "fnExactNumPower", apart := false, narrowed := true }
def FnExactNumPowerUptoSaid : Prop := fnExactNumPowerUptoRow.holds Try.pinned (OpenSpec.upto fnExactNumPowerSpec)

/-- 'laws.FnSubOfAdd', WHERE WHAT IT READS IS OF BULK AT MOST 1048576: true; the input reads as it did. -/
def fnSubOfAddUptoRow : OpenClaim := { program := "ythdjopkmlcdoeaa", sum := "db743280ef75fe833cbcec7809f32103199df826999f63b629af9c022fdbbe31", func := "loop.example/g00004/laws.FnSubOfAdd", spec := "fnSubOfAdd", apart := false, narrowed := true }
def FnSubOfAddUptoSaid : Prop := fnSubOfAddUptoRow.holds Try.pinned (OpenSpec.upto fnSubOfAddSpec)

/-- 'laws.FnDivideBack', WHERE WHAT IT READS IS OF BULK AT MOST 1048576: true; the input reads as it did. -/
def fnDivideBackUptoRow : OpenClaim := { program := "ythdjopkmlcdoeaa", sum := "db743280ef75fe833cbcec7809f32103199df826999f63b629af9c022fdbbe31", func := "loop.example/g00004/laws.FnDivideBack", spec := "fnDivideBack", apart := false, narrowed := true }
def FnDivideBackUptoSaid : Prop := fnDivideBackUptoRow.holds Try.pinned (OpenSpec.upto fnDivideBackSpec)

/-- 'laws.FnPowerAdds', WHERE WHAT IT READS IS OF BULK AT MOST 1048576: true; the input reads as it did. -/
def fnPowerAddsUptoRow : OpenClaim := { program := "ythdjopkmlcdoeaa", sum := "db743280ef75fe833cbcec7809f32103199df826999f63b629af9c022fdbbe31", func := "loop.example/g00004/laws.FnPowerAdds", spec := "fnPowerAdds", apart := false, narrowed := true }
def FnPowerAddsUptoSaid : Prop := fnPowerAddsUptoRow.holds Try.pinned (OpenSpec.upto fnPowerAddsSpec)

end Rows
end Go.Proofs.Ythdjopkmlcdoeaa
