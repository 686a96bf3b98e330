/-
  DERIVED. GIVEN WITH THE SEED: THE CARDS: each row of YtbhmhkimddjhaaaDoorRows.lean that lists a variable, with what it lists TIED to the program's text (the seventh form; the later family's looks); each row that meets fmt, with fmt's text TOLD by the authors' own Lean function (tested against real Go, not proved from fmt's source: count such statements apart). THE CARD IS WHAT COUNTS. Prove the row's statement (the work); the ties are given (YtbhmhkimddjhaaaDoorTie.lean); close each card by the builder's one call (the guide's Derived/Test/ToyasCard.lean, 'card_holds'). Laid BY PROGRAM, IN A SANDBOX (cutbox-door.mjs). By AI agents, Wed Nov 11 2026. No macro, syntax, notation, axiom, sorry.
-/
import Derived.Test.YtbhmhkimddjhaaaDoorRows
import GoSem.ClaimSeven
namespace Go.Proofs.YtbhmhkimddjhaaaDoor
namespace Rows

/-- THE TIED CARD OF 'laws.FnExactOrderBytes'. -/
def fnExactOrderBytesCard : Claim7 := { stood := { row := fnExactOrderBytesRow, standIns := [], harness := (true, "2ba1786af7c02a511b6967bf7033b9bc0e64b28d79625316d43af370168f3629"), looks := false }, kinds := [], alts := [], laidByText := true, laidKinds := [.wider], laidTests := true, laidLooks := .later }
def FnExactOrderBytesCardSaid : Prop := Claim7.holds Tryd.pinned (.plain (OpenSpec.ofChange fnExactOrderBytesSpec)) fnExactOrderBytesCard

/-- THE TIED CARD OF 'laws.FnExactOrderValid'. -/
def fnExactOrderValidCard : Claim7 := { stood := { row := fnExactOrderValidRow, standIns := [], harness := (true, "2ba1786af7c02a511b6967bf7033b9bc0e64b28d79625316d43af370168f3629"), looks := false }, kinds := [], alts := [], laidByText := true, laidKinds := [.wider], laidTests := true, laidLooks := .later }
def FnExactOrderValidCardSaid : Prop := Claim7.holds Tryd.pinned (.plain (OpenSpec.ofChange fnExactOrderValidSpec)) fnExactOrderValidCard

/-- THE TIED CARD OF 'laws.FnExactOrderReduce'. -/
def fnExactOrderReduceCard : Claim7 := { stood := { row := fnExactOrderReduceRow, standIns := [], harness := (true, "2ba1786af7c02a511b6967bf7033b9bc0e64b28d79625316d43af370168f3629"), looks := false }, kinds := [], alts := [], laidByText := true, laidKinds := [.wider, .data, .data], laidTests := true, laidLooks := .later }
def FnExactOrderReduceCardSaid : Prop := Claim7.holds Tryd.pinned (.plain (OpenSpec.ofChange fnExactOrderReduceSpec)) fnExactOrderReduceCard

/-- THE TIED CARD OF 'laws.FnExactOrderMulAdd'. -/
def fnExactOrderMulAddCard : Claim7 := { stood := { row := fnExactOrderMulAddRow, standIns := [], harness := (true, "2ba1786af7c02a511b6967bf7033b9bc0e64b28d79625316d43af370168f3629"), looks := false }, kinds := [], alts := [], laidByText := true, laidKinds := [.wider, .data, .data], laidTests := true, laidLooks := .later }
def FnExactOrderMulAddCardSaid : Prop := Claim7.holds Tryd.pinned (.plain (OpenSpec.ofChange fnExactOrderMulAddSpec)) fnExactOrderMulAddCard

/-- THE TIED CARD OF 'laws.FnOrderByNumbers'. -/
def fnOrderByNumbersCard : Claim7 := { stood := { row := fnOrderByNumbersRow, standIns := [], harness := (true, "2ba1786af7c02a511b6967bf7033b9bc0e64b28d79625316d43af370168f3629"), looks := false }, kinds := [], alts := [], laidByText := true, laidKinds := [.wider, .data, .data], laidTests := true, laidLooks := .later }
def FnOrderByNumbersCardSaid : Prop := Claim7.holds Tryd.pinned (.plain (OpenSpec.ofChange fnOrderByNumbersSpec)) fnOrderByNumbersCard

/-- THE TIED CARD OF 'laws.FnExactFieldRoot'. -/
def fnExactFieldRootCard : Claim7 := { stood := { row := fnExactFieldRootRow, standIns := [], harness := (true, "2ba1786af7c02a511b6967bf7033b9bc0e64b28d79625316d43af370168f3629"), looks := false }, kinds := [], alts := [], laidByText := true, laidKinds := [.data, .data, .data, .data], laidTests := true, laidLooks := .later }
def FnExactFieldRootCardSaid : Prop := Claim7.holds Tryd.pinned (.plain (OpenSpec.ofChange fnExactFieldRootSpec)) fnExactFieldRootCard

/-- THE TIED CARD OF 'laws.FnFieldSquares'. -/
def fnFieldSquaresCard : Claim7 := { stood := { row := fnFieldSquaresRow, standIns := [], harness := (true, "2ba1786af7c02a511b6967bf7033b9bc0e64b28d79625316d43af370168f3629"), looks := false }, kinds := [], alts := [], laidByText := true, laidKinds := [.data, .data, .data, .data], laidTests := true, laidLooks := .later }
def FnFieldSquaresCardSaid : Prop := Claim7.holds Tryd.pinned (.plain (OpenSpec.ofChange fnFieldSquaresSpec)) fnFieldSquaresCard

/-- THE TIED CARD OF 'laws.FnFieldRing'. -/
def fnFieldRingCard : Claim7 := { stood := { row := fnFieldRingRow, standIns := [], harness := (true, "2ba1786af7c02a511b6967bf7033b9bc0e64b28d79625316d43af370168f3629"), looks := false }, kinds := [], alts := [], laidByText := true, laidKinds := [.data], laidTests := true, laidLooks := .later }
def FnFieldRingCardSaid : Prop := Claim7.holds Tryd.pinned (.plain (OpenSpec.ofChange fnFieldRingSpec)) fnFieldRingCard

/-- THE SECOND FORM's CARD OF 'laws.FnExactOrderBytes'. -/
def fnExactOrderBytesUptoCard : Claim7 := { stood := { row := fnExactOrderBytesUptoRow, standIns := [], harness := (true, "2ba1786af7c02a511b6967bf7033b9bc0e64b28d79625316d43af370168f3629"), looks := false }, kinds := [], alts := [], laidByText := true, laidKinds := [.wider], laidTests := true, laidLooks := .later }
def FnExactOrderBytesUptoCardSaid : Prop := Claim7.holds Tryd.pinned (.plain (OpenSpec.upto fnExactOrderBytesSpec)) fnExactOrderBytesUptoCard

/-- THE SECOND FORM's CARD OF 'laws.FnExactOrderValid'. -/
def fnExactOrderValidUptoCard : Claim7 := { stood := { row := fnExactOrderValidUptoRow, standIns := [], harness := (true, "2ba1786af7c02a511b6967bf7033b9bc0e64b28d79625316d43af370168f3629"), looks := false }, kinds := [], alts := [], laidByText := true, laidKinds := [.wider], laidTests := true, laidLooks := .later }
def FnExactOrderValidUptoCardSaid : Prop := Claim7.holds Tryd.pinned (.plain (OpenSpec.upto fnExactOrderValidSpec)) fnExactOrderValidUptoCard

/-- THE SECOND FORM's CARD OF 'laws.FnExactOrderReduce'. -/
def fnExactOrderReduceUptoCard : Claim7 := { stood := { row := fnExactOrderReduceUptoRow, standIns := [], harness := (true, "2ba1786af7c02a511b6967bf7033b9bc0e64b28d79625316d43af370168f3629"), looks := false }, kinds := [], alts := [], laidByText := true, laidKinds := [.wider, .data, .data], laidTests := true, laidLooks := .later }
def FnExactOrderReduceUptoCardSaid : Prop := Claim7.holds Tryd.pinned (.plain (OpenSpec.upto fnExactOrderReduceSpec)) fnExactOrderReduceUptoCard

/-- THE SECOND FORM's CARD OF 'laws.FnExactOrderMulAdd'. -/
def fnExactOrderMulAddUptoCard : Claim7 := { stood := { row := fnExactOrderMulAddUptoRow, standIns := [], harness := (true, "2ba1786af7c02a511b6967bf7033b9bc0e64b28d79625316d43af370168f3629"), looks := false }, kinds := [], alts := [], laidByText := true, laidKinds := [.wider, .data, .data], laidTests := true, laidLooks := .later }
def FnExactOrderMulAddUptoCardSaid : Prop := Claim7.holds Tryd.pinned (.plain (OpenSpec.upto fnExactOrderMulAddSpec)) fnExactOrderMulAddUptoCard

/-- THE SECOND FORM's CARD OF 'laws.FnOrderByNumbers'. -/
def fnOrderByNumbersUptoCard : Claim7 := { stood := { row := fnOrderByNumbersUptoRow, standIns := [], harness := (true, "2ba1786af7c02a511b6967bf7033b9bc0e64b28d79625316d43af370168f3629"), looks := false }, kinds := [], alts := [], laidByText := true, laidKinds := [.wider, .data, .data], laidTests := true, laidLooks := .later }
def FnOrderByNumbersUptoCardSaid : Prop := Claim7.holds Tryd.pinned (.plain (OpenSpec.upto fnOrderByNumbersSpec)) fnOrderByNumbersUptoCard

/-- THE SECOND FORM's CARD OF 'laws.FnExactFieldRoot'. -/
def fnExactFieldRootUptoCard : Claim7 := { stood := { row := fnExactFieldRootUptoRow, standIns := [], harness := (true, "2ba1786af7c02a511b6967bf7033b9bc0e64b28d79625316d43af370168f3629"), looks := false }, kinds := [], alts := [], laidByText := true, laidKinds := [.data, .data, .data, .data], laidTests := true, laidLooks := .later }
def FnExactFieldRootUptoCardSaid : Prop := Claim7.holds Tryd.pinned (.plain (OpenSpec.upto fnExactFieldRootSpec)) fnExactFieldRootUptoCard

/-- THE SECOND FORM's CARD OF 'laws.FnFieldSquares'. -/
def fnFieldSquaresUptoCard : Claim7 := { stood := { row := fnFieldSquaresUptoRow, standIns := [], harness := (true, "2ba1786af7c02a511b6967bf7033b9bc0e64b28d79625316d43af370168f3629"), looks := false }, kinds := [], alts := [], laidByText := true, laidKinds := [.data, .data, .data, .data], laidTests := true, laidLooks := .later }
def FnFieldSquaresUptoCardSaid : Prop := Claim7.holds Tryd.pinned (.plain (OpenSpec.upto fnFieldSquaresSpec)) fnFieldSquaresUptoCard

/-- THE SECOND FORM's CARD OF 'laws.FnFieldRing'. -/
def fnFieldRingUptoCard : Claim7 := { stood := { row := fnFieldRingUptoRow, standIns := [], harness := (true, "2ba1786af7c02a511b6967bf7033b9bc0e64b28d79625316d43af370168f3629"), looks := false }, kinds := [], alts := [], laidByText := true, laidKinds := [.data], laidTests := true, laidLooks := .later }
def FnFieldRingUptoCardSaid : Prop := Claim7.holds Tryd.pinned (.plain (OpenSpec.upto fnFieldRingSpec)) fnFieldRingUptoCard
end Rows
end Go.Proofs.YtbhmhkimddjhaaaDoor
