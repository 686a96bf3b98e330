/-
  DERIVED. GIVEN WITH THE SEED: THE CARDS: each row of YtgecfmagpliepaaDoorRows.lean that lists a variable, with what it lists TIED to the program's text (the seventh form; the later family's looks); each row that meets fmt, with fmt's text TOLD by the authors' own Lean function (tested against real Go, not proved from fmt's source: count such statements apart). THE CARD IS WHAT COUNTS. Prove the row's statement (the work); the ties are given (YtgecfmagpliepaaDoorTie.lean); close each card by the builder's one call (the guide's Derived/Test/ToyasCard.lean, 'card_holds'). Laid BY PROGRAM, IN A SANDBOX (cutbox-door.mjs). By AI agents, Wed Nov 11 2026. No macro, syntax, notation, axiom, sorry.
-/
import Derived.Test.YtgecfmagpliepaaDoorRows
import GoSem.ClaimSeven
namespace Go.Proofs.YtgecfmagpliepaaDoor
namespace Rows

/-- THE TIED CARD OF 'laws.FnExactFieldSub'. -/
def fnExactFieldSubCard : Claim7 := { stood := { row := fnExactFieldSubRow, standIns := [], harness := (true, "649361f8537d07047f2ea5150ebc7b5f79643d10dc7dc905800ba80dcc4b46a2"), looks := false }, kinds := [], alts := [], laidByText := true, laidKinds := [.data], laidTests := true, laidLooks := .later }
def FnExactFieldSubCardSaid : Prop := Claim7.holds Tryd.pinned (.plain (OpenSpec.ofChange fnExactFieldSubSpec)) fnExactFieldSubCard

/-- THE TIED CARD OF 'laws.FnExactFieldInvert'. -/
def fnExactFieldInvertCard : Claim7 := { stood := { row := fnExactFieldInvertRow, standIns := [], harness := (true, "649361f8537d07047f2ea5150ebc7b5f79643d10dc7dc905800ba80dcc4b46a2"), looks := false }, kinds := [], alts := [], laidByText := true, laidKinds := [.data, .data], laidTests := true, laidLooks := .later }
def FnExactFieldInvertCardSaid : Prop := Claim7.holds Tryd.pinned (.plain (OpenSpec.ofChange fnExactFieldInvertSpec)) fnExactFieldInvertCard

/-- THE TIED CARD OF 'laws.FnFieldInverse'. -/
def fnFieldInverseCard : Claim7 := { stood := { row := fnFieldInverseRow, standIns := [], harness := (true, "649361f8537d07047f2ea5150ebc7b5f79643d10dc7dc905800ba80dcc4b46a2"), looks := false }, kinds := [], alts := [], laidByText := true, laidKinds := [.data, .data], laidTests := true, laidLooks := .later }
def FnFieldInverseCardSaid : Prop := Claim7.holds Tryd.pinned (.plain (OpenSpec.ofChange fnFieldInverseSpec)) fnFieldInverseCard

/-- THE TIED CARD OF 'laws.FnExactFieldRoot'. -/
def fnExactFieldRootCard : Claim7 := { stood := { row := fnExactFieldRootRow, standIns := [], harness := (true, "649361f8537d07047f2ea5150ebc7b5f79643d10dc7dc905800ba80dcc4b46a2"), looks := false }, kinds := [], alts := [], laidByText := true, laidKinds := [.data, .data, .data, .data], laidTests := true, laidLooks := .later }
def FnExactFieldRootCardSaid : Prop := Claim7.holds Tryd.pinned (.plain (OpenSpec.ofChange fnExactFieldRootSpec)) fnExactFieldRootCard

/-- THE TIED CARD OF 'laws.FnFieldSquares'. -/
def fnFieldSquaresCard : Claim7 := { stood := { row := fnFieldSquaresRow, standIns := [], harness := (true, "649361f8537d07047f2ea5150ebc7b5f79643d10dc7dc905800ba80dcc4b46a2"), looks := false }, kinds := [], alts := [], laidByText := true, laidKinds := [.data, .data, .data, .data], laidTests := true, laidLooks := .later }
def FnFieldSquaresCardSaid : Prop := Claim7.holds Tryd.pinned (.plain (OpenSpec.ofChange fnFieldSquaresSpec)) fnFieldSquaresCard

/-- THE TIED CARD OF 'laws.FnFieldRing'. -/
def fnFieldRingCard : Claim7 := { stood := { row := fnFieldRingRow, standIns := [], harness := (true, "649361f8537d07047f2ea5150ebc7b5f79643d10dc7dc905800ba80dcc4b46a2"), looks := false }, kinds := [], alts := [], laidByText := true, laidKinds := [.data], laidTests := true, laidLooks := .later }
def FnFieldRingCardSaid : Prop := Claim7.holds Tryd.pinned (.plain (OpenSpec.ofChange fnFieldRingSpec)) fnFieldRingCard

/-- THE SECOND FORM's CARD OF 'laws.FnExactFieldSub'. -/
def fnExactFieldSubUptoCard : Claim7 := { stood := { row := fnExactFieldSubUptoRow, standIns := [], harness := (true, "649361f8537d07047f2ea5150ebc7b5f79643d10dc7dc905800ba80dcc4b46a2"), looks := false }, kinds := [], alts := [], laidByText := true, laidKinds := [.data], laidTests := true, laidLooks := .later }
def FnExactFieldSubUptoCardSaid : Prop := Claim7.holds Tryd.pinned (.plain (OpenSpec.upto fnExactFieldSubSpec)) fnExactFieldSubUptoCard

/-- THE SECOND FORM's CARD OF 'laws.FnExactFieldInvert'. -/
def fnExactFieldInvertUptoCard : Claim7 := { stood := { row := fnExactFieldInvertUptoRow, standIns := [], harness := (true, "649361f8537d07047f2ea5150ebc7b5f79643d10dc7dc905800ba80dcc4b46a2"), looks := false }, kinds := [], alts := [], laidByText := true, laidKinds := [.data, .data], laidTests := true, laidLooks := .later }
def FnExactFieldInvertUptoCardSaid : Prop := Claim7.holds Tryd.pinned (.plain (OpenSpec.upto fnExactFieldInvertSpec)) fnExactFieldInvertUptoCard

/-- THE SECOND FORM's CARD OF 'laws.FnFieldInverse'. -/
def fnFieldInverseUptoCard : Claim7 := { stood := { row := fnFieldInverseUptoRow, standIns := [], harness := (true, "649361f8537d07047f2ea5150ebc7b5f79643d10dc7dc905800ba80dcc4b46a2"), looks := false }, kinds := [], alts := [], laidByText := true, laidKinds := [.data, .data], laidTests := true, laidLooks := .later }
def FnFieldInverseUptoCardSaid : Prop := Claim7.holds Tryd.pinned (.plain (OpenSpec.upto fnFieldInverseSpec)) fnFieldInverseUptoCard

/-- THE SECOND FORM's CARD OF 'laws.FnExactFieldRoot'. -/
def fnExactFieldRootUptoCard : Claim7 := { stood := { row := fnExactFieldRootUptoRow, standIns := [], harness := (true, "649361f8537d07047f2ea5150ebc7b5f79643d10dc7dc905800ba80dcc4b46a2"), looks := false }, kinds := [], alts := [], laidByText := true, laidKinds := [.data, .data, .data, .data], laidTests := true, laidLooks := .later }
def FnExactFieldRootUptoCardSaid : Prop := Claim7.holds Tryd.pinned (.plain (OpenSpec.upto fnExactFieldRootSpec)) fnExactFieldRootUptoCard

/-- THE SECOND FORM's CARD OF 'laws.FnFieldSquares'. -/
def fnFieldSquaresUptoCard : Claim7 := { stood := { row := fnFieldSquaresUptoRow, standIns := [], harness := (true, "649361f8537d07047f2ea5150ebc7b5f79643d10dc7dc905800ba80dcc4b46a2"), looks := false }, kinds := [], alts := [], laidByText := true, laidKinds := [.data, .data, .data, .data], laidTests := true, laidLooks := .later }
def FnFieldSquaresUptoCardSaid : Prop := Claim7.holds Tryd.pinned (.plain (OpenSpec.upto fnFieldSquaresSpec)) fnFieldSquaresUptoCard

/-- THE SECOND FORM's CARD OF 'laws.FnFieldRing'. -/
def fnFieldRingUptoCard : Claim7 := { stood := { row := fnFieldRingUptoRow, standIns := [], harness := (true, "649361f8537d07047f2ea5150ebc7b5f79643d10dc7dc905800ba80dcc4b46a2"), looks := false }, kinds := [], alts := [], laidByText := true, laidKinds := [.data], laidTests := true, laidLooks := .later }
def FnFieldRingUptoCardSaid : Prop := Claim7.holds Tryd.pinned (.plain (OpenSpec.upto fnFieldRingSpec)) fnFieldRingUptoCard
end Rows
end Go.Proofs.YtgecfmagpliepaaDoor
