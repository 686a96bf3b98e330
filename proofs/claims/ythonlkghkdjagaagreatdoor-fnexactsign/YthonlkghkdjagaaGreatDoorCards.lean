/-
  DERIVED. GIVEN WITH THE SEED: THE CARDS: each row of YthonlkghkdjagaaGreatDoorRows.lean that lists a variable, with what it lists TIED to the program's text (the seventh form; the later family's looks); each row that meets fmt, with fmt's text TOLD by the authors' own Lean function (tested against real Go, not proved from fmt's source: count such statements apart). THE CARD IS WHAT COUNTS. Prove the row's statement (the work); the ties are given (YthonlkghkdjagaaGreatDoorTie.lean); close each card by the builder's one call (the guide's Derived/Test/ToyasCard.lean, 'card_holds'). Laid BY PROGRAM, IN A SANDBOX (cutbox-door.mjs). By AI agents, Wed Nov 11 2026. No macro, syntax, notation, axiom, sorry.
-/
import Derived.Test.YthonlkghkdjagaaGreatDoorRows
import GoSem.ClaimSeven
namespace Go.Proofs.YthonlkghkdjagaaGreatDoor
namespace Rows

/-- THE TIED CARD OF 'laws.FnSigned'. -/
def fnSignedCard : Claim7 := { stood := { row := fnSignedRow, standIns := [], harness := (true, "ca1b2f733067282949f954e9516b3a24e6dd74b563a96294445a98b047bdf23b"), looks := true }, kinds := [], alts := [], laidByText := true, laidKinds := [.handle, .data, .data, .data, .data, .data, .wider, .data, .data, .wider, .wider, .wider, .data, .data], laidTests := true, laidLooks := .later }
def FnSignedCardSaid : Prop := Claim7.holds Tryz.pinned (.plain (OpenSpec.ofChange fnSignedSpec)) fnSignedCard

/-- THE TIED CARD OF 'laws.FnExactSignPublic'. -/
def fnExactSignPublicCard : Claim7 := { stood := { row := fnExactSignPublicRow, standIns := [], harness := (true, "ca1b2f733067282949f954e9516b3a24e6dd74b563a96294445a98b047bdf23b"), looks := true }, kinds := [], alts := [], laidByText := true, laidKinds := [.data, .data, .data, .wider, .wider, .wider, .data, .data], laidTests := true, laidLooks := .later }
def FnExactSignPublicCardSaid : Prop := Claim7.holds Tryz.pinned (.plain (OpenSpec.ofChange fnExactSignPublicSpec)) fnExactSignPublicCard

/-- THE TIED CARD OF 'laws.FnExactVerify'. -/
def fnExactVerifyCard : Claim7 := { stood := { row := fnExactVerifyRow, standIns := [], harness := (true, "ca1b2f733067282949f954e9516b3a24e6dd74b563a96294445a98b047bdf23b"), looks := true }, kinds := [], alts := [], laidByText := true, laidKinds := [.handle, .data, .data, .data, .data, .data, .wider, .data, .data, .wider, .wider, .wider, .data, .data], laidTests := true, laidLooks := .later }
def FnExactVerifyCardSaid : Prop := Claim7.holds Tryz.pinned (.plain (OpenSpec.ofChange fnExactVerifySpec)) fnExactVerifyCard

/-- THE TIED CARD OF 'laws.FnExactSign'. -/
def fnExactSignCard : Claim7 := { stood := { row := fnExactSignRow, standIns := [], harness := (true, "ca1b2f733067282949f954e9516b3a24e6dd74b563a96294445a98b047bdf23b"), looks := true }, kinds := [], alts := [], laidByText := true, laidKinds := [.data, .data, .data, .wider, .data, .data, .wider, .wider, .wider, .data, .data], laidTests := true, laidLooks := .later }
def FnExactSignCardSaid : Prop := Claim7.holds Tryz.pinned (.plain (OpenSpec.ofChange fnExactSignSpec)) fnExactSignCard

/-- THE SECOND FORM's CARD OF 'laws.FnSigned'. -/
def fnSignedUptoCard : Claim7 := { stood := { row := fnSignedUptoRow, standIns := [], harness := (true, "ca1b2f733067282949f954e9516b3a24e6dd74b563a96294445a98b047bdf23b"), looks := true }, kinds := [], alts := [], laidByText := true, laidKinds := [.handle, .data, .data, .data, .data, .data, .wider, .data, .data, .wider, .wider, .wider, .data, .data], laidTests := true, laidLooks := .later }
def FnSignedUptoCardSaid : Prop := Claim7.holds Tryz.pinned (.plain (OpenSpec.upto fnSignedSpec)) fnSignedUptoCard

/-- THE SECOND FORM's CARD OF 'laws.FnExactSignPublic'. -/
def fnExactSignPublicUptoCard : Claim7 := { stood := { row := fnExactSignPublicUptoRow, standIns := [], harness := (true, "ca1b2f733067282949f954e9516b3a24e6dd74b563a96294445a98b047bdf23b"), looks := true }, kinds := [], alts := [], laidByText := true, laidKinds := [.data, .data, .data, .wider, .wider, .wider, .data, .data], laidTests := true, laidLooks := .later }
def FnExactSignPublicUptoCardSaid : Prop := Claim7.holds Tryz.pinned (.plain (OpenSpec.upto fnExactSignPublicSpec)) fnExactSignPublicUptoCard

/-- THE SECOND FORM's CARD OF 'laws.FnExactVerify'. -/
def fnExactVerifyUptoCard : Claim7 := { stood := { row := fnExactVerifyUptoRow, standIns := [], harness := (true, "ca1b2f733067282949f954e9516b3a24e6dd74b563a96294445a98b047bdf23b"), looks := true }, kinds := [], alts := [], laidByText := true, laidKinds := [.handle, .data, .data, .data, .data, .data, .wider, .data, .data, .wider, .wider, .wider, .data, .data], laidTests := true, laidLooks := .later }
def FnExactVerifyUptoCardSaid : Prop := Claim7.holds Tryz.pinned (.plain (OpenSpec.upto fnExactVerifySpec)) fnExactVerifyUptoCard

/-- THE SECOND FORM's CARD OF 'laws.FnExactSign'. -/
def fnExactSignUptoCard : Claim7 := { stood := { row := fnExactSignUptoRow, standIns := [], harness := (true, "ca1b2f733067282949f954e9516b3a24e6dd74b563a96294445a98b047bdf23b"), looks := true }, kinds := [], alts := [], laidByText := true, laidKinds := [.data, .data, .data, .wider, .data, .data, .wider, .wider, .wider, .data, .data], laidTests := true, laidLooks := .later }
def FnExactSignUptoCardSaid : Prop := Claim7.holds Tryz.pinned (.plain (OpenSpec.upto fnExactSignSpec)) fnExactSignUptoCard
end Rows
end Go.Proofs.YthonlkghkdjagaaGreatDoor
