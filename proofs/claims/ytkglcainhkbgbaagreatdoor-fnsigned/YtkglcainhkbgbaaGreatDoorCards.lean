/-
  DERIVED. GIVEN WITH THE SEED: THE CARDS: each row of YtkglcainhkbgbaaGreatDoorRows.lean that lists a variable, with what it lists TIED to the program's text (the seventh form; the later family's looks); each row that meets fmt, with fmt's text TOLD by the authors' own Lean function (tested against real Go, not proved from fmt's source: count such statements apart). THE CARD IS WHAT COUNTS. Prove the row's statement (the work); the ties are given (YtkglcainhkbgbaaGreatDoorTie.lean); close each card by the builder's one call (the guide's Derived/Test/ToyasCard.lean, 'card_holds'). Laid BY PROGRAM, IN A SANDBOX (cutbox-door.mjs). By AI agents, Wed Nov 11 2026. No macro, syntax, notation, axiom, sorry.
-/
import Derived.Test.YtkglcainhkbgbaaGreatDoorRows
import GoSem.ClaimSeven
namespace Go.Proofs.YtkglcainhkbgbaaGreatDoor
namespace Rows

/-- THE TIED CARD OF 'laws.FnSigned'. -/
def fnSignedCard : Claim7 := { stood := { row := fnSignedRow, standIns := [], harness := (true, "f085198582acab6ded747a243a2cec21e9ea1e61253edda406da3b8f1ca088e4"), looks := true }, kinds := [], alts := [], laidByText := true, laidKinds := [.handle, .data, .data, .data, .data, .data, .wider, .data, .data, .wider, .wider, .wider, .data, .data], laidTests := true, laidLooks := .later }
def FnSignedCardSaid : Prop := Claim7.holds Tryz.pinned (.plain (OpenSpec.ofChange fnSignedSpec)) fnSignedCard

/-- THE SECOND FORM's CARD OF 'laws.FnSigned'. -/
def fnSignedUptoCard : Claim7 := { stood := { row := fnSignedUptoRow, standIns := [], harness := (true, "f085198582acab6ded747a243a2cec21e9ea1e61253edda406da3b8f1ca088e4"), looks := true }, kinds := [], alts := [], laidByText := true, laidKinds := [.handle, .data, .data, .data, .data, .data, .wider, .data, .data, .wider, .wider, .wider, .data, .data], laidTests := true, laidLooks := .later }
def FnSignedUptoCardSaid : Prop := Claim7.holds Tryz.pinned (.plain (OpenSpec.upto fnSignedSpec)) fnSignedUptoCard
end Rows
end Go.Proofs.YtkglcainhkbgbaaGreatDoor
