/-
  DERIVED. GIVEN WITH THE SEED: THE CARDS: each row of YteedfhljbdnmnaaGreatDoorRows.lean that lists a variable, with what it lists TIED to the program's text (the seventh form; the later family's looks); each row that meets fmt, with fmt's text TOLD by the authors' own Lean function (tested against real Go, not proved from fmt's source: count such statements apart). THE CARD IS WHAT COUNTS. Prove the row's statement (the work); the ties are given (YteedfhljbdnmnaaGreatDoorTie.lean); close each card by the builder's one call (the guide's Derived/Test/ToyasCard.lean, 'card_holds'). Laid BY PROGRAM, IN A SANDBOX (cutbox-door.mjs). By AI agents, Wed Nov 11 2026. No macro, syntax, notation, axiom, sorry.
-/
import Derived.Test.YteedfhljbdnmnaaGreatDoorRows
import GoSem.ClaimSeven
namespace Go.Proofs.YteedfhljbdnmnaaGreatDoor
namespace Rows

/-- THE TIED CARD OF 'laws.FnSchedulesAgree'. -/
def fnSchedulesAgreeCard : Claim7 := { stood := { row := fnSchedulesAgreeRow, standIns := [], harness := (true, "51284b210917ae9cc0487acd9512cf2487124b478d1f705c9134423cb410c5ac"), looks := false }, kinds := [], alts := [], laidByText := true, laidKinds := [.data, .data, .data, .data, .data], laidTests := true, laidLooks := .later }
def FnSchedulesAgreeCardSaid : Prop := Claim7.holds Tryz.pinned (.plain (OpenSpec.ofChange fnSchedulesAgreeSpec)) fnSchedulesAgreeCard

/-- THE SECOND FORM's CARD OF 'laws.FnSchedulesAgree'. -/
def fnSchedulesAgreeUptoCard : Claim7 := { stood := { row := fnSchedulesAgreeUptoRow, standIns := [], harness := (true, "51284b210917ae9cc0487acd9512cf2487124b478d1f705c9134423cb410c5ac"), looks := false }, kinds := [], alts := [], laidByText := true, laidKinds := [.data, .data, .data, .data, .data], laidTests := true, laidLooks := .later }
def FnSchedulesAgreeUptoCardSaid : Prop := Claim7.holds Tryz.pinned (.plain (OpenSpec.upto fnSchedulesAgreeSpec)) fnSchedulesAgreeUptoCard
end Rows
end Go.Proofs.YteedfhljbdnmnaaGreatDoor
