/-
  DERIVED. GIVEN WITH THE SEED: THE CARDS: each row of YtmfajpplagbfcaaGreatDoorRows.lean that lists a variable, with what it lists TIED to the program's text (the seventh form; the later family's looks); each row that meets fmt, with fmt's text TOLD by the authors' own Lean function (tested against real Go, not proved from fmt's source: count such statements apart). THE CARD IS WHAT COUNTS. Prove the row's statement (the work); the ties are given (YtmfajpplagbfcaaGreatDoorTie.lean); close each card by the builder's one call (the guide's Derived/Test/ToyasCard.lean, 'card_holds'). Laid BY PROGRAM, IN A SANDBOX (cutbox-door.mjs). By AI agents, Wed Nov 11 2026. No macro, syntax, notation, axiom, sorry.
-/
import Derived.Test.YtmfajpplagbfcaaGreatDoorRows
import GoSem.ClaimSeven
namespace Go.Proofs.YtmfajpplagbfcaaGreatDoor
namespace Rows

/-- THE TIED CARD OF 'laws.FnHeadBinds'. -/
def fnHeadBindsCard : Claim7 := { stood := { row := fnHeadBindsRow, standIns := [], harness := (true, "639114f3be952a1b7300173649d2331444f50804abbc9b7850f28421417337a3"), looks := true }, kinds := [], alts := [], laidByText := true, laidKinds := [.data, .data], laidTests := true, laidLooks := .later }
def FnHeadBindsCardSaid : Prop := Claim7.holds Tryz.pinned (.plain (OpenSpec.ofChange fnHeadBindsSpec)) fnHeadBindsCard

/-- THE SECOND FORM's CARD OF 'laws.FnHeadBinds'. -/
def fnHeadBindsUptoCard : Claim7 := { stood := { row := fnHeadBindsUptoRow, standIns := [], harness := (true, "639114f3be952a1b7300173649d2331444f50804abbc9b7850f28421417337a3"), looks := true }, kinds := [], alts := [], laidByText := true, laidKinds := [.data, .data], laidTests := true, laidLooks := .later }
def FnHeadBindsUptoCardSaid : Prop := Claim7.holds Tryz.pinned (.plain (OpenSpec.upto fnHeadBindsSpec)) fnHeadBindsUptoCard
end Rows
end Go.Proofs.YtmfajpplagbfcaaGreatDoor
