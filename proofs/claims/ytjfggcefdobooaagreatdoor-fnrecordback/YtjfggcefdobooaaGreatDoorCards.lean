/-
  DERIVED. GIVEN WITH THE SEED: THE CARDS: each row of YtjfggcefdobooaaGreatDoorRows.lean that lists a variable, with what it lists TIED to the program's text (the seventh form; the later family's looks); each row that meets fmt, with fmt's text TOLD by the authors' own Lean function (tested against real Go, not proved from fmt's source: count such statements apart). THE CARD IS WHAT COUNTS. Prove the row's statement (the work); the ties are given (YtjfggcefdobooaaGreatDoorTie.lean); close each card by the builder's one call (the guide's Derived/Test/ToyasCard.lean, 'card_holds'). Laid BY PROGRAM, IN A SANDBOX (cutbox-door.mjs). By AI agents, Wed Nov 11 2026. No macro, syntax, notation, axiom, sorry.
-/
import Derived.Test.YtjfggcefdobooaaGreatDoorRows
import GoSem.ClaimSeven
namespace Go.Proofs.YtjfggcefdobooaaGreatDoor
namespace Rows

/-- THE TIED CARD OF 'laws.FnRecordBack'. -/
def fnRecordBackCard : Claim7 := { stood := { row := fnRecordBackRow, standIns := [], harness := (true, "b9ca616e59013718ba3c6461423910f01c155e00d0bdcecd90ac9044acae3470"), looks := true }, kinds := [], alts := [], laidByText := true, laidKinds := [.data, .sentinel, .sentinel, .sentinel, .sentinel, .sentinel, .sentinel, .sentinel, .sentinel, .pinned], laidTests := true, laidLooks := .later }
def FnRecordBackCardSaid : Prop := Claim7.holds Tryz.pinned (.plain (OpenSpec.ofChange fnRecordBackSpec)) fnRecordBackCard

/-- THE SECOND FORM's CARD OF 'laws.FnRecordBack'. -/
def fnRecordBackUptoCard : Claim7 := { stood := { row := fnRecordBackUptoRow, standIns := [], harness := (true, "b9ca616e59013718ba3c6461423910f01c155e00d0bdcecd90ac9044acae3470"), looks := true }, kinds := [], alts := [], laidByText := true, laidKinds := [.data, .sentinel, .sentinel, .sentinel, .sentinel, .sentinel, .sentinel, .sentinel, .sentinel, .pinned], laidTests := true, laidLooks := .later }
def FnRecordBackUptoCardSaid : Prop := Claim7.holds Tryz.pinned (.plain (OpenSpec.upto fnRecordBackSpec)) fnRecordBackUptoCard
end Rows
end Go.Proofs.YtjfggcefdobooaaGreatDoor
