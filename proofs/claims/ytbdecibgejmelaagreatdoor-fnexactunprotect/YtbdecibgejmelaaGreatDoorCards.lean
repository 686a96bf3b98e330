/-
  DERIVED. GIVEN WITH THE SEED: THE CARDS: each row of YtbdecibgejmelaaGreatDoorRows.lean that lists a variable, with what it lists TIED to the program's text (the seventh form; the later family's looks); each row that meets fmt, with fmt's text TOLD by the authors' own Lean function (tested against real Go, not proved from fmt's source: count such statements apart). THE CARD IS WHAT COUNTS. Prove the row's statement (the work); the ties are given (YtbdecibgejmelaaGreatDoorTie.lean); close each card by the builder's one call (the guide's Derived/Test/ToyasCard.lean, 'card_holds'). Laid BY PROGRAM, IN A SANDBOX (cutbox-door.mjs). By AI agents, Wed Nov 11 2026. No macro, syntax, notation, axiom, sorry.
-/
import Derived.Test.YtbdecibgejmelaaGreatDoorRows
import GoSem.ClaimSeven
namespace Go.Proofs.YtbdecibgejmelaaGreatDoor
namespace Rows

/-- THE TIED CARD OF 'laws.FnExactUnprotect'. -/
def fnExactUnprotectCard : Claim7 := { stood := { row := fnExactUnprotectRow, standIns := [], harness := (true, "84ff1ed04b24dcb7bea0acaa587ce598acf44d46c7c538dc625fb8387f1a84d7"), looks := true }, kinds := [], alts := [], laidByText := true, laidKinds := [.data, .sentinel, .sentinel, .sentinel, .sentinel, .sentinel, .sentinel, .sentinel, .pinned], laidTests := true, laidLooks := .later }
def FnExactUnprotectCardSaid : Prop := Claim7.holds Tryz.pinned (.plain (OpenSpec.ofChange fnExactUnprotectSpec)) fnExactUnprotectCard

/-- THE TIED CARD OF 'laws.FnRecordBack'. -/
def fnRecordBackCard : Claim7 := { stood := { row := fnRecordBackRow, standIns := [], harness := (true, "84ff1ed04b24dcb7bea0acaa587ce598acf44d46c7c538dc625fb8387f1a84d7"), looks := true }, kinds := [], alts := [], laidByText := true, laidKinds := [.data, .sentinel, .sentinel, .sentinel, .sentinel, .sentinel, .sentinel, .sentinel, .sentinel, .pinned], laidTests := true, laidLooks := .later }
def FnRecordBackCardSaid : Prop := Claim7.holds Tryz.pinned (.plain (OpenSpec.ofChange fnRecordBackSpec)) fnRecordBackCard

/-- THE TIED CARD OF 'laws.FnSealedStream'. -/
def fnSealedStreamCard : Claim7 := { stood := { row := fnSealedStreamRow, standIns := [], harness := (true, "84ff1ed04b24dcb7bea0acaa587ce598acf44d46c7c538dc625fb8387f1a84d7"), looks := true }, kinds := [], alts := [], laidByText := true, laidKinds := [.data, .sentinel, .sentinel, .sentinel, .sentinel, .sentinel, .sentinel, .sentinel, .sentinel, .pinned], laidTests := true, laidLooks := .later }
def FnSealedStreamCardSaid : Prop := Claim7.holds Tryz.pinned (.plain (OpenSpec.ofChange fnSealedStreamSpec)) fnSealedStreamCard

/-- THE SECOND FORM's CARD OF 'laws.FnExactUnprotect'. -/
def fnExactUnprotectUptoCard : Claim7 := { stood := { row := fnExactUnprotectUptoRow, standIns := [], harness := (true, "84ff1ed04b24dcb7bea0acaa587ce598acf44d46c7c538dc625fb8387f1a84d7"), looks := true }, kinds := [], alts := [], laidByText := true, laidKinds := [.data, .sentinel, .sentinel, .sentinel, .sentinel, .sentinel, .sentinel, .sentinel, .pinned], laidTests := true, laidLooks := .later }
def FnExactUnprotectUptoCardSaid : Prop := Claim7.holds Tryz.pinned (.plain (OpenSpec.upto fnExactUnprotectSpec)) fnExactUnprotectUptoCard

/-- THE SECOND FORM's CARD OF 'laws.FnRecordBack'. -/
def fnRecordBackUptoCard : Claim7 := { stood := { row := fnRecordBackUptoRow, standIns := [], harness := (true, "84ff1ed04b24dcb7bea0acaa587ce598acf44d46c7c538dc625fb8387f1a84d7"), looks := true }, kinds := [], alts := [], laidByText := true, laidKinds := [.data, .sentinel, .sentinel, .sentinel, .sentinel, .sentinel, .sentinel, .sentinel, .sentinel, .pinned], laidTests := true, laidLooks := .later }
def FnRecordBackUptoCardSaid : Prop := Claim7.holds Tryz.pinned (.plain (OpenSpec.upto fnRecordBackSpec)) fnRecordBackUptoCard

/-- THE SECOND FORM's CARD OF 'laws.FnSealedStream'. -/
def fnSealedStreamUptoCard : Claim7 := { stood := { row := fnSealedStreamUptoRow, standIns := [], harness := (true, "84ff1ed04b24dcb7bea0acaa587ce598acf44d46c7c538dc625fb8387f1a84d7"), looks := true }, kinds := [], alts := [], laidByText := true, laidKinds := [.data, .sentinel, .sentinel, .sentinel, .sentinel, .sentinel, .sentinel, .sentinel, .sentinel, .pinned], laidTests := true, laidLooks := .later }
def FnSealedStreamUptoCardSaid : Prop := Claim7.holds Tryz.pinned (.plain (OpenSpec.upto fnSealedStreamSpec)) fnSealedStreamUptoCard
end Rows
end Go.Proofs.YtbdecibgejmelaaGreatDoor
