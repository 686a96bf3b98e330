/-
  DERIVED. GIVEN WITH THE SEED: THE CARDS: each row of YtkpomobhjkikeaaGreatDoorRows.lean that lists a variable, with what it lists TIED to the program's text (the seventh form; the later family's looks); each row that meets fmt, with fmt's text TOLD by the authors' own Lean function (tested against real Go, not proved from fmt's source: count such statements apart). THE CARD IS WHAT COUNTS. Prove the row's statement (the work); the ties are given (YtkpomobhjkikeaaGreatDoorTie.lean); close each card by the builder's one call (the guide's Derived/Test/ToyasCard.lean, 'card_holds'). Laid BY PROGRAM, IN A SANDBOX (cutbox-door.mjs). By AI agents, Wed Nov 11 2026. No macro, syntax, notation, axiom, sorry.
-/
import Derived.Test.YtkpomobhjkikeaaGreatDoorRows
import GoSem.ClaimSeven
namespace Go.Proofs.YtkpomobhjkikeaaGreatDoor
namespace Rows

/-- THE TIED CARD OF 'laws.FnSealedStream'. -/
def fnSealedStreamCard : Claim7 := { stood := { row := fnSealedStreamRow, standIns := [], harness := (true, "71c11f495ee7a8c82f4873efb504a90c3270837ee5c74103ed635cdcaa4860b9"), looks := true }, kinds := [], alts := [], laidByText := true, laidKinds := [.data, .sentinel, .sentinel, .sentinel, .sentinel, .sentinel, .sentinel, .sentinel, .sentinel, .pinned], laidTests := true, laidLooks := .later }
def FnSealedStreamCardSaid : Prop := Claim7.holds Tryz.pinned (.plain (OpenSpec.ofChange fnSealedStreamSpec)) fnSealedStreamCard

/-- THE SECOND FORM's CARD OF 'laws.FnSealedStream'. -/
def fnSealedStreamUptoCard : Claim7 := { stood := { row := fnSealedStreamUptoRow, standIns := [], harness := (true, "71c11f495ee7a8c82f4873efb504a90c3270837ee5c74103ed635cdcaa4860b9"), looks := true }, kinds := [], alts := [], laidByText := true, laidKinds := [.data, .sentinel, .sentinel, .sentinel, .sentinel, .sentinel, .sentinel, .sentinel, .sentinel, .pinned], laidTests := true, laidLooks := .later }
def FnSealedStreamUptoCardSaid : Prop := Claim7.holds Tryz.pinned (.plain (OpenSpec.upto fnSealedStreamSpec)) fnSealedStreamUptoCard
end Rows
end Go.Proofs.YtkpomobhjkikeaaGreatDoor
