/-
  DERIVED. GIVEN WITH THE SEED: THE CARDS: each row of YtnaaanefndeafaaDoorRows.lean that lists a variable, with what it lists TIED to the program's text (the seventh form; the later family's looks); each row that meets fmt, with fmt's text TOLD by the authors' own Lean function (tested against real Go, not proved from fmt's source: count such statements apart). THE CARD IS WHAT COUNTS. Prove the row's statement (the work); the ties are given (YtnaaanefndeafaaDoorTie.lean); close each card by the builder's one call (the guide's Derived/Test/ToyasCard.lean, 'card_holds'). Laid BY PROGRAM, IN A SANDBOX (cutbox-door.mjs). By AI agents, Wed Nov 11 2026. No macro, syntax, notation, axiom, sorry.
-/
import Derived.Test.YtnaaanefndeafaaDoorRows
import GoSem.ClaimSeven
namespace Go.Proofs.YtnaaanefndeafaaDoor
namespace Rows

/-- THE TIED CARD OF 'laws.FnExactPointScale'. -/
def fnExactPointScaleCard : Claim7 := { stood := { row := fnExactPointScaleRow, standIns := [], harness := (true, "ad93a45650af12700c4b1e89c423382a062229914caeb15417c159c7d090dc64"), looks := false }, kinds := [], alts := [], laidByText := true, laidKinds := [.data, .data, .data, .wider, .wider], laidTests := true, laidLooks := .later }
def FnExactPointScaleCardSaid : Prop := Claim7.holds Tryd.pinned (.plain (OpenSpec.ofChange fnExactPointScaleSpec)) fnExactPointScaleCard

/-- THE TIED CARD OF 'laws.FnPointBytes'. -/
def fnPointBytesCard : Claim7 := { stood := { row := fnPointBytesRow, standIns := [], harness := (true, "ad93a45650af12700c4b1e89c423382a062229914caeb15417c159c7d090dc64"), looks := false }, kinds := [], alts := [], laidByText := true, laidKinds := [.data, .data, .data, .data, .data, .wider], laidTests := true, laidLooks := .later }
def FnPointBytesCardSaid : Prop := Claim7.holds Tryd.pinned (.plain (OpenSpec.ofChange fnPointBytesSpec)) fnPointBytesCard

/-- THE SECOND FORM's CARD OF 'laws.FnExactPointScale'. -/
def fnExactPointScaleUptoCard : Claim7 := { stood := { row := fnExactPointScaleUptoRow, standIns := [], harness := (true, "ad93a45650af12700c4b1e89c423382a062229914caeb15417c159c7d090dc64"), looks := false }, kinds := [], alts := [], laidByText := true, laidKinds := [.data, .data, .data, .wider, .wider], laidTests := true, laidLooks := .later }
def FnExactPointScaleUptoCardSaid : Prop := Claim7.holds Tryd.pinned (.plain (OpenSpec.upto fnExactPointScaleSpec)) fnExactPointScaleUptoCard

/-- THE SECOND FORM's CARD OF 'laws.FnPointBytes'. -/
def fnPointBytesUptoCard : Claim7 := { stood := { row := fnPointBytesUptoRow, standIns := [], harness := (true, "ad93a45650af12700c4b1e89c423382a062229914caeb15417c159c7d090dc64"), looks := false }, kinds := [], alts := [], laidByText := true, laidKinds := [.data, .data, .data, .data, .data, .wider], laidTests := true, laidLooks := .later }
def FnPointBytesUptoCardSaid : Prop := Claim7.holds Tryd.pinned (.plain (OpenSpec.upto fnPointBytesSpec)) fnPointBytesUptoCard
end Rows
end Go.Proofs.YtnaaanefndeafaaDoor
