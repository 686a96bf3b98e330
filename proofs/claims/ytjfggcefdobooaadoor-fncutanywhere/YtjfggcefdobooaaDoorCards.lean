/-
  DERIVED. GIVEN WITH THE SEED: THE CARDS: each row of YtjfggcefdobooaaDoorRows.lean that lists a variable, with what it lists TIED to the program's text (the seventh form; the later family's looks); each row that meets fmt, with fmt's text TOLD by the authors' own Lean function (tested against real Go, not proved from fmt's source: count such statements apart). THE CARD IS WHAT COUNTS. Prove the row's statement (the work); the ties are given (YtjfggcefdobooaaDoorTie.lean); close each card by the builder's one call (the guide's Derived/Test/ToyasCard.lean, 'card_holds'). Laid BY PROGRAM, IN A SANDBOX (cutbox-door.mjs). By AI agents, Wed Nov 11 2026. No macro, syntax, notation, axiom, sorry.
-/
import Derived.Test.YtjfggcefdobooaaDoorRows
import GoSem.ClaimSeven
namespace Go.Proofs.YtjfggcefdobooaaDoor
namespace Rows

/-- THE TIED CARD OF 'laws.FnCutAnywhere'. -/
def fnCutAnywhereCard : Claim7 := { stood := { row := fnCutAnywhereRow, standIns := [], harness := (true, "1bb5939a76d21f12d3241ee08478f8694144c4226dc842d798e4899d8a00ecce"), looks := true }, kinds := [], alts := [], laidByText := true, laidKinds := [.sentinel, .sentinel, .sentinel], laidTests := true, laidLooks := .later }
def FnCutAnywhereCardSaid : Prop := Claim7.holds Tryd.pinned (.plain (OpenSpec.ofChange fnCutAnywhereSpec)) fnCutAnywhereCard

/-- THE SECOND FORM's CARD OF 'laws.FnCutAnywhere'. -/
def fnCutAnywhereUptoCard : Claim7 := { stood := { row := fnCutAnywhereUptoRow, standIns := [], harness := (true, "1bb5939a76d21f12d3241ee08478f8694144c4226dc842d798e4899d8a00ecce"), looks := true }, kinds := [], alts := [], laidByText := true, laidKinds := [.sentinel, .sentinel, .sentinel], laidTests := true, laidLooks := .later }
def FnCutAnywhereUptoCardSaid : Prop := Claim7.holds Tryd.pinned (.plain (OpenSpec.upto fnCutAnywhereSpec)) fnCutAnywhereUptoCard
end Rows
end Go.Proofs.YtjfggcefdobooaaDoor
