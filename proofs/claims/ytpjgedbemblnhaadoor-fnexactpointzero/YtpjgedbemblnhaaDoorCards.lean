/-
  DERIVED. GIVEN WITH THE SEED: THE CARDS: each row of YtpjgedbemblnhaaDoorRows.lean that lists a variable, with what it lists TIED to the program's text (the seventh form; the later family's looks); each row that meets fmt, with fmt's text TOLD by the authors' own Lean function (tested against real Go, not proved from fmt's source: count such statements apart). THE CARD IS WHAT COUNTS. Prove the row's statement (the work); the ties are given (YtpjgedbemblnhaaDoorTie.lean); close each card by the builder's one call (the guide's Derived/Test/ToyasCard.lean, 'card_holds'). Laid BY PROGRAM, IN A SANDBOX (cutbox-door.mjs). By AI agents, Wed Nov 11 2026. No macro, syntax, notation, axiom, sorry.
-/
import Derived.Test.YtpjgedbemblnhaaDoorRows
import GoSem.ClaimSeven
namespace Go.Proofs.YtpjgedbemblnhaaDoor
namespace Rows

/-- THE TIED CARD OF 'laws.FnExactPointZero'. -/
def fnExactPointZeroCard : Claim7 := { stood := { row := fnExactPointZeroRow, standIns := [], harness := (true, "980d0c093283e893e4d75ab86f91f61412ed01405d701e2b293b0229cf6392d4"), looks := false }, kinds := [], alts := [], laidByText := true, laidKinds := [.wider], laidTests := true, laidLooks := .later }
def FnExactPointZeroCardSaid : Prop := Claim7.holds Tryd.pinned (.plain (OpenSpec.ofChange fnExactPointZeroSpec)) fnExactPointZeroCard

/-- THE SECOND FORM's CARD OF 'laws.FnExactPointZero'. -/
def fnExactPointZeroUptoCard : Claim7 := { stood := { row := fnExactPointZeroUptoRow, standIns := [], harness := (true, "980d0c093283e893e4d75ab86f91f61412ed01405d701e2b293b0229cf6392d4"), looks := false }, kinds := [], alts := [], laidByText := true, laidKinds := [.wider], laidTests := true, laidLooks := .later }
def FnExactPointZeroUptoCardSaid : Prop := Claim7.holds Tryd.pinned (.plain (OpenSpec.upto fnExactPointZeroSpec)) fnExactPointZeroUptoCard
end Rows
end Go.Proofs.YtpjgedbemblnhaaDoor
