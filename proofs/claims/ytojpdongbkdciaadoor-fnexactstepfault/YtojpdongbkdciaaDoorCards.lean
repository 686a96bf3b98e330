/-
  DERIVED. GIVEN WITH THE SEED: THE CARDS: each row of YtojpdongbkdciaaDoorRows.lean that lists a variable, with what it lists TIED to the program's text (the seventh form; the later family's looks); each row that meets fmt, with fmt's text TOLD by the authors' own Lean function (tested against real Go, not proved from fmt's source: count such statements apart). THE CARD IS WHAT COUNTS. Prove the row's statement (the work); the ties are given (YtojpdongbkdciaaDoorTie.lean); close each card by the builder's one call (the guide's Derived/Test/ToyasCard.lean, 'card_holds'). Laid BY PROGRAM, IN A SANDBOX (cutbox-door.mjs). By AI agents, Wed Nov 11 2026. No macro, syntax, notation, axiom, sorry.
-/
import Derived.Test.YtojpdongbkdciaaDoorRows
import GoSem.ClaimSeven
namespace Go.Proofs.YtojpdongbkdciaaDoor
namespace Rows

/-- THE TIED CARD OF 'laws.FnExactStepFault'. -/
def fnExactStepFaultCard : Claim7 := { stood := { row := fnExactStepFaultRow, standIns := [], harness := (true, "ddc196bc98526f6dce521d6c8ec088a974ae40aa5434faae60f737ddc08b34eb"), looks := false }, kinds := [], alts := [], laidByText := true, laidKinds := [.data], laidTests := true, laidLooks := .later }
def FnExactStepFaultCardSaid : Prop := Claim7.holds Tryd.pinned (.plain (OpenSpec.ofChange fnExactStepFaultSpec)) fnExactStepFaultCard

/-- THE SECOND FORM's CARD OF 'laws.FnExactStepFault'. -/
def fnExactStepFaultUptoCard : Claim7 := { stood := { row := fnExactStepFaultUptoRow, standIns := [], harness := (true, "ddc196bc98526f6dce521d6c8ec088a974ae40aa5434faae60f737ddc08b34eb"), looks := false }, kinds := [], alts := [], laidByText := true, laidKinds := [.data], laidTests := true, laidLooks := .later }
def FnExactStepFaultUptoCardSaid : Prop := Claim7.holds Tryd.pinned (.plain (OpenSpec.upto fnExactStepFaultSpec)) fnExactStepFaultUptoCard
end Rows
end Go.Proofs.YtojpdongbkdciaaDoor
