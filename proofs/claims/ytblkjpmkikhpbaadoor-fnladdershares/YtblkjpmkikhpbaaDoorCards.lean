/-
  DERIVED. GIVEN WITH THE SEED: THE CARDS: each row of YtblkjpmkikhpbaaDoorRows.lean that lists a variable, with what it lists TIED to the program's text (the seventh form; the later family's looks); each row that meets fmt, with fmt's text TOLD by the authors' own Lean function (tested against real Go, not proved from fmt's source: count such statements apart). THE CARD IS WHAT COUNTS. Prove the row's statement (the work); the ties are given (YtblkjpmkikhpbaaDoorTie.lean); close each card by the builder's one call (the guide's Derived/Test/ToyasCard.lean, 'card_holds'). Laid BY PROGRAM, IN A SANDBOX (cutbox-door.mjs). By AI agents, Wed Nov 11 2026. No macro, syntax, notation, axiom, sorry.
-/
import Derived.Test.YtblkjpmkikhpbaaDoorRows
import GoSem.ClaimSeven
namespace Go.Proofs.YtblkjpmkikhpbaaDoor
namespace Rows

/-- THE TIED CARD OF 'laws.FnExactLadder'. -/
def fnExactLadderCard : Claim7 := { stood := { row := fnExactLadderRow, standIns := [], harness := (true, "5c4dc67583ea523e9ae72de5a1d2e178fdec363f1efb2a794da38cf2634ee100"), looks := false }, kinds := [], alts := [], laidByText := true, laidKinds := [.data, .data, .data], laidTests := true, laidLooks := .later }
def FnExactLadderCardSaid : Prop := Claim7.holds Tryd.pinned (.plain (OpenSpec.ofChange fnExactLadderSpec)) fnExactLadderCard

/-- THE TIED CARD OF 'laws.FnExactLadderPublic'. -/
def fnExactLadderPublicCard : Claim7 := { stood := { row := fnExactLadderPublicRow, standIns := [], harness := (true, "5c4dc67583ea523e9ae72de5a1d2e178fdec363f1efb2a794da38cf2634ee100"), looks := false }, kinds := [], alts := [], laidByText := true, laidKinds := [.data, .data, .data], laidTests := true, laidLooks := .later }
def FnExactLadderPublicCardSaid : Prop := Claim7.holds Tryd.pinned (.plain (OpenSpec.ofChange fnExactLadderPublicSpec)) fnExactLadderPublicCard

/-- THE TIED CARD OF 'laws.FnExactLadderShared'. -/
def fnExactLadderSharedCard : Claim7 := { stood := { row := fnExactLadderSharedRow, standIns := [], harness := (true, "5c4dc67583ea523e9ae72de5a1d2e178fdec363f1efb2a794da38cf2634ee100"), looks := false }, kinds := [], alts := [], laidByText := true, laidKinds := [.data, .data, .data], laidTests := true, laidLooks := .later }
def FnExactLadderSharedCardSaid : Prop := Claim7.holds Tryd.pinned (.plain (OpenSpec.ofChange fnExactLadderSharedSpec)) fnExactLadderSharedCard

/-- THE TIED CARD OF 'laws.FnLadderShares'. -/
def fnLadderSharesCard : Claim7 := { stood := { row := fnLadderSharesRow, standIns := [], harness := (true, "5c4dc67583ea523e9ae72de5a1d2e178fdec363f1efb2a794da38cf2634ee100"), looks := false }, kinds := [], alts := [], laidByText := true, laidKinds := [.data, .data, .data], laidTests := true, laidLooks := .later }
def FnLadderSharesCardSaid : Prop := Claim7.holds Tryd.pinned (.plain (OpenSpec.ofChange fnLadderSharesSpec)) fnLadderSharesCard

/-- THE SECOND FORM's CARD OF 'laws.FnExactLadder'. -/
def fnExactLadderUptoCard : Claim7 := { stood := { row := fnExactLadderUptoRow, standIns := [], harness := (true, "5c4dc67583ea523e9ae72de5a1d2e178fdec363f1efb2a794da38cf2634ee100"), looks := false }, kinds := [], alts := [], laidByText := true, laidKinds := [.data, .data, .data], laidTests := true, laidLooks := .later }
def FnExactLadderUptoCardSaid : Prop := Claim7.holds Tryd.pinned (.plain (OpenSpec.upto fnExactLadderSpec)) fnExactLadderUptoCard

/-- THE SECOND FORM's CARD OF 'laws.FnExactLadderPublic'. -/
def fnExactLadderPublicUptoCard : Claim7 := { stood := { row := fnExactLadderPublicUptoRow, standIns := [], harness := (true, "5c4dc67583ea523e9ae72de5a1d2e178fdec363f1efb2a794da38cf2634ee100"), looks := false }, kinds := [], alts := [], laidByText := true, laidKinds := [.data, .data, .data], laidTests := true, laidLooks := .later }
def FnExactLadderPublicUptoCardSaid : Prop := Claim7.holds Tryd.pinned (.plain (OpenSpec.upto fnExactLadderPublicSpec)) fnExactLadderPublicUptoCard

/-- THE SECOND FORM's CARD OF 'laws.FnExactLadderShared'. -/
def fnExactLadderSharedUptoCard : Claim7 := { stood := { row := fnExactLadderSharedUptoRow, standIns := [], harness := (true, "5c4dc67583ea523e9ae72de5a1d2e178fdec363f1efb2a794da38cf2634ee100"), looks := false }, kinds := [], alts := [], laidByText := true, laidKinds := [.data, .data, .data], laidTests := true, laidLooks := .later }
def FnExactLadderSharedUptoCardSaid : Prop := Claim7.holds Tryd.pinned (.plain (OpenSpec.upto fnExactLadderSharedSpec)) fnExactLadderSharedUptoCard

/-- THE SECOND FORM's CARD OF 'laws.FnLadderShares'. -/
def fnLadderSharesUptoCard : Claim7 := { stood := { row := fnLadderSharesUptoRow, standIns := [], harness := (true, "5c4dc67583ea523e9ae72de5a1d2e178fdec363f1efb2a794da38cf2634ee100"), looks := false }, kinds := [], alts := [], laidByText := true, laidKinds := [.data, .data, .data], laidTests := true, laidLooks := .later }
def FnLadderSharesUptoCardSaid : Prop := Claim7.holds Tryd.pinned (.plain (OpenSpec.upto fnLadderSharesSpec)) fnLadderSharesUptoCard
end Rows
end Go.Proofs.YtblkjpmkikhpbaaDoor
