/-
  DERIVED. GIVEN WITH THE SEED: THE CARDS: each row of YtljpjbojdekeiaaDoorRows.lean that lists a variable, with what it lists TIED to the program's text (the seventh form; the later family's looks); each row that meets fmt, with fmt's text TOLD by the authors' own Lean function (tested against real Go, not proved from fmt's source: count such statements apart). THE CARD IS WHAT COUNTS. Prove the row's statement (the work); the ties are given (YtljpjbojdekeiaaDoorTie.lean); close each card by the builder's one call (the guide's Derived/Test/ToyasCard.lean, 'card_holds'). Laid BY PROGRAM, IN A SANDBOX (cutbox-door.mjs). By AI agents, Wed Nov 11 2026. No macro, syntax, notation, axiom, sorry.
-/
import Derived.Test.YtljpjbojdekeiaaDoorRows
import GoSem.ClaimSeven
namespace Go.Proofs.YtljpjbojdekeiaaDoor
namespace Rows

/-- THE TIED CARD OF 'laws.FnPadEnds'. -/
def fnPadEndsCard : Claim7 := { stood := { row := fnPadEndsRow, standIns := [], harness := (true, "31ad7068d3b4fd5602d4bfce706a83f60f90f982c3f433995a3d7d2f6602666f"), looks := false }, kinds := [], alts := [], laidByText := true, laidKinds := [.data, .data], laidTests := true, laidLooks := .later }
def FnPadEndsCardSaid : Prop := Claim7.holds Tryd.pinned (.plain (OpenSpec.ofChange fnPadEndsSpec)) fnPadEndsCard

/-- THE TIED CARD OF 'laws.FnHashPieces'. -/
def fnHashPiecesCard : Claim7 := { stood := { row := fnHashPiecesRow, standIns := [], harness := (true, "31ad7068d3b4fd5602d4bfce706a83f60f90f982c3f433995a3d7d2f6602666f"), looks := false }, kinds := [], alts := [], laidByText := true, laidKinds := [.data, .data], laidTests := true, laidLooks := .later }
def FnHashPiecesCardSaid : Prop := Claim7.holds Tryd.pinned (.plain (OpenSpec.ofChange fnHashPiecesSpec)) fnHashPiecesCard

/-- THE TIED CARD OF 'laws.FnExpandBegins'. -/
def fnExpandBeginsCard : Claim7 := { stood := { row := fnExpandBeginsRow, standIns := [], harness := (true, "31ad7068d3b4fd5602d4bfce706a83f60f90f982c3f433995a3d7d2f6602666f"), looks := false }, kinds := [], alts := [], laidByText := true, laidKinds := [.data, .data], laidTests := true, laidLooks := .later }
def FnExpandBeginsCardSaid : Prop := Claim7.holds Tryd.pinned (.plain (OpenSpec.ofChange fnExpandBeginsSpec)) fnExpandBeginsCard

/-- THE TIED CARD OF 'laws.FnMacKeys'. -/
def fnMacKeysCard : Claim7 := { stood := { row := fnMacKeysRow, standIns := [], harness := (true, "31ad7068d3b4fd5602d4bfce706a83f60f90f982c3f433995a3d7d2f6602666f"), looks := false }, kinds := [], alts := [], laidByText := true, laidKinds := [.data, .data], laidTests := true, laidLooks := .later }
def FnMacKeysCardSaid : Prop := Claim7.holds Tryd.pinned (.plain (OpenSpec.ofChange fnMacKeysSpec)) fnMacKeysCard

/-- THE TIED CARD OF 'laws.FnExactHashMore'. -/
def fnExactHashMoreCard : Claim7 := { stood := { row := fnExactHashMoreRow, standIns := [], harness := (true, "31ad7068d3b4fd5602d4bfce706a83f60f90f982c3f433995a3d7d2f6602666f"), looks := false }, kinds := [], alts := [], laidByText := true, laidKinds := [.data], laidTests := true, laidLooks := .later }
def FnExactHashMoreCardSaid : Prop := Claim7.holds Tryd.pinned (.plain (OpenSpec.ofChange fnExactHashMoreSpec)) fnExactHashMoreCard

/-- THE TIED CARD OF 'laws.FnExactMac'. -/
def fnExactMacCard : Claim7 := { stood := { row := fnExactMacRow, standIns := [], harness := (true, "31ad7068d3b4fd5602d4bfce706a83f60f90f982c3f433995a3d7d2f6602666f"), looks := false }, kinds := [], alts := [], laidByText := true, laidKinds := [.data, .data], laidTests := true, laidLooks := .later }
def FnExactMacCardSaid : Prop := Claim7.holds Tryd.pinned (.plain (OpenSpec.ofChange fnExactMacSpec)) fnExactMacCard

/-- THE TIED CARD OF 'laws.FnExactExtract'. -/
def fnExactExtractCard : Claim7 := { stood := { row := fnExactExtractRow, standIns := [], harness := (true, "31ad7068d3b4fd5602d4bfce706a83f60f90f982c3f433995a3d7d2f6602666f"), looks := false }, kinds := [], alts := [], laidByText := true, laidKinds := [.data, .data], laidTests := true, laidLooks := .later }
def FnExactExtractCardSaid : Prop := Claim7.holds Tryd.pinned (.plain (OpenSpec.ofChange fnExactExtractSpec)) fnExactExtractCard

/-- THE TIED CARD OF 'laws.FnExactHashEnd'. -/
def fnExactHashEndCard : Claim7 := { stood := { row := fnExactHashEndRow, standIns := [], harness := (true, "31ad7068d3b4fd5602d4bfce706a83f60f90f982c3f433995a3d7d2f6602666f"), looks := false }, kinds := [], alts := [], laidByText := true, laidKinds := [.data], laidTests := true, laidLooks := .later }
def FnExactHashEndCardSaid : Prop := Claim7.holds Tryd.pinned (.plain (OpenSpec.ofChange fnExactHashEndSpec)) fnExactHashEndCard

/-- THE TIED CARD OF 'laws.FnExactExpand'. -/
def fnExactExpandCard : Claim7 := { stood := { row := fnExactExpandRow, standIns := [], harness := (true, "31ad7068d3b4fd5602d4bfce706a83f60f90f982c3f433995a3d7d2f6602666f"), looks := false }, kinds := [], alts := [], laidByText := true, laidKinds := [.data, .data], laidTests := true, laidLooks := .later }
def FnExactExpandCardSaid : Prop := Claim7.holds Tryd.pinned (.plain (OpenSpec.ofChange fnExactExpandSpec)) fnExactExpandCard

/-- THE TIED CARD OF 'laws.FnExactExpandLabel'. -/
def fnExactExpandLabelCard : Claim7 := { stood := { row := fnExactExpandLabelRow, standIns := [], harness := (true, "31ad7068d3b4fd5602d4bfce706a83f60f90f982c3f433995a3d7d2f6602666f"), looks := false }, kinds := [], alts := [], laidByText := true, laidKinds := [.data, .data], laidTests := true, laidLooks := .later }
def FnExactExpandLabelCardSaid : Prop := Claim7.holds Tryd.pinned (.plain (OpenSpec.ofChange fnExactExpandLabelSpec)) fnExactExpandLabelCard

/-- THE TIED CARD OF 'laws.FnExactDerive'. -/
def fnExactDeriveCard : Claim7 := { stood := { row := fnExactDeriveRow, standIns := [], harness := (true, "31ad7068d3b4fd5602d4bfce706a83f60f90f982c3f433995a3d7d2f6602666f"), looks := false }, kinds := [], alts := [], laidByText := true, laidKinds := [.data, .data], laidTests := true, laidLooks := .later }
def FnExactDeriveCardSaid : Prop := Claim7.holds Tryd.pinned (.plain (OpenSpec.ofChange fnExactDeriveSpec)) fnExactDeriveCard

/-- THE SECOND FORM's CARD OF 'laws.FnPadEnds'. -/
def fnPadEndsUptoCard : Claim7 := { stood := { row := fnPadEndsUptoRow, standIns := [], harness := (true, "31ad7068d3b4fd5602d4bfce706a83f60f90f982c3f433995a3d7d2f6602666f"), looks := false }, kinds := [], alts := [], laidByText := true, laidKinds := [.data, .data], laidTests := true, laidLooks := .later }
def FnPadEndsUptoCardSaid : Prop := Claim7.holds Tryd.pinned (.plain (OpenSpec.upto fnPadEndsSpec)) fnPadEndsUptoCard

/-- THE SECOND FORM's CARD OF 'laws.FnHashPieces'. -/
def fnHashPiecesUptoCard : Claim7 := { stood := { row := fnHashPiecesUptoRow, standIns := [], harness := (true, "31ad7068d3b4fd5602d4bfce706a83f60f90f982c3f433995a3d7d2f6602666f"), looks := false }, kinds := [], alts := [], laidByText := true, laidKinds := [.data, .data], laidTests := true, laidLooks := .later }
def FnHashPiecesUptoCardSaid : Prop := Claim7.holds Tryd.pinned (.plain (OpenSpec.upto fnHashPiecesSpec)) fnHashPiecesUptoCard

/-- THE SECOND FORM's CARD OF 'laws.FnExpandBegins'. -/
def fnExpandBeginsUptoCard : Claim7 := { stood := { row := fnExpandBeginsUptoRow, standIns := [], harness := (true, "31ad7068d3b4fd5602d4bfce706a83f60f90f982c3f433995a3d7d2f6602666f"), looks := false }, kinds := [], alts := [], laidByText := true, laidKinds := [.data, .data], laidTests := true, laidLooks := .later }
def FnExpandBeginsUptoCardSaid : Prop := Claim7.holds Tryd.pinned (.plain (OpenSpec.upto fnExpandBeginsSpec)) fnExpandBeginsUptoCard

/-- THE SECOND FORM's CARD OF 'laws.FnMacKeys'. -/
def fnMacKeysUptoCard : Claim7 := { stood := { row := fnMacKeysUptoRow, standIns := [], harness := (true, "31ad7068d3b4fd5602d4bfce706a83f60f90f982c3f433995a3d7d2f6602666f"), looks := false }, kinds := [], alts := [], laidByText := true, laidKinds := [.data, .data], laidTests := true, laidLooks := .later }
def FnMacKeysUptoCardSaid : Prop := Claim7.holds Tryd.pinned (.plain (OpenSpec.upto fnMacKeysSpec)) fnMacKeysUptoCard

/-- THE SECOND FORM's CARD OF 'laws.FnExactHashMore'. -/
def fnExactHashMoreUptoCard : Claim7 := { stood := { row := fnExactHashMoreUptoRow, standIns := [], harness := (true, "31ad7068d3b4fd5602d4bfce706a83f60f90f982c3f433995a3d7d2f6602666f"), looks := false }, kinds := [], alts := [], laidByText := true, laidKinds := [.data], laidTests := true, laidLooks := .later }
def FnExactHashMoreUptoCardSaid : Prop := Claim7.holds Tryd.pinned (.plain (OpenSpec.upto fnExactHashMoreSpec)) fnExactHashMoreUptoCard

/-- THE SECOND FORM's CARD OF 'laws.FnExactMac'. -/
def fnExactMacUptoCard : Claim7 := { stood := { row := fnExactMacUptoRow, standIns := [], harness := (true, "31ad7068d3b4fd5602d4bfce706a83f60f90f982c3f433995a3d7d2f6602666f"), looks := false }, kinds := [], alts := [], laidByText := true, laidKinds := [.data, .data], laidTests := true, laidLooks := .later }
def FnExactMacUptoCardSaid : Prop := Claim7.holds Tryd.pinned (.plain (OpenSpec.upto fnExactMacSpec)) fnExactMacUptoCard

/-- THE SECOND FORM's CARD OF 'laws.FnExactExtract'. -/
def fnExactExtractUptoCard : Claim7 := { stood := { row := fnExactExtractUptoRow, standIns := [], harness := (true, "31ad7068d3b4fd5602d4bfce706a83f60f90f982c3f433995a3d7d2f6602666f"), looks := false }, kinds := [], alts := [], laidByText := true, laidKinds := [.data, .data], laidTests := true, laidLooks := .later }
def FnExactExtractUptoCardSaid : Prop := Claim7.holds Tryd.pinned (.plain (OpenSpec.upto fnExactExtractSpec)) fnExactExtractUptoCard

/-- THE SECOND FORM's CARD OF 'laws.FnExactHashEnd'. -/
def fnExactHashEndUptoCard : Claim7 := { stood := { row := fnExactHashEndUptoRow, standIns := [], harness := (true, "31ad7068d3b4fd5602d4bfce706a83f60f90f982c3f433995a3d7d2f6602666f"), looks := false }, kinds := [], alts := [], laidByText := true, laidKinds := [.data], laidTests := true, laidLooks := .later }
def FnExactHashEndUptoCardSaid : Prop := Claim7.holds Tryd.pinned (.plain (OpenSpec.upto fnExactHashEndSpec)) fnExactHashEndUptoCard

/-- THE SECOND FORM's CARD OF 'laws.FnExactExpand'. -/
def fnExactExpandUptoCard : Claim7 := { stood := { row := fnExactExpandUptoRow, standIns := [], harness := (true, "31ad7068d3b4fd5602d4bfce706a83f60f90f982c3f433995a3d7d2f6602666f"), looks := false }, kinds := [], alts := [], laidByText := true, laidKinds := [.data, .data], laidTests := true, laidLooks := .later }
def FnExactExpandUptoCardSaid : Prop := Claim7.holds Tryd.pinned (.plain (OpenSpec.upto fnExactExpandSpec)) fnExactExpandUptoCard

/-- THE SECOND FORM's CARD OF 'laws.FnExactExpandLabel'. -/
def fnExactExpandLabelUptoCard : Claim7 := { stood := { row := fnExactExpandLabelUptoRow, standIns := [], harness := (true, "31ad7068d3b4fd5602d4bfce706a83f60f90f982c3f433995a3d7d2f6602666f"), looks := false }, kinds := [], alts := [], laidByText := true, laidKinds := [.data, .data], laidTests := true, laidLooks := .later }
def FnExactExpandLabelUptoCardSaid : Prop := Claim7.holds Tryd.pinned (.plain (OpenSpec.upto fnExactExpandLabelSpec)) fnExactExpandLabelUptoCard

/-- THE SECOND FORM's CARD OF 'laws.FnExactDerive'. -/
def fnExactDeriveUptoCard : Claim7 := { stood := { row := fnExactDeriveUptoRow, standIns := [], harness := (true, "31ad7068d3b4fd5602d4bfce706a83f60f90f982c3f433995a3d7d2f6602666f"), looks := false }, kinds := [], alts := [], laidByText := true, laidKinds := [.data, .data], laidTests := true, laidLooks := .later }
def FnExactDeriveUptoCardSaid : Prop := Claim7.holds Tryd.pinned (.plain (OpenSpec.upto fnExactDeriveSpec)) fnExactDeriveUptoCard
end Rows
end Go.Proofs.YtljpjbojdekeiaaDoor
