/-
  DERIVED. GIVEN WITH THE SEED: THE CARDS: each row of YtbjcegabjpeejaaDoorRows.lean that lists a variable, with what it lists TIED to the program's text (the seventh form; the later family's looks); each row that meets fmt, with fmt's text TOLD by the authors' own Lean function (tested against real Go, not proved from fmt's source: count such statements apart). THE CARD IS WHAT COUNTS. Prove the row's statement (the work); the ties are given (YtbjcegabjpeejaaDoorTie.lean); close each card by the builder's one call (the guide's Derived/Test/ToyasCard.lean, 'card_holds'). Laid BY PROGRAM, IN A SANDBOX (cutbox-door.mjs). By AI agents, Wed Nov 11 2026. No macro, syntax, notation, axiom, sorry.
-/
import Derived.Test.YtbjcegabjpeejaaDoorRows
import GoSem.ClaimSeven
namespace Go.Proofs.YtbjcegabjpeejaaDoor
namespace Rows

/-- THE TIED CARD OF 'laws.FnExactHashStart'. -/
def fnExactHashStartCard : Claim7 := { stood := { row := fnExactHashStartRow, standIns := [], harness := (true, "bdb416af9215464a7cca52925b4595b28c78262ce9e7d2f7ea9be59217e447a4"), looks := false }, kinds := [], alts := [], laidByText := true, laidKinds := [.data], laidTests := true, laidLooks := .later }
def FnExactHashStartCardSaid : Prop := Claim7.holds Tryd.pinned (.plain (OpenSpec.ofChange fnExactHashStartSpec)) fnExactHashStartCard

/-- THE TIED CARD OF 'laws.FnExactHashLong'. -/
def fnExactHashLongCard : Claim7 := { stood := { row := fnExactHashLongRow, standIns := [], harness := (true, "bdb416af9215464a7cca52925b4595b28c78262ce9e7d2f7ea9be59217e447a4"), looks := false }, kinds := [], alts := [], laidByText := true, laidKinds := [.data, .data], laidTests := true, laidLooks := .later }
def FnExactHashLongCardSaid : Prop := Claim7.holds Tryd.pinned (.plain (OpenSpec.ofChange fnExactHashLongSpec)) fnExactHashLongCard

/-- THE TIED CARD OF 'laws.FnPadEnds'. -/
def fnPadEndsCard : Claim7 := { stood := { row := fnPadEndsRow, standIns := [], harness := (true, "bdb416af9215464a7cca52925b4595b28c78262ce9e7d2f7ea9be59217e447a4"), looks := false }, kinds := [], alts := [], laidByText := true, laidKinds := [.data, .data], laidTests := true, laidLooks := .later }
def FnPadEndsCardSaid : Prop := Claim7.holds Tryd.pinned (.plain (OpenSpec.ofChange fnPadEndsSpec)) fnPadEndsCard

/-- THE TIED CARD OF 'laws.FnHashPieces'. -/
def fnHashPiecesCard : Claim7 := { stood := { row := fnHashPiecesRow, standIns := [], harness := (true, "bdb416af9215464a7cca52925b4595b28c78262ce9e7d2f7ea9be59217e447a4"), looks := false }, kinds := [], alts := [], laidByText := true, laidKinds := [.data, .data], laidTests := true, laidLooks := .later }
def FnHashPiecesCardSaid : Prop := Claim7.holds Tryd.pinned (.plain (OpenSpec.ofChange fnHashPiecesSpec)) fnHashPiecesCard

/-- THE TIED CARD OF 'laws.FnExactHash'. -/
def fnExactHashCard : Claim7 := { stood := { row := fnExactHashRow, standIns := [], harness := (true, "bdb416af9215464a7cca52925b4595b28c78262ce9e7d2f7ea9be59217e447a4"), looks := false }, kinds := [], alts := [], laidByText := true, laidKinds := [.data, .data], laidTests := true, laidLooks := .later }
def FnExactHashCardSaid : Prop := Claim7.holds Tryd.pinned (.plain (OpenSpec.ofChange fnExactHashSpec)) fnExactHashCard

/-- THE TIED CARD OF 'laws.FnExactHashMore'. -/
def fnExactHashMoreCard : Claim7 := { stood := { row := fnExactHashMoreRow, standIns := [], harness := (true, "bdb416af9215464a7cca52925b4595b28c78262ce9e7d2f7ea9be59217e447a4"), looks := false }, kinds := [], alts := [], laidByText := true, laidKinds := [.data], laidTests := true, laidLooks := .later }
def FnExactHashMoreCardSaid : Prop := Claim7.holds Tryd.pinned (.plain (OpenSpec.ofChange fnExactHashMoreSpec)) fnExactHashMoreCard

/-- THE TIED CARD OF 'laws.FnExactHashEnd'. -/
def fnExactHashEndCard : Claim7 := { stood := { row := fnExactHashEndRow, standIns := [], harness := (true, "bdb416af9215464a7cca52925b4595b28c78262ce9e7d2f7ea9be59217e447a4"), looks := false }, kinds := [], alts := [], laidByText := true, laidKinds := [.data], laidTests := true, laidLooks := .later }
def FnExactHashEndCardSaid : Prop := Claim7.holds Tryd.pinned (.plain (OpenSpec.ofChange fnExactHashEndSpec)) fnExactHashEndCard

/-- THE SECOND FORM's CARD OF 'laws.FnExactHashStart'. -/
def fnExactHashStartUptoCard : Claim7 := { stood := { row := fnExactHashStartUptoRow, standIns := [], harness := (true, "bdb416af9215464a7cca52925b4595b28c78262ce9e7d2f7ea9be59217e447a4"), looks := false }, kinds := [], alts := [], laidByText := true, laidKinds := [.data], laidTests := true, laidLooks := .later }
def FnExactHashStartUptoCardSaid : Prop := Claim7.holds Tryd.pinned (.plain (OpenSpec.upto fnExactHashStartSpec)) fnExactHashStartUptoCard

/-- THE SECOND FORM's CARD OF 'laws.FnExactHashLong'. -/
def fnExactHashLongUptoCard : Claim7 := { stood := { row := fnExactHashLongUptoRow, standIns := [], harness := (true, "bdb416af9215464a7cca52925b4595b28c78262ce9e7d2f7ea9be59217e447a4"), looks := false }, kinds := [], alts := [], laidByText := true, laidKinds := [.data, .data], laidTests := true, laidLooks := .later }
def FnExactHashLongUptoCardSaid : Prop := Claim7.holds Tryd.pinned (.plain (OpenSpec.upto fnExactHashLongSpec)) fnExactHashLongUptoCard

/-- THE SECOND FORM's CARD OF 'laws.FnPadEnds'. -/
def fnPadEndsUptoCard : Claim7 := { stood := { row := fnPadEndsUptoRow, standIns := [], harness := (true, "bdb416af9215464a7cca52925b4595b28c78262ce9e7d2f7ea9be59217e447a4"), looks := false }, kinds := [], alts := [], laidByText := true, laidKinds := [.data, .data], laidTests := true, laidLooks := .later }
def FnPadEndsUptoCardSaid : Prop := Claim7.holds Tryd.pinned (.plain (OpenSpec.upto fnPadEndsSpec)) fnPadEndsUptoCard

/-- THE SECOND FORM's CARD OF 'laws.FnHashPieces'. -/
def fnHashPiecesUptoCard : Claim7 := { stood := { row := fnHashPiecesUptoRow, standIns := [], harness := (true, "bdb416af9215464a7cca52925b4595b28c78262ce9e7d2f7ea9be59217e447a4"), looks := false }, kinds := [], alts := [], laidByText := true, laidKinds := [.data, .data], laidTests := true, laidLooks := .later }
def FnHashPiecesUptoCardSaid : Prop := Claim7.holds Tryd.pinned (.plain (OpenSpec.upto fnHashPiecesSpec)) fnHashPiecesUptoCard

/-- THE SECOND FORM's CARD OF 'laws.FnExactHash'. -/
def fnExactHashUptoCard : Claim7 := { stood := { row := fnExactHashUptoRow, standIns := [], harness := (true, "bdb416af9215464a7cca52925b4595b28c78262ce9e7d2f7ea9be59217e447a4"), looks := false }, kinds := [], alts := [], laidByText := true, laidKinds := [.data, .data], laidTests := true, laidLooks := .later }
def FnExactHashUptoCardSaid : Prop := Claim7.holds Tryd.pinned (.plain (OpenSpec.upto fnExactHashSpec)) fnExactHashUptoCard

/-- THE SECOND FORM's CARD OF 'laws.FnExactHashMore'. -/
def fnExactHashMoreUptoCard : Claim7 := { stood := { row := fnExactHashMoreUptoRow, standIns := [], harness := (true, "bdb416af9215464a7cca52925b4595b28c78262ce9e7d2f7ea9be59217e447a4"), looks := false }, kinds := [], alts := [], laidByText := true, laidKinds := [.data], laidTests := true, laidLooks := .later }
def FnExactHashMoreUptoCardSaid : Prop := Claim7.holds Tryd.pinned (.plain (OpenSpec.upto fnExactHashMoreSpec)) fnExactHashMoreUptoCard

/-- THE SECOND FORM's CARD OF 'laws.FnExactHashEnd'. -/
def fnExactHashEndUptoCard : Claim7 := { stood := { row := fnExactHashEndUptoRow, standIns := [], harness := (true, "bdb416af9215464a7cca52925b4595b28c78262ce9e7d2f7ea9be59217e447a4"), looks := false }, kinds := [], alts := [], laidByText := true, laidKinds := [.data], laidTests := true, laidLooks := .later }
def FnExactHashEndUptoCardSaid : Prop := Claim7.holds Tryd.pinned (.plain (OpenSpec.upto fnExactHashEndSpec)) fnExactHashEndUptoCard
end Rows
end Go.Proofs.YtbjcegabjpeejaaDoor
