/-
  DERIVED. GIVEN WITH THE SEED: THE CARDS: each row of YtcempddbcfigbaaDoorRows.lean that lists a variable, with what it lists TIED to the program's text (the seventh form; the later family's looks); each row that meets fmt, with fmt's text TOLD by the authors' own Lean function (tested against real Go, not proved from fmt's source: count such statements apart). THE CARD IS WHAT COUNTS. Prove the row's statement (the work); the ties are given (YtcempddbcfigbaaDoorTie.lean); close each card by the builder's one call (the guide's Derived/Test/ToyasCard.lean, 'card_holds'). Laid BY PROGRAM, IN A SANDBOX (cutbox-door.mjs). By AI agents, Wed Nov 11 2026. No macro, syntax, notation, axiom, sorry.
-/
import Derived.Test.YtcempddbcfigbaaDoorRows
import GoSem.ClaimSeven
namespace Go.Proofs.YtcempddbcfigbaaDoor
namespace Rows

/-- THE TIED CARD OF 'laws.FnExactEncodeRecord'. -/
def fnExactEncodeRecordCard : Claim7 := { stood := { row := fnExactEncodeRecordRow, standIns := [], harness := (true, "46f88e47215ab0d91156117591d647655bc865cb0818b18aa5c059e4172071fd"), looks := true }, kinds := [], alts := [], laidByText := true, laidKinds := [.sentinel, .sentinel], laidTests := true, laidLooks := .later }
def FnExactEncodeRecordCardSaid : Prop := Claim7.holds Tryd.pinned (.plain (OpenSpec.ofChange fnExactEncodeRecordSpec)) fnExactEncodeRecordCard

/-- THE TIED CARD OF 'laws.FnExactCutRecords'. -/
def fnExactCutRecordsCard : Claim7 := { stood := { row := fnExactCutRecordsRow, standIns := [], harness := (true, "46f88e47215ab0d91156117591d647655bc865cb0818b18aa5c059e4172071fd"), looks := true }, kinds := [], alts := [], laidByText := true, laidKinds := [.sentinel, .sentinel, .sentinel], laidTests := true, laidLooks := .later }
def FnExactCutRecordsCardSaid : Prop := Claim7.holds Tryd.pinned (.plain (OpenSpec.ofChange fnExactCutRecordsSpec)) fnExactCutRecordsCard

/-- THE TIED CARD OF 'laws.FnCutAnywhere'. -/
def fnCutAnywhereCard : Claim7 := { stood := { row := fnCutAnywhereRow, standIns := [], harness := (true, "46f88e47215ab0d91156117591d647655bc865cb0818b18aa5c059e4172071fd"), looks := true }, kinds := [], alts := [], laidByText := true, laidKinds := [.sentinel, .sentinel, .sentinel], laidTests := true, laidLooks := .later }
def FnCutAnywhereCardSaid : Prop := Claim7.holds Tryd.pinned (.plain (OpenSpec.ofChange fnCutAnywhereSpec)) fnCutAnywhereCard

/-- THE SECOND FORM's CARD OF 'laws.FnExactEncodeRecord'. -/
def fnExactEncodeRecordUptoCard : Claim7 := { stood := { row := fnExactEncodeRecordUptoRow, standIns := [], harness := (true, "46f88e47215ab0d91156117591d647655bc865cb0818b18aa5c059e4172071fd"), looks := true }, kinds := [], alts := [], laidByText := true, laidKinds := [.sentinel, .sentinel], laidTests := true, laidLooks := .later }
def FnExactEncodeRecordUptoCardSaid : Prop := Claim7.holds Tryd.pinned (.plain (OpenSpec.upto fnExactEncodeRecordSpec)) fnExactEncodeRecordUptoCard

/-- THE SECOND FORM's CARD OF 'laws.FnExactCutRecords'. -/
def fnExactCutRecordsUptoCard : Claim7 := { stood := { row := fnExactCutRecordsUptoRow, standIns := [], harness := (true, "46f88e47215ab0d91156117591d647655bc865cb0818b18aa5c059e4172071fd"), looks := true }, kinds := [], alts := [], laidByText := true, laidKinds := [.sentinel, .sentinel, .sentinel], laidTests := true, laidLooks := .later }
def FnExactCutRecordsUptoCardSaid : Prop := Claim7.holds Tryd.pinned (.plain (OpenSpec.upto fnExactCutRecordsSpec)) fnExactCutRecordsUptoCard

/-- THE SECOND FORM's CARD OF 'laws.FnCutAnywhere'. -/
def fnCutAnywhereUptoCard : Claim7 := { stood := { row := fnCutAnywhereUptoRow, standIns := [], harness := (true, "46f88e47215ab0d91156117591d647655bc865cb0818b18aa5c059e4172071fd"), looks := true }, kinds := [], alts := [], laidByText := true, laidKinds := [.sentinel, .sentinel, .sentinel], laidTests := true, laidLooks := .later }
def FnCutAnywhereUptoCardSaid : Prop := Claim7.holds Tryd.pinned (.plain (OpenSpec.upto fnCutAnywhereSpec)) fnCutAnywhereUptoCard
end Rows
end Go.Proofs.YtcempddbcfigbaaDoor
