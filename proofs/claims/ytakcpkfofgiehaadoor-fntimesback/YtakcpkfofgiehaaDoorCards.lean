/-
  DERIVED. GIVEN WITH THE SEED: THE CARDS: each row of YtakcpkfofgiehaaDoorRows.lean that lists a variable, with what it lists TIED to the program's text (the seventh form; the later family's looks); each row that meets fmt, with fmt's text TOLD by the authors' own Lean function (tested against real Go, not proved from fmt's source: count such statements apart). THE CARD IS WHAT COUNTS. Prove the row's statement (the work); the ties are given (YtakcpkfofgiehaaDoorTie.lean); close each card by the builder's one call (the guide's Derived/Test/ToyasCard.lean, 'card_holds'). Laid BY PROGRAM, IN A SANDBOX (cutbox-door.mjs). By AI agents, Wed Nov 11 2026. No macro, syntax, notation, axiom, sorry.
-/
import Derived.Test.YtakcpkfofgiehaaDoorRows
import GoSem.ClaimSeven
namespace Go.Proofs.YtakcpkfofgiehaaDoor
namespace Rows

/-- THE TIED CARD OF 'laws.FnExactEncodeTime'. -/
def fnExactEncodeTimeCard : Claim7 := { stood := { row := fnExactEncodeTimeRow, standIns := [], harness := (true, "b68ef84fc44b4376147804f09110f7ab0ff193d990705e3e991631abf326c14f"), looks := false }, kinds := [], alts := [], laidByText := true, laidKinds := [.data, .data, .data, .data], laidTests := true, laidLooks := .later }
def FnExactEncodeTimeCardSaid : Prop := Claim7.holds Tryd.pinned (.plain (OpenSpec.ofChange fnExactEncodeTimeSpec)) fnExactEncodeTimeCard

/-- THE TIED CARD OF 'laws.FnExactDecodeTime'. -/
def fnExactDecodeTimeCard : Claim7 := { stood := { row := fnExactDecodeTimeRow, standIns := [], harness := (true, "b68ef84fc44b4376147804f09110f7ab0ff193d990705e3e991631abf326c14f"), looks := false }, kinds := [], alts := [], laidByText := true, laidKinds := [.data], laidTests := true, laidLooks := .later }
def FnExactDecodeTimeCardSaid : Prop := Claim7.holds Tryd.pinned (.plain (OpenSpec.ofChange fnExactDecodeTimeSpec)) fnExactDecodeTimeCard

/-- THE TIED CARD OF 'laws.FnTimesBack'. -/
def fnTimesBackCard : Claim7 := { stood := { row := fnTimesBackRow, standIns := [], harness := (true, "b68ef84fc44b4376147804f09110f7ab0ff193d990705e3e991631abf326c14f"), looks := false }, kinds := [], alts := [], laidByText := true, laidKinds := [.data, .data, .data, .data], laidTests := true, laidLooks := .later }
def FnTimesBackCardSaid : Prop := Claim7.holds Tryd.pinned (.plain (OpenSpec.ofChange fnTimesBackSpec)) fnTimesBackCard

/-- THE SECOND FORM's CARD OF 'laws.FnExactEncodeTime'. -/
def fnExactEncodeTimeUptoCard : Claim7 := { stood := { row := fnExactEncodeTimeUptoRow, standIns := [], harness := (true, "b68ef84fc44b4376147804f09110f7ab0ff193d990705e3e991631abf326c14f"), looks := false }, kinds := [], alts := [], laidByText := true, laidKinds := [.data, .data, .data, .data], laidTests := true, laidLooks := .later }
def FnExactEncodeTimeUptoCardSaid : Prop := Claim7.holds Tryd.pinned (.plain (OpenSpec.upto fnExactEncodeTimeSpec)) fnExactEncodeTimeUptoCard

/-- THE SECOND FORM's CARD OF 'laws.FnExactDecodeTime'. -/
def fnExactDecodeTimeUptoCard : Claim7 := { stood := { row := fnExactDecodeTimeUptoRow, standIns := [], harness := (true, "b68ef84fc44b4376147804f09110f7ab0ff193d990705e3e991631abf326c14f"), looks := false }, kinds := [], alts := [], laidByText := true, laidKinds := [.data], laidTests := true, laidLooks := .later }
def FnExactDecodeTimeUptoCardSaid : Prop := Claim7.holds Tryd.pinned (.plain (OpenSpec.upto fnExactDecodeTimeSpec)) fnExactDecodeTimeUptoCard

/-- THE SECOND FORM's CARD OF 'laws.FnTimesBack'. -/
def fnTimesBackUptoCard : Claim7 := { stood := { row := fnTimesBackUptoRow, standIns := [], harness := (true, "b68ef84fc44b4376147804f09110f7ab0ff193d990705e3e991631abf326c14f"), looks := false }, kinds := [], alts := [], laidByText := true, laidKinds := [.data, .data, .data, .data], laidTests := true, laidLooks := .later }
def FnTimesBackUptoCardSaid : Prop := Claim7.holds Tryd.pinned (.plain (OpenSpec.upto fnTimesBackSpec)) fnTimesBackUptoCard
end Rows
end Go.Proofs.YtakcpkfofgiehaaDoor
