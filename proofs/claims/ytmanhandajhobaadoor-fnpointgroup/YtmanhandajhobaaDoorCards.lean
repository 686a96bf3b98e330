/-
  DERIVED. GIVEN WITH THE SEED: THE CARDS: each row of YtmanhandajhobaaDoorRows.lean that lists a variable, with what it lists TIED to the program's text (the seventh form; the later family's looks); each row that meets fmt, with fmt's text TOLD by the authors' own Lean function (tested against real Go, not proved from fmt's source: count such statements apart). THE CARD IS WHAT COUNTS. Prove the row's statement (the work); the ties are given (YtmanhandajhobaaDoorTie.lean); close each card by the builder's one call (the guide's Derived/Test/ToyasCard.lean, 'card_holds'). Laid BY PROGRAM, IN A SANDBOX (cutbox-door.mjs). By AI agents, Wed Nov 11 2026. No macro, syntax, notation, axiom, sorry.
-/
import Derived.Test.YtmanhandajhobaaDoorRows
import GoSem.ClaimSeven
namespace Go.Proofs.YtmanhandajhobaaDoor
namespace Rows

/-- THE TIED CARD OF 'laws.FnExactPointAdd'. -/
def fnExactPointAddCard : Claim7 := { stood := { row := fnExactPointAddRow, standIns := [], harness := (true, "386b281cbe1fa85c94f6705c3926542d44ac8a06b13f439f96cea89c3f5adf77"), looks := false }, kinds := [], alts := [], laidByText := true, laidKinds := [.data, .data, .data, .wider], laidTests := true, laidLooks := .later }
def FnExactPointAddCardSaid : Prop := Claim7.holds Tryd.pinned (.plain (OpenSpec.ofChange fnExactPointAddSpec)) fnExactPointAddCard

/-- THE TIED CARD OF 'laws.FnExactPointScale'. -/
def fnExactPointScaleCard : Claim7 := { stood := { row := fnExactPointScaleRow, standIns := [], harness := (true, "386b281cbe1fa85c94f6705c3926542d44ac8a06b13f439f96cea89c3f5adf77"), looks := false }, kinds := [], alts := [], laidByText := true, laidKinds := [.data, .data, .data, .wider, .wider], laidTests := true, laidLooks := .later }
def FnExactPointScaleCardSaid : Prop := Claim7.holds Tryd.pinned (.plain (OpenSpec.ofChange fnExactPointScaleSpec)) fnExactPointScaleCard

/-- THE TIED CARD OF 'laws.FnExactPointDecode'. -/
def fnExactPointDecodeCard : Claim7 := { stood := { row := fnExactPointDecodeRow, standIns := [], harness := (true, "386b281cbe1fa85c94f6705c3926542d44ac8a06b13f439f96cea89c3f5adf77"), looks := false }, kinds := [], alts := [], laidByText := true, laidKinds := [.data, .data, .data, .data, .data, .wider], laidTests := true, laidLooks := .later }
def FnExactPointDecodeCardSaid : Prop := Claim7.holds Tryd.pinned (.plain (OpenSpec.ofChange fnExactPointDecodeSpec)) fnExactPointDecodeCard

/-- THE TIED CARD OF 'laws.FnPointGroup'. -/
def fnPointGroupCard : Claim7 := { stood := { row := fnPointGroupRow, standIns := [], harness := (true, "386b281cbe1fa85c94f6705c3926542d44ac8a06b13f439f96cea89c3f5adf77"), looks := false }, kinds := [], alts := [], laidByText := true, laidKinds := [.data, .data, .data, .wider, .wider], laidTests := true, laidLooks := .later }
def FnPointGroupCardSaid : Prop := Claim7.holds Tryd.pinned (.plain (OpenSpec.ofChange fnPointGroupSpec)) fnPointGroupCard

/-- THE TIED CARD OF 'laws.FnPointBytes'. -/
def fnPointBytesCard : Claim7 := { stood := { row := fnPointBytesRow, standIns := [], harness := (true, "386b281cbe1fa85c94f6705c3926542d44ac8a06b13f439f96cea89c3f5adf77"), looks := false }, kinds := [], alts := [], laidByText := true, laidKinds := [.data, .data, .data, .data, .data, .wider], laidTests := true, laidLooks := .later }
def FnPointBytesCardSaid : Prop := Claim7.holds Tryd.pinned (.plain (OpenSpec.ofChange fnPointBytesSpec)) fnPointBytesCard

/-- THE SECOND FORM's CARD OF 'laws.FnExactPointAdd'. -/
def fnExactPointAddUptoCard : Claim7 := { stood := { row := fnExactPointAddUptoRow, standIns := [], harness := (true, "386b281cbe1fa85c94f6705c3926542d44ac8a06b13f439f96cea89c3f5adf77"), looks := false }, kinds := [], alts := [], laidByText := true, laidKinds := [.data, .data, .data, .wider], laidTests := true, laidLooks := .later }
def FnExactPointAddUptoCardSaid : Prop := Claim7.holds Tryd.pinned (.plain (OpenSpec.upto fnExactPointAddSpec)) fnExactPointAddUptoCard

/-- THE SECOND FORM's CARD OF 'laws.FnExactPointScale'. -/
def fnExactPointScaleUptoCard : Claim7 := { stood := { row := fnExactPointScaleUptoRow, standIns := [], harness := (true, "386b281cbe1fa85c94f6705c3926542d44ac8a06b13f439f96cea89c3f5adf77"), looks := false }, kinds := [], alts := [], laidByText := true, laidKinds := [.data, .data, .data, .wider, .wider], laidTests := true, laidLooks := .later }
def FnExactPointScaleUptoCardSaid : Prop := Claim7.holds Tryd.pinned (.plain (OpenSpec.upto fnExactPointScaleSpec)) fnExactPointScaleUptoCard

/-- THE SECOND FORM's CARD OF 'laws.FnExactPointDecode'. -/
def fnExactPointDecodeUptoCard : Claim7 := { stood := { row := fnExactPointDecodeUptoRow, standIns := [], harness := (true, "386b281cbe1fa85c94f6705c3926542d44ac8a06b13f439f96cea89c3f5adf77"), looks := false }, kinds := [], alts := [], laidByText := true, laidKinds := [.data, .data, .data, .data, .data, .wider], laidTests := true, laidLooks := .later }
def FnExactPointDecodeUptoCardSaid : Prop := Claim7.holds Tryd.pinned (.plain (OpenSpec.upto fnExactPointDecodeSpec)) fnExactPointDecodeUptoCard

/-- THE SECOND FORM's CARD OF 'laws.FnPointGroup'. -/
def fnPointGroupUptoCard : Claim7 := { stood := { row := fnPointGroupUptoRow, standIns := [], harness := (true, "386b281cbe1fa85c94f6705c3926542d44ac8a06b13f439f96cea89c3f5adf77"), looks := false }, kinds := [], alts := [], laidByText := true, laidKinds := [.data, .data, .data, .wider, .wider], laidTests := true, laidLooks := .later }
def FnPointGroupUptoCardSaid : Prop := Claim7.holds Tryd.pinned (.plain (OpenSpec.upto fnPointGroupSpec)) fnPointGroupUptoCard

/-- THE SECOND FORM's CARD OF 'laws.FnPointBytes'. -/
def fnPointBytesUptoCard : Claim7 := { stood := { row := fnPointBytesUptoRow, standIns := [], harness := (true, "386b281cbe1fa85c94f6705c3926542d44ac8a06b13f439f96cea89c3f5adf77"), looks := false }, kinds := [], alts := [], laidByText := true, laidKinds := [.data, .data, .data, .data, .data, .wider], laidTests := true, laidLooks := .later }
def FnPointBytesUptoCardSaid : Prop := Claim7.holds Tryd.pinned (.plain (OpenSpec.upto fnPointBytesSpec)) fnPointBytesUptoCard
end Rows
end Go.Proofs.YtmanhandajhobaaDoor
