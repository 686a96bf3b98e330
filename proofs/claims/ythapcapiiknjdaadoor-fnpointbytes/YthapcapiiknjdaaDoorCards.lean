/-
  DERIVED. GIVEN WITH THE SEED: THE CARDS: each row of YthapcapiiknjdaaDoorRows.lean that lists a variable, with what it lists TIED to the program's text (the seventh form; the later family's looks); each row that meets fmt, with fmt's text TOLD by the authors' own Lean function (tested against real Go, not proved from fmt's source: count such statements apart). THE CARD IS WHAT COUNTS. Prove the row's statement (the work); the ties are given (YthapcapiiknjdaaDoorTie.lean); close each card by the builder's one call (the guide's Derived/Test/ToyasCard.lean, 'card_holds'). Laid BY PROGRAM, IN A SANDBOX (cutbox-door.mjs). By AI agents, Wed Nov 11 2026. No macro, syntax, notation, axiom, sorry.
-/
import Derived.Test.YthapcapiiknjdaaDoorRows
import GoSem.ClaimSeven
namespace Go.Proofs.YthapcapiiknjdaaDoor
namespace Rows

/-- THE TIED CARD OF 'laws.FnExactPointZero'. -/
def fnExactPointZeroCard : Claim7 := { stood := { row := fnExactPointZeroRow, standIns := [], harness := (true, "efaedc349a28a487f85855f788f2dd857c52c34ec9ebe3bd7293c19a18f0ab58"), looks := false }, kinds := [], alts := [], laidByText := true, laidKinds := [.wider], laidTests := true, laidLooks := .later }
def FnExactPointZeroCardSaid : Prop := Claim7.holds Tryd.pinned (.plain (OpenSpec.ofChange fnExactPointZeroSpec)) fnExactPointZeroCard

/-- THE TIED CARD OF 'laws.FnExactPointValid'. -/
def fnExactPointValidCard : Claim7 := { stood := { row := fnExactPointValidRow, standIns := [], harness := (true, "efaedc349a28a487f85855f788f2dd857c52c34ec9ebe3bd7293c19a18f0ab58"), looks := false }, kinds := [], alts := [], laidByText := true, laidKinds := [.data, .wider], laidTests := true, laidLooks := .later }
def FnExactPointValidCardSaid : Prop := Claim7.holds Tryd.pinned (.plain (OpenSpec.ofChange fnExactPointValidSpec)) fnExactPointValidCard

/-- THE TIED CARD OF 'laws.FnExactPointBase'. -/
def fnExactPointBaseCard : Claim7 := { stood := { row := fnExactPointBaseRow, standIns := [], harness := (true, "efaedc349a28a487f85855f788f2dd857c52c34ec9ebe3bd7293c19a18f0ab58"), looks := false }, kinds := [], alts := [], laidByText := true, laidKinds := [.wider], laidTests := true, laidLooks := .later }
def FnExactPointBaseCardSaid : Prop := Claim7.holds Tryd.pinned (.plain (OpenSpec.ofChange fnExactPointBaseSpec)) fnExactPointBaseCard

/-- THE TIED CARD OF 'laws.FnExactPointEncode'. -/
def fnExactPointEncodeCard : Claim7 := { stood := { row := fnExactPointEncodeRow, standIns := [], harness := (true, "efaedc349a28a487f85855f788f2dd857c52c34ec9ebe3bd7293c19a18f0ab58"), looks := false }, kinds := [], alts := [], laidByText := true, laidKinds := [.data, .wider], laidTests := true, laidLooks := .later }
def FnExactPointEncodeCardSaid : Prop := Claim7.holds Tryd.pinned (.plain (OpenSpec.ofChange fnExactPointEncodeSpec)) fnExactPointEncodeCard

/-- THE TIED CARD OF 'laws.FnExactPointToLadder'. -/
def fnExactPointToLadderCard : Claim7 := { stood := { row := fnExactPointToLadderRow, standIns := [], harness := (true, "efaedc349a28a487f85855f788f2dd857c52c34ec9ebe3bd7293c19a18f0ab58"), looks := false }, kinds := [], alts := [], laidByText := true, laidKinds := [.data, .data, .data, .wider], laidTests := true, laidLooks := .later }
def FnExactPointToLadderCardSaid : Prop := Claim7.holds Tryd.pinned (.plain (OpenSpec.ofChange fnExactPointToLadderSpec)) fnExactPointToLadderCard

/-- THE TIED CARD OF 'laws.FnExactPointAdd'. -/
def fnExactPointAddCard : Claim7 := { stood := { row := fnExactPointAddRow, standIns := [], harness := (true, "efaedc349a28a487f85855f788f2dd857c52c34ec9ebe3bd7293c19a18f0ab58"), looks := false }, kinds := [], alts := [], laidByText := true, laidKinds := [.data, .data, .data, .wider], laidTests := true, laidLooks := .later }
def FnExactPointAddCardSaid : Prop := Claim7.holds Tryd.pinned (.plain (OpenSpec.ofChange fnExactPointAddSpec)) fnExactPointAddCard

/-- THE TIED CARD OF 'laws.FnExactPointNegate'. -/
def fnExactPointNegateCard : Claim7 := { stood := { row := fnExactPointNegateRow, standIns := [], harness := (true, "efaedc349a28a487f85855f788f2dd857c52c34ec9ebe3bd7293c19a18f0ab58"), looks := false }, kinds := [], alts := [], laidByText := true, laidKinds := [.data, .wider], laidTests := true, laidLooks := .later }
def FnExactPointNegateCardSaid : Prop := Claim7.holds Tryd.pinned (.plain (OpenSpec.ofChange fnExactPointNegateSpec)) fnExactPointNegateCard

/-- THE TIED CARD OF 'laws.FnExactPointScale'. -/
def fnExactPointScaleCard : Claim7 := { stood := { row := fnExactPointScaleRow, standIns := [], harness := (true, "efaedc349a28a487f85855f788f2dd857c52c34ec9ebe3bd7293c19a18f0ab58"), looks := false }, kinds := [], alts := [], laidByText := true, laidKinds := [.data, .data, .data, .wider, .wider], laidTests := true, laidLooks := .later }
def FnExactPointScaleCardSaid : Prop := Claim7.holds Tryd.pinned (.plain (OpenSpec.ofChange fnExactPointScaleSpec)) fnExactPointScaleCard

/-- THE TIED CARD OF 'laws.FnExactPointDecode'. -/
def fnExactPointDecodeCard : Claim7 := { stood := { row := fnExactPointDecodeRow, standIns := [], harness := (true, "efaedc349a28a487f85855f788f2dd857c52c34ec9ebe3bd7293c19a18f0ab58"), looks := false }, kinds := [], alts := [], laidByText := true, laidKinds := [.data, .data, .data, .data, .data, .wider], laidTests := true, laidLooks := .later }
def FnExactPointDecodeCardSaid : Prop := Claim7.holds Tryd.pinned (.plain (OpenSpec.ofChange fnExactPointDecodeSpec)) fnExactPointDecodeCard

/-- THE TIED CARD OF 'laws.FnPointGroup'. -/
def fnPointGroupCard : Claim7 := { stood := { row := fnPointGroupRow, standIns := [], harness := (true, "efaedc349a28a487f85855f788f2dd857c52c34ec9ebe3bd7293c19a18f0ab58"), looks := false }, kinds := [], alts := [], laidByText := true, laidKinds := [.data, .data, .data, .wider, .wider], laidTests := true, laidLooks := .later }
def FnPointGroupCardSaid : Prop := Claim7.holds Tryd.pinned (.plain (OpenSpec.ofChange fnPointGroupSpec)) fnPointGroupCard

/-- THE TIED CARD OF 'laws.FnPointBytes'. -/
def fnPointBytesCard : Claim7 := { stood := { row := fnPointBytesRow, standIns := [], harness := (true, "efaedc349a28a487f85855f788f2dd857c52c34ec9ebe3bd7293c19a18f0ab58"), looks := false }, kinds := [], alts := [], laidByText := true, laidKinds := [.data, .data, .data, .data, .data, .wider], laidTests := true, laidLooks := .later }
def FnPointBytesCardSaid : Prop := Claim7.holds Tryd.pinned (.plain (OpenSpec.ofChange fnPointBytesSpec)) fnPointBytesCard

/-- THE SECOND FORM's CARD OF 'laws.FnExactPointZero'. -/
def fnExactPointZeroUptoCard : Claim7 := { stood := { row := fnExactPointZeroUptoRow, standIns := [], harness := (true, "efaedc349a28a487f85855f788f2dd857c52c34ec9ebe3bd7293c19a18f0ab58"), looks := false }, kinds := [], alts := [], laidByText := true, laidKinds := [.wider], laidTests := true, laidLooks := .later }
def FnExactPointZeroUptoCardSaid : Prop := Claim7.holds Tryd.pinned (.plain (OpenSpec.upto fnExactPointZeroSpec)) fnExactPointZeroUptoCard

/-- THE SECOND FORM's CARD OF 'laws.FnExactPointValid'. -/
def fnExactPointValidUptoCard : Claim7 := { stood := { row := fnExactPointValidUptoRow, standIns := [], harness := (true, "efaedc349a28a487f85855f788f2dd857c52c34ec9ebe3bd7293c19a18f0ab58"), looks := false }, kinds := [], alts := [], laidByText := true, laidKinds := [.data, .wider], laidTests := true, laidLooks := .later }
def FnExactPointValidUptoCardSaid : Prop := Claim7.holds Tryd.pinned (.plain (OpenSpec.upto fnExactPointValidSpec)) fnExactPointValidUptoCard

/-- THE SECOND FORM's CARD OF 'laws.FnExactPointBase'. -/
def fnExactPointBaseUptoCard : Claim7 := { stood := { row := fnExactPointBaseUptoRow, standIns := [], harness := (true, "efaedc349a28a487f85855f788f2dd857c52c34ec9ebe3bd7293c19a18f0ab58"), looks := false }, kinds := [], alts := [], laidByText := true, laidKinds := [.wider], laidTests := true, laidLooks := .later }
def FnExactPointBaseUptoCardSaid : Prop := Claim7.holds Tryd.pinned (.plain (OpenSpec.upto fnExactPointBaseSpec)) fnExactPointBaseUptoCard

/-- THE SECOND FORM's CARD OF 'laws.FnExactPointEncode'. -/
def fnExactPointEncodeUptoCard : Claim7 := { stood := { row := fnExactPointEncodeUptoRow, standIns := [], harness := (true, "efaedc349a28a487f85855f788f2dd857c52c34ec9ebe3bd7293c19a18f0ab58"), looks := false }, kinds := [], alts := [], laidByText := true, laidKinds := [.data, .wider], laidTests := true, laidLooks := .later }
def FnExactPointEncodeUptoCardSaid : Prop := Claim7.holds Tryd.pinned (.plain (OpenSpec.upto fnExactPointEncodeSpec)) fnExactPointEncodeUptoCard

/-- THE SECOND FORM's CARD OF 'laws.FnExactPointToLadder'. -/
def fnExactPointToLadderUptoCard : Claim7 := { stood := { row := fnExactPointToLadderUptoRow, standIns := [], harness := (true, "efaedc349a28a487f85855f788f2dd857c52c34ec9ebe3bd7293c19a18f0ab58"), looks := false }, kinds := [], alts := [], laidByText := true, laidKinds := [.data, .data, .data, .wider], laidTests := true, laidLooks := .later }
def FnExactPointToLadderUptoCardSaid : Prop := Claim7.holds Tryd.pinned (.plain (OpenSpec.upto fnExactPointToLadderSpec)) fnExactPointToLadderUptoCard

/-- THE SECOND FORM's CARD OF 'laws.FnExactPointAdd'. -/
def fnExactPointAddUptoCard : Claim7 := { stood := { row := fnExactPointAddUptoRow, standIns := [], harness := (true, "efaedc349a28a487f85855f788f2dd857c52c34ec9ebe3bd7293c19a18f0ab58"), looks := false }, kinds := [], alts := [], laidByText := true, laidKinds := [.data, .data, .data, .wider], laidTests := true, laidLooks := .later }
def FnExactPointAddUptoCardSaid : Prop := Claim7.holds Tryd.pinned (.plain (OpenSpec.upto fnExactPointAddSpec)) fnExactPointAddUptoCard

/-- THE SECOND FORM's CARD OF 'laws.FnExactPointNegate'. -/
def fnExactPointNegateUptoCard : Claim7 := { stood := { row := fnExactPointNegateUptoRow, standIns := [], harness := (true, "efaedc349a28a487f85855f788f2dd857c52c34ec9ebe3bd7293c19a18f0ab58"), looks := false }, kinds := [], alts := [], laidByText := true, laidKinds := [.data, .wider], laidTests := true, laidLooks := .later }
def FnExactPointNegateUptoCardSaid : Prop := Claim7.holds Tryd.pinned (.plain (OpenSpec.upto fnExactPointNegateSpec)) fnExactPointNegateUptoCard

/-- THE SECOND FORM's CARD OF 'laws.FnExactPointScale'. -/
def fnExactPointScaleUptoCard : Claim7 := { stood := { row := fnExactPointScaleUptoRow, standIns := [], harness := (true, "efaedc349a28a487f85855f788f2dd857c52c34ec9ebe3bd7293c19a18f0ab58"), looks := false }, kinds := [], alts := [], laidByText := true, laidKinds := [.data, .data, .data, .wider, .wider], laidTests := true, laidLooks := .later }
def FnExactPointScaleUptoCardSaid : Prop := Claim7.holds Tryd.pinned (.plain (OpenSpec.upto fnExactPointScaleSpec)) fnExactPointScaleUptoCard

/-- THE SECOND FORM's CARD OF 'laws.FnExactPointDecode'. -/
def fnExactPointDecodeUptoCard : Claim7 := { stood := { row := fnExactPointDecodeUptoRow, standIns := [], harness := (true, "efaedc349a28a487f85855f788f2dd857c52c34ec9ebe3bd7293c19a18f0ab58"), looks := false }, kinds := [], alts := [], laidByText := true, laidKinds := [.data, .data, .data, .data, .data, .wider], laidTests := true, laidLooks := .later }
def FnExactPointDecodeUptoCardSaid : Prop := Claim7.holds Tryd.pinned (.plain (OpenSpec.upto fnExactPointDecodeSpec)) fnExactPointDecodeUptoCard

/-- THE SECOND FORM's CARD OF 'laws.FnPointGroup'. -/
def fnPointGroupUptoCard : Claim7 := { stood := { row := fnPointGroupUptoRow, standIns := [], harness := (true, "efaedc349a28a487f85855f788f2dd857c52c34ec9ebe3bd7293c19a18f0ab58"), looks := false }, kinds := [], alts := [], laidByText := true, laidKinds := [.data, .data, .data, .wider, .wider], laidTests := true, laidLooks := .later }
def FnPointGroupUptoCardSaid : Prop := Claim7.holds Tryd.pinned (.plain (OpenSpec.upto fnPointGroupSpec)) fnPointGroupUptoCard

/-- THE SECOND FORM's CARD OF 'laws.FnPointBytes'. -/
def fnPointBytesUptoCard : Claim7 := { stood := { row := fnPointBytesUptoRow, standIns := [], harness := (true, "efaedc349a28a487f85855f788f2dd857c52c34ec9ebe3bd7293c19a18f0ab58"), looks := false }, kinds := [], alts := [], laidByText := true, laidKinds := [.data, .data, .data, .data, .data, .wider], laidTests := true, laidLooks := .later }
def FnPointBytesUptoCardSaid : Prop := Claim7.holds Tryd.pinned (.plain (OpenSpec.upto fnPointBytesSpec)) fnPointBytesUptoCard
end Rows
end Go.Proofs.YthapcapiiknjdaaDoor
