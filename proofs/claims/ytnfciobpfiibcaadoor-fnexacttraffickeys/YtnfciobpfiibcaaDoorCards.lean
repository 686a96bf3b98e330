/-
  DERIVED. GIVEN WITH THE SEED: THE CARDS: each row of YtnfciobpfiibcaaDoorRows.lean that lists a variable, with what it lists TIED to the program's text (the seventh form; the later family's looks); each row that meets fmt, with fmt's text TOLD by the authors' own Lean function (tested against real Go, not proved from fmt's source: count such statements apart). THE CARD IS WHAT COUNTS. Prove the row's statement (the work); the ties are given (YtnfciobpfiibcaaDoorTie.lean); close each card by the builder's one call (the guide's Derived/Test/ToyasCard.lean, 'card_holds'). Laid BY PROGRAM, IN A SANDBOX (cutbox-door.mjs). By AI agents, Wed Nov 11 2026. No macro, syntax, notation, axiom, sorry.
-/
import Derived.Test.YtnfciobpfiibcaaDoorRows
import GoSem.ClaimSeven
namespace Go.Proofs.YtnfciobpfiibcaaDoor
namespace Rows

/-- THE TIED CARD OF 'laws.FnExactEarlySecret'. -/
def fnExactEarlySecretCard : Claim7 := { stood := { row := fnExactEarlySecretRow, standIns := [], harness := (true, "079a3532909a78fe1442b24fb8101fe0ca10677e3548e1a7300455599efa337b"), looks := false }, kinds := [], alts := [], laidByText := true, laidKinds := [.data, .data], laidTests := true, laidLooks := .later }
def FnExactEarlySecretCardSaid : Prop := Claim7.holds Tryd.pinned (.plain (OpenSpec.ofChange fnExactEarlySecretSpec)) fnExactEarlySecretCard

/-- THE TIED CARD OF 'laws.FnExactNextSecret'. -/
def fnExactNextSecretCard : Claim7 := { stood := { row := fnExactNextSecretRow, standIns := [], harness := (true, "079a3532909a78fe1442b24fb8101fe0ca10677e3548e1a7300455599efa337b"), looks := false }, kinds := [], alts := [], laidByText := true, laidKinds := [.data, .data], laidTests := true, laidLooks := .later }
def FnExactNextSecretCardSaid : Prop := Claim7.holds Tryd.pinned (.plain (OpenSpec.ofChange fnExactNextSecretSpec)) fnExactNextSecretCard

/-- THE TIED CARD OF 'laws.FnExactFinishedMac'. -/
def fnExactFinishedMacCard : Claim7 := { stood := { row := fnExactFinishedMacRow, standIns := [], harness := (true, "079a3532909a78fe1442b24fb8101fe0ca10677e3548e1a7300455599efa337b"), looks := false }, kinds := [], alts := [], laidByText := true, laidKinds := [.data, .data], laidTests := true, laidLooks := .later }
def FnExactFinishedMacCardSaid : Prop := Claim7.holds Tryd.pinned (.plain (OpenSpec.ofChange fnExactFinishedMacSpec)) fnExactFinishedMacCard

/-- THE TIED CARD OF 'laws.FnExactTicketSecret'. -/
def fnExactTicketSecretCard : Claim7 := { stood := { row := fnExactTicketSecretRow, standIns := [], harness := (true, "079a3532909a78fe1442b24fb8101fe0ca10677e3548e1a7300455599efa337b"), looks := false }, kinds := [], alts := [], laidByText := true, laidKinds := [.data, .data], laidTests := true, laidLooks := .later }
def FnExactTicketSecretCardSaid : Prop := Claim7.holds Tryd.pinned (.plain (OpenSpec.ofChange fnExactTicketSecretSpec)) fnExactTicketSecretCard

/-- THE TIED CARD OF 'laws.FnExactTrafficKeys'. -/
def fnExactTrafficKeysCard : Claim7 := { stood := { row := fnExactTrafficKeysRow, standIns := [], harness := (true, "079a3532909a78fe1442b24fb8101fe0ca10677e3548e1a7300455599efa337b"), looks := false }, kinds := [], alts := [], laidByText := true, laidKinds := [.data, .data], laidTests := true, laidLooks := .later }
def FnExactTrafficKeysCardSaid : Prop := Claim7.holds Tryd.pinned (.plain (OpenSpec.ofChange fnExactTrafficKeysSpec)) fnExactTrafficKeysCard

/-- THE TIED CARD OF 'laws.FnExactMasterSecret'. -/
def fnExactMasterSecretCard : Claim7 := { stood := { row := fnExactMasterSecretRow, standIns := [], harness := (true, "079a3532909a78fe1442b24fb8101fe0ca10677e3548e1a7300455599efa337b"), looks := false }, kinds := [], alts := [], laidByText := true, laidKinds := [.data, .data], laidTests := true, laidLooks := .later }
def FnExactMasterSecretCardSaid : Prop := Claim7.holds Tryd.pinned (.plain (OpenSpec.ofChange fnExactMasterSecretSpec)) fnExactMasterSecretCard

/-- THE TIED CARD OF 'laws.FnExactHandshakeSecret'. -/
def fnExactHandshakeSecretCard : Claim7 := { stood := { row := fnExactHandshakeSecretRow, standIns := [], harness := (true, "079a3532909a78fe1442b24fb8101fe0ca10677e3548e1a7300455599efa337b"), looks := false }, kinds := [], alts := [], laidByText := true, laidKinds := [.data, .data], laidTests := true, laidLooks := .later }
def FnExactHandshakeSecretCardSaid : Prop := Claim7.holds Tryd.pinned (.plain (OpenSpec.ofChange fnExactHandshakeSecretSpec)) fnExactHandshakeSecretCard

/-- THE TIED CARD OF 'laws.FnExactBinderMac'. -/
def fnExactBinderMacCard : Claim7 := { stood := { row := fnExactBinderMacRow, standIns := [], harness := (true, "079a3532909a78fe1442b24fb8101fe0ca10677e3548e1a7300455599efa337b"), looks := false }, kinds := [], alts := [], laidByText := true, laidKinds := [.data, .data], laidTests := true, laidLooks := .later }
def FnExactBinderMacCardSaid : Prop := Claim7.holds Tryd.pinned (.plain (OpenSpec.ofChange fnExactBinderMacSpec)) fnExactBinderMacCard

/-- THE SECOND FORM's CARD OF 'laws.FnExactEarlySecret'. -/
def fnExactEarlySecretUptoCard : Claim7 := { stood := { row := fnExactEarlySecretUptoRow, standIns := [], harness := (true, "079a3532909a78fe1442b24fb8101fe0ca10677e3548e1a7300455599efa337b"), looks := false }, kinds := [], alts := [], laidByText := true, laidKinds := [.data, .data], laidTests := true, laidLooks := .later }
def FnExactEarlySecretUptoCardSaid : Prop := Claim7.holds Tryd.pinned (.plain (OpenSpec.upto fnExactEarlySecretSpec)) fnExactEarlySecretUptoCard

/-- THE SECOND FORM's CARD OF 'laws.FnExactNextSecret'. -/
def fnExactNextSecretUptoCard : Claim7 := { stood := { row := fnExactNextSecretUptoRow, standIns := [], harness := (true, "079a3532909a78fe1442b24fb8101fe0ca10677e3548e1a7300455599efa337b"), looks := false }, kinds := [], alts := [], laidByText := true, laidKinds := [.data, .data], laidTests := true, laidLooks := .later }
def FnExactNextSecretUptoCardSaid : Prop := Claim7.holds Tryd.pinned (.plain (OpenSpec.upto fnExactNextSecretSpec)) fnExactNextSecretUptoCard

/-- THE SECOND FORM's CARD OF 'laws.FnExactFinishedMac'. -/
def fnExactFinishedMacUptoCard : Claim7 := { stood := { row := fnExactFinishedMacUptoRow, standIns := [], harness := (true, "079a3532909a78fe1442b24fb8101fe0ca10677e3548e1a7300455599efa337b"), looks := false }, kinds := [], alts := [], laidByText := true, laidKinds := [.data, .data], laidTests := true, laidLooks := .later }
def FnExactFinishedMacUptoCardSaid : Prop := Claim7.holds Tryd.pinned (.plain (OpenSpec.upto fnExactFinishedMacSpec)) fnExactFinishedMacUptoCard

/-- THE SECOND FORM's CARD OF 'laws.FnExactTicketSecret'. -/
def fnExactTicketSecretUptoCard : Claim7 := { stood := { row := fnExactTicketSecretUptoRow, standIns := [], harness := (true, "079a3532909a78fe1442b24fb8101fe0ca10677e3548e1a7300455599efa337b"), looks := false }, kinds := [], alts := [], laidByText := true, laidKinds := [.data, .data], laidTests := true, laidLooks := .later }
def FnExactTicketSecretUptoCardSaid : Prop := Claim7.holds Tryd.pinned (.plain (OpenSpec.upto fnExactTicketSecretSpec)) fnExactTicketSecretUptoCard

/-- THE SECOND FORM's CARD OF 'laws.FnExactTrafficKeys'. -/
def fnExactTrafficKeysUptoCard : Claim7 := { stood := { row := fnExactTrafficKeysUptoRow, standIns := [], harness := (true, "079a3532909a78fe1442b24fb8101fe0ca10677e3548e1a7300455599efa337b"), looks := false }, kinds := [], alts := [], laidByText := true, laidKinds := [.data, .data], laidTests := true, laidLooks := .later }
def FnExactTrafficKeysUptoCardSaid : Prop := Claim7.holds Tryd.pinned (.plain (OpenSpec.upto fnExactTrafficKeysSpec)) fnExactTrafficKeysUptoCard

/-- THE SECOND FORM's CARD OF 'laws.FnExactMasterSecret'. -/
def fnExactMasterSecretUptoCard : Claim7 := { stood := { row := fnExactMasterSecretUptoRow, standIns := [], harness := (true, "079a3532909a78fe1442b24fb8101fe0ca10677e3548e1a7300455599efa337b"), looks := false }, kinds := [], alts := [], laidByText := true, laidKinds := [.data, .data], laidTests := true, laidLooks := .later }
def FnExactMasterSecretUptoCardSaid : Prop := Claim7.holds Tryd.pinned (.plain (OpenSpec.upto fnExactMasterSecretSpec)) fnExactMasterSecretUptoCard

/-- THE SECOND FORM's CARD OF 'laws.FnExactHandshakeSecret'. -/
def fnExactHandshakeSecretUptoCard : Claim7 := { stood := { row := fnExactHandshakeSecretUptoRow, standIns := [], harness := (true, "079a3532909a78fe1442b24fb8101fe0ca10677e3548e1a7300455599efa337b"), looks := false }, kinds := [], alts := [], laidByText := true, laidKinds := [.data, .data], laidTests := true, laidLooks := .later }
def FnExactHandshakeSecretUptoCardSaid : Prop := Claim7.holds Tryd.pinned (.plain (OpenSpec.upto fnExactHandshakeSecretSpec)) fnExactHandshakeSecretUptoCard

/-- THE SECOND FORM's CARD OF 'laws.FnExactBinderMac'. -/
def fnExactBinderMacUptoCard : Claim7 := { stood := { row := fnExactBinderMacUptoRow, standIns := [], harness := (true, "079a3532909a78fe1442b24fb8101fe0ca10677e3548e1a7300455599efa337b"), looks := false }, kinds := [], alts := [], laidByText := true, laidKinds := [.data, .data], laidTests := true, laidLooks := .later }
def FnExactBinderMacUptoCardSaid : Prop := Claim7.holds Tryd.pinned (.plain (OpenSpec.upto fnExactBinderMacSpec)) fnExactBinderMacUptoCard
end Rows
end Go.Proofs.YtnfciobpfiibcaaDoor
