/-
  DERIVED. GIVEN WITH THE SEED: THE CARDS: each row of YtmfoionlapcgkaaDoorRows.lean that lists a variable, with what it lists TIED to the program's text (the seventh form; the later family's looks); each row that meets fmt, with fmt's text TOLD by the authors' own Lean function (tested against real Go, not proved from fmt's source: count such statements apart). THE CARD IS WHAT COUNTS. Prove the row's statement (the work); the ties are given (YtmfoionlapcgkaaDoorTie.lean); close each card by the builder's one call (the guide's Derived/Test/ToyasCard.lean, 'card_holds'). Laid BY PROGRAM, IN A SANDBOX (cutbox-door.mjs). By AI agents, Wed Nov 11 2026. No macro, syntax, notation, axiom, sorry.
-/
import Derived.Test.YtmfoionlapcgkaaDoorRows
import GoSem.ClaimSeven
namespace Go.Proofs.YtmfoionlapcgkaaDoor
namespace Rows

/-- THE TIED CARD OF 'intrusionlaw14.TcpDecodes'. -/
def tcpDecodesCard : Claim7 := { stood := { row := tcpDecodesRow, standIns := [], harness := (true, "abafe312f8b0b2cac35a76e74bdf923cf24d68c434156df310e92011abe41351"), looks := false }, kinds := [], alts := [], laidByText := true, laidKinds := [.data, .data], laidTests := true, laidLooks := .later }
def TcpDecodesCardSaid : Prop := Claim7.holds Tryd.pinned (.plain (OpenSpec.ofChange tcpDecodesSpec)) tcpDecodesCard

/-- THE TIED CARD OF 'intrusionlaw14.TcpEncodes'. -/
def tcpEncodesCard : Claim7 := { stood := { row := tcpEncodesRow, standIns := [], harness := (true, "abafe312f8b0b2cac35a76e74bdf923cf24d68c434156df310e92011abe41351"), looks := false }, kinds := [], alts := [], laidByText := true, laidKinds := [.data, .data], laidTests := true, laidLooks := .later }
def TcpEncodesCardSaid : Prop := Claim7.holds Tryd.pinned (.plain (OpenSpec.ofChange tcpEncodesSpec)) tcpEncodesCard

/-- THE TIED CARD OF 'intrusionlaw14.TcpOptions'. -/
def tcpOptionsCard : Claim7 := { stood := { row := tcpOptionsRow, standIns := [], harness := (true, "abafe312f8b0b2cac35a76e74bdf923cf24d68c434156df310e92011abe41351"), looks := false }, kinds := [], alts := [], laidByText := true, laidKinds := [.data, .data], laidTests := true, laidLooks := .later }
def TcpOptionsCardSaid : Prop := Claim7.holds Tryd.pinned (.plain (OpenSpec.ofChange tcpOptionsSpec)) tcpOptionsCard

/-- THE TIED CARD OF 'intrusionlaw14.TcpRoundTrip'. -/
def tcpRoundTripCard : Claim7 := { stood := { row := tcpRoundTripRow, standIns := [], harness := (true, "abafe312f8b0b2cac35a76e74bdf923cf24d68c434156df310e92011abe41351"), looks := false }, kinds := [], alts := [], laidByText := true, laidKinds := [.data, .data], laidTests := true, laidLooks := .later }
def TcpRoundTripCardSaid : Prop := Claim7.holds Tryd.pinned (.plain (OpenSpec.ofChange tcpRoundTripSpec)) tcpRoundTripCard

/-- THE TIED CARD OF 'intrusionlaw14.TcpAccepts'. -/
def tcpAcceptsCard : Claim7 := { stood := { row := tcpAcceptsRow, standIns := [], harness := (true, "abafe312f8b0b2cac35a76e74bdf923cf24d68c434156df310e92011abe41351"), looks := false }, kinds := [], alts := [], laidByText := true, laidKinds := [.data, .data], laidTests := true, laidLooks := .later }
def TcpAcceptsCardSaid : Prop := Claim7.holds Tryd.pinned (.plain (OpenSpec.ofChange tcpAcceptsSpec)) tcpAcceptsCard

/-- THE TIED CARD OF 'intrusionlaw14.TcpNotices'. -/
def tcpNoticesCard : Claim7 := { stood := { row := tcpNoticesRow, standIns := [], harness := (true, "abafe312f8b0b2cac35a76e74bdf923cf24d68c434156df310e92011abe41351"), looks := false }, kinds := [], alts := [], laidByText := true, laidKinds := [.data, .data], laidTests := true, laidLooks := .later }
def TcpNoticesCardSaid : Prop := Claim7.holds Tryd.pinned (.plain (OpenSpec.ofChange tcpNoticesSpec)) tcpNoticesCard

/-- THE SECOND FORM's CARD OF 'intrusionlaw14.TcpDecodes'. -/
def tcpDecodesUptoCard : Claim7 := { stood := { row := tcpDecodesUptoRow, standIns := [], harness := (true, "abafe312f8b0b2cac35a76e74bdf923cf24d68c434156df310e92011abe41351"), looks := false }, kinds := [], alts := [], laidByText := true, laidKinds := [.data, .data], laidTests := true, laidLooks := .later }
def TcpDecodesUptoCardSaid : Prop := Claim7.holds Tryd.pinned (.plain (OpenSpec.upto tcpDecodesSpec)) tcpDecodesUptoCard

/-- THE SECOND FORM's CARD OF 'intrusionlaw14.TcpEncodes'. -/
def tcpEncodesUptoCard : Claim7 := { stood := { row := tcpEncodesUptoRow, standIns := [], harness := (true, "abafe312f8b0b2cac35a76e74bdf923cf24d68c434156df310e92011abe41351"), looks := false }, kinds := [], alts := [], laidByText := true, laidKinds := [.data, .data], laidTests := true, laidLooks := .later }
def TcpEncodesUptoCardSaid : Prop := Claim7.holds Tryd.pinned (.plain (OpenSpec.upto tcpEncodesSpec)) tcpEncodesUptoCard

/-- THE SECOND FORM's CARD OF 'intrusionlaw14.TcpOptions'. -/
def tcpOptionsUptoCard : Claim7 := { stood := { row := tcpOptionsUptoRow, standIns := [], harness := (true, "abafe312f8b0b2cac35a76e74bdf923cf24d68c434156df310e92011abe41351"), looks := false }, kinds := [], alts := [], laidByText := true, laidKinds := [.data, .data], laidTests := true, laidLooks := .later }
def TcpOptionsUptoCardSaid : Prop := Claim7.holds Tryd.pinned (.plain (OpenSpec.upto tcpOptionsSpec)) tcpOptionsUptoCard

/-- THE SECOND FORM's CARD OF 'intrusionlaw14.TcpRoundTrip'. -/
def tcpRoundTripUptoCard : Claim7 := { stood := { row := tcpRoundTripUptoRow, standIns := [], harness := (true, "abafe312f8b0b2cac35a76e74bdf923cf24d68c434156df310e92011abe41351"), looks := false }, kinds := [], alts := [], laidByText := true, laidKinds := [.data, .data], laidTests := true, laidLooks := .later }
def TcpRoundTripUptoCardSaid : Prop := Claim7.holds Tryd.pinned (.plain (OpenSpec.upto tcpRoundTripSpec)) tcpRoundTripUptoCard

/-- THE SECOND FORM's CARD OF 'intrusionlaw14.TcpAccepts'. -/
def tcpAcceptsUptoCard : Claim7 := { stood := { row := tcpAcceptsUptoRow, standIns := [], harness := (true, "abafe312f8b0b2cac35a76e74bdf923cf24d68c434156df310e92011abe41351"), looks := false }, kinds := [], alts := [], laidByText := true, laidKinds := [.data, .data], laidTests := true, laidLooks := .later }
def TcpAcceptsUptoCardSaid : Prop := Claim7.holds Tryd.pinned (.plain (OpenSpec.upto tcpAcceptsSpec)) tcpAcceptsUptoCard

/-- THE SECOND FORM's CARD OF 'intrusionlaw14.TcpNotices'. -/
def tcpNoticesUptoCard : Claim7 := { stood := { row := tcpNoticesUptoRow, standIns := [], harness := (true, "abafe312f8b0b2cac35a76e74bdf923cf24d68c434156df310e92011abe41351"), looks := false }, kinds := [], alts := [], laidByText := true, laidKinds := [.data, .data], laidTests := true, laidLooks := .later }
def TcpNoticesUptoCardSaid : Prop := Claim7.holds Tryd.pinned (.plain (OpenSpec.upto tcpNoticesSpec)) tcpNoticesUptoCard
end Rows
end Go.Proofs.YtmfoionlapcgkaaDoor
