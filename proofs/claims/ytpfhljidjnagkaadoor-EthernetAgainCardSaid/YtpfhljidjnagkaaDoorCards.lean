/-
  DERIVED. GIVEN WITH THE SEED: THE CARDS: each row of YtpfhljidjnagkaaDoorRows.lean that lists a variable, with what it lists TIED to the program's text (the seventh form; the later family's looks); each row that meets fmt, with fmt's text TOLD by the authors' own Lean function (tested against real Go, not proved from fmt's source: count such statements apart). THE CARD IS WHAT COUNTS. Prove the row's statement (the work); the ties are given (YtpfhljidjnagkaaDoorTie.lean); close each card by the builder's one call (the guide's Derived/Test/ToyasCard.lean, 'card_holds'). Laid BY PROGRAM, IN A SANDBOX (cutbox-door.mjs). By AI agents, Wed Nov 11 2026. No macro, syntax, notation, axiom, sorry.
-/
import Derived.Test.YtpfhljidjnagkaaDoorRows
import GoSem.ClaimSeven
namespace Go.Proofs.YtpfhljidjnagkaaDoor
namespace Rows

/-- THE TIED CARD OF 'intrusionlaw10.EthernetDecodes'. -/
def ethernetDecodesCard : Claim7 := { stood := { row := ethernetDecodesRow, standIns := [], harness := (true, "d10bc0010dfd5ad4109175cd8eeb31f30c600ad8f152c593b8d2b1d6cc112ec3"), looks := true }, kinds := [], alts := [], laidByText := true, laidKinds := [.data], laidTests := true, laidLooks := .later }
def EthernetDecodesCardSaid : Prop := Claim7.holds Tryd.pinned (.plain (OpenSpec.ofChange ethernetDecodesSpec)) ethernetDecodesCard

/-- THE TIED CARD OF 'intrusionlaw10.EthernetEncodes'. -/
def ethernetEncodesCard : Claim7 := { stood := { row := ethernetEncodesRow, standIns := [], harness := (true, "d10bc0010dfd5ad4109175cd8eeb31f30c600ad8f152c593b8d2b1d6cc112ec3"), looks := true }, kinds := [], alts := [], laidByText := true, laidKinds := [.data], laidTests := true, laidLooks := .later }
def EthernetEncodesCardSaid : Prop := Claim7.holds Tryd.pinned (.plain (OpenSpec.ofChange ethernetEncodesSpec)) ethernetEncodesCard

/-- THE TIED CARD OF 'intrusionlaw10.EthernetRoundTrip'. -/
def ethernetRoundTripCard : Claim7 := { stood := { row := ethernetRoundTripRow, standIns := [], harness := (true, "d10bc0010dfd5ad4109175cd8eeb31f30c600ad8f152c593b8d2b1d6cc112ec3"), looks := true }, kinds := [], alts := [], laidByText := true, laidKinds := [.data], laidTests := true, laidLooks := .later }
def EthernetRoundTripCardSaid : Prop := Claim7.holds Tryd.pinned (.plain (OpenSpec.ofChange ethernetRoundTripSpec)) ethernetRoundTripCard

/-- THE TIED CARD OF 'intrusionlaw10.EthernetAgain'. -/
def ethernetAgainCard : Claim7 := { stood := { row := ethernetAgainRow, standIns := [], harness := (true, "d10bc0010dfd5ad4109175cd8eeb31f30c600ad8f152c593b8d2b1d6cc112ec3"), looks := true }, kinds := [], alts := [], laidByText := true, laidKinds := [.data], laidTests := true, laidLooks := .later }
def EthernetAgainCardSaid : Prop := Claim7.holds Tryd.pinned (.plain (OpenSpec.ofChange ethernetAgainSpec)) ethernetAgainCard

/-- THE TIED CARD OF 'intrusionlaw10.EthernetMacs'. -/
def ethernetMacsCard : Claim7 := { stood := { row := ethernetMacsRow, standIns := [], harness := (true, "d10bc0010dfd5ad4109175cd8eeb31f30c600ad8f152c593b8d2b1d6cc112ec3"), looks := true }, kinds := [], alts := [], laidByText := true, laidKinds := [.data, .data, .data, .data, .sentinel, .sentinel, .data, .pinned], laidTests := true, laidLooks := .later }
def EthernetMacsCardSaid : Prop := Claim7.holds Tryd.pinned (.plain (OpenSpec.ofChange ethernetMacsSpec)) ethernetMacsCard

/-- THE SECOND FORM's CARD OF 'intrusionlaw10.EthernetDecodes'. -/
def ethernetDecodesUptoCard : Claim7 := { stood := { row := ethernetDecodesUptoRow, standIns := [], harness := (true, "d10bc0010dfd5ad4109175cd8eeb31f30c600ad8f152c593b8d2b1d6cc112ec3"), looks := true }, kinds := [], alts := [], laidByText := true, laidKinds := [.data], laidTests := true, laidLooks := .later }
def EthernetDecodesUptoCardSaid : Prop := Claim7.holds Tryd.pinned (.plain (OpenSpec.upto ethernetDecodesSpec)) ethernetDecodesUptoCard

/-- THE SECOND FORM's CARD OF 'intrusionlaw10.EthernetEncodes'. -/
def ethernetEncodesUptoCard : Claim7 := { stood := { row := ethernetEncodesUptoRow, standIns := [], harness := (true, "d10bc0010dfd5ad4109175cd8eeb31f30c600ad8f152c593b8d2b1d6cc112ec3"), looks := true }, kinds := [], alts := [], laidByText := true, laidKinds := [.data], laidTests := true, laidLooks := .later }
def EthernetEncodesUptoCardSaid : Prop := Claim7.holds Tryd.pinned (.plain (OpenSpec.upto ethernetEncodesSpec)) ethernetEncodesUptoCard

/-- THE SECOND FORM's CARD OF 'intrusionlaw10.EthernetRoundTrip'. -/
def ethernetRoundTripUptoCard : Claim7 := { stood := { row := ethernetRoundTripUptoRow, standIns := [], harness := (true, "d10bc0010dfd5ad4109175cd8eeb31f30c600ad8f152c593b8d2b1d6cc112ec3"), looks := true }, kinds := [], alts := [], laidByText := true, laidKinds := [.data], laidTests := true, laidLooks := .later }
def EthernetRoundTripUptoCardSaid : Prop := Claim7.holds Tryd.pinned (.plain (OpenSpec.upto ethernetRoundTripSpec)) ethernetRoundTripUptoCard

/-- THE SECOND FORM's CARD OF 'intrusionlaw10.EthernetAgain'. -/
def ethernetAgainUptoCard : Claim7 := { stood := { row := ethernetAgainUptoRow, standIns := [], harness := (true, "d10bc0010dfd5ad4109175cd8eeb31f30c600ad8f152c593b8d2b1d6cc112ec3"), looks := true }, kinds := [], alts := [], laidByText := true, laidKinds := [.data], laidTests := true, laidLooks := .later }
def EthernetAgainUptoCardSaid : Prop := Claim7.holds Tryd.pinned (.plain (OpenSpec.upto ethernetAgainSpec)) ethernetAgainUptoCard

/-- THE SECOND FORM's CARD OF 'intrusionlaw10.EthernetMacs'. -/
def ethernetMacsUptoCard : Claim7 := { stood := { row := ethernetMacsUptoRow, standIns := [], harness := (true, "d10bc0010dfd5ad4109175cd8eeb31f30c600ad8f152c593b8d2b1d6cc112ec3"), looks := true }, kinds := [], alts := [], laidByText := true, laidKinds := [.data, .data, .data, .data, .sentinel, .sentinel, .data, .pinned], laidTests := true, laidLooks := .later }
def EthernetMacsUptoCardSaid : Prop := Claim7.holds Tryd.pinned (.plain (OpenSpec.upto ethernetMacsSpec)) ethernetMacsUptoCard
end Rows
end Go.Proofs.YtpfhljidjnagkaaDoor
