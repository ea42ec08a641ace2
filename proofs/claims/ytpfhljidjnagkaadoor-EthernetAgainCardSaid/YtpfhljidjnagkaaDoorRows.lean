/-
  NARROWER THAN 'FOR EVERY INPUT', by the rows' own cells (each row's printed sentence says how): EthernetDecodes: laid · EthernetEncodes: laid · EthernetRoundTrip: laid · EthernetAgain: laid · EthernetMacs: laid.
  DERIVED. THE GIVEN ROWS OF THIS SEAT. 5 by the template 'for every input the law returns true; each argument reads behind the call as it read before'; 0 by the template 'total and deterministic' (their statements: YtpfhljidjnagkaaDoorTotals.lean).
  GIVEN WITH THE SEED: the statements are not yours to turn. If you find one false, say at which input.
  Laid BY PROGRAM, IN A SANDBOX (cutbox-rows.mjs): the forced cells as the released guide's own fill.sh prints them over the translation 1a545b1063bdfc70… (all of the seat's roots in one cut). By AI agents, Wed Nov 11 2026. No macro, syntax, notation, axiom, sorry.
-/
import Derived.Test.YtpfhljidjnagkaaDoorChecked
import GoSem.PinnedTables
import GoSem.Claim
import GoSem.ClaimJoined
import GoSem.ClaimMapViews
import Derived.JoinedTies
import Derived.KernelRfl
namespace Go.Proofs.YtpfhljidjnagkaaDoor
/- THE CELL 'sum', in the pinned program and in every row, IS THE sha256 OF THE DUMP (.gsa) THAT YtpfhljidjnagkaaDoorProg.lean LOADS. Nothing in Lean hashes anything: it is a label: what it is worth is what the hold of that sum in a sandbox is worth. -/
noncomputable def Tryd.pinned : Pinned := { name := "ytpfhljidjnagkaadoor", sum := "1a545b1063bdfc7004e5b78a17a0b98b96473022240edb7c158677c0cb0c277e", checked := Tryd.checked }
namespace Rows
def none {H : Type} : Left H := { results := [], args := [] }

/- WHAT THE LISTED PACKAGE-LEVEL VARIABLES READ AS WHEN THE CALL BEGINS. Each datum BY PROGRAM (the guide's laid-datum.mjs) off the statement by which the dump's own 'gosem.cut.vars' lays the variable. In a bare row this is a premise. The card (YtpfhljidjnagkaaDoorCards.lean) ties it to the program's text. -/
def laid_intrusion_ethernet_tagTypes {H : Type} : DataW H := .agg [.lit (.int .i64 33024), .lit (.int .i64 34984)]
def laid_math_bits_deBruijn32tab {H : Type} : DataW H := .agg [.lit (.int .u8 0), .lit (.int .u8 1), .lit (.int .u8 28), .lit (.int .u8 2), .lit (.int .u8 29), .lit (.int .u8 14), .lit (.int .u8 24), .lit (.int .u8 3), .lit (.int .u8 30), .lit (.int .u8 22), .lit (.int .u8 20), .lit (.int .u8 15), .lit (.int .u8 25), .lit (.int .u8 17), .lit (.int .u8 4), .lit (.int .u8 8), .lit (.int .u8 31), .lit (.int .u8 27), .lit (.int .u8 13), .lit (.int .u8 23), .lit (.int .u8 21), .lit (.int .u8 19), .lit (.int .u8 16), .lit (.int .u8 7), .lit (.int .u8 26), .lit (.int .u8 12), .lit (.int .u8 18), .lit (.int .u8 6), .lit (.int .u8 11), .lit (.int .u8 5), .lit (.int .u8 10), .lit (.int .u8 9)]
def laid_math_bits_deBruijn64tab {H : Type} : DataW H := .agg [.lit (.int .u8 0), .lit (.int .u8 1), .lit (.int .u8 56), .lit (.int .u8 2), .lit (.int .u8 57), .lit (.int .u8 49), .lit (.int .u8 28), .lit (.int .u8 3), .lit (.int .u8 61), .lit (.int .u8 58), .lit (.int .u8 42), .lit (.int .u8 50), .lit (.int .u8 38), .lit (.int .u8 29), .lit (.int .u8 17), .lit (.int .u8 4), .lit (.int .u8 62), .lit (.int .u8 47), .lit (.int .u8 59), .lit (.int .u8 36), .lit (.int .u8 45), .lit (.int .u8 43), .lit (.int .u8 51), .lit (.int .u8 22), .lit (.int .u8 53), .lit (.int .u8 39), .lit (.int .u8 33), .lit (.int .u8 30), .lit (.int .u8 24), .lit (.int .u8 18), .lit (.int .u8 12), .lit (.int .u8 5), .lit (.int .u8 63), .lit (.int .u8 55), .lit (.int .u8 48), .lit (.int .u8 27), .lit (.int .u8 60), .lit (.int .u8 41), .lit (.int .u8 37), .lit (.int .u8 16), .lit (.int .u8 46), .lit (.int .u8 35), .lit (.int .u8 44), .lit (.int .u8 21), .lit (.int .u8 52), .lit (.int .u8 32), .lit (.int .u8 23), .lit (.int .u8 11), .lit (.int .u8 54), .lit (.int .u8 26), .lit (.int .u8 40), .lit (.int .u8 15), .lit (.int .u8 34), .lit (.int .u8 20), .lit (.int .u8 31), .lit (.int .u8 10), .lit (.int .u8 25), .lit (.int .u8 14), .lit (.int .u8 19), .lit (.int .u8 9), .lit (.int .u8 13), .lit (.int .u8 8), .lit (.int .u8 7), .lit (.int .u8 6)]
def laid_internal_strconv_uint64pow10 {H : Type} : DataW H := .agg [.lit (.int .u64 1), .lit (.int .u64 10), .lit (.int .u64 100), .lit (.int .u64 1000), .lit (.int .u64 10000), .lit (.int .u64 100000), .lit (.int .u64 1000000), .lit (.int .u64 10000000), .lit (.int .u64 100000000), .lit (.int .u64 1000000000), .lit (.int .u64 10000000000), .lit (.int .u64 100000000000), .lit (.int .u64 1000000000000), .lit (.int .u64 10000000000000), .lit (.int .u64 100000000000000), .lit (.int .u64 1000000000000000), .lit (.int .u64 10000000000000000), .lit (.int .u64 100000000000000000), .lit (.int .u64 1000000000000000000), .lit (.int .u64 10000000000000000000)]
def laid_unicode_utf8_acceptRanges {H : Type} : DataW H := .agg [.agg [.lit (.int .u8 128), .lit (.int .u8 191)], .agg [.lit (.int .u8 160), .lit (.int .u8 191)], .agg [.lit (.int .u8 128), .lit (.int .u8 159)], .agg [.lit (.int .u8 144), .lit (.int .u8 191)], .agg [.lit (.int .u8 128), .lit (.int .u8 143)], .agg [.lit (.int .u8 0), .lit (.int .u8 0)], .agg [.lit (.int .u8 0), .lit (.int .u8 0)], .agg [.lit (.int .u8 0), .lit (.int .u8 0)], .agg [.lit (.int .u8 0), .lit (.int .u8 0)], .agg [.lit (.int .u8 0), .lit (.int .u8 0)], .agg [.lit (.int .u8 0), .lit (.int .u8 0)], .agg [.lit (.int .u8 0), .lit (.int .u8 0)], .agg [.lit (.int .u8 0), .lit (.int .u8 0)], .agg [.lit (.int .u8 0), .lit (.int .u8 0)], .agg [.lit (.int .u8 0), .lit (.int .u8 0)], .agg [.lit (.int .u8 0), .lit (.int .u8 0)]]
def laid_strconv_ErrRange {H : Type} : DataW H := .iface "*errors.errorString" (.ptr (.agg [.lit (.string [118, 97, 108, 117, 101, 32, 111, 117, 116, 32, 111, 102, 32, 114, 97, 110, 103, 101])]))
def laid_strconv_ErrSyntax {H : Type} : DataW H := .iface "*errors.errorString" (.ptr (.agg [.lit (.string [105, 110, 118, 97, 108, 105, 100, 32, 115, 121, 110, 116, 97, 120])]))
/-- One of Go's own tables, pinned by name: the form's constant. -/
def laid_unicode_utf8_first : DataW Unit := Go.Pinned.utf8First

/-- 'intrusionlaw10.EthernetDecodes': WHATEVER THE INPUT: true; the input reads as it did. -/
def ethernetDecodesSpec : ChangeSpec := { name := "ethernetDecodes", fn := fun _ => fun
  | [d] => { results := [.lit (.bool true)], args := [d] }
  | _ => none }
def ethernetDecodesRow : OpenClaim := { program := "ytpfhljidjnagkaadoor", sum := "1a545b1063bdfc7004e5b78a17a0b98b96473022240edb7c158677c0cb0c277e", func := "intrusion/intrusionlaw10.EthernetDecodes", spec := "ethernetDecodes", named := ["intrusion/ethernet.tagTypes"], apart := false, laid := [("intrusion/ethernet.tagTypes", laid_intrusion_ethernet_tagTypes)] }
def EthernetDecodesSaid : Prop := ethernetDecodesRow.holds Tryd.pinned (OpenSpec.ofChange ethernetDecodesSpec)

/-- ITS FALSE NEIGHBOUR: 'it returns false'. Refute it at one input. -/
def ethernetDecodesWrong : ChangeSpec := { name := "ethernetDecodes", fn := fun _ => fun
  | [d] => { results := [.lit (.bool false)], args := [d] }
  | _ => none }
def EthernetDecodesWrongFalsely : Prop := ethernetDecodesRow.holds Tryd.pinned (OpenSpec.ofChange ethernetDecodesWrong)

/-- 'intrusionlaw10.EthernetEncodes': WHATEVER THE INPUT: true; the input reads as it did. -/
def ethernetEncodesSpec : ChangeSpec := { name := "ethernetEncodes", fn := fun _ => fun
  | [d] => { results := [.lit (.bool true)], args := [d] }
  | _ => none }
def ethernetEncodesRow : OpenClaim := { program := "ytpfhljidjnagkaadoor", sum := "1a545b1063bdfc7004e5b78a17a0b98b96473022240edb7c158677c0cb0c277e", func := "intrusion/intrusionlaw10.EthernetEncodes", spec := "ethernetEncodes", recurses := true, named := ["intrusion/ethernet.tagTypes"], apart := false, laid := [("intrusion/ethernet.tagTypes", laid_intrusion_ethernet_tagTypes)] }
def EthernetEncodesSaid : Prop := ethernetEncodesRow.holds Tryd.pinned (OpenSpec.ofChange ethernetEncodesSpec)

/-- ITS FALSE NEIGHBOUR: 'it returns false'. Refute it at one input. -/
def ethernetEncodesWrong : ChangeSpec := { name := "ethernetEncodes", fn := fun _ => fun
  | [d] => { results := [.lit (.bool false)], args := [d] }
  | _ => none }
def EthernetEncodesWrongFalsely : Prop := ethernetEncodesRow.holds Tryd.pinned (OpenSpec.ofChange ethernetEncodesWrong)

/-- 'intrusionlaw10.EthernetRoundTrip': WHATEVER THE INPUT: true; the input reads as it did. -/
def ethernetRoundTripSpec : ChangeSpec := { name := "ethernetRoundTrip", fn := fun _ => fun
  | [d] => { results := [.lit (.bool true)], args := [d] }
  | _ => none }
def ethernetRoundTripRow : OpenClaim := { program := "ytpfhljidjnagkaadoor", sum := "1a545b1063bdfc7004e5b78a17a0b98b96473022240edb7c158677c0cb0c277e", func := "intrusion/intrusionlaw10.EthernetRoundTrip", spec := "ethernetRoundTrip", named := ["intrusion/ethernet.tagTypes"], apart := false, laid := [("intrusion/ethernet.tagTypes", laid_intrusion_ethernet_tagTypes)] }
def EthernetRoundTripSaid : Prop := ethernetRoundTripRow.holds Tryd.pinned (OpenSpec.ofChange ethernetRoundTripSpec)

/-- ITS FALSE NEIGHBOUR: 'it returns false'. Refute it at one input. -/
def ethernetRoundTripWrong : ChangeSpec := { name := "ethernetRoundTrip", fn := fun _ => fun
  | [d] => { results := [.lit (.bool false)], args := [d] }
  | _ => none }
def EthernetRoundTripWrongFalsely : Prop := ethernetRoundTripRow.holds Tryd.pinned (OpenSpec.ofChange ethernetRoundTripWrong)

/-- 'intrusionlaw10.EthernetAgain': WHATEVER THE INPUT: true; the input reads as it did. -/
def ethernetAgainSpec : ChangeSpec := { name := "ethernetAgain", fn := fun _ => fun
  | [d] => { results := [.lit (.bool true)], args := [d] }
  | _ => none }
def ethernetAgainRow : OpenClaim := { program := "ytpfhljidjnagkaadoor", sum := "1a545b1063bdfc7004e5b78a17a0b98b96473022240edb7c158677c0cb0c277e", func := "intrusion/intrusionlaw10.EthernetAgain", spec := "ethernetAgain", named := ["intrusion/ethernet.tagTypes"], apart := false, laid := [("intrusion/ethernet.tagTypes", laid_intrusion_ethernet_tagTypes)] }
def EthernetAgainSaid : Prop := ethernetAgainRow.holds Tryd.pinned (OpenSpec.ofChange ethernetAgainSpec)

/-- ITS FALSE NEIGHBOUR: 'it returns false'. Refute it at one input. -/
def ethernetAgainWrong : ChangeSpec := { name := "ethernetAgain", fn := fun _ => fun
  | [d] => { results := [.lit (.bool false)], args := [d] }
  | _ => none }
def EthernetAgainWrongFalsely : Prop := ethernetAgainRow.holds Tryd.pinned (OpenSpec.ofChange ethernetAgainWrong)

/-- 'intrusionlaw10.EthernetMacs': WHATEVER THE INPUT: true; the input reads as it did. -/
def ethernetMacsSpec : ChangeSpec := { name := "ethernetMacs", fn := fun _ => fun
  | [d1, d2] => { results := [.lit (.bool true)], args := [d1, d2] }
  | _ => none }
def ethernetMacsRow : OpenClaim := { program := "ytpfhljidjnagkaadoor", sum := "1a545b1063bdfc7004e5b78a17a0b98b96473022240edb7c158677c0cb0c277e", func := "intrusion/intrusionlaw10.EthernetMacs", spec := "ethernetMacs", inPlace := ["internal/bytealg.CountString", "internal/bytealg.IndexByteString", "internal/bytealg.IndexString"], recurses := true, named := ["intrusion/ethernet.tagTypes", "unicode/utf8.first", "unicode/utf8.acceptRanges", "internal/bytealg.MaxLen", "strconv.ErrSyntax", "strconv.ErrRange", "internal/strconv.uint64pow10", "math/bits.deBruijn32tab", "math/bits.deBruijn64tab"], apart := false, laid := [("math/bits.deBruijn32tab", laid_math_bits_deBruijn32tab), ("math/bits.deBruijn64tab", laid_math_bits_deBruijn64tab), ("internal/strconv.uint64pow10", laid_internal_strconv_uint64pow10), ("unicode/utf8.acceptRanges", laid_unicode_utf8_acceptRanges), ("strconv.ErrRange", laid_strconv_ErrRange), ("strconv.ErrSyntax", laid_strconv_ErrSyntax), ("intrusion/ethernet.tagTypes", laid_intrusion_ethernet_tagTypes), ("unicode/utf8.first", laid_unicode_utf8_first)] }
def EthernetMacsSaid : Prop := ethernetMacsRow.holds Tryd.pinned (OpenSpec.ofChange ethernetMacsSpec)

/-- ITS FALSE NEIGHBOUR: 'it returns false'. Refute it at one input. -/
def ethernetMacsWrong : ChangeSpec := { name := "ethernetMacs", fn := fun _ => fun
  | [d1, d2] => { results := [.lit (.bool false)], args := [d1, d2] }
  | _ => none }
def EthernetMacsWrongFalsely : Prop := ethernetMacsRow.holds Tryd.pinned (OpenSpec.ofChange ethernetMacsWrong)

/- THE SECOND FORM. 'bulk': how many values and letters a reading holds, each counted each time it is reached (what is shared counts as often as it is met; a slice's spare places count too). A statement '..UptoSaid' is the law's where the arguments, and the package variables that the reading takes, are together of bulk at most 1048576: NARROWER than '..Said'. Prove '..Said' where nothing that the law and all that it calls make is longer than what came in: it says more and counts as full. Else prove '..UptoSaid'. A law counts once. -/
mutual
def uptoBulk {H : Type} : DataW H → Nat
  | .lit (.string bytes) => bytes.length + 1
  | .lit _ => 1
  | .nil => 1
  | .ptr d => uptoBulk d + 1
  | .slice elems spare => uptoBulkAll elems + uptoBulkAll spare + 1
  | .agg parts => uptoBulkAll parts + 1
  | .iface _ d => uptoBulk d + 1
  | .map entries => uptoBulkEntries entries + 1
  | .held _ => 1
def uptoBulkAll {H : Type} : List (DataW H) → Nat
  | [] => 0
  | d :: r => uptoBulk d + uptoBulkAll r
def uptoBulkEntries {H : Type} : List (Lit × DataW H) → Nat
  | [] => 0
  | x :: r => uptoBulkEntry x + uptoBulkEntries r
def uptoBulkEntry {H : Type} : Lit × DataW H → Nat
  | (.string bytes, d) => bytes.length + uptoBulk d + 1
  | (_, d) => uptoBulk d + 1
 end
def uptoSmall : (H : Type) → List (DataW H) → Bool := fun _ ds => decide (uptoBulkAll ds ≤ 1048576)
def OpenSpec.upto (s : _root_.Go.ChangeSpec) : _root_.Go.OpenSpec := { _root_.Go.OpenSpec.ofChange s with cond := some uptoSmall }

/-- 'intrusionlaw10.EthernetDecodes', WHERE WHAT IT READS IS OF BULK AT MOST 1048576: true; the input reads as it did. -/
def ethernetDecodesUptoRow : OpenClaim := { program := "ytpfhljidjnagkaadoor", sum := "1a545b1063bdfc7004e5b78a17a0b98b96473022240edb7c158677c0cb0c277e", func := "intrusion/intrusionlaw10.EthernetDecodes", spec := "ethernetDecodes", named := ["intrusion/ethernet.tagTypes"], apart := false, laid := [("intrusion/ethernet.tagTypes", laid_intrusion_ethernet_tagTypes)], narrowed := true }
def EthernetDecodesUptoSaid : Prop := ethernetDecodesUptoRow.holds Tryd.pinned (OpenSpec.upto ethernetDecodesSpec)

/-- 'intrusionlaw10.EthernetEncodes', WHERE WHAT IT READS IS OF BULK AT MOST 1048576: true; the input reads as it did. -/
def ethernetEncodesUptoRow : OpenClaim := { program := "ytpfhljidjnagkaadoor", sum := "1a545b1063bdfc7004e5b78a17a0b98b96473022240edb7c158677c0cb0c277e", func := "intrusion/intrusionlaw10.EthernetEncodes", spec := "ethernetEncodes", recurses := true, named := ["intrusion/ethernet.tagTypes"], apart := false, laid := [("intrusion/ethernet.tagTypes", laid_intrusion_ethernet_tagTypes)], narrowed := true }
def EthernetEncodesUptoSaid : Prop := ethernetEncodesUptoRow.holds Tryd.pinned (OpenSpec.upto ethernetEncodesSpec)

/-- 'intrusionlaw10.EthernetRoundTrip', WHERE WHAT IT READS IS OF BULK AT MOST 1048576: true; the input reads as it did. -/
def ethernetRoundTripUptoRow : OpenClaim := { program := "ytpfhljidjnagkaadoor", sum := "1a545b1063bdfc7004e5b78a17a0b98b96473022240edb7c158677c0cb0c277e", func := "intrusion/intrusionlaw10.EthernetRoundTrip", spec := "ethernetRoundTrip", named := ["intrusion/ethernet.tagTypes"], apart := false, laid := [("intrusion/ethernet.tagTypes", laid_intrusion_ethernet_tagTypes)], narrowed := true }
def EthernetRoundTripUptoSaid : Prop := ethernetRoundTripUptoRow.holds Tryd.pinned (OpenSpec.upto ethernetRoundTripSpec)

/-- 'intrusionlaw10.EthernetAgain', WHERE WHAT IT READS IS OF BULK AT MOST 1048576: true; the input reads as it did. -/
def ethernetAgainUptoRow : OpenClaim := { program := "ytpfhljidjnagkaadoor", sum := "1a545b1063bdfc7004e5b78a17a0b98b96473022240edb7c158677c0cb0c277e", func := "intrusion/intrusionlaw10.EthernetAgain", spec := "ethernetAgain", named := ["intrusion/ethernet.tagTypes"], apart := false, laid := [("intrusion/ethernet.tagTypes", laid_intrusion_ethernet_tagTypes)], narrowed := true }
def EthernetAgainUptoSaid : Prop := ethernetAgainUptoRow.holds Tryd.pinned (OpenSpec.upto ethernetAgainSpec)

/-- 'intrusionlaw10.EthernetMacs', WHERE WHAT IT READS IS OF BULK AT MOST 1048576: true; the input reads as it did. -/
def ethernetMacsUptoRow : OpenClaim := { program := "ytpfhljidjnagkaadoor", sum := "1a545b1063bdfc7004e5b78a17a0b98b96473022240edb7c158677c0cb0c277e", func := "intrusion/intrusionlaw10.EthernetMacs", spec := "ethernetMacs", inPlace := ["internal/bytealg.CountString", "internal/bytealg.IndexByteString", "internal/bytealg.IndexString"], recurses := true, named := ["intrusion/ethernet.tagTypes", "unicode/utf8.first", "unicode/utf8.acceptRanges", "internal/bytealg.MaxLen", "strconv.ErrSyntax", "strconv.ErrRange", "internal/strconv.uint64pow10", "math/bits.deBruijn32tab", "math/bits.deBruijn64tab"], apart := false, laid := [("math/bits.deBruijn32tab", laid_math_bits_deBruijn32tab), ("math/bits.deBruijn64tab", laid_math_bits_deBruijn64tab), ("internal/strconv.uint64pow10", laid_internal_strconv_uint64pow10), ("unicode/utf8.acceptRanges", laid_unicode_utf8_acceptRanges), ("strconv.ErrRange", laid_strconv_ErrRange), ("strconv.ErrSyntax", laid_strconv_ErrSyntax), ("intrusion/ethernet.tagTypes", laid_intrusion_ethernet_tagTypes), ("unicode/utf8.first", laid_unicode_utf8_first)], narrowed := true }
def EthernetMacsUptoSaid : Prop := ethernetMacsUptoRow.holds Tryd.pinned (OpenSpec.upto ethernetMacsSpec)

end Rows
end Go.Proofs.YtpfhljidjnagkaaDoor
