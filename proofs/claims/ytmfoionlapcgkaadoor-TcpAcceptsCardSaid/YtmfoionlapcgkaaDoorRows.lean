/-
  NARROWER THAN 'FOR EVERY INPUT', by the rows' own cells (each row's printed sentence says how): TcpDecodes: laid · TcpEncodes: laid · TcpOptions: laid · TcpRoundTrip: laid · TcpAccepts: laid · TcpNotices: laid.
  DERIVED. THE GIVEN ROWS OF THIS SEAT. 6 by the template 'for every input the law returns true; each argument reads behind the call as it read before'; 0 by the template 'total and deterministic' (their statements: YtmfoionlapcgkaaDoorTotals.lean).
  GIVEN WITH THE SEED: the statements are not yours to turn. If you find one false, say at which input.
  Laid BY PROGRAM, IN A SANDBOX (cutbox-rows.mjs): the forced cells as the released guide's own fill.sh prints them over the translation cec703e60e82cc49… (all of the seat's roots in one cut). By AI agents, Wed Nov 11 2026. No macro, syntax, notation, axiom, sorry.
-/
import Derived.Test.YtmfoionlapcgkaaDoorChecked
import GoSem.Claim
import GoSem.ClaimJoined
import GoSem.ClaimMapViews
import Derived.JoinedTies
import Derived.KernelRfl
namespace Go.Proofs.YtmfoionlapcgkaaDoor
/- THE CELL 'sum', in the pinned program and in every row, IS THE sha256 OF THE DUMP (.gsa) THAT YtmfoionlapcgkaaDoorProg.lean LOADS. Nothing in Lean hashes anything: it is a label: what it is worth is what the hold of that sum in a sandbox is worth. -/
noncomputable def Tryd.pinned : Pinned := { name := "ytmfoionlapcgkaadoor", sum := "cec703e60e82cc4949550f7fb47f355027db954a10bf7d09a0c3b1c1763fe849", checked := Tryd.checked }
namespace Rows
def none {H : Type} : Left H := { results := [], args := [] }

/- WHAT THE LISTED PACKAGE-LEVEL VARIABLES READ AS WHEN THE CALL BEGINS. Each datum BY PROGRAM (the guide's laid-datum.mjs) off the statement by which the dump's own 'gosem.cut.vars' lays the variable. In a bare row this is a premise. The card (YtmfoionlapcgkaaDoorCards.lean) ties it to the program's text. -/
def laid_intrusion_checksum_shifts {H : Type} : DataW H := .agg [.lit (.int .u64 56), .lit (.int .u64 48), .lit (.int .u64 40), .lit (.int .u64 32), .lit (.int .u64 24), .lit (.int .u64 16), .lit (.int .u64 8), .lit (.int .u64 0)]
def laid_intrusion_tcp_counted {H : Type} : DataW H := .agg [.lit (.int .i64 240), .lit (.int .i64 63)]

/-- 'intrusionlaw14.TcpDecodes': WHATEVER THE INPUT: true; the input reads as it did. -/
def tcpDecodesSpec : ChangeSpec := { name := "tcpDecodes", fn := fun _ => fun
  | [d1, d2] => { results := [.lit (.bool true)], args := [d1, d2] }
  | _ => none }
def tcpDecodesRow : OpenClaim := { program := "ytmfoionlapcgkaadoor", sum := "cec703e60e82cc4949550f7fb47f355027db954a10bf7d09a0c3b1c1763fe849", func := "intrusion/intrusionlaw14.TcpDecodes", spec := "tcpDecodes", inPlace := ["internal/abi.NoEscape", "internal/bytealg.MakeNoZero"], unfollowed := true, recurses := true, named := ["intrusion/checksum.shifts", "intrusion/tcp.counted"], apart := false, laid := [("intrusion/checksum.shifts", laid_intrusion_checksum_shifts), ("intrusion/tcp.counted", laid_intrusion_tcp_counted)] }
def TcpDecodesSaid : Prop := tcpDecodesRow.holds Tryd.pinned (OpenSpec.ofChange tcpDecodesSpec)

/-- ITS FALSE NEIGHBOUR: 'it returns false'. Refute it at one input. -/
def tcpDecodesWrong : ChangeSpec := { name := "tcpDecodes", fn := fun _ => fun
  | [d1, d2] => { results := [.lit (.bool false)], args := [d1, d2] }
  | _ => none }
def TcpDecodesWrongFalsely : Prop := tcpDecodesRow.holds Tryd.pinned (OpenSpec.ofChange tcpDecodesWrong)

/-- 'intrusionlaw14.TcpEncodes': WHATEVER THE INPUT: true; the input reads as it did. -/
def tcpEncodesSpec : ChangeSpec := { name := "tcpEncodes", fn := fun _ => fun
  | [d1, d2] => { results := [.lit (.bool true)], args := [d1, d2] }
  | _ => none }
def tcpEncodesRow : OpenClaim := { program := "ytmfoionlapcgkaadoor", sum := "cec703e60e82cc4949550f7fb47f355027db954a10bf7d09a0c3b1c1763fe849", func := "intrusion/intrusionlaw14.TcpEncodes", spec := "tcpEncodes", inPlace := ["internal/abi.NoEscape", "internal/bytealg.MakeNoZero"], unfollowed := true, recurses := true, named := ["intrusion/checksum.shifts", "intrusion/tcp.counted"], apart := false, laid := [("intrusion/checksum.shifts", laid_intrusion_checksum_shifts), ("intrusion/tcp.counted", laid_intrusion_tcp_counted)] }
def TcpEncodesSaid : Prop := tcpEncodesRow.holds Tryd.pinned (OpenSpec.ofChange tcpEncodesSpec)

/-- ITS FALSE NEIGHBOUR: 'it returns false'. Refute it at one input. -/
def tcpEncodesWrong : ChangeSpec := { name := "tcpEncodes", fn := fun _ => fun
  | [d1, d2] => { results := [.lit (.bool false)], args := [d1, d2] }
  | _ => none }
def TcpEncodesWrongFalsely : Prop := tcpEncodesRow.holds Tryd.pinned (OpenSpec.ofChange tcpEncodesWrong)

/-- 'intrusionlaw14.TcpOptions': WHATEVER THE INPUT: true; the input reads as it did. -/
def tcpOptionsSpec : ChangeSpec := { name := "tcpOptions", fn := fun _ => fun
  | [d] => { results := [.lit (.bool true)], args := [d] }
  | _ => none }
def tcpOptionsRow : OpenClaim := { program := "ytmfoionlapcgkaadoor", sum := "cec703e60e82cc4949550f7fb47f355027db954a10bf7d09a0c3b1c1763fe849", func := "intrusion/intrusionlaw14.TcpOptions", spec := "tcpOptions", inPlace := ["internal/abi.NoEscape", "internal/bytealg.MakeNoZero"], unfollowed := true, recurses := true, named := ["intrusion/checksum.shifts", "intrusion/tcp.counted"], apart := false, laid := [("intrusion/checksum.shifts", laid_intrusion_checksum_shifts), ("intrusion/tcp.counted", laid_intrusion_tcp_counted)] }
def TcpOptionsSaid : Prop := tcpOptionsRow.holds Tryd.pinned (OpenSpec.ofChange tcpOptionsSpec)

/-- ITS FALSE NEIGHBOUR: 'it returns false'. Refute it at one input. -/
def tcpOptionsWrong : ChangeSpec := { name := "tcpOptions", fn := fun _ => fun
  | [d] => { results := [.lit (.bool false)], args := [d] }
  | _ => none }
def TcpOptionsWrongFalsely : Prop := tcpOptionsRow.holds Tryd.pinned (OpenSpec.ofChange tcpOptionsWrong)

/-- 'intrusionlaw14.TcpRoundTrip': WHATEVER THE INPUT: true; the input reads as it did. -/
def tcpRoundTripSpec : ChangeSpec := { name := "tcpRoundTrip", fn := fun _ => fun
  | [d1, d2] => { results := [.lit (.bool true)], args := [d1, d2] }
  | _ => none }
def tcpRoundTripRow : OpenClaim := { program := "ytmfoionlapcgkaadoor", sum := "cec703e60e82cc4949550f7fb47f355027db954a10bf7d09a0c3b1c1763fe849", func := "intrusion/intrusionlaw14.TcpRoundTrip", spec := "tcpRoundTrip", inPlace := ["internal/abi.NoEscape", "internal/bytealg.MakeNoZero"], unfollowed := true, recurses := true, named := ["intrusion/checksum.shifts", "intrusion/tcp.counted"], apart := false, laid := [("intrusion/checksum.shifts", laid_intrusion_checksum_shifts), ("intrusion/tcp.counted", laid_intrusion_tcp_counted)] }
def TcpRoundTripSaid : Prop := tcpRoundTripRow.holds Tryd.pinned (OpenSpec.ofChange tcpRoundTripSpec)

/-- ITS FALSE NEIGHBOUR: 'it returns false'. Refute it at one input. -/
def tcpRoundTripWrong : ChangeSpec := { name := "tcpRoundTrip", fn := fun _ => fun
  | [d1, d2] => { results := [.lit (.bool false)], args := [d1, d2] }
  | _ => none }
def TcpRoundTripWrongFalsely : Prop := tcpRoundTripRow.holds Tryd.pinned (OpenSpec.ofChange tcpRoundTripWrong)

/-- 'intrusionlaw14.TcpAccepts': WHATEVER THE INPUT: true; the input reads as it did. -/
def tcpAcceptsSpec : ChangeSpec := { name := "tcpAccepts", fn := fun _ => fun
  | [d1, d2] => { results := [.lit (.bool true)], args := [d1, d2] }
  | _ => none }
def tcpAcceptsRow : OpenClaim := { program := "ytmfoionlapcgkaadoor", sum := "cec703e60e82cc4949550f7fb47f355027db954a10bf7d09a0c3b1c1763fe849", func := "intrusion/intrusionlaw14.TcpAccepts", spec := "tcpAccepts", inPlace := ["internal/abi.NoEscape", "internal/bytealg.MakeNoZero"], unfollowed := true, recurses := true, named := ["intrusion/checksum.shifts", "intrusion/tcp.counted"], apart := false, laid := [("intrusion/checksum.shifts", laid_intrusion_checksum_shifts), ("intrusion/tcp.counted", laid_intrusion_tcp_counted)] }
def TcpAcceptsSaid : Prop := tcpAcceptsRow.holds Tryd.pinned (OpenSpec.ofChange tcpAcceptsSpec)

/-- ITS FALSE NEIGHBOUR: 'it returns false'. Refute it at one input. -/
def tcpAcceptsWrong : ChangeSpec := { name := "tcpAccepts", fn := fun _ => fun
  | [d1, d2] => { results := [.lit (.bool false)], args := [d1, d2] }
  | _ => none }
def TcpAcceptsWrongFalsely : Prop := tcpAcceptsRow.holds Tryd.pinned (OpenSpec.ofChange tcpAcceptsWrong)

/-- 'intrusionlaw14.TcpNotices': WHATEVER THE INPUT: true; the input reads as it did. -/
def tcpNoticesSpec : ChangeSpec := { name := "tcpNotices", fn := fun _ => fun
  | [d1, d2, d3] => { results := [.lit (.bool true)], args := [d1, d2, d3] }
  | _ => none }
def tcpNoticesRow : OpenClaim := { program := "ytmfoionlapcgkaadoor", sum := "cec703e60e82cc4949550f7fb47f355027db954a10bf7d09a0c3b1c1763fe849", func := "intrusion/intrusionlaw14.TcpNotices", spec := "tcpNotices", inPlace := ["internal/abi.NoEscape", "internal/bytealg.MakeNoZero"], unfollowed := true, recurses := true, named := ["intrusion/checksum.shifts", "intrusion/tcp.counted"], apart := false, laid := [("intrusion/checksum.shifts", laid_intrusion_checksum_shifts), ("intrusion/tcp.counted", laid_intrusion_tcp_counted)] }
def TcpNoticesSaid : Prop := tcpNoticesRow.holds Tryd.pinned (OpenSpec.ofChange tcpNoticesSpec)

/-- ITS FALSE NEIGHBOUR: 'it returns false'. Refute it at one input. -/
def tcpNoticesWrong : ChangeSpec := { name := "tcpNotices", fn := fun _ => fun
  | [d1, d2, d3] => { results := [.lit (.bool false)], args := [d1, d2, d3] }
  | _ => none }
def TcpNoticesWrongFalsely : Prop := tcpNoticesRow.holds Tryd.pinned (OpenSpec.ofChange tcpNoticesWrong)

/- THE SECOND FORM. 'bulk': how many values and letters a reading holds, each counted each time it is reached (what is shared counts as often as it is met; a slice's spare places count too). A statement '..UptoSaid' is the law's where the arguments, and the package variables that the reading takes, are together of bulk at most 1048576: NARROWER than '..Said'. Prove '..Said' where nothing that the law and all that it calls make is longer than what came in: it says more and counts as full. Else prove '..UptoSaid'. A law counts once. -/
mutual
def uptoBulk {H : Type} : DataW H → Nat
  | .lit (.string bytes) => bytes.length + 1
  | .lit _ => 1
  | .nil => 1
  | .ptr d => uptoBulk d + 1
  | .slice elems spare => uptoBulkAll elems + uptoBulkAll spare + 1
  | .agg parts => uptoBulkAll parts + 1
  | .iface _ d => uptoBulk d + 1
  | .map entries => uptoBulkEntries entries + 1
  | .held _ => 1
def uptoBulkAll {H : Type} : List (DataW H) → Nat
  | [] => 0
  | d :: r => uptoBulk d + uptoBulkAll r
def uptoBulkEntries {H : Type} : List (Lit × DataW H) → Nat
  | [] => 0
  | x :: r => uptoBulkEntry x + uptoBulkEntries r
def uptoBulkEntry {H : Type} : Lit × DataW H → Nat
  | (.string bytes, d) => bytes.length + uptoBulk d + 1
  | (_, d) => uptoBulk d + 1
 end
def uptoSmall : (H : Type) → List (DataW H) → Bool := fun _ ds => decide (uptoBulkAll ds ≤ 1048576)
def OpenSpec.upto (s : _root_.Go.ChangeSpec) : _root_.Go.OpenSpec := { _root_.Go.OpenSpec.ofChange s with cond := some uptoSmall }

/-- 'intrusionlaw14.TcpDecodes', WHERE WHAT IT READS IS OF BULK AT MOST 1048576: true; the input reads as it did. -/
def tcpDecodesUptoRow : OpenClaim := { program := "ytmfoionlapcgkaadoor", sum := "cec703e60e82cc4949550f7fb47f355027db954a10bf7d09a0c3b1c1763fe849", func := "intrusion/intrusionlaw14.TcpDecodes", spec := "tcpDecodes", inPlace := ["internal/abi.NoEscape", "internal/bytealg.MakeNoZero"], unfollowed := true, recurses := true, named := ["intrusion/checksum.shifts", "intrusion/tcp.counted"], apart := false, laid := [("intrusion/checksum.shifts", laid_intrusion_checksum_shifts), ("intrusion/tcp.counted", laid_intrusion_tcp_counted)], narrowed := true }
def TcpDecodesUptoSaid : Prop := tcpDecodesUptoRow.holds Tryd.pinned (OpenSpec.upto tcpDecodesSpec)

/-- 'intrusionlaw14.TcpEncodes', WHERE WHAT IT READS IS OF BULK AT MOST 1048576: true; the input reads as it did. -/
def tcpEncodesUptoRow : OpenClaim := { program := "ytmfoionlapcgkaadoor", sum := "cec703e60e82cc4949550f7fb47f355027db954a10bf7d09a0c3b1c1763fe849", func := "intrusion/intrusionlaw14.TcpEncodes", spec := "tcpEncodes", inPlace := ["internal/abi.NoEscape", "internal/bytealg.MakeNoZero"], unfollowed := true, recurses := true, named := ["intrusion/checksum.shifts", "intrusion/tcp.counted"], apart := false, laid := [("intrusion/checksum.shifts", laid_intrusion_checksum_shifts), ("intrusion/tcp.counted", laid_intrusion_tcp_counted)], narrowed := true }
def TcpEncodesUptoSaid : Prop := tcpEncodesUptoRow.holds Tryd.pinned (OpenSpec.upto tcpEncodesSpec)

/-- 'intrusionlaw14.TcpOptions', WHERE WHAT IT READS IS OF BULK AT MOST 1048576: true; the input reads as it did. -/
def tcpOptionsUptoRow : OpenClaim := { program := "ytmfoionlapcgkaadoor", sum := "cec703e60e82cc4949550f7fb47f355027db954a10bf7d09a0c3b1c1763fe849", func := "intrusion/intrusionlaw14.TcpOptions", spec := "tcpOptions", inPlace := ["internal/abi.NoEscape", "internal/bytealg.MakeNoZero"], unfollowed := true, recurses := true, named := ["intrusion/checksum.shifts", "intrusion/tcp.counted"], apart := false, laid := [("intrusion/checksum.shifts", laid_intrusion_checksum_shifts), ("intrusion/tcp.counted", laid_intrusion_tcp_counted)], narrowed := true }
def TcpOptionsUptoSaid : Prop := tcpOptionsUptoRow.holds Tryd.pinned (OpenSpec.upto tcpOptionsSpec)

/-- 'intrusionlaw14.TcpRoundTrip', WHERE WHAT IT READS IS OF BULK AT MOST 1048576: true; the input reads as it did. -/
def tcpRoundTripUptoRow : OpenClaim := { program := "ytmfoionlapcgkaadoor", sum := "cec703e60e82cc4949550f7fb47f355027db954a10bf7d09a0c3b1c1763fe849", func := "intrusion/intrusionlaw14.TcpRoundTrip", spec := "tcpRoundTrip", inPlace := ["internal/abi.NoEscape", "internal/bytealg.MakeNoZero"], unfollowed := true, recurses := true, named := ["intrusion/checksum.shifts", "intrusion/tcp.counted"], apart := false, laid := [("intrusion/checksum.shifts", laid_intrusion_checksum_shifts), ("intrusion/tcp.counted", laid_intrusion_tcp_counted)], narrowed := true }
def TcpRoundTripUptoSaid : Prop := tcpRoundTripUptoRow.holds Tryd.pinned (OpenSpec.upto tcpRoundTripSpec)

/-- 'intrusionlaw14.TcpAccepts', WHERE WHAT IT READS IS OF BULK AT MOST 1048576: true; the input reads as it did. -/
def tcpAcceptsUptoRow : OpenClaim := { program := "ytmfoionlapcgkaadoor", sum := "cec703e60e82cc4949550f7fb47f355027db954a10bf7d09a0c3b1c1763fe849", func := "intrusion/intrusionlaw14.TcpAccepts", spec := "tcpAccepts", inPlace := ["internal/abi.NoEscape", "internal/bytealg.MakeNoZero"], unfollowed := true, recurses := true, named := ["intrusion/checksum.shifts", "intrusion/tcp.counted"], apart := false, laid := [("intrusion/checksum.shifts", laid_intrusion_checksum_shifts), ("intrusion/tcp.counted", laid_intrusion_tcp_counted)], narrowed := true }
def TcpAcceptsUptoSaid : Prop := tcpAcceptsUptoRow.holds Tryd.pinned (OpenSpec.upto tcpAcceptsSpec)

/-- 'intrusionlaw14.TcpNotices', WHERE WHAT IT READS IS OF BULK AT MOST 1048576: true; the input reads as it did. -/
def tcpNoticesUptoRow : OpenClaim := { program := "ytmfoionlapcgkaadoor", sum := "cec703e60e82cc4949550f7fb47f355027db954a10bf7d09a0c3b1c1763fe849", func := "intrusion/intrusionlaw14.TcpNotices", spec := "tcpNotices", inPlace := ["internal/abi.NoEscape", "internal/bytealg.MakeNoZero"], unfollowed := true, recurses := true, named := ["intrusion/checksum.shifts", "intrusion/tcp.counted"], apart := false, laid := [("intrusion/checksum.shifts", laid_intrusion_checksum_shifts), ("intrusion/tcp.counted", laid_intrusion_tcp_counted)], narrowed := true }
def TcpNoticesUptoSaid : Prop := tcpNoticesUptoRow.holds Tryd.pinned (OpenSpec.upto tcpNoticesSpec)

end Rows
end Go.Proofs.YtmfoionlapcgkaaDoor
