/-
  No cell of these rows narrows 'for every input' (looked for: loops, veiled, ifaces, maps, wideKeys, modest, calm, conditions, laid).
  DERIVED. THE GIVEN ROWS OF THIS SEAT. 5 by the template 'for every input the law returns true; each argument reads behind the call as it read before'; 0 by the template 'total and deterministic' (their statements: YtmcelgnifpfjpaaTotals.lean).
  GIVEN WITH THE SEED: the statements are not yours to turn. If you find one false, say at which input.
  Laid BY PROGRAM, IN A SANDBOX (cutbox-rows.mjs): the forced cells as the released guide's own fill.sh prints them over the translation d25a82e0839db139… (all of the seat's roots in one cut). By AI agents, Wed Nov 11 2026. No macro, syntax, notation, axiom, sorry.
-/
import Derived.Test.YtmcelgnifpfjpaaChecked
import GoSem.Claim
import GoSem.ClaimJoined
import GoSem.ClaimMapViews
import Derived.JoinedTies
import Derived.KernelRfl
namespace Go.Proofs.Ytmcelgnifpfjpaa
/- THE CELL 'sum', in the pinned program and in every row, IS THE sha256 OF THE DUMP (.gsa) THAT YtmcelgnifpfjpaaProg.lean LOADS. Nothing in Lean hashes anything: it is a label: what it is worth is what the hold of that sum in a sandbox is worth. -/
noncomputable def Try.pinned : Pinned := { name := "ytmcelgnifpfjpaa", sum := "d25a82e0839db139ad32b497a1268e1e3fdafe6b9a51fa0fbca229f5f41c3b87", checked := Try.checked }
namespace Rows
def none {H : Type} : Left H := { results := [], args := [] }

/-- 'intrusionlaw07.AddrsetNormal': WHATEVER THE INPUT: true; the input reads as it did. -/
def addrsetNormalSpec : ChangeSpec := { name := "addrsetNormal", fn := fun _ => fun
  | [d1, d2] => { results := [.lit (.bool true)], args := [d1, d2] }
  | _ => none }
def addrsetNormalRow : OpenClaim := { program := "ytmcelgnifpfjpaa", sum := "d25a82e0839db139ad32b497a1268e1e3fdafe6b9a51fa0fbca229f5f41c3b87", func := "intrusion/intrusionlaw07.AddrsetNormal", spec := "addrsetNormal", unfollowed := true, recurses := true, apart := false }
def AddrsetNormalSaid : Prop := addrsetNormalRow.holds Try.pinned (OpenSpec.ofChange addrsetNormalSpec)

/-- ITS FALSE NEIGHBOUR: 'it returns false'. Refute it at one input. -/
def addrsetNormalWrong : ChangeSpec := { name := "addrsetNormal", fn := fun _ => fun
  | [d1, d2] => { results := [.lit (.bool false)], args := [d1, d2] }
  | _ => none }
def AddrsetNormalWrongFalsely : Prop := addrsetNormalRow.holds Try.pinned (OpenSpec.ofChange addrsetNormalWrong)

/-- 'intrusionlaw07.AddrsetOperates': WHATEVER THE INPUT: true; the input reads as it did. -/
def addrsetOperatesSpec : ChangeSpec := { name := "addrsetOperates", fn := fun _ => fun
  | [d1, d2] => { results := [.lit (.bool true)], args := [d1, d2] }
  | _ => none }
def addrsetOperatesRow : OpenClaim := { program := "ytmcelgnifpfjpaa", sum := "d25a82e0839db139ad32b497a1268e1e3fdafe6b9a51fa0fbca229f5f41c3b87", func := "intrusion/intrusionlaw07.AddrsetOperates", spec := "addrsetOperates", unfollowed := true, recurses := true, apart := false }
def AddrsetOperatesSaid : Prop := addrsetOperatesRow.holds Try.pinned (OpenSpec.ofChange addrsetOperatesSpec)

/-- ITS FALSE NEIGHBOUR: 'it returns false'. Refute it at one input. -/
def addrsetOperatesWrong : ChangeSpec := { name := "addrsetOperates", fn := fun _ => fun
  | [d1, d2] => { results := [.lit (.bool false)], args := [d1, d2] }
  | _ => none }
def AddrsetOperatesWrongFalsely : Prop := addrsetOperatesRow.holds Try.pinned (OpenSpec.ofChange addrsetOperatesWrong)

/-- 'intrusionlaw07.AddrsetAlgebra': WHATEVER THE INPUT: true; the input reads as it did. -/
def addrsetAlgebraSpec : ChangeSpec := { name := "addrsetAlgebra", fn := fun _ => fun
  | [d1, d2, d3] => { results := [.lit (.bool true)], args := [d1, d2, d3] }
  | _ => none }
def addrsetAlgebraRow : OpenClaim := { program := "ytmcelgnifpfjpaa", sum := "d25a82e0839db139ad32b497a1268e1e3fdafe6b9a51fa0fbca229f5f41c3b87", func := "intrusion/intrusionlaw07.AddrsetAlgebra", spec := "addrsetAlgebra", unfollowed := true, recurses := true, apart := false }
def AddrsetAlgebraSaid : Prop := addrsetAlgebraRow.holds Try.pinned (OpenSpec.ofChange addrsetAlgebraSpec)

/-- ITS FALSE NEIGHBOUR: 'it returns false'. Refute it at one input. -/
def addrsetAlgebraWrong : ChangeSpec := { name := "addrsetAlgebra", fn := fun _ => fun
  | [d1, d2, d3] => { results := [.lit (.bool false)], args := [d1, d2, d3] }
  | _ => none }
def AddrsetAlgebraWrongFalsely : Prop := addrsetAlgebraRow.holds Try.pinned (OpenSpec.ofChange addrsetAlgebraWrong)

/-- 'intrusionlaw07.AddrsetPrefixes': WHATEVER THE INPUT: true; the input reads as it did. -/
def addrsetPrefixesSpec : ChangeSpec := { name := "addrsetPrefixes", fn := fun _ => fun
  | [d] => { results := [.lit (.bool true)], args := [d] }
  | _ => none }
def addrsetPrefixesRow : OpenClaim := { program := "ytmcelgnifpfjpaa", sum := "d25a82e0839db139ad32b497a1268e1e3fdafe6b9a51fa0fbca229f5f41c3b87", func := "intrusion/intrusionlaw07.AddrsetPrefixes", spec := "addrsetPrefixes", unfollowed := true, recurses := true, apart := false }
def AddrsetPrefixesSaid : Prop := addrsetPrefixesRow.holds Try.pinned (OpenSpec.ofChange addrsetPrefixesSpec)

/-- ITS FALSE NEIGHBOUR: 'it returns false'. Refute it at one input. -/
def addrsetPrefixesWrong : ChangeSpec := { name := "addrsetPrefixes", fn := fun _ => fun
  | [d] => { results := [.lit (.bool false)], args := [d] }
  | _ => none }
def AddrsetPrefixesWrongFalsely : Prop := addrsetPrefixesRow.holds Try.pinned (OpenSpec.ofChange addrsetPrefixesWrong)

/-- 'intrusionlaw07.AddrsetEvaluates': WHATEVER THE INPUT: true; the input reads as it did. -/
def addrsetEvaluatesSpec : ChangeSpec := { name := "addrsetEvaluates", fn := fun _ => fun
  | [d1, d2] => { results := [.lit (.bool true)], args := [d1, d2] }
  | _ => none }
def addrsetEvaluatesRow : OpenClaim := { program := "ytmcelgnifpfjpaa", sum := "d25a82e0839db139ad32b497a1268e1e3fdafe6b9a51fa0fbca229f5f41c3b87", func := "intrusion/intrusionlaw07.AddrsetEvaluates", spec := "addrsetEvaluates", unfollowed := true, recurses := true, apart := false }
def AddrsetEvaluatesSaid : Prop := addrsetEvaluatesRow.holds Try.pinned (OpenSpec.ofChange addrsetEvaluatesSpec)

/-- ITS FALSE NEIGHBOUR: 'it returns false'. Refute it at one input. -/
def addrsetEvaluatesWrong : ChangeSpec := { name := "addrsetEvaluates", fn := fun _ => fun
  | [d1, d2] => { results := [.lit (.bool false)], args := [d1, d2] }
  | _ => none }
def AddrsetEvaluatesWrongFalsely : Prop := addrsetEvaluatesRow.holds Try.pinned (OpenSpec.ofChange addrsetEvaluatesWrong)

/- THE SECOND FORM. 'bulk': how many values and letters a reading holds, each counted each time it is reached (what is shared counts as often as it is met; a slice's spare places count too). A statement '..UptoSaid' is the law's where the arguments, and the package variables that the reading takes, are together of bulk at most 1048576: NARROWER than '..Said'. Prove '..Said' where nothing that the law and all that it calls make is longer than what came in: it says more and counts as full. Else prove '..UptoSaid'. A law counts once. -/
mutual
def uptoBulk {H : Type} : DataW H → Nat
  | .lit (.string bytes) => bytes.length + 1
  | .lit _ => 1
  | .nil => 1
  | .ptr d => uptoBulk d + 1
  | .slice elems spare => uptoBulkAll elems + uptoBulkAll spare + 1
  | .agg parts => uptoBulkAll parts + 1
  | .iface _ d => uptoBulk d + 1
  | .map entries => uptoBulkEntries entries + 1
  | .held _ => 1
def uptoBulkAll {H : Type} : List (DataW H) → Nat
  | [] => 0
  | d :: r => uptoBulk d + uptoBulkAll r
def uptoBulkEntries {H : Type} : List (Lit × DataW H) → Nat
  | [] => 0
  | x :: r => uptoBulkEntry x + uptoBulkEntries r
def uptoBulkEntry {H : Type} : Lit × DataW H → Nat
  | (.string bytes, d) => bytes.length + uptoBulk d + 1
  | (_, d) => uptoBulk d + 1
 end
def uptoSmall : (H : Type) → List (DataW H) → Bool := fun _ ds => decide (uptoBulkAll ds ≤ 1048576)
def OpenSpec.upto (s : _root_.Go.ChangeSpec) : _root_.Go.OpenSpec := { _root_.Go.OpenSpec.ofChange s with cond := some uptoSmall }

/-- 'intrusionlaw07.AddrsetNormal', WHERE WHAT IT READS IS OF BULK AT MOST 1048576: true; the input reads as it did. -/
def addrsetNormalUptoRow : OpenClaim := { program := "ytmcelgnifpfjpaa", sum := "d25a82e0839db139ad32b497a1268e1e3fdafe6b9a51fa0fbca229f5f41c3b87", func := "intrusion/intrusionlaw07.AddrsetNormal", spec := "addrsetNormal", unfollowed := true, recurses := true, apart := false, narrowed := true }
def AddrsetNormalUptoSaid : Prop := addrsetNormalUptoRow.holds Try.pinned (OpenSpec.upto addrsetNormalSpec)

/-- 'intrusionlaw07.AddrsetOperates', WHERE WHAT IT READS IS OF BULK AT MOST 1048576: true; the input reads as it did. -/
def addrsetOperatesUptoRow : OpenClaim := { program := "ytmcelgnifpfjpaa", sum := "d25a82e0839db139ad32b497a1268e1e3fdafe6b9a51fa0fbca229f5f41c3b87", func := "intrusion/intrusionlaw07.AddrsetOperates", spec := "addrsetOperates", unfollowed := true, recurses := true, apart := false, narrowed := true }
def AddrsetOperatesUptoSaid : Prop := addrsetOperatesUptoRow.holds Try.pinned (OpenSpec.upto addrsetOperatesSpec)

/-- 'intrusionlaw07.AddrsetAlgebra', WHERE WHAT IT READS IS OF BULK AT MOST 1048576: true; the input reads as it did. -/
def addrsetAlgebraUptoRow : OpenClaim := { program := "ytmcelgnifpfjpaa", sum := "d25a82e0839db139ad32b497a1268e1e3fdafe6b9a51fa0fbca229f5f41c3b87", func := "intrusion/intrusionlaw07.AddrsetAlgebra", spec := "addrsetAlgebra", unfollowed := true, recurses := true, apart := false, narrowed := true }
def AddrsetAlgebraUptoSaid : Prop := addrsetAlgebraUptoRow.holds Try.pinned (OpenSpec.upto addrsetAlgebraSpec)

/-- 'intrusionlaw07.AddrsetPrefixes', WHERE WHAT IT READS IS OF BULK AT MOST 1048576: true; the input reads as it did. -/
def addrsetPrefixesUptoRow : OpenClaim := { program := "ytmcelgnifpfjpaa", sum := "d25a82e0839db139ad32b497a1268e1e3fdafe6b9a51fa0fbca229f5f41c3b87", func := "intrusion/intrusionlaw07.AddrsetPrefixes", spec := "addrsetPrefixes", unfollowed := true, recurses := true, apart := false, narrowed := true }
def AddrsetPrefixesUptoSaid : Prop := addrsetPrefixesUptoRow.holds Try.pinned (OpenSpec.upto addrsetPrefixesSpec)

/-- 'intrusionlaw07.AddrsetEvaluates', WHERE WHAT IT READS IS OF BULK AT MOST 1048576: true; the input reads as it did. -/
def addrsetEvaluatesUptoRow : OpenClaim := { program := "ytmcelgnifpfjpaa", sum := "d25a82e0839db139ad32b497a1268e1e3fdafe6b9a51fa0fbca229f5f41c3b87", func := "intrusion/intrusionlaw07.AddrsetEvaluates", spec := "addrsetEvaluates", unfollowed := true, recurses := true, apart := false, narrowed := true }
def AddrsetEvaluatesUptoSaid : Prop := addrsetEvaluatesUptoRow.holds Try.pinned (OpenSpec.upto addrsetEvaluatesSpec)

end Rows
end Go.Proofs.Ytmcelgnifpfjpaa
