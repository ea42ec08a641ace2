/-
  No cell of these rows narrows 'for every input' (looked for: loops, veiled, ifaces, maps, wideKeys, modest, calm, conditions, laid).
  DERIVED. THE GIVEN ROWS OF THIS SEAT. 6 by the template 'for every input the law returns true; each argument reads behind the call as it read before'; 0 by the template 'total and deterministic' (their statements: YtcakdgfkepdpkaaTotals.lean).
  GIVEN WITH THE SEED: the statements are not yours to turn. If you find one false, say at which input.
  Laid BY PROGRAM, IN A SANDBOX (cutbox-rows.mjs): the forced cells as the released guide's own fill.sh prints them over the translation 80300eff5647adb3… (all of the seat's roots in one cut). By AI agents, Wed Nov 11 2026. No macro, syntax, notation, axiom, sorry.
-/
import Derived.Test.YtcakdgfkepdpkaaChecked
import GoSem.Claim
import GoSem.ClaimJoined
import GoSem.ClaimMapViews
import Derived.JoinedTies
import Derived.KernelRfl
namespace Go.Proofs.Ytcakdgfkepdpkaa
/- THE CELL 'sum', in the pinned program and in every row, IS THE sha256 OF THE DUMP (.gsa) THAT YtcakdgfkepdpkaaProg.lean LOADS. Nothing in Lean hashes anything: it is a label: what it is worth is what the hold of that sum in a sandbox is worth. -/
noncomputable def Try.pinned : Pinned := { name := "ytcakdgfkepdpkaa", sum := "80300eff5647adb397900f9df14fc12df6cbef62fa231b430c92ac3abfcd1024", checked := Try.checked }
namespace Rows
def none {H : Type} : Left H := { results := [], args := [] }

/-- 'intrusionlaw04.LexerScans': WHATEVER THE INPUT: true; the input reads as it did. -/
def lexerScansSpec : ChangeSpec := { name := "lexerScans", fn := fun _ => fun
  | [d] => { results := [.lit (.bool true)], args := [d] }
  | _ => none }
def lexerScansRow : OpenClaim := { program := "ytcakdgfkepdpkaa", sum := "80300eff5647adb397900f9df14fc12df6cbef62fa231b430c92ac3abfcd1024", func := "intrusion/intrusionlaw04.LexerScans", spec := "lexerScans", unfollowed := true, recurses := true, apart := false }
def LexerScansSaid : Prop := lexerScansRow.holds Try.pinned (OpenSpec.ofChange lexerScansSpec)

/-- ITS FALSE NEIGHBOUR: 'it returns false'. Refute it at one input. -/
def lexerScansWrong : ChangeSpec := { name := "lexerScans", fn := fun _ => fun
  | [d] => { results := [.lit (.bool false)], args := [d] }
  | _ => none }
def LexerScansWrongFalsely : Prop := lexerScansRow.holds Try.pinned (OpenSpec.ofChange lexerScansWrong)

/-- 'intrusionlaw04.LexerPrints': WHATEVER THE INPUT: true; the input reads as it did. -/
def lexerPrintsSpec : ChangeSpec := { name := "lexerPrints", fn := fun _ => fun
  | [d] => { results := [.lit (.bool true)], args := [d] }
  | _ => none }
def lexerPrintsRow : OpenClaim := { program := "ytcakdgfkepdpkaa", sum := "80300eff5647adb397900f9df14fc12df6cbef62fa231b430c92ac3abfcd1024", func := "intrusion/intrusionlaw04.LexerPrints", spec := "lexerPrints", unfollowed := true, recurses := true, apart := false }
def LexerPrintsSaid : Prop := lexerPrintsRow.holds Try.pinned (OpenSpec.ofChange lexerPrintsSpec)

/-- ITS FALSE NEIGHBOUR: 'it returns false'. Refute it at one input. -/
def lexerPrintsWrong : ChangeSpec := { name := "lexerPrints", fn := fun _ => fun
  | [d] => { results := [.lit (.bool false)], args := [d] }
  | _ => none }
def LexerPrintsWrongFalsely : Prop := lexerPrintsRow.holds Try.pinned (OpenSpec.ofChange lexerPrintsWrong)

/-- 'intrusionlaw04.LexerRoundTrip': WHATEVER THE INPUT: true; the input reads as it did. -/
def lexerRoundTripSpec : ChangeSpec := { name := "lexerRoundTrip", fn := fun _ => fun
  | [d] => { results := [.lit (.bool true)], args := [d] }
  | _ => none }
def lexerRoundTripRow : OpenClaim := { program := "ytcakdgfkepdpkaa", sum := "80300eff5647adb397900f9df14fc12df6cbef62fa231b430c92ac3abfcd1024", func := "intrusion/intrusionlaw04.LexerRoundTrip", spec := "lexerRoundTrip", unfollowed := true, recurses := true, apart := false }
def LexerRoundTripSaid : Prop := lexerRoundTripRow.holds Try.pinned (OpenSpec.ofChange lexerRoundTripSpec)

/-- ITS FALSE NEIGHBOUR: 'it returns false'. Refute it at one input. -/
def lexerRoundTripWrong : ChangeSpec := { name := "lexerRoundTrip", fn := fun _ => fun
  | [d] => { results := [.lit (.bool false)], args := [d] }
  | _ => none }
def LexerRoundTripWrongFalsely : Prop := lexerRoundTripRow.holds Try.pinned (OpenSpec.ofChange lexerRoundTripWrong)

/-- 'intrusionlaw04.LexerQuotes': WHATEVER THE INPUT: true; the input reads as it did. -/
def lexerQuotesSpec : ChangeSpec := { name := "lexerQuotes", fn := fun _ => fun
  | [d] => { results := [.lit (.bool true)], args := [d] }
  | _ => none }
def lexerQuotesRow : OpenClaim := { program := "ytcakdgfkepdpkaa", sum := "80300eff5647adb397900f9df14fc12df6cbef62fa231b430c92ac3abfcd1024", func := "intrusion/intrusionlaw04.LexerQuotes", spec := "lexerQuotes", unfollowed := true, recurses := true, apart := false }
def LexerQuotesSaid : Prop := lexerQuotesRow.holds Try.pinned (OpenSpec.ofChange lexerQuotesSpec)

/-- ITS FALSE NEIGHBOUR: 'it returns false'. Refute it at one input. -/
def lexerQuotesWrong : ChangeSpec := { name := "lexerQuotes", fn := fun _ => fun
  | [d] => { results := [.lit (.bool false)], args := [d] }
  | _ => none }
def LexerQuotesWrongFalsely : Prop := lexerQuotesRow.holds Try.pinned (OpenSpec.ofChange lexerQuotesWrong)

/-- 'intrusionlaw04.LexerWords': WHATEVER THE INPUT: true; the input reads as it did. -/
def lexerWordsSpec : ChangeSpec := { name := "lexerWords", fn := fun _ => fun
  | [d] => { results := [.lit (.bool true)], args := [d] }
  | _ => none }
def lexerWordsRow : OpenClaim := { program := "ytcakdgfkepdpkaa", sum := "80300eff5647adb397900f9df14fc12df6cbef62fa231b430c92ac3abfcd1024", func := "intrusion/intrusionlaw04.LexerWords", spec := "lexerWords", unfollowed := true, recurses := true, apart := false }
def LexerWordsSaid : Prop := lexerWordsRow.holds Try.pinned (OpenSpec.ofChange lexerWordsSpec)

/-- ITS FALSE NEIGHBOUR: 'it returns false'. Refute it at one input. -/
def lexerWordsWrong : ChangeSpec := { name := "lexerWords", fn := fun _ => fun
  | [d] => { results := [.lit (.bool false)], args := [d] }
  | _ => none }
def LexerWordsWrongFalsely : Prop := lexerWordsRow.holds Try.pinned (OpenSpec.ofChange lexerWordsWrong)

/-- 'intrusionlaw04.LexerMoves': WHATEVER THE INPUT: true; the input reads as it did. -/
def lexerMovesSpec : ChangeSpec := { name := "lexerMoves", fn := fun _ => fun
  | [d1, d2] => { results := [.lit (.bool true)], args := [d1, d2] }
  | _ => none }
def lexerMovesRow : OpenClaim := { program := "ytcakdgfkepdpkaa", sum := "80300eff5647adb397900f9df14fc12df6cbef62fa231b430c92ac3abfcd1024", func := "intrusion/intrusionlaw04.LexerMoves", spec := "lexerMoves", unfollowed := true, recurses := true, apart := false }
def LexerMovesSaid : Prop := lexerMovesRow.holds Try.pinned (OpenSpec.ofChange lexerMovesSpec)

/-- ITS FALSE NEIGHBOUR: 'it returns false'. Refute it at one input. -/
def lexerMovesWrong : ChangeSpec := { name := "lexerMoves", fn := fun _ => fun
  | [d1, d2] => { results := [.lit (.bool false)], args := [d1, d2] }
  | _ => none }
def LexerMovesWrongFalsely : Prop := lexerMovesRow.holds Try.pinned (OpenSpec.ofChange lexerMovesWrong)

/- THE SECOND FORM. 'bulk': how many values and letters a reading holds, each counted each time it is reached (what is shared counts as often as it is met; a slice's spare places count too). A statement '..UptoSaid' is the law's where the arguments, and the package variables that the reading takes, are together of bulk at most 1048576: NARROWER than '..Said'. Prove '..Said' where nothing that the law and all that it calls make is longer than what came in: it says more and counts as full. Else prove '..UptoSaid'. A law counts once. -/
mutual
def uptoBulk {H : Type} : DataW H → Nat
  | .lit (.string bytes) => bytes.length + 1
  | .lit _ => 1
  | .nil => 1
  | .ptr d => uptoBulk d + 1
  | .slice elems spare => uptoBulkAll elems + uptoBulkAll spare + 1
  | .agg parts => uptoBulkAll parts + 1
  | .iface _ d => uptoBulk d + 1
  | .map entries => uptoBulkEntries entries + 1
  | .held _ => 1
def uptoBulkAll {H : Type} : List (DataW H) → Nat
  | [] => 0
  | d :: r => uptoBulk d + uptoBulkAll r
def uptoBulkEntries {H : Type} : List (Lit × DataW H) → Nat
  | [] => 0
  | x :: r => uptoBulkEntry x + uptoBulkEntries r
def uptoBulkEntry {H : Type} : Lit × DataW H → Nat
  | (.string bytes, d) => bytes.length + uptoBulk d + 1
  | (_, d) => uptoBulk d + 1
 end
def uptoSmall : (H : Type) → List (DataW H) → Bool := fun _ ds => decide (uptoBulkAll ds ≤ 1048576)
def OpenSpec.upto (s : _root_.Go.ChangeSpec) : _root_.Go.OpenSpec := { _root_.Go.OpenSpec.ofChange s with cond := some uptoSmall }

/-- 'intrusionlaw04.LexerScans', WHERE WHAT IT READS IS OF BULK AT MOST 1048576: true; the input reads as it did. -/
def lexerScansUptoRow : OpenClaim := { program := "ytcakdgfkepdpkaa", sum := "80300eff5647adb397900f9df14fc12df6cbef62fa231b430c92ac3abfcd1024", func := "intrusion/intrusionlaw04.LexerScans", spec := "lexerScans", unfollowed := true, recurses := true, apart := false, narrowed := true }
def LexerScansUptoSaid : Prop := lexerScansUptoRow.holds Try.pinned (OpenSpec.upto lexerScansSpec)

/-- 'intrusionlaw04.LexerPrints', WHERE WHAT IT READS IS OF BULK AT MOST 1048576: true; the input reads as it did. -/
def lexerPrintsUptoRow : OpenClaim := { program := "ytcakdgfkepdpkaa", sum := "80300eff5647adb397900f9df14fc12df6cbef62fa231b430c92ac3abfcd1024", func := "intrusion/intrusionlaw04.LexerPrints", spec := "lexerPrints", unfollowed := true, recurses := true, apart := false, narrowed := true }
def LexerPrintsUptoSaid : Prop := lexerPrintsUptoRow.holds Try.pinned (OpenSpec.upto lexerPrintsSpec)

/-- 'intrusionlaw04.LexerRoundTrip', WHERE WHAT IT READS IS OF BULK AT MOST 1048576: true; the input reads as it did. -/
def lexerRoundTripUptoRow : OpenClaim := { program := "ytcakdgfkepdpkaa", sum := "80300eff5647adb397900f9df14fc12df6cbef62fa231b430c92ac3abfcd1024", func := "intrusion/intrusionlaw04.LexerRoundTrip", spec := "lexerRoundTrip", unfollowed := true, recurses := true, apart := false, narrowed := true }
def LexerRoundTripUptoSaid : Prop := lexerRoundTripUptoRow.holds Try.pinned (OpenSpec.upto lexerRoundTripSpec)

/-- 'intrusionlaw04.LexerQuotes', WHERE WHAT IT READS IS OF BULK AT MOST 1048576: true; the input reads as it did. -/
def lexerQuotesUptoRow : OpenClaim := { program := "ytcakdgfkepdpkaa", sum := "80300eff5647adb397900f9df14fc12df6cbef62fa231b430c92ac3abfcd1024", func := "intrusion/intrusionlaw04.LexerQuotes", spec := "lexerQuotes", unfollowed := true, recurses := true, apart := false, narrowed := true }
def LexerQuotesUptoSaid : Prop := lexerQuotesUptoRow.holds Try.pinned (OpenSpec.upto lexerQuotesSpec)

/-- 'intrusionlaw04.LexerWords', WHERE WHAT IT READS IS OF BULK AT MOST 1048576: true; the input reads as it did. -/
def lexerWordsUptoRow : OpenClaim := { program := "ytcakdgfkepdpkaa", sum := "80300eff5647adb397900f9df14fc12df6cbef62fa231b430c92ac3abfcd1024", func := "intrusion/intrusionlaw04.LexerWords", spec := "lexerWords", unfollowed := true, recurses := true, apart := false, narrowed := true }
def LexerWordsUptoSaid : Prop := lexerWordsUptoRow.holds Try.pinned (OpenSpec.upto lexerWordsSpec)

/-- 'intrusionlaw04.LexerMoves', WHERE WHAT IT READS IS OF BULK AT MOST 1048576: true; the input reads as it did. -/
def lexerMovesUptoRow : OpenClaim := { program := "ytcakdgfkepdpkaa", sum := "80300eff5647adb397900f9df14fc12df6cbef62fa231b430c92ac3abfcd1024", func := "intrusion/intrusionlaw04.LexerMoves", spec := "lexerMoves", unfollowed := true, recurses := true, apart := false, narrowed := true }
def LexerMovesUptoSaid : Prop := lexerMovesUptoRow.holds Try.pinned (OpenSpec.upto lexerMovesSpec)

end Rows
end Go.Proofs.Ytcakdgfkepdpkaa
