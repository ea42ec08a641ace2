/- Contracts of the functions, part 17: AdqPfx, AdqCont. -/
import Derived.Test.YtnpklepafpdadaaDoorPA16
/- Contracts of the program's layer 6: MakePrefix, Contains, ValidPrefix, Bounds. -/
namespace Go.Proofs.YtnpklepafpdadaaDoor
open Go.ChangeShapes Go.WideShapes Go.ChangeAt Go.RowKit
set_option linter.unusedVariables false

/-- What MakePrefix makes: the two halves with the free bits 0. -/
def mkH (v6 : Bool) (k hi : Nat) : Nat := lowZ (frH v6 k) hi
def mkL (v6 : Bool) (k lo : Nat) : Nat := lowZ (frL v6 k) lo
end Go.Proofs.YtnpklepafpdadaaDoor

/- Contracts of the program's layer 6: Contains, ValidPrefix. -/
namespace Go.Proofs.YtnpklepafpdadaaDoor
open Go.ChangeShapes Go.WideShapes Go.ChangeAt Go.RowKit
set_option linter.unusedVariables false

/-- Is an address in a prefix? By the tests of the program. -/
def cntB (v1 : Bool) (h1 l1 : Nat) (k : Int) (v2 : Bool) (h2 l2 : Nat) : Bool :=
  decide (0 ≤ k ∧ k ≤ (width v2 : Nat)) && (v2 == v1 && (((mkH v2 k.toNat h2 : Nat) : Int) == (h1 : Int) && ((mkL v2 k.toNat l2 : Nat) : Int) == (l1 : Int)))
theorem below3 (w : World) (a b c : Obj) : Below w.heap.size w (((w.alloc a).alloc b).alloc c) := (below2 w a b).trans ((below_alloc6 _ c).mono (by simp; omega))
/-- Is a struct a prefix? -/
def vldP (v6 : Bool) (hi lo : Nat) (k : Int) : Bool := vldA v6 hi lo && cntB v6 hi lo k v6 hi lo
end Go.Proofs.YtnpklepafpdadaaDoor
