/- Contracts of the functions, part 21: AdqObj, AdrPfx, AdrCont. -/
import Derived.Deep.RegionHeld3
import Derived.Test.YtjjldolafnfpoaaPE14
import Derived.Test.YtjjldolafnfpoaaPE15
/- Contracts of the program's layer 6: Valid, width, first, isBefore, Compare. -/
namespace Go.Proofs.Ytjjldolafnfpoaa
open Go.ChangeShapes Go.WideShapes Go.ChangeAt Go.RowKit
set_option linter.unusedVariables false

/-- Is an address ahead of another? By the tests of the program. -/
def befB (b1 b2 p q r : Bool) : Bool := if b1 == b2 then (if q then r else p) else b2
theorem cmpB_before (b1 b2 p q r s : Bool) (hp : ¬ (p = true ∧ q = true)) : cmpB b1 b2 p q r s = if (b1 == b2 && (q && s)) = true then 0 else if befB b1 b2 p q r = true then -1 else 1 := by
  cases b1 <;> cases b2 <;> cases p <;> cases q <;> cases r <;> cases s <;> first | rfl | (exact absurd ⟨rfl, rfl⟩ hp)
end Go.Proofs.Ytjjldolafnfpoaa

/- Prefixes in memory; contracts of the reference of layer 6: MakePrefix, ValidPrefix, Contains, Bounds. -/
namespace Go.Proofs.Ytjjldolafnfpoaa
open Go.ChangeShapes Go.WideShapes Go.ChangeAt Go.RowKit
set_option linter.unusedVariables false

/-- The four stores of a prefix. -/
def pset (w : World) (g : Nat) (v6 : Bool) (hi lo : Nat) (bits : Int) : World := (((w.setCell ⟨g, 0, none⟩ (.bool v6)).setCell ⟨g, 1, none⟩ (.int .u64 hi)).setCell ⟨g, 2, none⟩ (.int .u64 lo)).setCell ⟨g, 3, none⟩ (.int .i64 bits)
theorem pset_below {B : Nat} {a w : World} {g : Nat} (h : Below B a w) (hg : B ≤ g) (v6 : Bool) (hi lo : Nat) (bits : Int) : Below B a (pset w g v6 hi lo bits) := (((h.setCell hg _).setCell hg _).setCell hg _).setCell hg _
end Go.Proofs.Ytjjldolafnfpoaa

/- Contracts of the reference of layer 6: Contains, ValidPrefix, Bounds. -/
namespace Go.Proofs.Ytjjldolafnfpoaa
open Go.ChangeShapes Go.WideShapes Go.ChangeAt Go.RowKit
set_option linter.unusedVariables false

theorem numA_inj {a b c d : Nat} (h1 : b < 18446744073709551616) (h2 : d < 18446744073709551616) : numA a b = numA c d ↔ a = c ∧ b = d := by
  unfold numA
  constructor
  · intro h
    have : 2 ^ 64 = 18446744073709551616 := by decide
    omega
  · rintro ⟨rfl, rfl⟩; rfl
theorem numA_lt {a b : Nat} (h1 : a < 18446744073709551616) (h2 : b < 18446744073709551616) : numA a b < 2 ^ 128 := by
  unfold numA
  have : (2 : Nat) ^ 64 = 18446744073709551616 := by decide
  have : (2 : Nat) ^ 128 = 18446744073709551616 * 18446744073709551616 := by decide
  omega
end Go.Proofs.Ytjjldolafnfpoaa
