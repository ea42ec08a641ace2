/- Contracts of the functions, part 14: AdqObj, AdrBit. -/
import Derived.Test.YtnpklepafpdadaaDoorPA13
/- Contracts of the program's layer 6: Valid, width, first, isBefore, Compare. -/
namespace Go.Proofs.YtnpklepafpdadaaDoor
open Go.ChangeShapes Go.WideShapes Go.ChangeAt Go.RowKit
set_option linter.unusedVariables false

/-- Is an address ahead of another? By the tests of the program. -/
def befB (b1 b2 p q r : Bool) : Bool := if b1 == b2 then (if q then r else p) else b2
theorem cmpB_before (b1 b2 p q r s : Bool) (hp : ¬ (p = true ∧ q = true)) : cmpB b1 b2 p q r s = if (b1 == b2 && (q && s)) = true then 0 else if befB b1 b2 p q r = true then -1 else 1 := by
  cases b1 <;> cases b2 <;> cases p <;> cases q <;> cases r <;> cases s <;> first | rfl | (exact absurd ⟨rfl, rfl⟩ hp)
end Go.Proofs.YtnpklepafpdadaaDoor

/- Contracts of the reference of layer 6: Bit, with. -/
namespace Go.Proofs.YtnpklepafpdadaaDoor
open Go.ChangeShapes Go.WideShapes Go.ChangeAt Go.RowKit
set_option linter.unusedVariables false

theorem and1_u64 (n k : Nat) (h : n < 18446744073709551616) : (bits .and .u64 ((n : Int) / 2 ^ k) 1 == 1) = decide (n / 2 ^ k % 2 = 1) := by
  have e : ((n : Int) / 2 ^ k) = ((n / 2 ^ k : Nat) : Int) := by rw [Int.natCast_ediv]; simp
  have hl : n / 2 ^ k < 18446744073709551616 := Nat.lt_of_le_of_lt (Nat.div_le_self _ _) h
  rw [e, show (1 : Int) = ((1 : Nat) : Int) from rfl, u64_and_nat _ 1 hl (by decide), Nat.and_one_is_mod, Bool.eq_iff_iff]
  simp
  omega
/-- A bit of an address. -/
def bitA (v6 : Bool) (hi lo i : Nat) : Bool :=
  if v6 then (if i < 64 then decide (hi / 2 ^ (63 - i) % 2 = 1) else decide (lo / 2 ^ (127 - i) % 2 = 1)) else decide (lo / 2 ^ (31 - i) % 2 = 1)
end Go.Proofs.YtnpklepafpdadaaDoor
