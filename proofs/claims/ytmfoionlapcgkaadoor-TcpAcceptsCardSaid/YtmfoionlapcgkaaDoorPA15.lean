/- Contracts of the functions, part 15: AdrCont, AdqFree, AdqPfx. -/
import Derived.Test.YtmfoionlapcgkaaDoorPA13
import Derived.Test.YtmfoionlapcgkaaDoorPA14
/- Contracts of the reference of layer 6: Contains, ValidPrefix, Bounds. -/
namespace Go.Proofs.YtmfoionlapcgkaaDoor
open Go.ChangeShapes Go.WideShapes Go.ChangeAt Go.RowKit
set_option linter.unusedVariables false

theorem numA_inj {a b c d : Nat} (h1 : b < 18446744073709551616) (h2 : d < 18446744073709551616) : numA a b = numA c d ↔ a = c ∧ b = d := by
  unfold numA
  constructor
  · intro h
    have : 2 ^ 64 = 18446744073709551616 := by decide
    omega
  · rintro ⟨rfl, rfl⟩; rfl
theorem numA_lt {a b : Nat} (h1 : a < 18446744073709551616) (h2 : b < 18446744073709551616) : numA a b < 2 ^ 128 := by
  unfold numA
  have : (2 : Nat) ^ 64 = 18446744073709551616 := by decide
  have : (2 : Nat) ^ 128 = 18446744073709551616 * 18446744073709551616 := by decide
  omega
end Go.Proofs.YtmfoionlapcgkaaDoor

/- The free bits of a prefix, in plain numbers; contract of the program's freeBits. -/
namespace Go.Proofs.YtmfoionlapcgkaaDoor
open Go.ChangeShapes Go.WideShapes Go.ChangeAt Go.RowKit
set_option linter.unusedVariables false

/-- How many free bits the upper and the lower half have. -/
def frH (v6 : Bool) (k : Nat) : Nat := (width v6 - k) - 64
def frL (v6 : Bool) (k : Nat) : Nat := min (width v6 - k) 64
/-- A number with its last k bits 0; 1. -/
def lowZ (k n : Nat) : Nat := n / 2 ^ k * 2 ^ k
def lowO (k n : Nat) : Nat := n / 2 ^ k * 2 ^ k + (2 ^ k - 1)
theorem frH_le (v6 : Bool) (k : Nat) : frH v6 k ≤ 64 := by unfold frH width; split <;> omega
theorem frL_le (v6 : Bool) (k : Nat) : frL v6 k ≤ 64 := by unfold frL; omega
theorem lowZ_le (k n : Nat) : lowZ k n ≤ n := Nat.div_mul_le_self _ _
theorem lowZ_tb (k n t : Nat) : (lowZ k n).testBit t = if t < k then false else n.testBit t := by
  have hc : lowZ k n = 2 ^ k * (n / 2 ^ k) + 0 := by unfold lowZ; rw [Nat.mul_comm]; rfl
  rw [hc, Nat.testBit_two_pow_mul_add _ (Nat.two_pow_pos k)]
  split
  · rw [Nat.zero_testBit]
  · rw [Nat.testBit_div_two_pow]; congr 1; omega
theorem lowZ_lowZ (k n : Nat) : lowZ k (lowZ k n) = lowZ k n := by
  unfold lowZ
  rw [Nat.mul_div_cancel _ (Nat.two_pow_pos _)]
theorem andNot64 (n k : Nat) (h : n < 18446744073709551616) (hk : k ≤ 64) : bits .andNot .u64 (n : Int) ((2 ^ k - 1 : Nat) : Int) = ((lowZ k n : Nat) : Int) := by
  have hp : 2 ^ k ≤ 2 ^ 64 := Nat.pow_le_pow_right (by omega) hk
  have h64 : (2 : Nat) ^ 64 = 18446744073709551616 := by decide
  have h0 := Nat.two_pow_pos k
  rw [u64_andNot_nat _ _ h (by omega)]
  congr 1
  apply Nat.eq_of_testBit_eq
  intro t
  rw [Nat.testBit_and, lowZ_tb]
  have e : 18446744073709551615 - (2 ^ k - 1) = 2 ^ k * (2 ^ (64 - k) - 1) + 0 := by
    have : 2 ^ k * 2 ^ (64 - k) = 2 ^ 64 := by rw [← Nat.pow_add]; congr 1; omega
    rw [Nat.mul_sub, this]; omega
  rw [e, Nat.testBit_two_pow_mul_add _ h0]
  split
  · rw [Nat.zero_testBit, Bool.and_false]
  · rw [Nat.testBit_two_pow_sub_one]
    by_cases ht : t < 64
    · rw [show decide (t - k < 64 - k) = true by simp; omega, Bool.and_true]
    · rw [Nat.testBit_lt_two_pow (i := t) (Nat.lt_of_lt_of_le (by rw [h64]; exact h) (Nat.pow_le_pow_right (by omega) (show 64 ≤ t by omega))), Bool.false_and]
theorem or64 (n k : Nat) (h : n < 18446744073709551616) (hk : k ≤ 64) (hz : lowZ k n = n) : bits .or .u64 (n : Int) ((2 ^ k - 1 : Nat) : Int) = ((lowO k n : Nat) : Int) := by
  have hp : 2 ^ k ≤ 2 ^ 64 := Nat.pow_le_pow_right (by omega) hk
  have h64 : (2 : Nat) ^ 64 = 18446744073709551616 := by decide
  have h0 := Nat.two_pow_pos k
  rw [u64_or_nat _ _ h (by omega)]
  congr 1
  have h1 := Nat.two_pow_add_eq_or_of_lt (i := k) (b := 2 ^ k - 1) (by omega) (n / 2 ^ k)
  unfold lowO
  rw [Nat.mul_comm, h1, Nat.mul_comm]
  show n ||| _ = lowZ k n ||| _
  rw [hz]
theorem lowO_lt {k n : Nat} (h : n < 18446744073709551616) (hk : k ≤ 64) : lowO k n < 18446744073709551616 := by
  have h64 : (2 : Nat) ^ 64 = 18446744073709551616 := by decide
  have := fillN_lt (w := 64) (bits := 64 - k) (n := n) (by omega) (by omega)
  unfold fillN cutN at this
  rw [show 64 - (64 - k) = k by omega] at this
  unfold lowO
  omega
/-- The two halves together. -/
theorem low_cut (v6 : Bool) (k : Nat) {hi lo : Nat} (h2 : lo < 18446744073709551616) : numA (lowZ (frH v6 k) hi) (lowZ (frL v6 k) lo) = cutN (width v6) k (numA hi lo) := by
  have h64 : (2 : Nat) ^ 64 = 18446744073709551616 := by decide
  unfold frH frL cutN lowZ numA
  generalize width v6 - k = f
  by_cases hf : f ≤ 64
  · rw [Nat.min_eq_left hf, show f - 64 = 0 by omega, Nat.pow_zero, Nat.div_one, Nat.mul_one]
    have e : 2 ^ 64 = 2 ^ (64 - f) * 2 ^ f := by rw [← Nat.pow_add]; congr 1; omega
    have h0 := Nat.two_pow_pos f
    rw [e]
    generalize 2 ^ f = q at *
    generalize 2 ^ (64 - f) = r at *
    have e3 : r * q * hi = r * hi * q := Nat.mul_right_comm r q hi
    rw [e3, Nat.add_comm (r * hi * q) lo, Nat.add_mul_div_right _ _ h0, Nat.add_mul]
    omega
  · rw [Nat.min_eq_right (by omega), h64, Nat.div_eq_of_lt h2, Nat.zero_mul, Nat.add_zero]
    have e : 2 ^ f = 2 ^ (f - 64) * 18446744073709551616 := by rw [← h64, ← Nat.pow_add]; congr 1; omega
    rw [e, Nat.mul_comm (2 ^ (f - 64)) 18446744073709551616, ← Nat.div_div_eq_div_mul, show (18446744073709551616 * hi + lo) / 18446744073709551616 = hi by omega, Nat.mul_left_comm]
theorem low_fill (v6 : Bool) (k : Nat) {hi lo : Nat} (h2 : lo < 18446744073709551616) : numA (lowO (frH v6 k) hi) (lowO (frL v6 k) lo) = fillN (width v6) k (numA hi lo) := by
  have h64 : (2 : Nat) ^ 64 = 18446744073709551616 := by decide
  have hc := low_cut v6 k (hi := hi) h2
  unfold fillN
  rw [← hc]
  unfold lowO numA lowZ
  have e : 2 ^ (width v6 - k) = 2 ^ frH v6 k * 2 ^ frL v6 k := by
    rw [← Nat.pow_add]; congr 1; unfold frH frL; omega
  rw [e]
  have a := Nat.two_pow_pos (frH v6 k)
  have b := Nat.two_pow_pos (frL v6 k)
  by_cases hf : frH v6 k = 0
  · rw [hf, Nat.pow_zero, Nat.div_one, Nat.mul_one, Nat.one_mul]
    clear h64 hc e a
    generalize 2 ^ frL v6 k = q at *
    generalize lo / q * q = z
    omega
  · have hl : frL v6 k = 64 := by unfold frH at hf; unfold frL; omega
    rw [hl, h64]
    clear h64 hc e b hl
    generalize 2 ^ frH v6 k = q at *
    generalize hi / q * q = z
    generalize lo / 18446744073709551616 = y
    omega
theorem shl64 {k : Nat} (hk : k ≤ 64) : IntKind.u64.wrap (IntKind.u64.wrap (2 ^ k) - 1) = ((2 ^ k - 1 : Nat) : Int) := by
  have h64 : (2 : Nat) ^ 64 = 18446744073709551616 := by decide
  have hp : 2 ^ k ≤ 2 ^ 64 := Nat.pow_le_pow_right (by omega) hk
  have h0 := Nat.two_pow_pos k
  have e : ((2 : Int) ^ k) = ((2 ^ k : Nat) : Int) := by simp
  rw [e]
  generalize (2 : Nat) ^ k = p at *
  by_cases hq : p = 18446744073709551616
  · subst hq; decide
  · rw [wrap_u64_in (n := (p : Int)) (by omega) (by omega), wrap_u64_in (by omega) (by omega)]
    omega
end Go.Proofs.YtmfoionlapcgkaaDoor

/- Contracts of the program's layer 6: MakePrefix, Contains, ValidPrefix, Bounds. -/
namespace Go.Proofs.YtmfoionlapcgkaaDoor
open Go.ChangeShapes Go.WideShapes Go.ChangeAt Go.RowKit
set_option linter.unusedVariables false

/-- What MakePrefix makes: the two halves with the free bits 0. -/
def mkH (v6 : Bool) (k hi : Nat) : Nat := lowZ (frH v6 k) hi
def mkL (v6 : Bool) (k lo : Nat) : Nat := lowZ (frL v6 k) lo
end Go.Proofs.YtmfoionlapcgkaaDoor
