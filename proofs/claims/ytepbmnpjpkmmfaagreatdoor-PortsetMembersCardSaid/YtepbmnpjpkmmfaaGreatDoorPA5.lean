/- Contracts of the functions, part 5: AdrWith, AdrPfx, AdrCont, AdqFree, AdqPfx, AdqCont, AdqBnd, AdrNum, AdrDec, AdrSplit. -/
import Derived.Deep.RegionHeld3
import Derived.Deep.QuietTactic
import Derived.OwnWalk
import Derived.Deep.AppendLies
import Derived.Laws.OwnMore
import Derived.Test.YtepbmnpjpkmmfaaGreatDoorPA1
import Derived.Test.YtepbmnpjpkmmfaaGreatDoorPA3
import Derived.Test.YtepbmnpjpkmmfaaGreatDoorPA4
/- Contract of the reference of layer 6: with. -/
namespace Go.Proofs.YtepbmnpjpkmmfaaGreatDoor
open Go.ChangeShapes Go.WideShapes Go.ChangeAt Go.RowKit
set_option linter.unusedVariables false

/-- The bits under way: those behind the first 'from' of w, as far as i, are one. -/
def stepB (N w from_ i : Nat) (one : Bool) (t : Nat) : Bool := if w - from_ ≤ t then N.testBit t else if w - i ≤ t then one else N.testBit t
def numA (hi lo : Nat) : Nat := 2 ^ 64 * hi + lo
theorem numA_low {hi lo t : Nat} (h : lo < 2 ^ 64) (ht : t < 64) : (numA hi lo).testBit t = lo.testBit t := by
  unfold numA
  rw [Nat.testBit_two_pow_mul_add _ h, if_pos ht]
theorem numA_high {hi lo t : Nat} (h : lo < 2 ^ 64) : (numA hi lo).testBit (t + 64) = hi.testBit t := by
  unfold numA
  rw [Nat.testBit_two_pow_mul_add _ h, if_neg (by omega)]
  congr 1
/-- The state of the loop. -/
structure Wst (N w from_ i : Nat) (one : Bool) (hi lo : Nat) : Prop where
  h1 : hi < 18446744073709551616
  h2 : lo < 18446744073709551616
  lowb : ∀ t, t < 64 → lo.testBit t = stepB N w from_ i one t
  high : ∀ t, t < 64 → hi.testBit t = stepB N w from_ i one (t + 64)
theorem wst_start {hi lo w from_ : Nat} (one : Bool) (h1 : hi < 18446744073709551616) (h2 : lo < 18446744073709551616) : Wst (numA hi lo) w from_ from_ one hi lo := by
  have hs : ∀ t, stepB (numA hi lo) w from_ from_ one t = (numA hi lo).testBit t := fun t => by
    unfold stepB
    split
    · rfl
    · rfl
  exact ⟨h1, h2, fun t ht => by rw [hs, numA_low (by omega) ht], fun t ht => by rw [hs, numA_high (by omega)]⟩
theorem step_other {N w from_ i t : Nat} {one : Bool} (hi : i < w) (ht : t ≠ w - 1 - i) : stepB N w from_ (i + 1) one t = stepB N w from_ i one t := by
  unfold stepB
  split
  · rfl
  · by_cases h : w - i ≤ t
    · rw [if_pos h, if_pos (by omega)]
    · rw [if_neg h, if_neg (by omega)]
theorem step_here {N w from_ i : Nat} {one : Bool} (hi : i < w) (hf : from_ ≤ i) : stepB N w from_ (i + 1) one (w - 1 - i) = one ∧ stepB N w from_ i one (w - 1 - i) = N.testBit (w - 1 - i) := by
  unfold stepB
  rw [if_neg (by omega), if_pos (by omega), if_neg (by omega), if_neg (by omega)]
  exact ⟨rfl, rfl⟩
theorem tb_dec (n k : Nat) : decide (n / 2 ^ k % 2 = 1) = n.testBit k := by
  rw [Nat.testBit_eq_decide_div_mod_eq]
/-- The bit that the reference looks at. -/
theorem bit_of {N from_ i hi lo : Nat} {v6 one : Bool} (h : Wst N (width v6) from_ i one hi lo) (hi' : i < width v6) (hf : from_ ≤ i) : bitA v6 hi lo i = N.testBit (width v6 - 1 - i) := by
  have hs := (step_here (N := N) (one := one) hi' hf).2
  rw [← hs]
  unfold bitA
  cases v6 with
  | false =>
    rw [if_neg (by decide), tb_dec]
    exact h.lowb (31 - i) (by have : i < 32 := hi'; omega)
  | true =>
    have h3 : i < 128 := hi'
    rw [if_pos rfl]
    split
    · rw [tb_dec, h.high (63 - i) (by omega)]
      congr 1
      show 63 - i + 64 = 128 - 1 - i
      omega
    · rw [tb_dec, h.lowb (127 - i) (by omega)]
      rfl
theorem wst_stay {N w from_ i hi lo : Nat} {one : Bool} (h : Wst N w from_ i one hi lo) (hi' : i < w) (hf : from_ ≤ i) (hb : N.testBit (w - 1 - i) = one) : Wst N w from_ (i + 1) one hi lo := by
  have key : ∀ t, stepB N w from_ (i + 1) one t = stepB N w from_ i one t := fun t => by
    by_cases e : t = w - 1 - i
    · subst e
      rw [(step_here hi' hf).1, (step_here hi' hf).2, hb]
    · exact step_other hi' e
  exact ⟨h.h1, h.h2, fun t ht => by rw [key, h.lowb t ht], fun t ht => by rw [key, h.high t ht]⟩
theorem xor_tb (n j t : Nat) : (n ^^^ 2 ^ j).testBit t = (n.testBit t ^^ decide (j = t)) := by
  rw [Nat.testBit_xor, Nat.testBit_two_pow]
theorem xor_lt64 {n j : Nat} (h : n < 18446744073709551616) (hj : j < 64) : n ^^^ 2 ^ j < 18446744073709551616 :=
  Nat.xor_lt_two_pow (n := 64) h (Nat.pow_lt_pow_right (by omega) hj)
theorem wst_low {N w from_ i hi lo : Nat} {one : Bool} (h : Wst N w from_ i one hi lo) (hi' : i < w) (hf : from_ ≤ i) (hb : N.testBit (w - 1 - i) ≠ one) (hj : w - 1 - i < 64) : Wst N w from_ (i + 1) one hi (lo ^^^ 2 ^ (w - 1 - i)) := by
  refine ⟨h.h1, xor_lt64 h.h2 hj, fun t ht => ?_, fun t ht => ?_⟩
  · rw [xor_tb, h.lowb t ht]
    by_cases e : t = w - 1 - i
    · subst e
      rw [(step_here hi' hf).1, (step_here hi' hf).2]
      cases hx : N.testBit (w - 1 - i) <;> cases one <;> simp_all
    · rw [step_other hi' e, show decide (w - 1 - i = t) = false by simp; omega, Bool.xor_false]
  · rw [h.high t ht, step_other hi' (by omega)]
theorem wst_high {N w from_ i hi lo : Nat} {one : Bool} (h : Wst N w from_ i one hi lo) (hi' : i < w) (hf : from_ ≤ i) (hb : N.testBit (w - 1 - i) ≠ one) {j : Nat} (hj : j + 64 = w - 1 - i) (hj2 : j < 64) : Wst N w from_ (i + 1) one (hi ^^^ 2 ^ j) lo := by
  refine ⟨xor_lt64 h.h1 hj2, h.h2, fun t ht => ?_, fun t ht => ?_⟩
  · rw [h.lowb t ht, step_other hi' (by omega)]
  · rw [xor_tb, h.high t ht]
    by_cases e : t = j
    · subst e
      rw [hj, (step_here hi' hf).1, (step_here hi' hf).2]
      cases hx : N.testBit (w - 1 - i) <;> cases one <;> simp_all
    · rw [step_other hi' (by omega), show decide (j = t) = false by simp; omega, Bool.xor_false]
theorem wst_end {N w from_ hi lo : Nat} {one : Bool} (h : Wst N w from_ w one hi lo) (hN : N < 2 ^ 128) (hw : w - from_ ≤ 128) : numA hi lo = if one then fillN w from_ N else cutN w from_ N := by
  have hlo : lo < 2 ^ 64 := h.h2
  have hhi : hi < 2 ^ 64 := h.h1
  apply Nat.eq_of_testBit_eq
  intro t
  have hl : (numA hi lo).testBit t = if t < 128 then stepB N w from_ w one t else false := by
    by_cases h1 : t < 64
    · rw [numA_low hlo h1, h.lowb t h1, if_pos (by omega)]
    · obtain ⟨u, rfl⟩ : ∃ u, t = u + 64 := ⟨t - 64, by omega⟩
      rw [numA_high hlo]
      by_cases h2 : u < 64
      · rw [h.high u h2, if_pos (by omega)]
      · rw [if_neg (by omega), Nat.testBit_lt_two_pow (Nat.lt_of_lt_of_le hhi (Nat.pow_le_pow_right (by omega) (by omega)))]
  have hr : (if one then fillN w from_ N else cutN w from_ N).testBit t = if w - from_ ≤ t then N.testBit t else one := by
    have hc : cutN w from_ N = 2 ^ (w - from_) * (N / 2 ^ (w - from_)) := by unfold cutN; rw [Nat.mul_comm]
    cases one with
    | true =>
      rw [if_pos rfl]
      unfold fillN
      rw [hc, Nat.testBit_two_pow_mul_add _ (by have := Nat.two_pow_pos (w - from_); omega)]
      by_cases h2 : t < w - from_
      · rw [if_pos h2, if_neg (by omega), Nat.testBit_two_pow_sub_one]
        simpa using h2
      · rw [if_neg h2, if_pos (by omega), Nat.testBit_div_two_pow]
        congr 1; omega
    | false =>
      rw [if_neg (by decide), hc]
      have := Nat.testBit_two_pow_mul_add (N / 2 ^ (w - from_)) (Nat.two_pow_pos (w - from_)) t
      rw [Nat.add_zero] at this
      rw [this]
      by_cases h2 : t < w - from_
      · rw [if_pos h2, if_neg (by omega), Nat.zero_testBit]
      · rw [if_neg h2, if_pos (by omega), Nat.testBit_div_two_pow]
        congr 1; omega
  rw [hl, hr]
  unfold stepB
  by_cases h1 : t < 128
  · rw [if_pos h1]
    split
    · rfl
    · rw [if_pos (by omega)]
  · rw [if_neg h1, if_pos (by omega), Nat.testBit_lt_two_pow (Nat.lt_of_lt_of_le hN (Nat.pow_le_pow_right (by omega) (by omega)))]

theorem xor64 (n k : Nat) (h : n < 18446744073709551616) (hk : k < 64) : bits .xor .u64 (n : Int) (IntKind.u64.wrap (2 ^ k)) = ((n ^^^ 2 ^ k : Nat) : Int) := by
  have h2 : (2 : Nat) ^ k < 18446744073709551616 := Nat.pow_lt_pow_right (n := 64) (by omega) hk
  have e : ((2 : Int) ^ k) = ((2 ^ k : Nat) : Int) := by simp
  rw [e]
  generalize (2 : Nat) ^ k = p at *
  rw [wrap_u64_in (by omega) (by omega)]
  exact u64_xor_nat n p h h2
/-- The three stores of an address. -/
def aset (w : World) (g : Nat) (v6 : Bool) (hi lo : Nat) : World := ((w.setCell ⟨g, 0, none⟩ (.bool v6)).setCell ⟨g, 1, none⟩ (.int .u64 hi)).setCell ⟨g, 2, none⟩ (.int .u64 lo)
theorem aset_below {B : Nat} {a w : World} {g : Nat} (h : Below B a w) (hg : B ≤ g) (v6 : Bool) (hi lo : Nat) : Below B a (aset w g v6 hi lo) := ((h.setCell hg _).setCell hg _).setCell hg _
end Go.Proofs.YtepbmnpjpkmmfaaGreatDoor

/- Prefixes in memory; contracts of the reference of layer 6: MakePrefix, ValidPrefix, Contains, Bounds. -/
namespace Go.Proofs.YtepbmnpjpkmmfaaGreatDoor
open Go.ChangeShapes Go.WideShapes Go.ChangeAt Go.RowKit
set_option linter.unusedVariables false

/-- The four stores of a prefix. -/
def pset (w : World) (g : Nat) (v6 : Bool) (hi lo : Nat) (bits : Int) : World := (((w.setCell ⟨g, 0, none⟩ (.bool v6)).setCell ⟨g, 1, none⟩ (.int .u64 hi)).setCell ⟨g, 2, none⟩ (.int .u64 lo)).setCell ⟨g, 3, none⟩ (.int .i64 bits)
theorem pset_below {B : Nat} {a w : World} {g : Nat} (h : Below B a w) (hg : B ≤ g) (v6 : Bool) (hi lo : Nat) (bits : Int) : Below B a (pset w g v6 hi lo bits) := (((h.setCell hg _).setCell hg _).setCell hg _).setCell hg _
end Go.Proofs.YtepbmnpjpkmmfaaGreatDoor

/- Contracts of the reference of layer 6: Contains, ValidPrefix, Bounds. -/
namespace Go.Proofs.YtepbmnpjpkmmfaaGreatDoor
open Go.ChangeShapes Go.WideShapes Go.ChangeAt Go.RowKit
set_option linter.unusedVariables false

theorem numA_inj {a b c d : Nat} (h1 : b < 18446744073709551616) (h2 : d < 18446744073709551616) : numA a b = numA c d ↔ a = c ∧ b = d := by
  unfold numA
  constructor
  · intro h
    have : 2 ^ 64 = 18446744073709551616 := by decide
    omega
  · rintro ⟨rfl, rfl⟩; rfl
theorem numA_lt {a b : Nat} (h1 : a < 18446744073709551616) (h2 : b < 18446744073709551616) : numA a b < 2 ^ 128 := by
  unfold numA
  have : (2 : Nat) ^ 64 = 18446744073709551616 := by decide
  have : (2 : Nat) ^ 128 = 18446744073709551616 * 18446744073709551616 := by decide
  omega
end Go.Proofs.YtepbmnpjpkmmfaaGreatDoor

/- The free bits of a prefix, in plain numbers; contract of the program's freeBits. -/
namespace Go.Proofs.YtepbmnpjpkmmfaaGreatDoor
open Go.ChangeShapes Go.WideShapes Go.ChangeAt Go.RowKit
set_option linter.unusedVariables false

/-- How many free bits the upper and the lower half have. -/
def frH (v6 : Bool) (k : Nat) : Nat := (width v6 - k) - 64
def frL (v6 : Bool) (k : Nat) : Nat := min (width v6 - k) 64
/-- A number with its last k bits 0; 1. -/
def lowZ (k n : Nat) : Nat := n / 2 ^ k * 2 ^ k
def lowO (k n : Nat) : Nat := n / 2 ^ k * 2 ^ k + (2 ^ k - 1)
theorem frH_le (v6 : Bool) (k : Nat) : frH v6 k ≤ 64 := by unfold frH width; split <;> omega
theorem frL_le (v6 : Bool) (k : Nat) : frL v6 k ≤ 64 := by unfold frL; omega
theorem lowZ_le (k n : Nat) : lowZ k n ≤ n := Nat.div_mul_le_self _ _
theorem lowZ_tb (k n t : Nat) : (lowZ k n).testBit t = if t < k then false else n.testBit t := by
  have hc : lowZ k n = 2 ^ k * (n / 2 ^ k) + 0 := by unfold lowZ; rw [Nat.mul_comm]; rfl
  rw [hc, Nat.testBit_two_pow_mul_add _ (Nat.two_pow_pos k)]
  split
  · rw [Nat.zero_testBit]
  · rw [Nat.testBit_div_two_pow]; congr 1; omega
theorem lowZ_lowZ (k n : Nat) : lowZ k (lowZ k n) = lowZ k n := by
  unfold lowZ
  rw [Nat.mul_div_cancel _ (Nat.two_pow_pos _)]
theorem andNot64 (n k : Nat) (h : n < 18446744073709551616) (hk : k ≤ 64) : bits .andNot .u64 (n : Int) ((2 ^ k - 1 : Nat) : Int) = ((lowZ k n : Nat) : Int) := by
  have hp : 2 ^ k ≤ 2 ^ 64 := Nat.pow_le_pow_right (by omega) hk
  have h64 : (2 : Nat) ^ 64 = 18446744073709551616 := by decide
  have h0 := Nat.two_pow_pos k
  rw [u64_andNot_nat _ _ h (by omega)]
  congr 1
  apply Nat.eq_of_testBit_eq
  intro t
  rw [Nat.testBit_and, lowZ_tb]
  have e : 18446744073709551615 - (2 ^ k - 1) = 2 ^ k * (2 ^ (64 - k) - 1) + 0 := by
    have : 2 ^ k * 2 ^ (64 - k) = 2 ^ 64 := by rw [← Nat.pow_add]; congr 1; omega
    rw [Nat.mul_sub, this]; omega
  rw [e, Nat.testBit_two_pow_mul_add _ h0]
  split
  · rw [Nat.zero_testBit, Bool.and_false]
  · rw [Nat.testBit_two_pow_sub_one]
    by_cases ht : t < 64
    · rw [show decide (t - k < 64 - k) = true by simp; omega, Bool.and_true]
    · rw [Nat.testBit_lt_two_pow (i := t) (Nat.lt_of_lt_of_le (by rw [h64]; exact h) (Nat.pow_le_pow_right (by omega) (show 64 ≤ t by omega))), Bool.false_and]
theorem or64 (n k : Nat) (h : n < 18446744073709551616) (hk : k ≤ 64) (hz : lowZ k n = n) : bits .or .u64 (n : Int) ((2 ^ k - 1 : Nat) : Int) = ((lowO k n : Nat) : Int) := by
  have hp : 2 ^ k ≤ 2 ^ 64 := Nat.pow_le_pow_right (by omega) hk
  have h64 : (2 : Nat) ^ 64 = 18446744073709551616 := by decide
  have h0 := Nat.two_pow_pos k
  rw [u64_or_nat _ _ h (by omega)]
  congr 1
  have h1 := Nat.two_pow_add_eq_or_of_lt (i := k) (b := 2 ^ k - 1) (by omega) (n / 2 ^ k)
  unfold lowO
  rw [Nat.mul_comm, h1, Nat.mul_comm]
  show n ||| _ = lowZ k n ||| _
  rw [hz]
theorem lowO_lt {k n : Nat} (h : n < 18446744073709551616) (hk : k ≤ 64) : lowO k n < 18446744073709551616 := by
  have h64 : (2 : Nat) ^ 64 = 18446744073709551616 := by decide
  have := fillN_lt (w := 64) (bits := 64 - k) (n := n) (by omega) (by omega)
  unfold fillN cutN at this
  rw [show 64 - (64 - k) = k by omega] at this
  unfold lowO
  omega
/-- The two halves together. -/
theorem low_cut (v6 : Bool) (k : Nat) {hi lo : Nat} (h2 : lo < 18446744073709551616) : numA (lowZ (frH v6 k) hi) (lowZ (frL v6 k) lo) = cutN (width v6) k (numA hi lo) := by
  have h64 : (2 : Nat) ^ 64 = 18446744073709551616 := by decide
  unfold frH frL cutN lowZ numA
  generalize width v6 - k = f
  by_cases hf : f ≤ 64
  · rw [Nat.min_eq_left hf, show f - 64 = 0 by omega, Nat.pow_zero, Nat.div_one, Nat.mul_one]
    have e : 2 ^ 64 = 2 ^ (64 - f) * 2 ^ f := by rw [← Nat.pow_add]; congr 1; omega
    have h0 := Nat.two_pow_pos f
    rw [e]
    generalize 2 ^ f = q at *
    generalize 2 ^ (64 - f) = r at *
    have e3 : r * q * hi = r * hi * q := Nat.mul_right_comm r q hi
    rw [e3, Nat.add_comm (r * hi * q) lo, Nat.add_mul_div_right _ _ h0, Nat.add_mul]
    omega
  · rw [Nat.min_eq_right (by omega), h64, Nat.div_eq_of_lt h2, Nat.zero_mul, Nat.add_zero]
    have e : 2 ^ f = 2 ^ (f - 64) * 18446744073709551616 := by rw [← h64, ← Nat.pow_add]; congr 1; omega
    rw [e, Nat.mul_comm (2 ^ (f - 64)) 18446744073709551616, ← Nat.div_div_eq_div_mul, show (18446744073709551616 * hi + lo) / 18446744073709551616 = hi by omega, Nat.mul_left_comm]
theorem low_fill (v6 : Bool) (k : Nat) {hi lo : Nat} (h2 : lo < 18446744073709551616) : numA (lowO (frH v6 k) hi) (lowO (frL v6 k) lo) = fillN (width v6) k (numA hi lo) := by
  have h64 : (2 : Nat) ^ 64 = 18446744073709551616 := by decide
  have hc := low_cut v6 k (hi := hi) h2
  unfold fillN
  rw [← hc]
  unfold lowO numA lowZ
  have e : 2 ^ (width v6 - k) = 2 ^ frH v6 k * 2 ^ frL v6 k := by
    rw [← Nat.pow_add]; congr 1; unfold frH frL; omega
  rw [e]
  have a := Nat.two_pow_pos (frH v6 k)
  have b := Nat.two_pow_pos (frL v6 k)
  by_cases hf : frH v6 k = 0
  · rw [hf, Nat.pow_zero, Nat.div_one, Nat.mul_one, Nat.one_mul]
    clear h64 hc e a
    generalize 2 ^ frL v6 k = q at *
    generalize lo / q * q = z
    omega
  · have hl : frL v6 k = 64 := by unfold frH at hf; unfold frL; omega
    rw [hl, h64]
    clear h64 hc e b hl
    generalize 2 ^ frH v6 k = q at *
    generalize hi / q * q = z
    generalize lo / 18446744073709551616 = y
    omega
theorem shl64 {k : Nat} (hk : k ≤ 64) : IntKind.u64.wrap (IntKind.u64.wrap (2 ^ k) - 1) = ((2 ^ k - 1 : Nat) : Int) := by
  have h64 : (2 : Nat) ^ 64 = 18446744073709551616 := by decide
  have hp : 2 ^ k ≤ 2 ^ 64 := Nat.pow_le_pow_right (by omega) hk
  have h0 := Nat.two_pow_pos k
  have e : ((2 : Int) ^ k) = ((2 ^ k : Nat) : Int) := by simp
  rw [e]
  generalize (2 : Nat) ^ k = p at *
  by_cases hq : p = 18446744073709551616
  · subst hq; decide
  · rw [wrap_u64_in (n := (p : Int)) (by omega) (by omega), wrap_u64_in (by omega) (by omega)]
    omega
end Go.Proofs.YtepbmnpjpkmmfaaGreatDoor

/- Contracts of the program's layer 6: MakePrefix, Contains, ValidPrefix, Bounds. -/
namespace Go.Proofs.YtepbmnpjpkmmfaaGreatDoor
open Go.ChangeShapes Go.WideShapes Go.ChangeAt Go.RowKit
set_option linter.unusedVariables false

/-- What MakePrefix makes: the two halves with the free bits 0. -/
def mkH (v6 : Bool) (k hi : Nat) : Nat := lowZ (frH v6 k) hi
def mkL (v6 : Bool) (k lo : Nat) : Nat := lowZ (frL v6 k) lo
end Go.Proofs.YtepbmnpjpkmmfaaGreatDoor

/- Contracts of the program's layer 6: Contains, ValidPrefix. -/
namespace Go.Proofs.YtepbmnpjpkmmfaaGreatDoor
open Go.ChangeShapes Go.WideShapes Go.ChangeAt Go.RowKit
set_option linter.unusedVariables false

/-- Is an address in a prefix? By the tests of the program. -/
def cntB (v1 : Bool) (h1 l1 : Nat) (k : Int) (v2 : Bool) (h2 l2 : Nat) : Bool :=
  decide (0 ≤ k ∧ k ≤ (width v2 : Nat)) && (v2 == v1 && (((mkH v2 k.toNat h2 : Nat) : Int) == (h1 : Int) && ((mkL v2 k.toNat l2 : Nat) : Int) == (l1 : Int)))
theorem below3 (w : World) (a b c : Obj) : Below w.heap.size w (((w.alloc a).alloc b).alloc c) := (below2 w a b).trans ((below_alloc6 _ c).mono (by simp; omega))
/-- Is a struct a prefix? -/
def vldP (v6 : Bool) (hi lo : Nat) (k : Int) : Bool := vldA v6 hi lo && cntB v6 hi lo k v6 hi lo
end Go.Proofs.YtepbmnpjpkmmfaaGreatDoor

/- Contracts of the program's layer 6: Bounds. -/
namespace Go.Proofs.YtepbmnpjpkmmfaaGreatDoor
open Go.ChangeShapes Go.WideShapes Go.ChangeAt Go.RowKit
set_option linter.unusedVariables false

/-- The six stores of a range. -/
def rset (w : World) (g : Nat) (v1 : Bool) (h1 l1 : Nat) (v2 : Bool) (h2 l2 : Nat) : World := (((((w.setCell ⟨g, 0, none⟩ (.bool v1)).setCell ⟨g, 1, none⟩ (.int .u64 h1)).setCell ⟨g, 2, none⟩ (.int .u64 l1)).setCell ⟨g, 3, none⟩ (.bool v2)).setCell ⟨g, 4, none⟩ (.int .u64 h2)).setCell ⟨g, 5, none⟩ (.int .u64 l2)
theorem rset_below {B : Nat} {a w : World} {g : Nat} (h : Below B a w) (hg : B ≤ g) (v1 : Bool) (h1 l1 : Nat) (v2 : Bool) (h2 l2 : Nat) : Below B a (rset w g v1 h1 l1 v2 h2 l2) := (((((h.setCell hg _).setCell hg _).setCell hg _).setCell hg _).setCell hg _).setCell hg _
theorem vldP_out {v6 : Bool} {hi lo k : Nat} (h : vldP v6 hi lo k = true) : vldA v6 hi lo = true ∧ k ≤ width v6 ∧ mkH v6 k hi = hi ∧ mkL v6 k lo = lo := by
  unfold vldP cntB at h
  rw [Bool.and_eq_true, Bool.and_eq_true, Bool.and_eq_true, Bool.and_eq_true, decide_eq_true_eq, beq_iff_eq, beq_iff_eq, beq_iff_eq, Int.toNat_natCast] at h
  obtain ⟨a, ⟨_, b⟩, _, c, d⟩ := h
  exact ⟨a, by omega, by omega, by omega⟩
end Go.Proofs.YtepbmnpjpkmmfaaGreatDoor

/- Contracts of the reference of layer 6: Number, hex, Decimal, group. -/
namespace Go.Proofs.YtepbmnpjpkmmfaaGreatDoor
open Go.ChangeShapes Go.WideShapes Go.ChangeAt Go.RowKit
set_option linter.unusedVariables false

end Go.Proofs.YtepbmnpjpkmmfaaGreatDoor

/- Contract of the reference of layer 6: Decimal. -/
namespace Go.Proofs.YtepbmnpjpkmmfaaGreatDoor
open Go.ChangeShapes Go.WideShapes Go.ChangeAt Go.RowKit
set_option linter.unusedVariables false

theorem drop_at6 (s : ByteArray) (k : Nat) (h : k < s.size) : s.data.toList.drop k = s[k] :: s.data.toList.drop (k + 1) := by
  rw [List.drop_eq_getElem_cons (by simpa using h)]; rfl
end Go.Proofs.YtepbmnpjpkmmfaaGreatDoor

/- Contract of the reference of layer 6: Split (a list of strings in memory). -/
namespace Go.Proofs.YtepbmnpjpkmmfaaGreatDoor
open Go.ChangeShapes Go.WideShapes Go.ChangeAt Go.RowKit
set_option linter.unusedVariables false

theorem extract_str6 (s : ByteArray) (a b : Nat) : s.extract a b = str ((s.data.toList.drop a).take (b - a)) := by
  apply ByteArray.ext
  apply Array.ext'
  rw [Lib.extract_data]
  simp [str]
theorem toList_length6 (s : ByteArray) : s.data.toList.length = s.size := by show s.data.toList.length = s.data.size; simp only [Array.length_toList]
def strC (L : List By) : List Value := L.map fun p => .string (str p)
theorem strC_snoc (L : List By) (p : By) : strC (L ++ [p]) = strC L ++ [.string (str p)] := by simp [strC]
theorem info_str6 : (Tryz.prog.info? 9).map (fun i => (i.zero, i.size, i.bytes)) = some (some (.string ⟨#[]⟩), 1, 16) := by kernel_rfl
/-- What is still to come at index k, the piece under way having begun at f. -/
def restS (c : UInt8) (s : By) (f k : Nat) : List By := if k ≤ s.length then splitGo c ((s.drop f).take (k - f)) (s.drop k) else []
theorem restS_zero (c : UInt8) (s : By) : restS c s 0 0 = splitL c s := by
  rw [restS, if_pos (Nat.zero_le _)]; rfl
theorem restS_end (c : UInt8) (s : By) (f k : Nat) (h : k = s.length) (k1 : Nat) (hk1 : k1 = k + 1) : restS c s f k = [(s.drop f).take (k - f)] ++ restS c s k1 k1 := by
  have hd : s.drop k = [] := List.drop_of_length_le (by omega)
  rw [restS, if_pos (by omega), hd, splitGo, restS, if_neg (by omega)]; rfl
theorem restS_at (c : UInt8) (s : By) (f k : Nat) (h : k < s.length) (hc : s[k] = c) (k1 : Nat) (hk1 : k1 = k + 1) : restS c s f k = [(s.drop f).take (k - f)] ++ restS c s k1 k1 := by
  rw [restS, if_pos (by omega), List.drop_eq_getElem_cons h, splitGo, if_pos hc, restS, if_pos (by omega), Nat.sub_self, List.take_zero, hk1]; rfl
theorem restS_on (c : UInt8) (s : By) (f k : Nat) (h : k < s.length) (hf : f ≤ k) (hc : s[k] ≠ c) (k1 : Nat) (hk1 : k1 = k + 1) : restS c s f k = restS c s f k1 := by
  rw [restS, if_pos (by omega), List.drop_eq_getElem_cons h, splitGo, if_neg hc, restS, if_pos (by omega), hk1]
  congr 1
  rw [show k + 1 - f = (k - f) + 1 by omega, List.take_succ_eq_append_getElem (by rw [List.length_drop]; omega), List.getElem_drop]
  congr 3; omega
theorem restS_over (c : UInt8) (s : By) (f k : Nat) (h : ¬ k ≤ s.length) : restS c s f k = [] := by rw [restS, if_neg h]
end Go.Proofs.YtepbmnpjpkmmfaaGreatDoor
