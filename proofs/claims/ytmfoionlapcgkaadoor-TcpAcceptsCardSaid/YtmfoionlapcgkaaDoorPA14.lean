/- Contracts of the functions, part 14: AdrBit, AdrWith, AdrPfx. -/
import Derived.Deep.RegionHeld3
import Derived.Test.YtmfoionlapcgkaaDoorPA13
/- Contracts of the reference of layer 6: Bit, with. -/
namespace Go.Proofs.YtmfoionlapcgkaaDoor
open Go.ChangeShapes Go.WideShapes Go.ChangeAt Go.RowKit
set_option linter.unusedVariables false

theorem and1_u64 (n k : Nat) (h : n < 18446744073709551616) : (bits .and .u64 ((n : Int) / 2 ^ k) 1 == 1) = decide (n / 2 ^ k % 2 = 1) := by
  have e : ((n : Int) / 2 ^ k) = ((n / 2 ^ k : Nat) : Int) := by rw [Int.natCast_ediv]; simp
  have hl : n / 2 ^ k < 18446744073709551616 := Nat.lt_of_le_of_lt (Nat.div_le_self _ _) h
  rw [e, show (1 : Int) = ((1 : Nat) : Int) from rfl, u64_and_nat _ 1 hl (by decide), Nat.and_one_is_mod, Bool.eq_iff_iff]
  simp
  omega
/-- A bit of an address. -/
def bitA (v6 : Bool) (hi lo i : Nat) : Bool :=
  if v6 then (if i < 64 then decide (hi / 2 ^ (63 - i) % 2 = 1) else decide (lo / 2 ^ (127 - i) % 2 = 1)) else decide (lo / 2 ^ (31 - i) % 2 = 1)
end Go.Proofs.YtmfoionlapcgkaaDoor

/- Contract of the reference of layer 6: with. -/
namespace Go.Proofs.YtmfoionlapcgkaaDoor
open Go.ChangeShapes Go.WideShapes Go.ChangeAt Go.RowKit
set_option linter.unusedVariables false

/-- The bits under way: those behind the first 'from' of w, as far as i, are one. -/
def stepB (N w from_ i : Nat) (one : Bool) (t : Nat) : Bool := if w - from_ ≤ t then N.testBit t else if w - i ≤ t then one else N.testBit t
def numA (hi lo : Nat) : Nat := 2 ^ 64 * hi + lo
theorem numA_low {hi lo t : Nat} (h : lo < 2 ^ 64) (ht : t < 64) : (numA hi lo).testBit t = lo.testBit t := by
  unfold numA
  rw [Nat.testBit_two_pow_mul_add _ h, if_pos ht]
theorem numA_high {hi lo t : Nat} (h : lo < 2 ^ 64) : (numA hi lo).testBit (t + 64) = hi.testBit t := by
  unfold numA
  rw [Nat.testBit_two_pow_mul_add _ h, if_neg (by omega)]
  congr 1
/-- The state of the loop. -/
structure Wst (N w from_ i : Nat) (one : Bool) (hi lo : Nat) : Prop where
  h1 : hi < 18446744073709551616
  h2 : lo < 18446744073709551616
  lowb : ∀ t, t < 64 → lo.testBit t = stepB N w from_ i one t
  high : ∀ t, t < 64 → hi.testBit t = stepB N w from_ i one (t + 64)
theorem wst_start {hi lo w from_ : Nat} (one : Bool) (h1 : hi < 18446744073709551616) (h2 : lo < 18446744073709551616) : Wst (numA hi lo) w from_ from_ one hi lo := by
  have hs : ∀ t, stepB (numA hi lo) w from_ from_ one t = (numA hi lo).testBit t := fun t => by
    unfold stepB
    split
    · rfl
    · rfl
  exact ⟨h1, h2, fun t ht => by rw [hs, numA_low (by omega) ht], fun t ht => by rw [hs, numA_high (by omega)]⟩
theorem step_other {N w from_ i t : Nat} {one : Bool} (hi : i < w) (ht : t ≠ w - 1 - i) : stepB N w from_ (i + 1) one t = stepB N w from_ i one t := by
  unfold stepB
  split
  · rfl
  · by_cases h : w - i ≤ t
    · rw [if_pos h, if_pos (by omega)]
    · rw [if_neg h, if_neg (by omega)]
theorem step_here {N w from_ i : Nat} {one : Bool} (hi : i < w) (hf : from_ ≤ i) : stepB N w from_ (i + 1) one (w - 1 - i) = one ∧ stepB N w from_ i one (w - 1 - i) = N.testBit (w - 1 - i) := by
  unfold stepB
  rw [if_neg (by omega), if_pos (by omega), if_neg (by omega), if_neg (by omega)]
  exact ⟨rfl, rfl⟩
theorem tb_dec (n k : Nat) : decide (n / 2 ^ k % 2 = 1) = n.testBit k := by
  rw [Nat.testBit_eq_decide_div_mod_eq]
/-- The bit that the reference looks at. -/
theorem bit_of {N from_ i hi lo : Nat} {v6 one : Bool} (h : Wst N (width v6) from_ i one hi lo) (hi' : i < width v6) (hf : from_ ≤ i) : bitA v6 hi lo i = N.testBit (width v6 - 1 - i) := by
  have hs := (step_here (N := N) (one := one) hi' hf).2
  rw [← hs]
  unfold bitA
  cases v6 with
  | false =>
    rw [if_neg (by decide), tb_dec]
    exact h.lowb (31 - i) (by have : i < 32 := hi'; omega)
  | true =>
    have h3 : i < 128 := hi'
    rw [if_pos rfl]
    split
    · rw [tb_dec, h.high (63 - i) (by omega)]
      congr 1
      show 63 - i + 64 = 128 - 1 - i
      omega
    · rw [tb_dec, h.lowb (127 - i) (by omega)]
      rfl
theorem wst_stay {N w from_ i hi lo : Nat} {one : Bool} (h : Wst N w from_ i one hi lo) (hi' : i < w) (hf : from_ ≤ i) (hb : N.testBit (w - 1 - i) = one) : Wst N w from_ (i + 1) one hi lo := by
  have key : ∀ t, stepB N w from_ (i + 1) one t = stepB N w from_ i one t := fun t => by
    by_cases e : t = w - 1 - i
    · subst e
      rw [(step_here hi' hf).1, (step_here hi' hf).2, hb]
    · exact step_other hi' e
  exact ⟨h.h1, h.h2, fun t ht => by rw [key, h.lowb t ht], fun t ht => by rw [key, h.high t ht]⟩
theorem xor_tb (n j t : Nat) : (n ^^^ 2 ^ j).testBit t = (n.testBit t ^^ decide (j = t)) := by
  rw [Nat.testBit_xor, Nat.testBit_two_pow]
theorem xor_lt64 {n j : Nat} (h : n < 18446744073709551616) (hj : j < 64) : n ^^^ 2 ^ j < 18446744073709551616 :=
  Nat.xor_lt_two_pow (n := 64) h (Nat.pow_lt_pow_right (by omega) hj)
theorem wst_low {N w from_ i hi lo : Nat} {one : Bool} (h : Wst N w from_ i one hi lo) (hi' : i < w) (hf : from_ ≤ i) (hb : N.testBit (w - 1 - i) ≠ one) (hj : w - 1 - i < 64) : Wst N w from_ (i + 1) one hi (lo ^^^ 2 ^ (w - 1 - i)) := by
  refine ⟨h.h1, xor_lt64 h.h2 hj, fun t ht => ?_, fun t ht => ?_⟩
  · rw [xor_tb, h.lowb t ht]
    by_cases e : t = w - 1 - i
    · subst e
      rw [(step_here hi' hf).1, (step_here hi' hf).2]
      cases hx : N.testBit (w - 1 - i) <;> cases one <;> simp_all
    · rw [step_other hi' e, show decide (w - 1 - i = t) = false by simp; omega, Bool.xor_false]
  · rw [h.high t ht, step_other hi' (by omega)]
theorem wst_high {N w from_ i hi lo : Nat} {one : Bool} (h : Wst N w from_ i one hi lo) (hi' : i < w) (hf : from_ ≤ i) (hb : N.testBit (w - 1 - i) ≠ one) {j : Nat} (hj : j + 64 = w - 1 - i) (hj2 : j < 64) : Wst N w from_ (i + 1) one (hi ^^^ 2 ^ j) lo := by
  refine ⟨xor_lt64 h.h1 hj2, h.h2, fun t ht => ?_, fun t ht => ?_⟩
  · rw [h.lowb t ht, step_other hi' (by omega)]
  · rw [xor_tb, h.high t ht]
    by_cases e : t = j
    · subst e
      rw [hj, (step_here hi' hf).1, (step_here hi' hf).2]
      cases hx : N.testBit (w - 1 - i) <;> cases one <;> simp_all
    · rw [step_other hi' (by omega), show decide (j = t) = false by simp; omega, Bool.xor_false]
theorem wst_end {N w from_ hi lo : Nat} {one : Bool} (h : Wst N w from_ w one hi lo) (hN : N < 2 ^ 128) (hw : w - from_ ≤ 128) : numA hi lo = if one then fillN w from_ N else cutN w from_ N := by
  have hlo : lo < 2 ^ 64 := h.h2
  have hhi : hi < 2 ^ 64 := h.h1
  apply Nat.eq_of_testBit_eq
  intro t
  have hl : (numA hi lo).testBit t = if t < 128 then stepB N w from_ w one t else false := by
    by_cases h1 : t < 64
    · rw [numA_low hlo h1, h.lowb t h1, if_pos (by omega)]
    · obtain ⟨u, rfl⟩ : ∃ u, t = u + 64 := ⟨t - 64, by omega⟩
      rw [numA_high hlo]
      by_cases h2 : u < 64
      · rw [h.high u h2, if_pos (by omega)]
      · rw [if_neg (by omega), Nat.testBit_lt_two_pow (Nat.lt_of_lt_of_le hhi (Nat.pow_le_pow_right (by omega) (by omega)))]
  have hr : (if one then fillN w from_ N else cutN w from_ N).testBit t = if w - from_ ≤ t then N.testBit t else one := by
    have hc : cutN w from_ N = 2 ^ (w - from_) * (N / 2 ^ (w - from_)) := by unfold cutN; rw [Nat.mul_comm]
    cases one with
    | true =>
      rw [if_pos rfl]
      unfold fillN
      rw [hc, Nat.testBit_two_pow_mul_add _ (by have := Nat.two_pow_pos (w - from_); omega)]
      by_cases h2 : t < w - from_
      · rw [if_pos h2, if_neg (by omega), Nat.testBit_two_pow_sub_one]
        simpa using h2
      · rw [if_neg h2, if_pos (by omega), Nat.testBit_div_two_pow]
        congr 1; omega
    | false =>
      rw [if_neg (by decide), hc]
      have := Nat.testBit_two_pow_mul_add (N / 2 ^ (w - from_)) (Nat.two_pow_pos (w - from_)) t
      rw [Nat.add_zero] at this
      rw [this]
      by_cases h2 : t < w - from_
      · rw [if_pos h2, if_neg (by omega), Nat.zero_testBit]
      · rw [if_neg h2, if_pos (by omega), Nat.testBit_div_two_pow]
        congr 1; omega
  rw [hl, hr]
  unfold stepB
  by_cases h1 : t < 128
  · rw [if_pos h1]
    split
    · rfl
    · rw [if_pos (by omega)]
  · rw [if_neg h1, if_pos (by omega), Nat.testBit_lt_two_pow (Nat.lt_of_lt_of_le hN (Nat.pow_le_pow_right (by omega) (by omega)))]

theorem xor64 (n k : Nat) (h : n < 18446744073709551616) (hk : k < 64) : bits .xor .u64 (n : Int) (IntKind.u64.wrap (2 ^ k)) = ((n ^^^ 2 ^ k : Nat) : Int) := by
  have h2 : (2 : Nat) ^ k < 18446744073709551616 := Nat.pow_lt_pow_right (n := 64) (by omega) hk
  have e : ((2 : Int) ^ k) = ((2 ^ k : Nat) : Int) := by simp
  rw [e]
  generalize (2 : Nat) ^ k = p at *
  rw [wrap_u64_in (by omega) (by omega)]
  exact u64_xor_nat n p h h2
theorem AB.set2 {w : World} {g : Nat} {v6 : Bool} {hi lo : Nat} (h : AB w g v6 hi lo) (l : Nat) : AB (w.setCell ⟨g, 2, none⟩ (.int .u64 l)) g v6 hi l := Cells.set h 2 (.int .u64 l)
theorem AB.set1 {w : World} {g : Nat} {v6 : Bool} {hi lo : Nat} (h : AB w g v6 hi lo) (l : Nat) : AB (w.setCell ⟨g, 1, none⟩ (.int .u64 l)) g v6 l lo := Cells.set h 1 (.int .u64 l)
theorem AB.far {w : World} {g b i : Nat} {v6 : Bool} {hi lo : Nat} (h : AB w g v6 hi lo) (hne : g ≠ b) (u : Value) : AB (w.setCell ⟨b, i, none⟩ u) g v6 hi lo := (Below.heap_setCell w ⟨b, i, none⟩ u g hne).trans h
/-- The three stores of an address. -/
def aset (w : World) (g : Nat) (v6 : Bool) (hi lo : Nat) : World := ((w.setCell ⟨g, 0, none⟩ (.bool v6)).setCell ⟨g, 1, none⟩ (.int .u64 hi)).setCell ⟨g, 2, none⟩ (.int .u64 lo)
theorem AB.set {w : World} {g : Nat} {b : Bool} {x y : Nat} (h : AB w g b x y) (v6 : Bool) (hi lo : Nat) : AB (aset w g v6 hi lo) g v6 hi lo := by
  have h0 := Cells.set h 0 (.bool v6)
  have h1 := Cells.set h0 1 (.int .u64 hi)
  have h2 := Cells.set h1 2 (.int .u64 lo)
  exact h2
theorem aset_below {B : Nat} {a w : World} {g : Nat} (h : Below B a w) (hg : B ≤ g) (v6 : Bool) (hi lo : Nat) : Below B a (aset w g v6 hi lo) := ((h.setCell hg _).setCell hg _).setCell hg _
end Go.Proofs.YtmfoionlapcgkaaDoor

/- Prefixes in memory; contracts of the reference of layer 6: MakePrefix, ValidPrefix, Contains, Bounds. -/
namespace Go.Proofs.YtmfoionlapcgkaaDoor
open Go.ChangeShapes Go.WideShapes Go.ChangeAt Go.RowKit
set_option linter.unusedVariables false

/-- The four stores of a prefix. -/
def pset (w : World) (g : Nat) (v6 : Bool) (hi lo : Nat) (bits : Int) : World := (((w.setCell ⟨g, 0, none⟩ (.bool v6)).setCell ⟨g, 1, none⟩ (.int .u64 hi)).setCell ⟨g, 2, none⟩ (.int .u64 lo)).setCell ⟨g, 3, none⟩ (.int .i64 bits)
theorem pset_below {B : Nat} {a w : World} {g : Nat} (h : Below B a w) (hg : B ≤ g) (v6 : Bool) (hi lo : Nat) (bits : Int) : Below B a (pset w g v6 hi lo bits) := (((h.setCell hg _).setCell hg _).setCell hg _).setCell hg _
end Go.Proofs.YtmfoionlapcgkaaDoor
