/- Contracts of the functions, part 2: AdqObj, AdrBit, AdrWith, AdrPfx, AdrCont, AdqFree, AdqPfx, AdqCont, AdqBnd, Pick. -/
import Derived.Deep.RegionHeld3
import Derived.Deep.QuietTactic
import Derived.Test.YtcblgbonijloiaaDoorFo1
/- Contracts of the program's layer 6: Valid, width, first, isBefore, Compare. -/
namespace Go.Proofs.YtcblgbonijloiaaDoor
open Go.ChangeShapes Go.WideShapes Go.ChangeAt Go.RowKit
set_option linter.unusedVariables false

set_option maxRecDepth 20000 in
theorem qvalid_any (v6 : Bool) (hi lo : Nat) (w : World) :
    Calls Tryd.prog 15 #[.agg #[.bool v6, .int .u64 hi, .int .u64 lo]] w fun e w' => e = .returned (.bool (vldA v6 hi lo)) ∧ Below w.heap.size w w' := by
  have HB := Lib.hid (below_alloc6 w (.cells #[.bool v6, .int .u64 hi, .int .u64 lo] 25))
  obtain ⟨R, hR⟩ : ∃ R, R = vldA v6 hi lo := ⟨_, rfl⟩
  rw [← hR]
  unfold vldA at hR
  cases v6 with
  | true =>
    obtain rfl : R = true := by rw [hR]; rfl
    clear hR
    go_enter Tryd.func15, Tryd.ntmps15
    go_wp2_with fail
    go_ret
    exact ⟨rfl, HB.out⟩
  | false =>
    by_cases h0 : hi = 0
    · have d0 : ((hi : Int) == 0) = true := by simp; omega
      by_cases h1 : lo < 4294967296
      · obtain rfl : R = true := by rw [hR, h0]; simpa using h1
        have d1 : decide ((lo : Int) < 4294967296) = true := by simp; omega
        clear hR h0
        go_enter Tryd.func15, Tryd.ntmps15
        go_wp2_with fail
        go_ret
        exact ⟨rfl, HB.out⟩
      · obtain rfl : R = false := by rw [hR, h0]; simpa using h1
        have d1 : decide ((lo : Int) < 4294967296) = false := by simp; omega
        clear hR h0
        go_enter Tryd.func15, Tryd.ntmps15
        go_wp2_with fail
        go_ret
        exact ⟨rfl, HB.out⟩
    · obtain rfl : R = false := by rw [hR]; simp [h0]
      have d0 : ((hi : Int) == 0) = false := by simp; omega
      clear hR
      go_enter Tryd.func15, Tryd.ntmps15
      go_wp2_with fail
      go_ret
      exact ⟨rfl, HB.out⟩
theorem qwidth_any (v6 : Bool) (hi lo : Nat) (w : World) :
    Calls Tryd.prog 45 #[.agg #[.bool v6, .int .u64 hi, .int .u64 lo]] w fun e w' => e = .returned (.int .i64 (width v6 : Nat)) ∧ Below w.heap.size w w' := by
  have HB := Lib.hid (below_alloc6 w (.cells #[.bool v6, .int .u64 hi, .int .u64 lo] 25))
  cases v6 with
  | true =>
    go_enter Tryd.func45, Tryd.ntmps45
    go_wp2_with fail
    go_ret
    exact ⟨rfl, HB.out⟩
  | false =>
    go_enter Tryd.func45, Tryd.ntmps45
    go_wp2_with fail
    go_ret
    exact ⟨rfl, HB.out⟩
set_option maxRecDepth 20000 in
theorem qfirst_any (v6 : Bool) (w : World) :
    Calls Tryd.prog 61 #[.bool v6] w fun e w' => e = .returned (.agg #[.bool v6, .int .u64 0, .int .u64 0]) ∧ Below w.heap.size w w' := by
  go_enter Tryd.func61, Tryd.ntmps61
  go_wp2_with fail
  exact bodyPost_ret (res_addr1 rfl _ _ rfl (ab_new w v6 0 0)) rfl ⟨rfl, below_alloc6 w _⟩
/-- Is an address ahead of another? By the tests of the program. -/
def befB (b1 b2 p q r : Bool) : Bool := if b1 == b2 then (if q then r else p) else b2
set_option maxHeartbeats 1000000 in
set_option maxRecDepth 20000 in
theorem qbefore_any (b1 : Bool) (h1 l1 : Nat) (b2 : Bool) (h2 l2 : Nat) (w : World) :
    Calls Tryd.prog 62 #[.agg #[.bool b1, .int .u64 h1, .int .u64 l1], .agg #[.bool b2, .int .u64 h2, .int .u64 l2]] w fun e w' => e = .returned (.bool (befB b1 b2 (decide ((h1 : Int) < (h2 : Int))) ((h1 : Int) == (h2 : Int)) (decide ((l1 : Int) < (l2 : Int))))) ∧ Below w.heap.size w w' := by
  have HB := Lib.hid ((below_alloc6 w (.cells #[.bool b1, .int .u64 h1, .int .u64 l1] 25)).trans ((below_alloc6 (w.alloc (.cells #[.bool b1, .int .u64 h1, .int .u64 l1] 25)) (.cells #[.bool b2, .int .u64 h2, .int .u64 l2] 25)).mono (by simp)))
  obtain ⟨p, dp⟩ : ∃ p, decide ((h1 : Int) < (h2 : Int)) = p := ⟨_, rfl⟩
  obtain ⟨q, dq⟩ : ∃ p, ((h1 : Int) == (h2 : Int)) = p := ⟨_, rfl⟩
  obtain ⟨r, dr⟩ : ∃ p, decide ((l1 : Int) < (l2 : Int)) = p := ⟨_, rfl⟩
  rw [dp, dq, dr]
  have dp2 : decide (h1 < h2) = p := by rw [← dp]; simp
  have dr2 : decide (l1 < l2) = r := by rw [← dr]; simp
  cases b1 <;> cases b2
  case false.true =>
    clear dp dq dr dp2 dr2
    go_enter Tryd.func62, Tryd.ntmps62
    go_wp2_with fail
    go_ret
    exact ⟨rfl, HB.out⟩
  case true.false =>
    clear dp dq dr dp2 dr2
    go_enter Tryd.func62, Tryd.ntmps62
    go_wp2_with fail
    go_ret
    exact ⟨rfl, HB.out⟩
  all_goals
    cases q
    all_goals
      cases p <;> cases r
      all_goals
        go_enter Tryd.func62, Tryd.ntmps62
        go_wp2_with fail
        go_ret
        exact ⟨rfl, HB.out⟩
theorem cmpB_before (b1 b2 p q r s : Bool) (hp : ¬ (p = true ∧ q = true)) : cmpB b1 b2 p q r s = if (b1 == b2 && (q && s)) = true then 0 else if befB b1 b2 p q r = true then -1 else 1 := by
  cases b1 <;> cases b2 <;> cases p <;> cases q <;> cases r <;> cases s <;> first | rfl | (exact absurd ⟨rfl, rfl⟩ hp)
set_option maxHeartbeats 1000000 in
set_option maxRecDepth 20000 in
theorem qcmp_any (b1 : Bool) (h1 l1 : Nat) (b2 : Bool) (h2 l2 : Nat) (w : World) :
    Calls Tryd.prog 33 #[.agg #[.bool b1, .int .u64 h1, .int .u64 l1], .agg #[.bool b2, .int .u64 h2, .int .u64 l2]] w fun e w' => e = .returned (.int .i64 (cmpA b1 h1 l1 b2 h2 l2)) ∧ Below w.heap.size w w' := by
  have hm := addr_guard
  have HX := Lib.hid (ab_new w b1 h1 l1 |>.kept (below_alloc6 _ (.cells #[.bool b2, .int .u64 h2, .int .u64 l2] 25)) (alloc_lt6 w _))
  have HY := Lib.hid (ab2 w (.cells #[.bool b1, .int .u64 h1, .int .u64 l1] 25) b2 h2 l2)
  have HB := Lib.hid (below2 w (.cells #[.bool b1, .int .u64 h1, .int .u64 l1] 25) (.cells #[.bool b2, .int .u64 h2, .int .u64 l2] 25))
  have HBF := Lib.hid (fun W => qbefore_any b1 h1 l1 b2 h2 l2 W)
  have qe := fun W => addr_eql b1 b2 h1 h2 l1 l2 W
  unfold cmpA
  have hpq : ¬ (decide ((h1 : Int) < (h2 : Int)) = true ∧ ((h1 : Int) == (h2 : Int)) = true) := by simp; omega
  rw [cmpB_before _ _ _ _ _ _ hpq]
  clear hpq
  generalize befB b1 b2 (decide ((h1 : Int) < (h2 : Int))) ((h1 : Int) == (h2 : Int)) (decide ((l1 : Int) < (l2 : Int))) = z at *
  generalize (b1 == b2 && ((h1 : Int) == (h2 : Int) && (l1 : Int) == (l2 : Int))) = y at *
  cases y with
  | true =>
    clear HBF
    go_enter Tryd.func33, Tryd.ntmps33
    go_wp2_with fail
    go_ret
    exact ⟨rfl, HB.out⟩
  | false =>
    go_enter Tryd.func33, Tryd.ntmps33
    go_wp2_with fail
    refine (HBF.out _).mono ?_
    rintro e w3 ⟨rfl, hb⟩
    have HB3 := Lib.hid (HB.out.trans (hb.mono HB.out.size))
    clear hb
    cases z with
    | true =>
      go_wp2_with fail
      go_ret
      exact ⟨rfl, HB3.out⟩
    | false =>
      go_wp2_with fail
      go_ret
      exact ⟨rfl, HB3.out⟩
end Go.Proofs.YtcblgbonijloiaaDoor

/- Contracts of the reference of layer 6: Bit, with. -/
namespace Go.Proofs.YtcblgbonijloiaaDoor
open Go.ChangeShapes Go.WideShapes Go.ChangeAt Go.RowKit
set_option linter.unusedVariables false

theorem and1_u64 (n k : Nat) (h : n < 18446744073709551616) : (bits .and .u64 ((n : Int) / 2 ^ k) 1 == 1) = decide (n / 2 ^ k % 2 = 1) := by
  have e : ((n : Int) / 2 ^ k) = ((n / 2 ^ k : Nat) : Int) := by rw [Int.natCast_ediv]; simp
  have hl : n / 2 ^ k < 18446744073709551616 := Nat.lt_of_le_of_lt (Nat.div_le_self _ _) h
  rw [e, show (1 : Int) = ((1 : Nat) : Int) from rfl, u64_and_nat _ 1 hl (by decide), Nat.and_one_is_mod, Bool.eq_iff_iff]
  simp
  omega
/-- A bit of an address. -/
def bitA (v6 : Bool) (hi lo i : Nat) : Bool :=
  if v6 then (if i < 64 then decide (hi / 2 ^ (63 - i) % 2 = 1) else decide (lo / 2 ^ (127 - i) % 2 = 1)) else decide (lo / 2 ^ (31 - i) % 2 = 1)
set_option maxRecDepth 20000 in
theorem rbit6_any (v6 : Bool) (hi lo i : Nat) (w : World) (h1 : hi < 18446744073709551616) (h2 : lo < 18446744073709551616) (hi' : i < width v6) :
    Calls Tryd.prog 71 #[.agg #[.bool v6, .int .u64 hi, .int .u64 lo], .int .i64 i] w fun e w' => e = .returned (.bool (bitA v6 hi lo i)) ∧ Below w.heap.size w w' := by
  have HB := Lib.hid (below_alloc6 w (.cells #[.bool v6, .int .u64 hi, .int .u64 lo] 25))
  cases v6 with
  | false =>
    have h3 : i < 32 := hi'
    have HA := Lib.hid (and1_u64 lo (31 - i) h2)
    go_enter Tryd.func71, Tryd.ntmps71
    go_wp2_with fail
    go_ret
    exact ⟨congrArg (fun b => Ending.returned (.bool b)) HA.out, HB.out⟩
  | true =>
    have h3 : i < 128 := hi'
    by_cases h4 : i < 64
    · have d4 : decide ((i : Int) < 64) = true := by simp; omega
      have HA := Lib.hid (show (bits .and .u64 ((hi : Int) / 2 ^ (63 - i)) 1 == 1) = bitA true hi lo i by rw [and1_u64 hi (63 - i) h1]; unfold bitA; rw [if_pos rfl, if_pos h4])
      go_enter Tryd.func71, Tryd.ntmps71
      go_wp2_with fail
      go_ret
      exact ⟨congrArg (fun b => Ending.returned (.bool b)) HA.out, HB.out⟩
    · have d4 : decide ((i : Int) < 64) = false := by simp; omega
      have HA := Lib.hid (show (bits .and .u64 ((lo : Int) / 2 ^ (127 - i)) 1 == 1) = bitA true hi lo i by rw [and1_u64 lo (127 - i) h2]; unfold bitA; rw [if_pos rfl, if_neg h4])
      go_enter Tryd.func71, Tryd.ntmps71
      go_wp2_with fail
      go_ret
      exact ⟨congrArg (fun b => Ending.returned (.bool b)) HA.out, HB.out⟩
end Go.Proofs.YtcblgbonijloiaaDoor

/- Contract of the reference of layer 6: with. -/
namespace Go.Proofs.YtcblgbonijloiaaDoor
open Go.ChangeShapes Go.WideShapes Go.ChangeAt Go.RowKit
set_option linter.unusedVariables false

/-- The bits under way: those behind the first 'from' of w, as far as i, are one. -/
def stepB (N w from_ i : Nat) (one : Bool) (t : Nat) : Bool := if w - from_ ≤ t then N.testBit t else if w - i ≤ t then one else N.testBit t
def numA (hi lo : Nat) : Nat := 2 ^ 64 * hi + lo
theorem numA_low {hi lo t : Nat} (h : lo < 2 ^ 64) (ht : t < 64) : (numA hi lo).testBit t = lo.testBit t := by
  unfold numA
  rw [Nat.testBit_two_pow_mul_add _ h, if_pos ht]
theorem numA_high {hi lo t : Nat} (h : lo < 2 ^ 64) : (numA hi lo).testBit (t + 64) = hi.testBit t := by
  unfold numA
  rw [Nat.testBit_two_pow_mul_add _ h, if_neg (by omega)]
  congr 1
/-- The state of the loop. -/
structure Wst (N w from_ i : Nat) (one : Bool) (hi lo : Nat) : Prop where
  h1 : hi < 18446744073709551616
  h2 : lo < 18446744073709551616
  lowb : ∀ t, t < 64 → lo.testBit t = stepB N w from_ i one t
  high : ∀ t, t < 64 → hi.testBit t = stepB N w from_ i one (t + 64)
theorem wst_start {hi lo w from_ : Nat} (one : Bool) (h1 : hi < 18446744073709551616) (h2 : lo < 18446744073709551616) : Wst (numA hi lo) w from_ from_ one hi lo := by
  have hs : ∀ t, stepB (numA hi lo) w from_ from_ one t = (numA hi lo).testBit t := fun t => by
    unfold stepB
    split
    · rfl
    · rfl
  exact ⟨h1, h2, fun t ht => by rw [hs, numA_low (by omega) ht], fun t ht => by rw [hs, numA_high (by omega)]⟩
theorem step_other {N w from_ i t : Nat} {one : Bool} (hi : i < w) (ht : t ≠ w - 1 - i) : stepB N w from_ (i + 1) one t = stepB N w from_ i one t := by
  unfold stepB
  split
  · rfl
  · by_cases h : w - i ≤ t
    · rw [if_pos h, if_pos (by omega)]
    · rw [if_neg h, if_neg (by omega)]
theorem step_here {N w from_ i : Nat} {one : Bool} (hi : i < w) (hf : from_ ≤ i) : stepB N w from_ (i + 1) one (w - 1 - i) = one ∧ stepB N w from_ i one (w - 1 - i) = N.testBit (w - 1 - i) := by
  unfold stepB
  rw [if_neg (by omega), if_pos (by omega), if_neg (by omega), if_neg (by omega)]
  exact ⟨rfl, rfl⟩
theorem tb_dec (n k : Nat) : decide (n / 2 ^ k % 2 = 1) = n.testBit k := by
  rw [Nat.testBit_eq_decide_div_mod_eq]
/-- The bit that the reference looks at. -/
theorem bit_of {N from_ i hi lo : Nat} {v6 one : Bool} (h : Wst N (width v6) from_ i one hi lo) (hi' : i < width v6) (hf : from_ ≤ i) : bitA v6 hi lo i = N.testBit (width v6 - 1 - i) := by
  have hs := (step_here (N := N) (one := one) hi' hf).2
  rw [← hs]
  unfold bitA
  cases v6 with
  | false =>
    rw [if_neg (by decide), tb_dec]
    exact h.lowb (31 - i) (by have : i < 32 := hi'; omega)
  | true =>
    have h3 : i < 128 := hi'
    rw [if_pos rfl]
    split
    · rw [tb_dec, h.high (63 - i) (by omega)]
      congr 1
      show 63 - i + 64 = 128 - 1 - i
      omega
    · rw [tb_dec, h.lowb (127 - i) (by omega)]
      rfl
theorem wst_stay {N w from_ i hi lo : Nat} {one : Bool} (h : Wst N w from_ i one hi lo) (hi' : i < w) (hf : from_ ≤ i) (hb : N.testBit (w - 1 - i) = one) : Wst N w from_ (i + 1) one hi lo := by
  have key : ∀ t, stepB N w from_ (i + 1) one t = stepB N w from_ i one t := fun t => by
    by_cases e : t = w - 1 - i
    · subst e
      rw [(step_here hi' hf).1, (step_here hi' hf).2, hb]
    · exact step_other hi' e
  exact ⟨h.h1, h.h2, fun t ht => by rw [key, h.lowb t ht], fun t ht => by rw [key, h.high t ht]⟩
theorem xor_tb (n j t : Nat) : (n ^^^ 2 ^ j).testBit t = (n.testBit t ^^ decide (j = t)) := by
  rw [Nat.testBit_xor, Nat.testBit_two_pow]
theorem xor_lt64 {n j : Nat} (h : n < 18446744073709551616) (hj : j < 64) : n ^^^ 2 ^ j < 18446744073709551616 :=
  Nat.xor_lt_two_pow (n := 64) h (Nat.pow_lt_pow_right (by omega) hj)
theorem wst_low {N w from_ i hi lo : Nat} {one : Bool} (h : Wst N w from_ i one hi lo) (hi' : i < w) (hf : from_ ≤ i) (hb : N.testBit (w - 1 - i) ≠ one) (hj : w - 1 - i < 64) : Wst N w from_ (i + 1) one hi (lo ^^^ 2 ^ (w - 1 - i)) := by
  refine ⟨h.h1, xor_lt64 h.h2 hj, fun t ht => ?_, fun t ht => ?_⟩
  · rw [xor_tb, h.lowb t ht]
    by_cases e : t = w - 1 - i
    · subst e
      rw [(step_here hi' hf).1, (step_here hi' hf).2]
      cases hx : N.testBit (w - 1 - i) <;> cases one <;> simp_all
    · rw [step_other hi' e, show decide (w - 1 - i = t) = false by simp; omega, Bool.xor_false]
  · rw [h.high t ht, step_other hi' (by omega)]
theorem wst_high {N w from_ i hi lo : Nat} {one : Bool} (h : Wst N w from_ i one hi lo) (hi' : i < w) (hf : from_ ≤ i) (hb : N.testBit (w - 1 - i) ≠ one) {j : Nat} (hj : j + 64 = w - 1 - i) (hj2 : j < 64) : Wst N w from_ (i + 1) one (hi ^^^ 2 ^ j) lo := by
  refine ⟨xor_lt64 h.h1 hj2, h.h2, fun t ht => ?_, fun t ht => ?_⟩
  · rw [h.lowb t ht, step_other hi' (by omega)]
  · rw [xor_tb, h.high t ht]
    by_cases e : t = j
    · subst e
      rw [hj, (step_here hi' hf).1, (step_here hi' hf).2]
      cases hx : N.testBit (w - 1 - i) <;> cases one <;> simp_all
    · rw [step_other hi' (by omega), show decide (j = t) = false by simp; omega, Bool.xor_false]
theorem wst_end {N w from_ hi lo : Nat} {one : Bool} (h : Wst N w from_ w one hi lo) (hN : N < 2 ^ 128) (hw : w - from_ ≤ 128) : numA hi lo = if one then fillN w from_ N else cutN w from_ N := by
  have hlo : lo < 2 ^ 64 := h.h2
  have hhi : hi < 2 ^ 64 := h.h1
  apply Nat.eq_of_testBit_eq
  intro t
  have hl : (numA hi lo).testBit t = if t < 128 then stepB N w from_ w one t else false := by
    by_cases h1 : t < 64
    · rw [numA_low hlo h1, h.lowb t h1, if_pos (by omega)]
    · obtain ⟨u, rfl⟩ : ∃ u, t = u + 64 := ⟨t - 64, by omega⟩
      rw [numA_high hlo]
      by_cases h2 : u < 64
      · rw [h.high u h2, if_pos (by omega)]
      · rw [if_neg (by omega), Nat.testBit_lt_two_pow (Nat.lt_of_lt_of_le hhi (Nat.pow_le_pow_right (by omega) (by omega)))]
  have hr : (if one then fillN w from_ N else cutN w from_ N).testBit t = if w - from_ ≤ t then N.testBit t else one := by
    have hc : cutN w from_ N = 2 ^ (w - from_) * (N / 2 ^ (w - from_)) := by unfold cutN; rw [Nat.mul_comm]
    cases one with
    | true =>
      rw [if_pos rfl]
      unfold fillN
      rw [hc, Nat.testBit_two_pow_mul_add _ (by have := Nat.two_pow_pos (w - from_); omega)]
      by_cases h2 : t < w - from_
      · rw [if_pos h2, if_neg (by omega), Nat.testBit_two_pow_sub_one]
        simpa using h2
      · rw [if_neg h2, if_pos (by omega), Nat.testBit_div_two_pow]
        congr 1; omega
    | false =>
      rw [if_neg (by decide), hc]
      have := Nat.testBit_two_pow_mul_add (N / 2 ^ (w - from_)) (Nat.two_pow_pos (w - from_)) t
      rw [Nat.add_zero] at this
      rw [this]
      by_cases h2 : t < w - from_
      · rw [if_pos h2, if_neg (by omega), Nat.zero_testBit]
      · rw [if_neg h2, if_pos (by omega), Nat.testBit_div_two_pow]
        congr 1; omega
  rw [hl, hr]
  unfold stepB
  by_cases h1 : t < 128
  · rw [if_pos h1]
    split
    · rfl
    · rw [if_pos (by omega)]
  · rw [if_neg h1, if_pos (by omega), Nat.testBit_lt_two_pow (Nat.lt_of_lt_of_le hN (Nat.pow_le_pow_right (by omega) (by omega)))]

theorem xor64 (n k : Nat) (h : n < 18446744073709551616) (hk : k < 64) : bits .xor .u64 (n : Int) (IntKind.u64.wrap (2 ^ k)) = ((n ^^^ 2 ^ k : Nat) : Int) := by
  have h2 : (2 : Nat) ^ k < 18446744073709551616 := Nat.pow_lt_pow_right (n := 64) (by omega) hk
  have e : ((2 : Int) ^ k) = ((2 ^ k : Nat) : Int) := by simp
  rw [e]
  generalize (2 : Nat) ^ k = p at *
  rw [wrap_u64_in (by omega) (by omega)]
  exact u64_xor_nat n p h h2
theorem AB.set2 {w : World} {g : Nat} {v6 : Bool} {hi lo : Nat} (h : AB w g v6 hi lo) (l : Nat) : AB (w.setCell ⟨g, 2, none⟩ (.int .u64 l)) g v6 hi l := Cells.set h 2 (.int .u64 l)
theorem AB.set1 {w : World} {g : Nat} {v6 : Bool} {hi lo : Nat} (h : AB w g v6 hi lo) (l : Nat) : AB (w.setCell ⟨g, 1, none⟩ (.int .u64 l)) g v6 l lo := Cells.set h 1 (.int .u64 l)
theorem AB.far {w : World} {g b i : Nat} {v6 : Bool} {hi lo : Nat} (h : AB w g v6 hi lo) (hne : g ≠ b) (u : Value) : AB (w.setCell ⟨b, i, none⟩ u) g v6 hi lo := (Below.heap_setCell w ⟨b, i, none⟩ u g hne).trans h
/-- The three stores of an address. -/
def aset (w : World) (g : Nat) (v6 : Bool) (hi lo : Nat) : World := ((w.setCell ⟨g, 0, none⟩ (.bool v6)).setCell ⟨g, 1, none⟩ (.int .u64 hi)).setCell ⟨g, 2, none⟩ (.int .u64 lo)
theorem AB.set {w : World} {g : Nat} {b : Bool} {x y : Nat} (h : AB w g b x y) (v6 : Bool) (hi lo : Nat) : AB (aset w g v6 hi lo) g v6 hi lo := by
  have h0 := Cells.set h 0 (.bool v6)
  have h1 := Cells.set h0 1 (.int .u64 hi)
  have h2 := Cells.set h1 2 (.int .u64 lo)
  exact h2
theorem aset_below {B : Nat} {a w : World} {g : Nat} (h : Below B a w) (hg : B ≤ g) (v6 : Bool) (hi lo : Nat) : Below B a (aset w g v6 hi lo) := ((h.setCell hg _).setCell hg _).setCell hg _
set_option maxHeartbeats 1000000 in
set_option maxRecDepth 20000 in
theorem rwith6_any (v6 one : Bool) (hi lo from_ : Nat) (w : World) (h1 : hi < 18446744073709551616) (h2 : lo < 18446744073709551616) (hf : from_ ≤ width v6) :
    Calls Tryd.prog 50 #[.agg #[.bool v6, .int .u64 hi, .int .u64 lo], .int .i64 from_, .bool one] w fun e w' => (∃ hi' lo' : Nat, e = .returned (.agg #[.bool v6, .int .u64 hi', .int .u64 lo']) ∧ Wst (numA hi lo) (width v6) from_ (width v6) one hi' lo') ∧ Below w.heap.size w w' := by
  have hw : width v6 ≤ 128 := by unfold width; split <;> omega
  have HW0 := Lib.hid (wst_start (w := width v6) (from_ := from_) one h1 h2)
  have HWD := Lib.hid (fun hi lo W => rwidth_any v6 hi lo W)
  have HBIT := Lib.hid (fun hi lo i W a b c => rbit6_any v6 hi lo i W a b c)
  obtain ⟨N, hN⟩ : ∃ N, N = numA hi lo := ⟨_, rfl⟩
  rw [← hN] at HW0 ⊢
  obtain ⟨wd, hwd⟩ : ∃ wd, wd = width v6 := ⟨_, rfl⟩
  rw [← hwd] at HWD HW0 hf hw HBIT ⊢
  have HV := Lib.hid hwd
  have HX := Lib.hid (ab_new w v6 hi lo |>.kept (below_alloc6 _ (.cells #[.bool false, .int .u64 0, .int .u64 0] 25)) (alloc_lt6 w _))
  have HR := Lib.hid (ab2 w (.cells #[.bool v6, .int .u64 hi, .int .u64 lo] 25) false 0 0)
  have HB := Lib.hid (below2 w (.cells #[.bool v6, .int .u64 hi, .int .u64 lo] 25) (.cells #[.bool false, .int .u64 0, .int .u64 0] 25))
  clear hN hwd h1 h2
  go_enter Tryd.func50, Tryd.ntmps50
  go_wp2_with fail
  generalize (w.alloc (.cells #[.bool v6, .int .u64 hi, .int .u64 lo] 25)).alloc (.cells #[.bool false, .int .u64 0, .int .u64 0] 25) = w1 at *
  go_loopw [7] (fun v7 wr => ∃ i hi lo : Nat, from_ ≤ i ∧ i ≤ wd ∧ v7 = .int .i64 i ∧ Hid (AB wr w.heap.size v6 hi lo) ∧ Hid (AB wr (w.heap.size + 1) false 0 0) ∧ Hid (Below w.heap.size w wr) ∧ Hid (Wst N wd from_ i one hi lo)) (fun v7 _ => wd - (intOf v7).toNat)
  case atStart => exact ⟨from_, hi, lo, Nat.le_refl _, hf, rfl, HX, HR, HB, HW0⟩
  case round =>
    clear HX HR HB HW0
    obtain ⟨i, hi, lo, hfi, hiw, rfl, HX, HR, HB, HW⟩ := hrel
    have x0 := HX.out.c0
    have x1 := HX.out.c1
    have x2 := HX.out.c2
    go_wp2_with fail
    refine (HWD.out hi lo _).mono ?_
    rintro e w2 ⟨rfl, hb⟩
    have HX2 := Lib.hid (HX.out.kept hb HX.out.lt)
    have HR2 := Lib.hid (HR.out.kept hb HR.out.lt)
    have HB2 := Lib.hid (HB.out.trans (hb.mono HB.out.size))
    clear hb HX HR HB x0 x1 x2
    have x0 := HX2.out.c0
    have x1 := HX2.out.c1
    have x2 := HX2.out.c2
    by_cases hlt : i < wd
    · have hli : (i : Int) < (wd : Int) := by omega
      go_wp2_with fail
      refine (HBIT.out hi lo i _ HW.out.h1 HW.out.h2 hlt).mono ?_
      rintro e w3 ⟨rfl, hb⟩
      have HX3 := Lib.hid (HX2.out.kept hb HX2.out.lt)
      have HR3 := Lib.hid (HR2.out.kept hb HR2.out.lt)
      have HB3 := Lib.hid (HB2.out.trans (hb.mono HB2.out.size))
      have hbit : bitA v6 hi lo i = N.testBit (wd - 1 - i) := by
        have h := HW.out
        rw [HV.out] at h ⊢
        exact bit_of h (by rw [← HV.out]; exact hlt) hfi
      rw [hbit]
      clear hb HX2 HR2 HB2 x0 x1 x2
      have x0 := HX3.out.c0
      have x1 := HX3.out.c1
      have x2 := HX3.out.c2
      have f1 := HX3.out.f 1
      have f2 := HX3.out.f 2
      by_cases hb : N.testBit (wd - 1 - i) = one
      · have HW4 := Lib.hid (wst_stay HW.out hlt hfi hb)
        have db : (N.testBit (wd - 1 - i) == one) = true := by simp [hb]
        generalize N.testBit (wd - 1 - i) = bt at *
        clear hb hbit HW
        go_wp2_with fail
        go_roundw
        case rel => exact ⟨i + 1, hi, lo, by omega, by omega, by go_num, HX3, HR3, HB3, HW4⟩
        case measure => simp [intOf]; omega
      · have db : (N.testBit (wd - 1 - i) == one) = false := by simp [hb]
        cases v6 with
        | false =>
          obtain rfl : wd = 32 := HV.out
          have HW4 := Lib.hid (show Wst N 32 from_ (i + 1) one hi (lo ^^^ 2 ^ (31 - i)) from wst_low HW.out hlt hfi hb (by omega))
          have HXE := Lib.hid (xor64 lo (31 - i) HW.out.h2 (by omega))
          have HX4 := Lib.hid (HX3.out.set2 (lo ^^^ 2 ^ (31 - i)))
          have HR4 := Lib.hid (HR3.out.far (b := w.heap.size) (i := 2) (by omega) (.int .u64 ((lo ^^^ 2 ^ (31 - i) : Nat) : Int)))
          have HB4 := Lib.hid (HB3.out.setCell (p := ⟨w.heap.size, 2, none⟩) (Nat.le_refl _) (.int .u64 ((lo ^^^ 2 ^ (31 - i) : Nat) : Int)))
          clear hb hbit
          generalize N.testBit _ = bt at *
          go_wp2_with fail
          rw [HXE.out]
          exact ⟨⟨i + 1, hi, lo ^^^ 2 ^ (31 - i), by omega, by omega, by go_num, HX4, HR4, HB4, HW4⟩, by simp [intOf]; omega⟩
        | true =>
          obtain rfl : wd = 128 := HV.out
          by_cases h64 : i < 64
          · have d64 : decide ((i : Int) < 64) = true := by simp; omega
            have HW4 := Lib.hid (wst_high (j := 63 - i) HW.out hlt hfi hb (by omega) (by omega))
            have HXE := Lib.hid (xor64 hi (63 - i) HW.out.h1 (by omega))
            have HX4 := Lib.hid (HX3.out.set1 (hi ^^^ 2 ^ (63 - i)))
            have HR4 := Lib.hid (HR3.out.far (b := w.heap.size) (i := 1) (by omega) (.int .u64 ((hi ^^^ 2 ^ (63 - i) : Nat) : Int)))
            have HB4 := Lib.hid (HB3.out.setCell (p := ⟨w.heap.size, 1, none⟩) (Nat.le_refl _) (.int .u64 ((hi ^^^ 2 ^ (63 - i) : Nat) : Int)))
            clear hb hbit
            generalize N.testBit _ = bt at *
            go_wp2_with fail
            rw [HXE.out]
            exact ⟨⟨i + 1, hi ^^^ 2 ^ (63 - i), lo, by omega, by omega, by go_num, HX4, HR4, HB4, HW4⟩, by simp [intOf]; omega⟩
          · have d64 : decide ((i : Int) < 64) = false := by simp; omega
            have HW4 := Lib.hid (show Wst N 128 from_ (i + 1) one hi (lo ^^^ 2 ^ (127 - i)) from wst_low HW.out hlt hfi hb (by omega))
            have HXE := Lib.hid (xor64 lo (127 - i) HW.out.h2 (by omega))
            have HX4 := Lib.hid (HX3.out.set2 (lo ^^^ 2 ^ (127 - i)))
            have HR4 := Lib.hid (HR3.out.far (b := w.heap.size) (i := 2) (by omega) (.int .u64 ((lo ^^^ 2 ^ (127 - i) : Nat) : Int)))
            have HB4 := Lib.hid (HB3.out.setCell (p := ⟨w.heap.size, 2, none⟩) (Nat.le_refl _) (.int .u64 ((lo ^^^ 2 ^ (127 - i) : Nat) : Int)))
            clear hb hbit
            generalize N.testBit _ = bt at *
            go_wp2_with fail
            rw [HXE.out]
            exact ⟨⟨i + 1, hi, lo ^^^ 2 ^ (127 - i), by omega, by omega, by go_num, HX4, HR4, HB4, HW4⟩, by simp [intOf]; omega⟩
    · obtain rfl : i = wd := by omega
      have hd : decide ((i : Int) < (i : Int)) = false := by simp
      have r0 := HR2.out.c0
      have r1 := HR2.out.c1
      have r2 := HR2.out.c2
      have rf0 := HR2.out.f 0
      have rf1 := HR2.out.f 1
      have rf2 := HR2.out.f 2
      go_wp2_with fail
      change bodyPost _ _ _ _ _ (aset w2 (w.heap.size + 1) v6 hi lo)
      exact bodyPost_ret (res_addr1 rfl _ _ rfl (HR2.out.set v6 hi lo)) rfl ⟨⟨hi, lo, rfl, HW.out⟩, aset_below HB2.out (Nat.le_succ _) v6 hi lo⟩
end Go.Proofs.YtcblgbonijloiaaDoor

/- Prefixes in memory; contracts of the reference of layer 6: MakePrefix, ValidPrefix, Contains, Bounds. -/
namespace Go.Proofs.YtcblgbonijloiaaDoor
open Go.ChangeShapes Go.WideShapes Go.ChangeAt Go.RowKit
set_option linter.unusedVariables false

/-- A prefix in a box. -/
def PB (w : World) (g : Nat) (v6 : Bool) (hi lo : Nat) (bits : Int) : Prop := Cells w g 30 #[.bool v6, .int .u64 hi, .int .u64 lo, .int .i64 bits]
theorem pb_new (w : World) (v6 : Bool) (hi lo : Nat) (bits : Int) : PB (w.alloc (.cells #[.bool v6, .int .u64 hi, .int .u64 lo, .int .i64 bits] 30)) w.heap.size v6 hi lo bits := heap_alloc_new w _
theorem PB.kept {w w' : World} {g B : Nat} {v6 : Bool} {hi lo : Nat} {bits : Int} (h : PB w g v6 hi lo bits) (hb : Below B w w') (hg : g < B) : PB w' g v6 hi lo bits := (hb.block _ hg).trans h
theorem PB.lt {w : World} {g : Nat} {v6 : Bool} {hi lo : Nat} {bits : Int} (h : PB w g v6 hi lo bits) : g < w.heap.size := Cells.lt h
theorem PB.c0 {w : World} {g : Nat} {v6 : Bool} {hi lo : Nat} {bits : Int} (h : PB w g v6 hi lo bits) : w.cell? ⟨g, 0, none⟩ = some (.bool v6) := (Cells.cell h 0).trans rfl
theorem PB.c1 {w : World} {g : Nat} {v6 : Bool} {hi lo : Nat} {bits : Int} (h : PB w g v6 hi lo bits) : w.cell? ⟨g, 1, none⟩ = some (.int .u64 hi) := (Cells.cell h 1).trans rfl
theorem PB.c2 {w : World} {g : Nat} {v6 : Bool} {hi lo : Nat} {bits : Int} (h : PB w g v6 hi lo bits) : w.cell? ⟨g, 2, none⟩ = some (.int .u64 lo) := (Cells.cell h 2).trans rfl
theorem PB.c3 {w : World} {g : Nat} {v6 : Bool} {hi lo : Nat} {bits : Int} (h : PB w g v6 hi lo bits) : w.cell? ⟨g, 3, none⟩ = some (.int .i64 bits) := (Cells.cell h 3).trans rfl
theorem PB.far {w : World} {g b i : Nat} {v6 : Bool} {hi lo : Nat} {bits : Int} (h : PB w g v6 hi lo bits) (hne : g ≠ b) (u : Value) : PB (w.setCell ⟨b, i, none⟩ u) g v6 hi lo bits := (Below.heap_setCell w ⟨b, i, none⟩ u g hne).trans h
theorem PB.f {w : World} {g : Nat} {v6 : Bool} {hi lo : Nat} {bits : Int} (h : PB w g v6 hi lo bits) (i : Nat) : w.frozen? ⟨g, i, none⟩ = false := Cells.frozen h i
theorem pfx_size : (Tryd.prog.info? 30).map (·.size) = some 4 := by kernel_rfl
theorem res_pfx2 {fn : Func} {p u : Tmp} (h : fn.results = #[.cell p 30, .tmp u]) (tmps : Array Value) (w : World) {g : Nat} {v6 : Bool} {hi lo : Nat} {bits : Int} (hp : tmps.getD p undef = .pointer (some ⟨g, 0, none⟩)) (ht : PB w g v6 hi lo bits) :
    (results fn tmps).run Tryd.prog w = .ok (.tuple #[.agg #[.bool v6, .int .u64 hi, .int .u64 lo, .int .i64 bits], tmps.getD u undef]) w := by
  have hp' : tmps[p]?.getD undef = .pointer (some ⟨g, 0, none⟩) := by simpa using hp
  simp [results, h, hp', asAddr, run_loadVar_row w g 30 30 _ (0, 0) _ ht Tryd.underlying30 rfl pfx_size]
theorem pb2 (w : World) (o : Obj) (v6 : Bool) (hi lo : Nat) (bits : Int) : PB ((w.alloc o).alloc (.cells #[.bool v6, .int .u64 hi, .int .u64 lo, .int .i64 bits] 30)) (w.heap.size + 1) v6 hi lo bits := by
  have := pb_new (w.alloc o) v6 hi lo bits
  rwa [show (w.alloc o).heap.size = w.heap.size + 1 by simp] at this
/-- The four stores of a prefix. -/
def pset (w : World) (g : Nat) (v6 : Bool) (hi lo : Nat) (bits : Int) : World := (((w.setCell ⟨g, 0, none⟩ (.bool v6)).setCell ⟨g, 1, none⟩ (.int .u64 hi)).setCell ⟨g, 2, none⟩ (.int .u64 lo)).setCell ⟨g, 3, none⟩ (.int .i64 bits)
theorem PB.set {w : World} {g : Nat} {b : Bool} {x y : Nat} {z : Int} (h : PB w g b x y z) (v6 : Bool) (hi lo : Nat) (bits : Int) : PB (pset w g v6 hi lo bits) g v6 hi lo bits := by
  have h0 := Cells.set h 0 (.bool v6)
  have h1 := Cells.set h0 1 (.int .u64 hi)
  have h2 := Cells.set h1 2 (.int .u64 lo)
  have h3 := Cells.set h2 3 (.int .i64 bits)
  exact h3
theorem pset_below {B : Nat} {a w : World} {g : Nat} (h : Below B a w) (hg : B ≤ g) (v6 : Bool) (hi lo : Nat) (bits : Int) : Below B a (pset w g v6 hi lo bits) := (((h.setCell hg _).setCell hg _).setCell hg _).setCell hg _
set_option maxRecDepth 20000 in
theorem rmake6_bad (v6 : Bool) (hi lo : Nat) (bits : Int) (w : World) (h1 : hi < 18446744073709551616) (h2 : lo < 18446744073709551616) (hb : bits < 0 ∨ (width v6 : Int) < bits) :
    Calls Tryd.prog 20 #[.agg #[.bool v6, .int .u64 hi, .int .u64 lo], .int .i64 bits] w fun e w' => e = .returned (.tuple #[.agg #[.bool false, .int .u64 0, .int .u64 0, .int .i64 0], .int .i64 4]) ∧ Below w.heap.size w w' := by
  have HWD := Lib.hid (fun W => rwidth_any v6 hi lo W)
  have HX := Lib.hid (ab_new w v6 hi lo |>.kept (below_alloc6 _ (.cells #[.bool false, .int .u64 0, .int .u64 0, .int .i64 0] 30)) (alloc_lt6 w _))
  have HR := Lib.hid (pb2 w (.cells #[.bool v6, .int .u64 hi, .int .u64 lo] 25) false 0 0 0)
  have HB := Lib.hid (below2 w (.cells #[.bool v6, .int .u64 hi, .int .u64 lo] 25) (.cells #[.bool false, .int .u64 0, .int .u64 0, .int .i64 0] 30))
  by_cases c : bits < 0
  · have d : decide (bits < 0) = true := by simpa using c
    clear hb c
    go_enter Tryd.func20, Tryd.ntmps20
    go_wp2_with fail
    exact bodyPost_ret (res_pfx2 rfl _ _ rfl HR.out) rfl ⟨rfl, HB.out⟩
  · have d : decide (bits < 0) = false := by simpa using c
    have d2 : decide ((width v6 : Int) < bits) = true := by simp; omega
    obtain ⟨wd, hwd⟩ : ∃ wd, wd = width v6 := ⟨_, rfl⟩
    rw [← hwd] at d2 HWD
    have hlt : (wd : Int) < bits := by simpa using d2
    clear hb hwd
    go_enter Tryd.func20, Tryd.ntmps20
    go_wp2_with fail
    refine (HWD.out _).mono ?_
    rintro e w2 ⟨rfl, hb⟩
    have HR2 := Lib.hid (HR.out.kept hb HR.out.lt)
    have HB2 := Lib.hid (HB.out.trans (hb.mono HB.out.size))
    have r0 := HR2.out.c0
    have r1 := HR2.out.c1
    have r2 := HR2.out.c2
    have r3 := HR2.out.c3
    have rf0 := HR2.out.f 0
    have rf1 := HR2.out.f 1
    have rf2 := HR2.out.f 2
    have rf3 := HR2.out.f 3
    clear hb
    go_wp2_with fail
    change bodyPost _ _ _ _ _ (pset w2 (w.heap.size + 1) false 0 0 0)
    exact bodyPost_ret (res_pfx2 rfl _ _ rfl (HR2.out.set false 0 0 0)) rfl ⟨rfl, pset_below HB2.out (Nat.le_succ _) false 0 0 0⟩
set_option maxHeartbeats 400000 in
set_option maxRecDepth 20000 in
theorem rmake6_ok (v6 : Bool) (hi lo k : Nat) (w : World) (h1 : hi < 18446744073709551616) (h2 : lo < 18446744073709551616) (hb : k ≤ width v6) :
    Calls Tryd.prog 20 #[.agg #[.bool v6, .int .u64 hi, .int .u64 lo], .int .i64 k] w fun e w' => (∃ hi' lo' : Nat, e = .returned (.tuple #[.agg #[.bool v6, .int .u64 hi', .int .u64 lo', .int .i64 k], .int .i64 0]) ∧ Wst (numA hi lo) (width v6) k (width v6) false hi' lo') ∧ Below w.heap.size w w' := by
  have HWD := Lib.hid (fun W => rwidth_any v6 hi lo W)
  have HWI := Lib.hid (fun W => rwith6_any v6 false hi lo k W h1 h2 hb)
  have HX := Lib.hid (ab_new w v6 hi lo |>.kept (below_alloc6 _ (.cells #[.bool false, .int .u64 0, .int .u64 0, .int .i64 0] 30)) (alloc_lt6 w _))
  have HR := Lib.hid (pb2 w (.cells #[.bool v6, .int .u64 hi, .int .u64 lo] 25) false 0 0 0)
  have HB := Lib.hid (below2 w (.cells #[.bool v6, .int .u64 hi, .int .u64 lo] 25) (.cells #[.bool false, .int .u64 0, .int .u64 0, .int .i64 0] 30))
  have d : decide ((k : Int) < 0) = false := by simp
  obtain ⟨wd, hwd⟩ : ∃ wd, wd = width v6 := ⟨_, rfl⟩
  rw [← hwd] at hb HWD HWI ⊢
  have d2 : decide ((wd : Int) < (k : Int)) = false := by simp; omega
  have d3 : ¬ (wd : Int) < (k : Int) := by omega
  have hk : k ≤ 128 := by unfold width at hwd; split at hwd <;> omega
  clear hwd
  go_enter Tryd.func20, Tryd.ntmps20
  go_wp2_with fail
  refine (HWD.out _).mono ?_
  rintro e w2 ⟨rfl, hbw⟩
  have HX2 := Lib.hid (HX.out.kept hbw HX.out.lt)
  have HR2 := Lib.hid (HR.out.kept hbw HR.out.lt)
  have HB2 := Lib.hid (HB.out.trans (hbw.mono HB.out.size))
  have x0 := HX2.out.c0
  have x1 := HX2.out.c1
  have x2 := HX2.out.c2
  clear hbw HX HR HB
  go_wp2_with fail
  refine (HWI.out _).mono ?_
  rintro e w3 ⟨⟨hi', lo', rfl, hst⟩, hbw⟩
  have HR3 := Lib.hid (HR2.out.kept hbw HR2.out.lt)
  have HB3 := Lib.hid (HB2.out.trans (hbw.mono HB2.out.size))
  have r0 := HR3.out.c0
  have r1 := HR3.out.c1
  have r2 := HR3.out.c2
  have r3 := HR3.out.c3
  have rf0 := HR3.out.f 0
  have rf1 := HR3.out.f 1
  have rf2 := HR3.out.f 2
  have rf3 := HR3.out.f 3
  have HST := Lib.hid hst
  clear hbw hst HX2 HR2 HB2 x0 x1 x2
  go_wp2_with fail
  change bodyPost _ _ _ _ _ (pset w3 (w.heap.size + 1) v6 hi' lo' k)
  exact bodyPost_ret (res_pfx2 rfl _ _ rfl (HR3.out.set v6 hi' lo' k)) rfl ⟨⟨hi', lo', rfl, HST.out⟩, pset_below HB3.out (Nat.le_succ _) v6 hi' lo' k⟩
end Go.Proofs.YtcblgbonijloiaaDoor

/- Contracts of the reference of layer 6: Contains, ValidPrefix, Bounds. -/
namespace Go.Proofs.YtcblgbonijloiaaDoor
open Go.ChangeShapes Go.WideShapes Go.ChangeAt Go.RowKit
set_option linter.unusedVariables false

theorem numA_inj {a b c d : Nat} (h1 : b < 18446744073709551616) (h2 : d < 18446744073709551616) : numA a b = numA c d ↔ a = c ∧ b = d := by
  unfold numA
  constructor
  · intro h
    have : 2 ^ 64 = 18446744073709551616 := by decide
    omega
  · rintro ⟨rfl, rfl⟩; rfl
theorem numA_lt {a b : Nat} (h1 : a < 18446744073709551616) (h2 : b < 18446744073709551616) : numA a b < 2 ^ 128 := by
  unfold numA
  have : (2 : Nat) ^ 64 = 18446744073709551616 := by decide
  have : (2 : Nat) ^ 128 = 18446744073709551616 * 18446744073709551616 := by decide
  omega
set_option maxHeartbeats 1000000 in
set_option maxRecDepth 20000 in
theorem rcont6_any (v1 v2 : Bool) (h1 l1 k h2 l2 : Nat) (w : World) (a1 : h1 < 18446744073709551616) (a2 : l1 < 18446744073709551616) (b1 : h2 < 18446744073709551616) (b2 : l2 < 18446744073709551616) (hk : v1 = v2 → k ≤ width v2) :
    Calls Tryd.prog 38 #[.agg #[.bool v1, .int .u64 h1, .int .u64 l1, .int .i64 k], .agg #[.bool v2, .int .u64 h2, .int .u64 l2]] w fun e w' => e = .returned (.bool (v1 == v2 && decide (cutN (width v2) k (numA h2 l2) = numA h1 l1))) ∧ Below w.heap.size w w' := by
  have hm := addr_guard
  have HX := Lib.hid (pb_new w v1 h1 l1 k |>.kept (below_alloc6 _ (.cells #[.bool v2, .int .u64 h2, .int .u64 l2] 25)) (alloc_lt6 w _))
  have HY := Lib.hid (ab2 w (.cells #[.bool v1, .int .u64 h1, .int .u64 l1, .int .i64 k] 30) v2 h2 l2)
  have HB := Lib.hid (below2 w (.cells #[.bool v1, .int .u64 h1, .int .u64 l1, .int .i64 k] 30) (.cells #[.bool v2, .int .u64 h2, .int .u64 l2] 25))
  by_cases e : v1 = v2
  · subst e
    have HW := Lib.hid (fun W => rwith6_any v1 false h2 l2 k W b1 b2 (hk rfl))
    have HE := Lib.hid (fun hi' lo' (h : Wst (numA h2 l2) (width v1) k (width v1) false hi' lo') => show ((((hi' : Nat) : Int) == (h1 : Int) && ((lo' : Nat) : Int) == (l1 : Int)) : Bool) = (v1 == v1 && decide (cutN (width v1) k (numA h2 l2) = numA h1 l1)) from by
      have he := wst_end h (numA_lt b1 b2) (by unfold width; split <;> omega)
      rw [if_neg (by decide)] at he
      rw [← he, Bool.eq_iff_iff]
      simp only [beq_self_eq_true, Bool.true_and, Bool.and_eq_true, beq_iff_eq, decide_eq_true_eq, numA_inj h.h2 a2]
      omega)
    have HQ := Lib.hid (fun hi' lo' => addr_eql v1 v1 hi' h1 lo' l1)
    clear hk
    go_enter Tryd.func38, Tryd.ntmps38
    go_wp2_with fail
    generalize (w.alloc (.cells #[.bool v1, .int .u64 h1, .int .u64 l1, .int .i64 k] 30)).alloc (.cells #[.bool v1, .int .u64 h2, .int .u64 l2] 25) = w1 at *
    have p0 := HX.out.c0
    have p1 := HX.out.c1
    have p2 := HX.out.c2
    have p3 := HX.out.c3
    have y0 := HY.out.c0
    have y1 := HY.out.c1
    have y2 := HY.out.c2
    go_region_held3 (fun w' => w'.cell? ⟨w.heap.size, 0, none⟩ = some (.bool v1) ∧ w'.cell? ⟨w.heap.size, 1, none⟩ = some (.int .u64 h1) ∧ w'.cell? ⟨w.heap.size, 2, none⟩ = some (.int .u64 l1) ∧ w'.cell? ⟨w.heap.size, 3, none⟩ = some (.int .i64 k) ∧ w'.cell? ⟨w.heap.size + 1, 0, none⟩ = some (.bool v1) ∧ w'.cell? ⟨w.heap.size + 1, 1, none⟩ = some (.int .u64 h2) ∧ w'.cell? ⟨w.heap.size + 1, 2, none⟩ = some (.int .u64 l2)) (go_keep) (first
      | (go_at_call 50; refine (HW.out _).mono ?_; rintro e w5 ⟨⟨hi', lo', rfl, hst⟩, hb3d⟩; have hb5 : Below w1.heap.size w1 w5 := ⟨hb3d.os, hb3d.tape, hb3d.output, hb3d.size, hb3d.block⟩; have hx5 := HX.out.kept hb5 HX.out.lt; have hy5 := HY.out.kept hb5 HY.out.lt; have j0 := hx5.c0; have j1 := hx5.c1; have j2 := hx5.c2; have j3 := hx5.c3; have i0 := hy5.c0; have i1 := hy5.c1; have i2 := hy5.c2; have qe := HQ.out hi' lo'))
    all_goals
      have HST := Lib.hid hst
      have HB5 := Lib.hid (HB.out.trans (hb5.mono HB.out.size))
      clear hst hb5 hx5 hy5 j0 j1 j2 j3 i0 i1 i2 qe p0 p1 p2 p3 y0 y1 y2
      go_wp2_with fail
      go_ret
      exact ⟨congrArg (fun b => Ending.returned (.bool b)) (HE.out hi' lo' HST.out), HB5.out⟩
  · have hv : (v1 == v2) = false := by simpa using e
    have HV := Lib.hid hv
    clear e hk
    go_enter Tryd.func38, Tryd.ntmps38
    go_wp2_with fail
    generalize (w.alloc (.cells #[.bool v1, .int .u64 h1, .int .u64 l1, .int .i64 k] 30)).alloc (.cells #[.bool v2, .int .u64 h2, .int .u64 l2] 25) = w1 at *
    have p0 := HX.out.c0
    have y0 := HY.out.c0
    go_quiet (fail)
    have HB5 := Lib.hid (below_drewN6 HB.out nq)
    go_wp2_with fail
    go_ret
    exact ⟨by rw [HV.out]; rfl, HB5.out⟩
end Go.Proofs.YtcblgbonijloiaaDoor

/- The free bits of a prefix, in plain numbers; contract of the program's freeBits. -/
namespace Go.Proofs.YtcblgbonijloiaaDoor
open Go.ChangeShapes Go.WideShapes Go.ChangeAt Go.RowKit
set_option linter.unusedVariables false

/-- How many free bits the upper and the lower half have. -/
def frH (v6 : Bool) (k : Nat) : Nat := (width v6 - k) - 64
def frL (v6 : Bool) (k : Nat) : Nat := min (width v6 - k) 64
/-- A number with its last k bits 0; 1. -/
def lowZ (k n : Nat) : Nat := n / 2 ^ k * 2 ^ k
def lowO (k n : Nat) : Nat := n / 2 ^ k * 2 ^ k + (2 ^ k - 1)
theorem frH_le (v6 : Bool) (k : Nat) : frH v6 k ≤ 64 := by unfold frH width; split <;> omega
theorem frL_le (v6 : Bool) (k : Nat) : frL v6 k ≤ 64 := by unfold frL; omega
theorem lowZ_le (k n : Nat) : lowZ k n ≤ n := Nat.div_mul_le_self _ _
theorem lowZ_tb (k n t : Nat) : (lowZ k n).testBit t = if t < k then false else n.testBit t := by
  have hc : lowZ k n = 2 ^ k * (n / 2 ^ k) + 0 := by unfold lowZ; rw [Nat.mul_comm]; rfl
  rw [hc, Nat.testBit_two_pow_mul_add _ (Nat.two_pow_pos k)]
  split
  · rw [Nat.zero_testBit]
  · rw [Nat.testBit_div_two_pow]; congr 1; omega
theorem lowZ_lowZ (k n : Nat) : lowZ k (lowZ k n) = lowZ k n := by
  unfold lowZ
  rw [Nat.mul_div_cancel _ (Nat.two_pow_pos _)]
theorem andNot64 (n k : Nat) (h : n < 18446744073709551616) (hk : k ≤ 64) : bits .andNot .u64 (n : Int) ((2 ^ k - 1 : Nat) : Int) = ((lowZ k n : Nat) : Int) := by
  have hp : 2 ^ k ≤ 2 ^ 64 := Nat.pow_le_pow_right (by omega) hk
  have h64 : (2 : Nat) ^ 64 = 18446744073709551616 := by decide
  have h0 := Nat.two_pow_pos k
  rw [u64_andNot_nat _ _ h (by omega)]
  congr 1
  apply Nat.eq_of_testBit_eq
  intro t
  rw [Nat.testBit_and, lowZ_tb]
  have e : 18446744073709551615 - (2 ^ k - 1) = 2 ^ k * (2 ^ (64 - k) - 1) + 0 := by
    have : 2 ^ k * 2 ^ (64 - k) = 2 ^ 64 := by rw [← Nat.pow_add]; congr 1; omega
    rw [Nat.mul_sub, this]; omega
  rw [e, Nat.testBit_two_pow_mul_add _ h0]
  split
  · rw [Nat.zero_testBit, Bool.and_false]
  · rw [Nat.testBit_two_pow_sub_one]
    by_cases ht : t < 64
    · rw [show decide (t - k < 64 - k) = true by simp; omega, Bool.and_true]
    · rw [Nat.testBit_lt_two_pow (i := t) (Nat.lt_of_lt_of_le (by rw [h64]; exact h) (Nat.pow_le_pow_right (by omega) (show 64 ≤ t by omega))), Bool.false_and]
theorem or64 (n k : Nat) (h : n < 18446744073709551616) (hk : k ≤ 64) (hz : lowZ k n = n) : bits .or .u64 (n : Int) ((2 ^ k - 1 : Nat) : Int) = ((lowO k n : Nat) : Int) := by
  have hp : 2 ^ k ≤ 2 ^ 64 := Nat.pow_le_pow_right (by omega) hk
  have h64 : (2 : Nat) ^ 64 = 18446744073709551616 := by decide
  have h0 := Nat.two_pow_pos k
  rw [u64_or_nat _ _ h (by omega)]
  congr 1
  have h1 := Nat.two_pow_add_eq_or_of_lt (i := k) (b := 2 ^ k - 1) (by omega) (n / 2 ^ k)
  unfold lowO
  rw [Nat.mul_comm, h1, Nat.mul_comm]
  show n ||| _ = lowZ k n ||| _
  rw [hz]
theorem lowO_lt {k n : Nat} (h : n < 18446744073709551616) (hk : k ≤ 64) : lowO k n < 18446744073709551616 := by
  have h64 : (2 : Nat) ^ 64 = 18446744073709551616 := by decide
  have := fillN_lt (w := 64) (bits := 64 - k) (n := n) (by omega) (by omega)
  unfold fillN cutN at this
  rw [show 64 - (64 - k) = k by omega] at this
  unfold lowO
  omega
/-- The two halves together. -/
theorem low_cut (v6 : Bool) (k : Nat) {hi lo : Nat} (h2 : lo < 18446744073709551616) : numA (lowZ (frH v6 k) hi) (lowZ (frL v6 k) lo) = cutN (width v6) k (numA hi lo) := by
  have h64 : (2 : Nat) ^ 64 = 18446744073709551616 := by decide
  unfold frH frL cutN lowZ numA
  generalize width v6 - k = f
  by_cases hf : f ≤ 64
  · rw [Nat.min_eq_left hf, show f - 64 = 0 by omega, Nat.pow_zero, Nat.div_one, Nat.mul_one]
    have e : 2 ^ 64 = 2 ^ (64 - f) * 2 ^ f := by rw [← Nat.pow_add]; congr 1; omega
    have h0 := Nat.two_pow_pos f
    rw [e]
    generalize 2 ^ f = q at *
    generalize 2 ^ (64 - f) = r at *
    have e3 : r * q * hi = r * hi * q := Nat.mul_right_comm r q hi
    rw [e3, Nat.add_comm (r * hi * q) lo, Nat.add_mul_div_right _ _ h0, Nat.add_mul]
    omega
  · rw [Nat.min_eq_right (by omega), h64, Nat.div_eq_of_lt h2, Nat.zero_mul, Nat.add_zero]
    have e : 2 ^ f = 2 ^ (f - 64) * 18446744073709551616 := by rw [← h64, ← Nat.pow_add]; congr 1; omega
    rw [e, Nat.mul_comm (2 ^ (f - 64)) 18446744073709551616, ← Nat.div_div_eq_div_mul, show (18446744073709551616 * hi + lo) / 18446744073709551616 = hi by omega, Nat.mul_left_comm]
theorem low_fill (v6 : Bool) (k : Nat) {hi lo : Nat} (h2 : lo < 18446744073709551616) : numA (lowO (frH v6 k) hi) (lowO (frL v6 k) lo) = fillN (width v6) k (numA hi lo) := by
  have h64 : (2 : Nat) ^ 64 = 18446744073709551616 := by decide
  have hc := low_cut v6 k (hi := hi) h2
  unfold fillN
  rw [← hc]
  unfold lowO numA lowZ
  have e : 2 ^ (width v6 - k) = 2 ^ frH v6 k * 2 ^ frL v6 k := by
    rw [← Nat.pow_add]; congr 1; unfold frH frL; omega
  rw [e]
  have a := Nat.two_pow_pos (frH v6 k)
  have b := Nat.two_pow_pos (frL v6 k)
  by_cases hf : frH v6 k = 0
  · rw [hf, Nat.pow_zero, Nat.div_one, Nat.mul_one, Nat.one_mul]
    clear h64 hc e a
    generalize 2 ^ frL v6 k = q at *
    generalize lo / q * q = z
    omega
  · have hl : frL v6 k = 64 := by unfold frH at hf; unfold frL; omega
    rw [hl, h64]
    clear h64 hc e b hl
    generalize 2 ^ frH v6 k = q at *
    generalize hi / q * q = z
    generalize lo / 18446744073709551616 = y
    omega
theorem shl64 {k : Nat} (hk : k ≤ 64) : IntKind.u64.wrap (IntKind.u64.wrap (2 ^ k) - 1) = ((2 ^ k - 1 : Nat) : Int) := by
  have h64 : (2 : Nat) ^ 64 = 18446744073709551616 := by decide
  have hp : 2 ^ k ≤ 2 ^ 64 := Nat.pow_le_pow_right (by omega) hk
  have h0 := Nat.two_pow_pos k
  have e : ((2 : Int) ^ k) = ((2 ^ k : Nat) : Int) := by simp
  rw [e]
  generalize (2 : Nat) ^ k = p at *
  by_cases hq : p = 18446744073709551616
  · subst hq; decide
  · rw [wrap_u64_in (n := (p : Int)) (by omega) (by omega), wrap_u64_in (by omega) (by omega)]
    omega
set_option maxHeartbeats 1000000 in
set_option maxRecDepth 20000 in
theorem qfree_any (v6 : Bool) (hi lo k : Nat) (w : World) (hk : k ≤ width v6) :
    Calls Tryd.prog 51 #[.agg #[.bool v6, .int .u64 hi, .int .u64 lo], .int .i64 k] w fun e w' => e = .returned (.tuple #[.int .u64 ((2 ^ frH v6 k - 1 : Nat) : Int), .int .u64 ((2 ^ frL v6 k - 1 : Nat) : Int)]) ∧ Below w.heap.size w w' := by
  have HWD := Lib.hid (fun W => qwidth_any v6 hi lo W)
  have HX := Lib.hid (ab_new w v6 hi lo)
  have HB := Lib.hid (below_alloc6 w (.cells #[.bool v6, .int .u64 hi, .int .u64 lo] 25))
  have e1 := shl64 (frH_le v6 k)
  have e2 := shl64 (frL_le v6 k)
  have hw : width v6 ≤ 128 := by unfold width; split <;> omega
  have q1 : max (((width v6 - k : Nat) : Int) - 64) 0 = ((frH v6 k : Nat) : Int) := by unfold frH; omega
  have q2 : min ((width v6 - k : Nat) : Int) 64 = ((frL v6 k : Nat) : Int) := by unfold frL; omega
  have q3 := frH_le v6 k
  have q4 := frL_le v6 k
  obtain ⟨f, hf⟩ : ∃ f, f = width v6 - k := ⟨_, rfl⟩
  rw [← hf] at q1 q2
  have hfi : ((width v6 : Nat) : Int) - (k : Int) = (f : Int) := by omega
  have hf128 : f ≤ 128 := by omega
  generalize frH v6 k = a at *
  generalize frL v6 k = b at *
  generalize width v6 = wd at *
  have HE1 := Lib.hid e1
  have HE2 := Lib.hid e2
  clear e1 e2 hf
  go_enter Tryd.func51, Tryd.ntmps51
  go_wp2_with fail
  refine (HWD.out _).mono ?_
  rintro e w2 ⟨rfl, hbw⟩
  have HB2 := Lib.hid (HB.out.trans (hbw.mono HB.out.size))
  clear hbw
  go_wp2_with fail
  go_quiet (fail)
  go_wp2_with fail
  go_ret2
  exact ⟨by rw [← HE1.out, ← HE2.out]; rfl, below_drewN6 HB2.out nq⟩
end Go.Proofs.YtcblgbonijloiaaDoor

/- Contracts of the program's layer 6: MakePrefix, Contains, ValidPrefix, Bounds. -/
namespace Go.Proofs.YtcblgbonijloiaaDoor
open Go.ChangeShapes Go.WideShapes Go.ChangeAt Go.RowKit
set_option linter.unusedVariables false

set_option maxRecDepth 20000 in
theorem qmake_bad (v6 : Bool) (hi lo : Nat) (bits : Int) (w : World) (hb : bits < 0 ∨ (width v6 : Int) < bits) :
    Calls Tryd.prog 19 #[.agg #[.bool v6, .int .u64 hi, .int .u64 lo], .int .i64 bits] w fun e w' => e = .returned (.tuple #[.agg #[.bool false, .int .u64 0, .int .u64 0, .int .i64 0], .int .i64 4]) ∧ Below w.heap.size w w' := by
  have HWD := Lib.hid (fun W => qwidth_any v6 hi lo W)
  have HX := Lib.hid (ab_new w v6 hi lo |>.kept (below_alloc6 _ (.cells #[.bool false, .int .u64 0, .int .u64 0, .int .i64 0] 30)) (alloc_lt6 w _))
  have HR := Lib.hid (pb2 w (.cells #[.bool v6, .int .u64 hi, .int .u64 lo] 25) false 0 0 0)
  have HB := Lib.hid (below2 w (.cells #[.bool v6, .int .u64 hi, .int .u64 lo] 25) (.cells #[.bool false, .int .u64 0, .int .u64 0, .int .i64 0] 30))
  by_cases c : bits < 0
  · have d : decide (bits < 0) = true := by simpa using c
    clear hb c
    go_enter Tryd.func19, Tryd.ntmps19
    go_wp2_with fail
    exact bodyPost_ret (res_pfx2 rfl _ _ rfl HR.out) rfl ⟨rfl, HB.out⟩
  · have d : decide (bits < 0) = false := by simpa using c
    have d2 : decide ((width v6 : Int) < bits) = true := by simp; omega
    obtain ⟨wd, hwd⟩ : ∃ wd, wd = width v6 := ⟨_, rfl⟩
    rw [← hwd] at d2 HWD
    have hlt : (wd : Int) < bits := by simpa using d2
    clear hb hwd
    go_enter Tryd.func19, Tryd.ntmps19
    go_wp2_with fail
    refine (HWD.out _).mono ?_
    rintro e w2 ⟨rfl, hb⟩
    have HR2 := Lib.hid (HR.out.kept hb HR.out.lt)
    have HB2 := Lib.hid (HB.out.trans (hb.mono HB.out.size))
    have r0 := HR2.out.c0
    have r1 := HR2.out.c1
    have r2 := HR2.out.c2
    have r3 := HR2.out.c3
    have rf0 := HR2.out.f 0
    have rf1 := HR2.out.f 1
    have rf2 := HR2.out.f 2
    have rf3 := HR2.out.f 3
    clear hb
    go_wp2_with fail
    change bodyPost _ _ _ _ _ (pset w2 (w.heap.size + 1) false 0 0 0)
    exact bodyPost_ret (res_pfx2 rfl _ _ rfl (HR2.out.set false 0 0 0)) rfl ⟨rfl, pset_below HB2.out (Nat.le_succ _) false 0 0 0⟩
/-- What MakePrefix makes: the two halves with the free bits 0. -/
def mkH (v6 : Bool) (k hi : Nat) : Nat := lowZ (frH v6 k) hi
def mkL (v6 : Bool) (k lo : Nat) : Nat := lowZ (frL v6 k) lo
set_option maxHeartbeats 1000000 in
set_option maxRecDepth 20000 in
theorem qmake_ok (v6 : Bool) (hi lo k : Nat) (w : World) (h1 : hi < 18446744073709551616) (h2 : lo < 18446744073709551616) (hb : k ≤ width v6) :
    Calls Tryd.prog 19 #[.agg #[.bool v6, .int .u64 hi, .int .u64 lo], .int .i64 k] w fun e w' => e = .returned (.tuple #[.agg #[.bool v6, .int .u64 (mkH v6 k hi : Nat), .int .u64 (mkL v6 k lo : Nat), .int .i64 k], .int .i64 0]) ∧ Below w.heap.size w w' := by
  have HWD := Lib.hid (fun W => qwidth_any v6 hi lo W)
  have HFR := Lib.hid (fun W => qfree_any v6 hi lo k W hb)
  have HN1 := andNot64 hi (frH v6 k) h1 (frH_le v6 k)
  have HN2 := andNot64 lo (frL v6 k) h2 (frL_le v6 k)
  have HX := Lib.hid (ab_new w v6 hi lo |>.kept (below_alloc6 _ (.cells #[.bool false, .int .u64 0, .int .u64 0, .int .i64 0] 30)) (alloc_lt6 w _))
  have HR := Lib.hid (pb2 w (.cells #[.bool v6, .int .u64 hi, .int .u64 lo] 25) false 0 0 0)
  have HB := Lib.hid (below2 w (.cells #[.bool v6, .int .u64 hi, .int .u64 lo] 25) (.cells #[.bool false, .int .u64 0, .int .u64 0, .int .i64 0] 30))
  have d : decide ((k : Int) < 0) = false := by simp
  unfold mkH mkL
  generalize lowZ (frH v6 k) hi = hi' at *
  generalize lowZ (frL v6 k) lo = lo' at *
  generalize 2 ^ frH v6 k - 1 = p at *
  generalize 2 ^ frL v6 k - 1 = q at *
  obtain ⟨wd, hwd⟩ : ∃ wd, wd = width v6 := ⟨_, rfl⟩
  rw [← hwd] at hb HWD
  have d2 : decide ((wd : Int) < (k : Int)) = false := by simp; omega
  have d3 : ¬ (wd : Int) < (k : Int) := by omega
  have hk : k ≤ 128 := by unfold width at hwd; split at hwd <;> omega
  clear hwd
  go_enter Tryd.func19, Tryd.ntmps19
  go_wp2_with fail
  refine (HWD.out _).mono ?_
  rintro e w2 ⟨rfl, hbw⟩
  have HX2 := Lib.hid (HX.out.kept hbw HX.out.lt)
  have HR2 := Lib.hid (HR.out.kept hbw HR.out.lt)
  have HB2 := Lib.hid (HB.out.trans (hbw.mono HB.out.size))
  have x0 := HX2.out.c0
  have x1 := HX2.out.c1
  have x2 := HX2.out.c2
  clear hbw HX HR HB
  go_wp2_with fail
  refine (HFR.out _).mono ?_
  rintro e w3 ⟨rfl, hbw⟩
  have HX3 := Lib.hid (HX2.out.kept hbw HX2.out.lt)
  have HR3 := Lib.hid (HR2.out.kept hbw HR2.out.lt)
  have HB3 := Lib.hid (HB2.out.trans (hbw.mono HB2.out.size))
  clear hbw HX2 HR2 HB2 x0 x1 x2
  have x0 := HX3.out.c0
  have x1 := HX3.out.c1
  have x2 := HX3.out.c2
  have xf1 := HX3.out.f 1
  have xf2 := HX3.out.f 2
  have r0 := HR3.out.c0
  have r1 := HR3.out.c1
  have r2 := HR3.out.c2
  have r3 := HR3.out.c3
  have rf0 := HR3.out.f 0
  have rf1 := HR3.out.f 1
  have rf2 := HR3.out.f 2
  have rf3 := HR3.out.f 3
  have HW4 := Lib.hid (((HR3.out.far (b := w.heap.size) (i := 1) (by omega) (.int .u64 hi')).far (b := w.heap.size) (i := 2) (by omega) (.int .u64 lo')))
  have HB4 := Lib.hid ((HB3.out.setCell (p := ⟨w.heap.size, 1, none⟩) (Nat.le_refl _) (.int .u64 hi')).setCell (p := ⟨w.heap.size, 2, none⟩) (Nat.le_refl _) (.int .u64 lo'))
  go_wp2_with fail
  change bodyPost _ _ _ _ _ (pset ((w3.setCell ⟨w.heap.size, 1, none⟩ (.int .u64 hi')).setCell ⟨w.heap.size, 2, none⟩ (.int .u64 lo')) (w.heap.size + 1) v6 hi' lo' k)
  exact bodyPost_ret (res_pfx2 rfl _ _ rfl (HW4.out.set v6 hi' lo' k)) rfl ⟨rfl, pset_below HB4.out (Nat.le_succ _) v6 hi' lo' k⟩
end Go.Proofs.YtcblgbonijloiaaDoor

/- Contracts of the program's layer 6: Contains, ValidPrefix. -/
namespace Go.Proofs.YtcblgbonijloiaaDoor
open Go.ChangeShapes Go.WideShapes Go.ChangeAt Go.RowKit
set_option linter.unusedVariables false

/-- '==' of two prefixes. -/
theorem pfx_guard : Tryd.prog.eqGuardType Tryd.prog.depth 30 = false := by kernel_rfl
theorem pfx_eql (b b' : Bool) (h h' l l' k k' : Int) (W : World) :
    (binOp .eql 30 (.agg #[.bool b, .int .u64 h, .int .u64 l, .int .i64 k]) (.agg #[.bool b', .int .u64 h', .int .u64 l', .int .i64 k'])).run Tryd.prog W = .ok (.bool (b == b' && (h == h' && (l == l' && k == k')))) W := by
  have u3 := Tryd.underlying23
  have a3 := Tryd.isAgg23
  have z3 := Tryd.sizeOf23
  have u2 := Tryd.underlying3
  have a2 := Tryd.isAgg3
  have z2 := Tryd.sizeOf3
  have u9 := Tryd.underlying4
  have a9 := Tryd.isAgg4
  have z9 := Tryd.sizeOf4
  have u8 := Tryd.underlying25
  have a8 := Tryd.isAgg25
  have z8 := Tryd.sizeOf25
  have hS : Tryd.prog.underlying 30 = some (.struct (Tryd.prog.fieldsOf 30)) := by kernel_rfl
  have hp : Tryd.prog.stoodInHeld 30 = false := by kernel_rfl
  have hS2 : Tryd.prog.underlying 25 = some (.struct (Tryd.prog.fieldsOf 25)) := by kernel_rfl
  have hp2 : Tryd.prog.stoodInHeld 25 = false := by kernel_rfl
  rw [run_eql_struct, show (10000 : Nat) = 9999 + 1 from rfl, run_equalIn_agg W 9999 30 _ _ hS hp]
  simp only [Program.fieldsOf, Tryd.underlying30]
  go_simp
  cases h1 : (b == b') <;> cases h2 : (h == h') <;> cases h3 : (l == l') <;> cases h4 : (k == k') <;> simp_all
/-- Is an address in a prefix? By the tests of the program. -/
def cntB (v1 : Bool) (h1 l1 : Nat) (k : Int) (v2 : Bool) (h2 l2 : Nat) : Bool :=
  decide (0 ≤ k ∧ k ≤ (width v2 : Nat)) && (v2 == v1 && (((mkH v2 k.toNat h2 : Nat) : Int) == (h1 : Int) && ((mkL v2 k.toNat l2 : Nat) : Int) == (l1 : Int)))
theorem below3 (w : World) (a b c : Obj) : Below w.heap.size w (((w.alloc a).alloc b).alloc c) := (below2 w a b).trans ((below_alloc6 _ c).mono (by simp; omega))
set_option maxHeartbeats 1000000 in
set_option maxRecDepth 20000 in
theorem qcont_any (v1 : Bool) (h1 l1 : Nat) (k : Int) (v2 : Bool) (h2 l2 : Nat) (w : World) (b1 : h2 < 18446744073709551616) (b2 : l2 < 18446744073709551616) :
    Calls Tryd.prog 37 #[.agg #[.bool v1, .int .u64 h1, .int .u64 l1, .int .i64 k], .agg #[.bool v2, .int .u64 h2, .int .u64 l2]] w fun e w' => e = .returned (.bool (cntB v1 h1 l1 k v2 h2 l2)) ∧ Below w.heap.size w w' := by
  have hm := pfx_guard
  have HX := Lib.hid (pb_new w v1 h1 l1 k |>.kept (below_alloc6 _ (.cells #[.bool v2, .int .u64 h2, .int .u64 l2] 25)) (alloc_lt6 w _))
  have HY := Lib.hid (ab2 w (.cells #[.bool v1, .int .u64 h1, .int .u64 l1, .int .i64 k] 30) v2 h2 l2)
  have HB := Lib.hid (below2 w (.cells #[.bool v1, .int .u64 h1, .int .u64 l1, .int .i64 k] 30) (.cells #[.bool v2, .int .u64 h2, .int .u64 l2] 25))
  by_cases c : 0 ≤ k ∧ k ≤ (width v2 : Nat)
  · obtain ⟨n, rfl⟩ := Int.eq_ofNat_of_zero_le c.1
    have HM := Lib.hid (fun W => qmake_ok v2 h2 l2 n W b1 b2 (by have := c.2; omega))
    have hr : cntB v1 h1 l1 n v2 h2 l2 = (v2 == v1 && (((mkH v2 n h2 : Nat) : Int) == (h1 : Int) && ((mkL v2 n l2 : Nat) : Int) == (l1 : Int))) := by
      unfold cntB
      rw [decide_eq_true c, Bool.true_and]
      rfl
    rw [hr]
    have qe := fun W => pfx_eql v2 v1 (mkH v2 n h2 : Nat) h1 (mkL v2 n l2 : Nat) l1 n n W
    rw [beq_self_eq_true, Bool.and_true] at qe
    generalize mkH v2 n h2 = hi' at *
    generalize mkL v2 n l2 = lo' at *
    generalize (v2 == v1 && ((hi' : Int) == (h1 : Int) && (lo' : Int) == (l1 : Int))) = z at *
    clear c hr
    go_enter Tryd.func37, Tryd.ntmps37
    go_wp2_with fail
    refine (HM.out _).mono ?_
    rintro e w3 ⟨rfl, hb⟩
    have HX3 := Lib.hid (HX.out.kept hb HX.out.lt)
    have HB3 := Lib.hid (HB.out.trans (hb.mono HB.out.size))
    clear hb
    have x0 := HX3.out.c0
    have x1 := HX3.out.c1
    have x2 := HX3.out.c2
    have x3 := HX3.out.c3
    have hgl := HX3.out.lt
    cases z with
    | true =>
      go_wp2_with fail
      go_ret
      exact ⟨rfl, HB3.out.trans ((below_alloc6 _ _).mono HB3.out.size)⟩
    | false =>
      go_wp2_with fail
      go_ret
      exact ⟨rfl, HB3.out.trans ((below_alloc6 _ _).mono HB3.out.size)⟩
  · have hr : cntB v1 h1 l1 k v2 h2 l2 = false := by
      unfold cntB
      rw [decide_eq_false c, Bool.false_and]
    rw [hr]
    have HM := Lib.hid (fun W => qmake_bad v2 h2 l2 k W (by omega))
    clear c hr
    go_enter Tryd.func37, Tryd.ntmps37
    go_wp2_with fail
    refine (HM.out _).mono ?_
    rintro e w3 ⟨rfl, hb⟩
    have HB3 := Lib.hid (HB.out.trans (hb.mono HB.out.size))
    clear hb
    go_wp2_with fail
    go_ret
    exact ⟨rfl, HB3.out.trans ((below_alloc6 _ _).mono HB3.out.size)⟩
/-- Is a struct a prefix? -/
def vldP (v6 : Bool) (hi lo : Nat) (k : Int) : Bool := vldA v6 hi lo && cntB v6 hi lo k v6 hi lo
set_option maxHeartbeats 1000000 in
set_option maxRecDepth 20000 in
theorem qvalidp_any (v6 : Bool) (hi lo : Nat) (k : Int) (w : World) (b1 : hi < 18446744073709551616) (b2 : lo < 18446744073709551616) :
    Calls Tryd.prog 17 #[.agg #[.bool v6, .int .u64 hi, .int .u64 lo, .int .i64 k]] w fun e w' => e = .returned (.bool (vldP v6 hi lo k)) ∧ Below w.heap.size w w' := by
  have HX := Lib.hid (pb_new w v6 hi lo k)
  have HB := Lib.hid (below_alloc6 w (.cells #[.bool v6, .int .u64 hi, .int .u64 lo, .int .i64 k] 30))
  have HV := Lib.hid (fun W => qvalid_any v6 hi lo W)
  have HC := Lib.hid (fun W => qcont_any v6 hi lo k v6 hi lo W b1 b2)
  unfold vldP
  generalize vldA v6 hi lo = a at *
  generalize cntB v6 hi lo k v6 hi lo = b at *
  go_enter Tryd.func17, Tryd.ntmps17
  go_wp2_with fail
  refine (HV.out _).mono ?_
  rintro e w3 ⟨rfl, hb⟩
  have HX3 := Lib.hid (HX.out.kept hb HX.out.lt)
  have HB3 := Lib.hid (HB.out.trans (hb.mono HB.out.size))
  clear hb HX HB
  have x0 := HX3.out.c0
  have x1 := HX3.out.c1
  have x2 := HX3.out.c2
  have x3 := HX3.out.c3
  cases a with
  | true =>
    go_wp2_with fail
    refine (HC.out _).mono ?_
    rintro e w4 ⟨rfl, hb⟩
    have HB4 := Lib.hid (HB3.out.trans (hb.mono HB3.out.size))
    clear hb
    go_wp2_with fail
    go_ret
    exact ⟨rfl, HB4.out⟩
  | false =>
    go_wp2_with fail
    go_ret
    exact ⟨rfl, HB3.out⟩
end Go.Proofs.YtcblgbonijloiaaDoor

/- Contracts of the program's layer 6: Bounds. -/
namespace Go.Proofs.YtcblgbonijloiaaDoor
open Go.ChangeShapes Go.WideShapes Go.ChangeAt Go.RowKit
set_option linter.unusedVariables false

/-- A range in a box. -/
def RB (w : World) (g : Nat) (v1 : Bool) (h1 l1 : Nat) (v2 : Bool) (h2 l2 : Nat) : Prop := Cells w g 40 #[.bool v1, .int .u64 h1, .int .u64 l1, .bool v2, .int .u64 h2, .int .u64 l2]
theorem rb_new (w : World) (v1 : Bool) (h1 l1 : Nat) (v2 : Bool) (h2 l2 : Nat) : RB (w.alloc (.cells #[.bool v1, .int .u64 h1, .int .u64 l1, .bool v2, .int .u64 h2, .int .u64 l2] 40)) w.heap.size v1 h1 l1 v2 h2 l2 := heap_alloc_new w _
theorem RB.kept {w w' : World} {g B : Nat} {v1 : Bool} {h1 l1 : Nat} {v2 : Bool} {h2 l2 : Nat} (h : RB w g v1 h1 l1 v2 h2 l2) (hb : Below B w w') (hg : g < B) : RB w' g v1 h1 l1 v2 h2 l2 := (hb.block _ hg).trans h
theorem RB.lt {w : World} {g : Nat} {v1 : Bool} {h1 l1 : Nat} {v2 : Bool} {h2 l2 : Nat} (h : RB w g v1 h1 l1 v2 h2 l2) : g < w.heap.size := Cells.lt h
theorem RB.f {w : World} {g : Nat} {v1 : Bool} {h1 l1 : Nat} {v2 : Bool} {h2 l2 : Nat} (h : RB w g v1 h1 l1 v2 h2 l2) (i : Nat) : w.frozen? ⟨g, i, none⟩ = false := Cells.frozen h i
theorem RB.c {w : World} {g : Nat} {v1 : Bool} {h1 l1 : Nat} {v2 : Bool} {h2 l2 : Nat} (h : RB w g v1 h1 l1 v2 h2 l2) (i : Nat) : w.cell? ⟨g, i, none⟩ = #[Value.bool v1, .int .u64 h1, .int .u64 l1, .bool v2, .int .u64 h2, .int .u64 l2][i]? := Cells.cell h i
theorem rng_size : (Tryd.prog.info? 40).map (·.size) = some 6 := by kernel_rfl
theorem res_rng1 {fn : Func} {p : Tmp} (h : fn.results = #[.cell p 40]) (tmps : Array Value) (w : World) {g : Nat} {v1 : Bool} {h1 l1 : Nat} {v2 : Bool} {h2 l2 : Nat} (hp : tmps.getD p undef = .pointer (some ⟨g, 0, none⟩)) (ht : RB w g v1 h1 l1 v2 h2 l2) :
    (results fn tmps).run Tryd.prog w = .ok (.agg #[.bool v1, .int .u64 h1, .int .u64 l1, .bool v2, .int .u64 h2, .int .u64 l2]) w := by
  have hp' : tmps[p]?.getD undef = .pointer (some ⟨g, 0, none⟩) := by simpa using hp
  simp [results, h, hp', asAddr, run_loadVar_row w g 40 40 _ (0, 0) _ ht Tryd.underlying40 rfl rng_size]
/-- The six stores of a range. -/
def rset (w : World) (g : Nat) (v1 : Bool) (h1 l1 : Nat) (v2 : Bool) (h2 l2 : Nat) : World := (((((w.setCell ⟨g, 0, none⟩ (.bool v1)).setCell ⟨g, 1, none⟩ (.int .u64 h1)).setCell ⟨g, 2, none⟩ (.int .u64 l1)).setCell ⟨g, 3, none⟩ (.bool v2)).setCell ⟨g, 4, none⟩ (.int .u64 h2)).setCell ⟨g, 5, none⟩ (.int .u64 l2)
theorem RB.set {w : World} {g : Nat} {a1 : Bool} {a2 a3 : Nat} {a4 : Bool} {a5 a6 : Nat} (h : RB w g a1 a2 a3 a4 a5 a6) (v1 : Bool) (h1 l1 : Nat) (v2 : Bool) (h2 l2 : Nat) : RB (rset w g v1 h1 l1 v2 h2 l2) g v1 h1 l1 v2 h2 l2 := by
  have j0 := Cells.set h 0 (.bool v1)
  have j1 := Cells.set j0 1 (.int .u64 h1)
  have j2 := Cells.set j1 2 (.int .u64 l1)
  have j3 := Cells.set j2 3 (.bool v2)
  have j4 := Cells.set j3 4 (.int .u64 h2)
  have j5 := Cells.set j4 5 (.int .u64 l2)
  exact j5
theorem rset_below {B : Nat} {a w : World} {g : Nat} (h : Below B a w) (hg : B ≤ g) (v1 : Bool) (h1 l1 : Nat) (v2 : Bool) (h2 l2 : Nat) : Below B a (rset w g v1 h1 l1 v2 h2 l2) := (((((h.setCell hg _).setCell hg _).setCell hg _).setCell hg _).setCell hg _).setCell hg _
theorem vldP_out {v6 : Bool} {hi lo k : Nat} (h : vldP v6 hi lo k = true) : vldA v6 hi lo = true ∧ k ≤ width v6 ∧ mkH v6 k hi = hi ∧ mkL v6 k lo = lo := by
  unfold vldP cntB at h
  rw [Bool.and_eq_true, Bool.and_eq_true, Bool.and_eq_true, Bool.and_eq_true, decide_eq_true_eq, beq_iff_eq, beq_iff_eq, beq_iff_eq, Int.toNat_natCast] at h
  obtain ⟨a, ⟨_, b⟩, _, c, d⟩ := h
  exact ⟨a, by omega, by omega, by omega⟩
set_option maxHeartbeats 1000000 in
set_option maxRecDepth 20000 in
theorem qbounds_any (v6 : Bool) (hi lo k : Nat) (w : World) (b1 : hi < 18446744073709551616) (b2 : lo < 18446744073709551616) (hv : vldP v6 hi lo k = true) :
    Calls Tryd.prog 27 #[.agg #[.bool v6, .int .u64 hi, .int .u64 lo, .int .i64 k]] w fun e w' => e = .returned (.agg #[.bool v6, .int .u64 hi, .int .u64 lo, .bool v6, .int .u64 (lowO (frH v6 k) hi : Nat), .int .u64 (lowO (frL v6 k) lo : Nat)]) ∧ Below w.heap.size w w' := by
  obtain ⟨a1, a2, a3, a4⟩ := vldP_out hv
  have HX := Lib.hid (pb_new w v6 hi lo k |>.kept (below_alloc6 _ (.cells #[.bool false, .int .u64 0, .int .u64 0, .bool false, .int .u64 0, .int .u64 0] 40)) (alloc_lt6 w _))
  have HR := Lib.hid (show RB ((w.alloc (.cells #[.bool v6, .int .u64 hi, .int .u64 lo, .int .i64 k] 30)).alloc (.cells #[.bool false, .int .u64 0, .int .u64 0, .bool false, .int .u64 0, .int .u64 0] 40)) (w.heap.size + 1) false 0 0 false 0 0 from by
    have := rb_new (w.alloc (.cells #[.bool v6, .int .u64 hi, .int .u64 lo, .int .i64 k] 30)) false 0 0 false 0 0
    rwa [show (w.alloc (.cells #[.bool v6, .int .u64 hi, .int .u64 lo, .int .i64 k] 30)).heap.size = w.heap.size + 1 by simp] at this)
  have HB := Lib.hid (below2 w (.cells #[.bool v6, .int .u64 hi, .int .u64 lo, .int .i64 k] 30) (.cells #[.bool false, .int .u64 0, .int .u64 0, .bool false, .int .u64 0, .int .u64 0] 40))
  have HV := Lib.hid (fun W => qvalidp_any v6 hi lo k W b1 b2)
  have HF := Lib.hid (fun W => qfree_any v6 hi lo k W a2)
  rw [hv] at HV
  have HO1 := or64 hi (frH v6 k) b1 (frH_le v6 k) a3
  have HO2 := or64 lo (frL v6 k) b2 (frL_le v6 k) a4
  generalize lowO (frH v6 k) hi = hi' at *
  generalize lowO (frL v6 k) lo = lo' at *
  generalize 2 ^ frH v6 k - 1 = p at *
  generalize 2 ^ frL v6 k - 1 = q at *
  clear a1 a2 a3 a4 hv b1 b2
  go_enter Tryd.func27, Tryd.ntmps27
  go_wp2_with fail
  refine (HV.out _).mono ?_
  rintro e w2 ⟨rfl, hb⟩
  have HX2 := Lib.hid (HX.out.kept hb HX.out.lt)
  have HR2 := Lib.hid (HR.out.kept hb HR.out.lt)
  have HB2 := Lib.hid (HB.out.trans (hb.mono HB.out.size))
  clear hb HX HR HB
  have x0 := HX2.out.c0
  have x1 := HX2.out.c1
  have x2 := HX2.out.c2
  have x3 := HX2.out.c3
  go_wp2_with fail
  refine (HF.out _).mono ?_
  rintro e w3 ⟨rfl, hb⟩
  have HX3 := Lib.hid (HX2.out.kept hb HX2.out.lt)
  have HR3 := Lib.hid (HR2.out.kept hb HR2.out.lt)
  have HB3 := Lib.hid (HB2.out.trans (hb.mono HB2.out.size))
  clear hb HX2 HR2 HB2 x0 x1 x2 x3
  have x0 := HX3.out.c0
  have x1 := HX3.out.c1
  have x2 := HX3.out.c2
  have x3 := HX3.out.c3
  have hgx := HX3.out.lt
  have hgr := HR3.out.lt
  have r0 : w3.cell? ⟨w.heap.size + 1, 0, none⟩ = some (.bool false) := (HR3.out.c 0).trans rfl
  have r1 : w3.cell? ⟨w.heap.size + 1, 1, none⟩ = some (.int .u64 0) := (HR3.out.c 1).trans rfl
  have r2 : w3.cell? ⟨w.heap.size + 1, 2, none⟩ = some (.int .u64 0) := (HR3.out.c 2).trans rfl
  have r3 : w3.cell? ⟨w.heap.size + 1, 3, none⟩ = some (.bool false) := (HR3.out.c 3).trans rfl
  have r4 : w3.cell? ⟨w.heap.size + 1, 4, none⟩ = some (.int .u64 0) := (HR3.out.c 4).trans rfl
  have r5 : w3.cell? ⟨w.heap.size + 1, 5, none⟩ = some (.int .u64 0) := (HR3.out.c 5).trans rfl
  have f0 := HR3.out.f 0
  have f1 := HR3.out.f 1
  have f2 := HR3.out.f 2
  have f3 := HR3.out.f 3
  have f4 := HR3.out.f 4
  have f5 := HR3.out.f 5
  go_wp2_with fail
  have HR4 := HR3.out.set v6 hi lo v6 hi' lo'
  have HB4 := rset_below HB3.out (g := w.heap.size + 1) (Nat.le_succ _) v6 hi lo v6 hi' lo'
  change bodyPost _ _ _ _ _ ((rset w3 (w.heap.size + 1) v6 hi lo v6 hi' lo').alloc _)
  exact bodyPost_ret (res_rng1 rfl _ _ rfl (HR4.kept (below_alloc6 _ _) HR4.lt)) rfl ⟨rfl, HB4.trans ((below_alloc6 _ _).mono HB4.size)⟩
end Go.Proofs.YtcblgbonijloiaaDoor

/- A region that draws its order, whose calls make memory and whose guards may be false: one walk of the lexical order, over any class of worlds (Deep/Quiet's law), the class written as the worlds 'p u' of a function p. -/
namespace Go.Proofs.YtcblgbonijloiaaDoor
open Go.ChangeShapes Go.WideShapes Go.ChangeAt Go.RowKit
set_option linter.unusedVariables false

theorem wp_region_pick {P : Program} {id : Nat} {Q : Exit → Act → World → Prop} {a : Act} {w : World} {l : List Oper} (S : World → Prop) (hm : P.follows .mixedOrders = true) (hB : Region.lexB .any l.toArray = true) (hS : S w) (hD : S { w with drawn := w.drawn + 1 })
    (h : ∀ p : World → World, (∀ u, S (p u)) → (∀ W, S W → ∃ u, W = p u) → wpQuiet P l.toArray (fun w' => ∃ u, w' = p u) (fun a' => ∀ w', (∃ u, w' = p u) → Q .normal a' w') l a) : (Code.region id l.toArray true).wp P Q a w := by
  classical
  have h1 : ∀ u, S ((fun u => if S u then u else w) u) := fun u => by
    show S (if S u then u else w)
    split
    · assumption
    · exact hS
  have h2 : ∀ W, S W → ∃ u, W = (fun u => if S u then u else w) u := fun W hW => ⟨W, by show W = if S W then W else w; rw [if_pos hW]⟩
  exact wp_region_quiet (C := fun w' => ∃ u, w' = (fun u => if S u then u else w) u) hm hB (h2 _ hD) (by simpa using h _ h1 h2)
/-- A callee's contract, met in a world of the class. -/
theorem Calls.pick_of {P : Program} {f : FuncId} {args : Array Value} {S : World → Prop} {p : World → World} {u : World} {v : Value} (hq : ∀ W, S W → ∃ u, W = p u) (hs : ∀ W', Below (p u).heap.size (p u) W' → S W')
    (h : Calls P f args (p u) fun e w' => e = .returned v ∧ Below (p u).heap.size (p u) w') : Calls P f args (p u) fun e w'' => e = .returned v ∧ ∃ u', w'' = p u' :=
  h.mono fun _ _ ⟨he, hb⟩ => ⟨he, hq _ (hs _ hb)⟩
end Go.Proofs.YtcblgbonijloiaaDoor
