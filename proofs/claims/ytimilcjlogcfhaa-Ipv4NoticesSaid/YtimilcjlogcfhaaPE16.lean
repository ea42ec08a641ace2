/- Contracts of the functions, part 16: AdqObj, Ip4PNum. -/
import Derived.Test.YtimilcjlogcfhaaPE14
import Derived.Test.YtimilcjlogcfhaaPE15
/- Contracts of the program's layer 6: Valid, width, first, isBefore, Compare. -/
namespace Go.Proofs.Ytimilcjlogcfhaa
open Go.ChangeShapes Go.WideShapes Go.ChangeAt Go.RowKit
set_option linter.unusedVariables false

set_option maxRecDepth 20000 in
theorem qvalid_any (v6 : Bool) (hi lo : Nat) (w : World) :
    Calls Try.prog 72 #[.agg #[.bool v6, .int .u64 hi, .int .u64 lo]] w fun e w' => e = .returned (.bool (vldA v6 hi lo)) ∧ Below w.heap.size w w' := by
  have HB := Lib.hid (below_alloc6 w (.cells #[.bool v6, .int .u64 hi, .int .u64 lo] 25))
  obtain ⟨R, hR⟩ : ∃ R, R = vldA v6 hi lo := ⟨_, rfl⟩
  rw [← hR]
  unfold vldA at hR
  cases v6 with
  | true =>
    obtain rfl : R = true := by rw [hR]; rfl
    clear hR
    go_enter Try.func72, Try.ntmps72
    go_wp2_with fail
    go_ret
    exact ⟨rfl, HB.out⟩
  | false =>
    by_cases h0 : hi = 0
    · have d0 : ((hi : Int) == 0) = true := by simp; omega
      by_cases h1 : lo < 4294967296
      · obtain rfl : R = true := by rw [hR, h0]; simpa using h1
        have d1 : decide ((lo : Int) < 4294967296) = true := by simp; omega
        clear hR h0
        go_enter Try.func72, Try.ntmps72
        go_wp2_with fail
        go_ret
        exact ⟨rfl, HB.out⟩
      · obtain rfl : R = false := by rw [hR, h0]; simpa using h1
        have d1 : decide ((lo : Int) < 4294967296) = false := by simp; omega
        clear hR h0
        go_enter Try.func72, Try.ntmps72
        go_wp2_with fail
        go_ret
        exact ⟨rfl, HB.out⟩
    · obtain rfl : R = false := by rw [hR]; simp [h0]
      have d0 : ((hi : Int) == 0) = false := by simp; omega
      clear hR
      go_enter Try.func72, Try.ntmps72
      go_wp2_with fail
      go_ret
      exact ⟨rfl, HB.out⟩
/-- Is an address ahead of another? By the tests of the program. -/
def befB (b1 b2 p q r : Bool) : Bool := if b1 == b2 then (if q then r else p) else b2
theorem cmpB_before (b1 b2 p q r s : Bool) (hp : ¬ (p = true ∧ q = true)) : cmpB b1 b2 p q r s = if (b1 == b2 && (q && s)) = true then 0 else if befB b1 b2 p q r = true then -1 else 1 := by
  cases b1 <;> cases b2 <;> cases p <;> cases q <;> cases r <;> cases s <;> first | rfl | (exact absurd ⟨rfl, rfl⟩ hp)
end Go.Proofs.Ytimilcjlogcfhaa

/- Contracts of the program of layer 11: isUpTo, isAddr, place, Fragment. -/
namespace Go.Proofs.Ytimilcjlogcfhaa
open Go.ChangeShapes Go.WideShapes Go.ChangeAt Go.RowKit
set_option linter.unusedVariables false

theorem pupto11_any (n l : Int) (w : World) : Calls Try.prog 59 #[.int .i64 n, .int .i64 l] w fun e w' => e = .returned (.bool (decide (0 ≤ n ∧ n ≤ l))) ∧ w = w' := by
  by_cases h1 : 0 ≤ n
  · by_cases h2 : n ≤ l
    · have d1 : decide (0 ≤ n) = true := by simp; omega
      have d2 : decide (n ≤ l) = true := by simp; omega
      rw [show decide (0 ≤ n ∧ n ≤ l) = true by simp; omega]
      go_enter Try.func59, Try.ntmps59
      go_wp2_with fail
      go_ret
      exact ⟨rfl, rfl⟩
    · have d1 : decide (0 ≤ n) = true := by simp; omega
      have d2 : decide (n ≤ l) = false := by simp; omega
      rw [show decide (0 ≤ n ∧ n ≤ l) = false by simp; omega]
      go_enter Try.func59, Try.ntmps59
      go_wp2_with fail
      go_ret
      exact ⟨rfl, rfl⟩
  · have d1 : decide (0 ≤ n) = false := by simp; omega
    rw [show decide (0 ≤ n ∧ n ≤ l) = false by simp; omega]
    go_enter Try.func59, Try.ntmps59
    go_wp2_with fail
    go_ret
    exact ⟨rfl, rfl⟩
theorem vld_a4q (hi lo : Nat) : vldA false hi lo = decide (a4 ⟨false, hi, lo⟩) := by rw [← vld_a4]; simp
theorem not_a4 (hi lo : Nat) : decide (a4 ⟨true, hi, lo⟩) = false := decide_eq_false (fun h => by cases h.1)
set_option maxHeartbeats 2000000 in
set_option maxRecDepth 20000 in
theorem paddr11_any (v6 : Bool) (hi lo : Nat) (w : World) :
    Calls Try.prog 60 #[.agg #[.bool v6, .int .u64 (hi : Int), .int .u64 (lo : Int)]] w fun e w' => e = .returned (.bool (decide (a4 ⟨v6, hi, lo⟩))) ∧ Below w.heap.size w w' := by
  have HB0 := Lib.hid (below_alloc6 w (.cells #[.bool v6, .int .u64 (hi : Int), .int .u64 (lo : Int)] 25))
  cases v6
  · rw [← vld_a4q]
    have HV := Lib.hid (fun (W : World) => qvalid_any false hi lo W)
    obtain ⟨R, hR⟩ : ∃ R, R = vldA false hi lo := ⟨_, rfl⟩
    rw [← hR] at HV ⊢
    clear hR
    go_enter Try.func60, Try.ntmps60
    go_wp2_with fail
    refine (HV.out _).mono ?_
    rintro e w1 ⟨rfl, hb⟩
    have HB1 := Lib.hid (HB0.out.trans (hb.mono HB0.out.size))
    clear hb HB0
    go_wp2_with fail
    go_ret
    exact ⟨rfl, HB1.out⟩
  · rw [not_a4]
    go_enter Try.func60, Try.ntmps60
    go_wp2_with fail
    go_ret
    exact ⟨rfl, HB0.out⟩
theorem or_pow (x k : Nat) (h : x < 2 ^ k) (h2 : 2 ^ k + x < 9223372036854775808) : bits .or .i64 (x : Int) ((2 ^ k : Nat) : Int) = ((2 ^ k + x : Nat) : Int) := by
  have e : x ||| 2 ^ k = 2 ^ k + x := by
    have := Nat.two_pow_add_eq_or_of_lt h 1
    rw [Nat.mul_one] at this
    rw [Nat.or_comm, ← this]
  have ht : (2 : Nat) ^ IntKind.i64.bits = 18446744073709551616 := by decide
  show IntKind.i64.wrap (((((x : Int) % ((2 : Nat) ^ IntKind.i64.bits : Nat)).toNat ||| (((2 ^ k : Nat) : Int) % ((2 : Nat) ^ IntKind.i64.bits : Nat)).toNat) : Nat) : Int) = _
  rw [ht]
  generalize 2 ^ k = P at *
  have e1 : ((x : Int) % (18446744073709551616 : Nat)).toNat = x := by omega
  have e2 : ((P : Int) % (18446744073709551616 : Nat)).toNat = P := by omega
  rw [e1, e2, e]
  exact IntWalk.i64_in _ (by omega)
set_option maxHeartbeats 4000000 in
set_option maxRecDepth 20000 in
theorem place11_any (tos id ttl proto off : Int) (dont more sv dv : Bool) (sh sl dh dl : Nat) (n : Nat) (A : Option Addr) (c : Nat) (D : ByteArray) (w : World) (h0 : 0 ≤ off) (h1 : off ≤ 65528) :
    Calls Try.prog 36 #[.agg #[.int .i64 tos, .int .i64 id, .int .i64 ttl, .int .i64 proto, .bool dont, .bool more, .int .i64 off, .bool sv, .int .u64 (sh : Int), .int .u64 (sl : Int), .bool dv, .int .u64 (dh : Int), .int .u64 (dl : Int), .slice A n c, .string D]] w fun e w' => e = .returned (.int .i64 ((off.toNat / 8 + (if dont then 16384 else 0) + (if more then 8192 else 0) : Nat) : Int)) ∧ Below w.heap.size w w' := by
  have HB0 := Lib.hid (below_alloc6 w (.cells #[.int .i64 tos, .int .i64 id, .int .i64 ttl, .int .i64 proto, .bool dont, .bool more, .int .i64 off, .bool sv, .int .u64 (sh : Int), .int .u64 (sl : Int), .bool dv, .int .u64 (dh : Int), .int .u64 (dl : Int), .slice A n c, .string D] 28))
  obtain ⟨q, hq⟩ : ∃ q, q = off.toNat / 8 := ⟨_, rfl⟩
  have hq8 : q ≤ 8191 := by omega
  have hdiv : off.tdiv 8 = (q : Int) := by rw [Int.tdiv_eq_ediv_of_nonneg h0]; omega
  have hw : IntKind.i64.wrap (q : Int) = (q : Int) := IntWalk.i64_in _ (by omega)
  have o1 : bits .or .i64 (q : Int) 16384 = ((16384 + q : Nat) : Int) := or_pow q 14 (by omega) (by omega)
  have o2 : bits .or .i64 (q : Int) 8192 = ((8192 + q : Nat) : Int) := or_pow q 13 (by omega) (by omega)
  have o3 : bits .or .i64 ((16384 + q : Nat) : Int) 8192 = ((8192 + (16384 + q) : Nat) : Int) := by
    have e : (16384 + q) ||| 8192 = 8192 + (16384 + q) := by
      have a1 : 16384 + q = 2 ^ 14 ||| q := by have := Nat.two_pow_add_eq_or_of_lt (show q < 2 ^ 14 by omega) 1; simpa using this
      have a2 : 8192 + q = 2 ^ 13 ||| q := by have := Nat.two_pow_add_eq_or_of_lt (show q < 2 ^ 13 by omega) 1; simpa using this
      have a3 : 16384 + (8192 + q) = 2 ^ 14 ||| (8192 + q) := by have := Nat.two_pow_add_eq_or_of_lt (show 8192 + q < 2 ^ 14 by omega) 1; simpa using this
      rw [a1, Nat.or_assoc, Nat.or_comm q, show (8192 : Nat) ||| q = 8192 + q from a2.symm, ← a3, ← a1]
      omega
    have ht : (2 : Nat) ^ IntKind.i64.bits = 18446744073709551616 := by decide
    show IntKind.i64.wrap ((((((16384 + q : Nat) : Int) % ((2 : Nat) ^ IntKind.i64.bits : Nat)).toNat ||| ((8192 : Int) % ((2 : Nat) ^ IntKind.i64.bits : Nat)).toNat) : Nat) : Int) = _
    rw [ht]
    have e1 : (((16384 + q : Nat) : Int) % (18446744073709551616 : Nat)).toNat = 16384 + q := by omega
    have e2 : ((8192 : Int) % (18446744073709551616 : Nat)).toNat = 8192 := by omega
    rw [e1, e2, e]
    exact IntWalk.i64_in _ (by omega)
  rw [← hq]
  clear hq
  obtain ⟨q1, hq1⟩ : ∃ q1 : Int, q1 = ((16384 + q : Nat) : Int) := ⟨_, rfl⟩
  obtain ⟨q2, hq2⟩ : ∃ q2 : Int, q2 = ((8192 + q : Nat) : Int) := ⟨_, rfl⟩
  obtain ⟨q3, hq3⟩ : ∃ q3 : Int, q3 = ((8192 + (16384 + q) : Nat) : Int) := ⟨_, rfl⟩
  rw [← hq1] at o1 o3
  rw [← hq2] at o2
  rw [← hq3] at o3
  have HQ1 := Lib.hid hq1
  have HQ2 := Lib.hid hq2
  have HQ3 := Lib.hid hq3
  clear hq1 hq2 hq3
  cases dont <;> cases more
  · simp only [Bool.false_eq_true, if_false, Nat.add_zero]
    go_enter Try.func36, Try.ntmps36
    go_wp2_with fail
    go_ret
    exact ⟨rfl, HB0.out⟩
  · simp only [Bool.false_eq_true, if_false, if_true, Nat.add_zero]
    go_enter Try.func36, Try.ntmps36
    go_wp2_with fail
    go_ret
    exact ⟨(show Ending.returned (.int .i64 q2) = _ by rw [HQ2.out, show 8192 + q = q + 8192 by omega]), HB0.out⟩
  · simp only [Bool.false_eq_true, if_false, if_true, Nat.add_zero]
    go_enter Try.func36, Try.ntmps36
    go_wp2_with fail
    go_ret
    exact ⟨(show Ending.returned (.int .i64 q1) = _ by rw [HQ1.out, show 16384 + q = q + 16384 by omega]), HB0.out⟩
  · simp only [if_true]
    go_enter Try.func36, Try.ntmps36
    go_wp2_with fail
    go_ret
    exact ⟨(show Ending.returned (.int .i64 q3) = _ by rw [HQ3.out, show 8192 + (16384 + q) = q + 16384 + 8192 by omega]), HB0.out⟩
set_option maxHeartbeats 4000000 in
set_option maxRecDepth 20000 in
theorem pfragment11_any (tos id ttl proto off : Int) (dont more sv dv : Bool) (sh sl dh dl : Nat) (n : Nat) (A : Option Addr) (c : Nat) (D : ByteArray) (w : World) :
    Calls Try.prog 17 #[.agg #[.int .i64 tos, .int .i64 id, .int .i64 ttl, .int .i64 proto, .bool dont, .bool more, .int .i64 off, .bool sv, .int .u64 (sh : Int), .int .u64 (sl : Int), .bool dv, .int .u64 (dh : Int), .int .u64 (dl : Int), .slice A n c, .string D]] w fun e w' => e = .returned (.agg #[.bool sv, .int .u64 (sh : Int), .int .u64 (sl : Int), .bool dv, .int .u64 (dh : Int), .int .u64 (dl : Int), .int .i64 proto, .int .i64 id, .int .i64 ttl, .int .i64 off, .bool more, .string D]) ∧ Below w.heap.size w w' := by
  have HB0 := Lib.hid (below_alloc6 w (.cells #[.int .i64 tos, .int .i64 id, .int .i64 ttl, .int .i64 proto, .bool dont, .bool more, .int .i64 off, .bool sv, .int .u64 (sh : Int), .int .u64 (sl : Int), .bool dv, .int .u64 (dh : Int), .int .u64 (dl : Int), .slice A n c, .string D] 28))
  go_enter Try.func17, Try.ntmps17
  go_wp2_with fail
  exact bodyPost_ret (res_box1 (g := w.heap.size + 1) (cs := #[.bool sv, .int .u64 (sh : Int), .int .u64 (sl : Int), .bool dv, .int .u64 (dh : Int), .int .u64 (dl : Int), .int .i64 proto, .int .i64 id, .int .i64 ttl, .int .i64 off, .bool more, .string D]) frgTy rfl _ _ rfl (alloc2_1 _ _ _)) rfl ⟨rfl, HB0.out.alloc HB0.out.size _⟩
end Go.Proofs.Ytimilcjlogcfhaa
