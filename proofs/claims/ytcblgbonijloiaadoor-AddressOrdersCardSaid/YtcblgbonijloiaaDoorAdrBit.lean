/- Contracts of the reference of layer 6: Bit, with. -/
import Derived.Test.YtcblgbonijloiaaDoorAdrNext
namespace Go.Proofs.YtcblgbonijloiaaDoor
open Go.ChangeShapes Go.WideShapes Go.ChangeAt Go.RowKit
set_option linter.unusedVariables false

theorem and1_u64 (n k : Nat) (h : n < 18446744073709551616) : (bits .and .u64 ((n : Int) / 2 ^ k) 1 == 1) = decide (n / 2 ^ k % 2 = 1) := by
  have e : ((n : Int) / 2 ^ k) = ((n / 2 ^ k : Nat) : Int) := by rw [Int.natCast_ediv]; simp
  have hl : n / 2 ^ k < 18446744073709551616 := Nat.lt_of_le_of_lt (Nat.div_le_self _ _) h
  rw [e, show (1 : Int) = ((1 : Nat) : Int) from rfl, u64_and_nat _ 1 hl (by decide), Nat.and_one_is_mod, Bool.eq_iff_iff]
  simp
  omega
/-- A bit of an address. -/
def bitA (v6 : Bool) (hi lo i : Nat) : Bool :=
  if v6 then (if i < 64 then decide (hi / 2 ^ (63 - i) % 2 = 1) else decide (lo / 2 ^ (127 - i) % 2 = 1)) else decide (lo / 2 ^ (31 - i) % 2 = 1)
set_option maxRecDepth 20000 in
theorem rbit6_any (v6 : Bool) (hi lo i : Nat) (w : World) (h1 : hi < 18446744073709551616) (h2 : lo < 18446744073709551616) (hi' : i < width v6) :
    Calls Tryd.prog 71 #[.agg #[.bool v6, .int .u64 hi, .int .u64 lo], .int .i64 i] w fun e w' => e = .returned (.bool (bitA v6 hi lo i)) ∧ Below w.heap.size w w' := by
  have HB := Lib.hid (below_alloc6 w (.cells #[.bool v6, .int .u64 hi, .int .u64 lo] 25))
  cases v6 with
  | false =>
    have h3 : i < 32 := hi'
    have HA := Lib.hid (and1_u64 lo (31 - i) h2)
    go_enter Tryd.func71, Tryd.ntmps71
    go_wp2_with fail
    go_ret
    exact ⟨congrArg (fun b => Ending.returned (.bool b)) HA.out, HB.out⟩
  | true =>
    have h3 : i < 128 := hi'
    by_cases h4 : i < 64
    · have d4 : decide ((i : Int) < 64) = true := by simp; omega
      have HA := Lib.hid (show (bits .and .u64 ((hi : Int) / 2 ^ (63 - i)) 1 == 1) = bitA true hi lo i by rw [and1_u64 hi (63 - i) h1]; unfold bitA; rw [if_pos rfl, if_pos h4])
      go_enter Tryd.func71, Tryd.ntmps71
      go_wp2_with fail
      go_ret
      exact ⟨congrArg (fun b => Ending.returned (.bool b)) HA.out, HB.out⟩
    · have d4 : decide ((i : Int) < 64) = false := by simp; omega
      have HA := Lib.hid (show (bits .and .u64 ((lo : Int) / 2 ^ (127 - i)) 1 == 1) = bitA true hi lo i by rw [and1_u64 lo (127 - i) h2]; unfold bitA; rw [if_pos rfl, if_neg h4])
      go_enter Tryd.func71, Tryd.ntmps71
      go_wp2_with fail
      go_ret
      exact ⟨congrArg (fun b => Ending.returned (.bool b)) HA.out, HB.out⟩
end Go.Proofs.YtcblgbonijloiaaDoor
