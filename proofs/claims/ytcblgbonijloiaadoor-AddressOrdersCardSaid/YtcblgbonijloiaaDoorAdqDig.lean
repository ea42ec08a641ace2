/- The digits of numbers and groups: plain mathematics; contracts of the program's digit, value, decimal. -/
import Derived.Test.YtcblgbonijloiaaDoorAdqStr
namespace Go.Proofs.YtcblgbonijloiaaDoor
open Go.ChangeShapes Go.WideShapes Go.ChangeAt Go.RowKit
set_option linter.unusedVariables false

/-- A digit's value; 16 for any other byte. -/
def dgN (x : Nat) : Nat := if 48 ≤ x ∧ x ≤ 57 then x - 48 else if 97 ≤ x ∧ x ≤ 102 then x - 87 else if 65 ≤ x ∧ x ≤ 70 then x - 55 else 16
theorem dgN_le (x : Nat) : dgN x ≤ 16 := by unfold dgN; split <;> (try split) <;> (try split) <;> omega
theorem dgN_hex (c : UInt8) : hexV c = if dgN c.toNat < 16 then some (dgN c.toNat) else none := by
  unfold hexV dgN
  by_cases a : 48 ≤ c.toNat ∧ c.toNat ≤ 57
  · rw [if_pos a, if_pos a, if_pos (by omega)]
  · rw [if_neg a, if_neg a]
    by_cases b : 97 ≤ c.toNat ∧ c.toNat ≤ 102
    · rw [if_pos b, if_pos b, if_pos (by omega)]
    · rw [if_neg b, if_neg b]
      by_cases d : 65 ≤ c.toNat ∧ c.toNat ≤ 70
      · rw [if_pos d, if_pos d, if_pos (by omega)]
      · rw [if_neg d, if_neg d, if_neg (by omega)]
set_option maxHeartbeats 1000000 in
set_option maxRecDepth 20000 in
theorem qdigit_any (x : Nat) (w : World) (hx : x < 256) :
    Calls Tryd.prog 84 #[.int .u8 x] w fun e w' => e = .returned (.int .i64 (dgN x : Nat)) ∧ w' = w := by
  obtain ⟨R, hR⟩ : ∃ R, R = dgN x := ⟨_, rfl⟩
  rw [← hR]
  unfold dgN at hR
  have hv : (0 ≤ x ∧ x ≤ 47) ∨ (48 ≤ x ∧ x ≤ 57) ∨ (58 ≤ x ∧ x ≤ 64) ∨ (65 ≤ x ∧ x ≤ 70) ∨ (71 ≤ x ∧ x ≤ 96) ∨ (97 ≤ x ∧ x ≤ 102) ∨ (103 ≤ x ∧ x ≤ 255) := by omega
  rcases hv with ⟨a, b⟩ | ⟨a, b⟩ | ⟨a, b⟩ | ⟨a, b⟩ | ⟨a, b⟩ | ⟨a, b⟩ | ⟨a, b⟩
  · have d65 : decide ((65 : Int) ≤ (x : Int)) = false := by rw [decide_eq_false_iff_not]; omega
    have d70 : decide ((x : Int) ≤ (70 : Int)) = true := by rw [decide_eq_true_eq]; omega
    have d97 : decide ((97 : Int) ≤ (x : Int)) = false := by rw [decide_eq_false_iff_not]; omega
    have d102 : decide ((x : Int) ≤ (102 : Int)) = true := by rw [decide_eq_true_eq]; omega
    have d48 : decide ((48 : Int) ≤ (x : Int)) = false := by rw [decide_eq_false_iff_not]; omega
    have d57 : decide ((x : Int) ≤ (57 : Int)) = true := by rw [decide_eq_true_eq]; omega
    rw [if_neg (by omega), if_neg (by omega), if_neg (by omega)] at hR
    subst hR
    clear a b hx
    go_enter Tryd.func84, Tryd.ntmps84
    go_wp2_with fail
    go_ret
    exact ⟨rfl, rfl⟩
  · have d65 : decide ((65 : Int) ≤ (x : Int)) = false := by rw [decide_eq_false_iff_not]; omega
    have d70 : decide ((x : Int) ≤ (70 : Int)) = true := by rw [decide_eq_true_eq]; omega
    have d97 : decide ((97 : Int) ≤ (x : Int)) = false := by rw [decide_eq_false_iff_not]; omega
    have d102 : decide ((x : Int) ≤ (102 : Int)) = true := by rw [decide_eq_true_eq]; omega
    have d48 : decide ((48 : Int) ≤ (x : Int)) = true := by rw [decide_eq_true_eq]; omega
    have d57 : decide ((x : Int) ≤ (57 : Int)) = true := by rw [decide_eq_true_eq]; omega
    rw [if_pos (by omega)] at hR
    have HA := Lib.hid a
    have HR := Lib.hid hR
    have x48 : (48 : Int) ≤ (x : Int) := by omega
    have x57 : (x : Int) ≤ 57 := by omega
    clear a b hR hx
    go_enter Tryd.func84, Tryd.ntmps84
    go_wp2_with fail
    go_ret
    exact ⟨by have hr := HR.out; have ha := HA.out; show Ending.returned (.int .i64 _) = Ending.returned (.int .i64 _); congr 2; omega, rfl⟩
  · have d65 : decide ((65 : Int) ≤ (x : Int)) = false := by rw [decide_eq_false_iff_not]; omega
    have d70 : decide ((x : Int) ≤ (70 : Int)) = true := by rw [decide_eq_true_eq]; omega
    have d97 : decide ((97 : Int) ≤ (x : Int)) = false := by rw [decide_eq_false_iff_not]; omega
    have d102 : decide ((x : Int) ≤ (102 : Int)) = true := by rw [decide_eq_true_eq]; omega
    have d48 : decide ((48 : Int) ≤ (x : Int)) = true := by rw [decide_eq_true_eq]; omega
    have d57 : decide ((x : Int) ≤ (57 : Int)) = false := by rw [decide_eq_false_iff_not]; omega
    rw [if_neg (by omega), if_neg (by omega), if_neg (by omega)] at hR
    subst hR
    clear a b hx
    go_enter Tryd.func84, Tryd.ntmps84
    go_wp2_with fail
    go_ret
    exact ⟨rfl, rfl⟩
  · have d65 : decide ((65 : Int) ≤ (x : Int)) = true := by rw [decide_eq_true_eq]; omega
    have d70 : decide ((x : Int) ≤ (70 : Int)) = true := by rw [decide_eq_true_eq]; omega
    have d97 : decide ((97 : Int) ≤ (x : Int)) = false := by rw [decide_eq_false_iff_not]; omega
    have d102 : decide ((x : Int) ≤ (102 : Int)) = true := by rw [decide_eq_true_eq]; omega
    have d48 : decide ((48 : Int) ≤ (x : Int)) = true := by rw [decide_eq_true_eq]; omega
    have d57 : decide ((x : Int) ≤ (57 : Int)) = false := by rw [decide_eq_false_iff_not]; omega
    rw [if_neg (by omega), if_neg (by omega), if_pos (by omega)] at hR
    obtain ⟨y, rfl⟩ : ∃ y, x = y + 65 := ⟨x - 65, by omega⟩
    obtain rfl : R = y + 10 := by omega
    go_enter Tryd.func84, Tryd.ntmps84
    go_wp2_with fail
    go_ret
    exact ⟨by first | rfl | (show Ending.returned (.int .i64 _) = Ending.returned (.int .i64 _); congr 2; omega), rfl⟩
  · have d65 : decide ((65 : Int) ≤ (x : Int)) = true := by rw [decide_eq_true_eq]; omega
    have d70 : decide ((x : Int) ≤ (70 : Int)) = false := by rw [decide_eq_false_iff_not]; omega
    have d97 : decide ((97 : Int) ≤ (x : Int)) = false := by rw [decide_eq_false_iff_not]; omega
    have d102 : decide ((x : Int) ≤ (102 : Int)) = true := by rw [decide_eq_true_eq]; omega
    have d48 : decide ((48 : Int) ≤ (x : Int)) = true := by rw [decide_eq_true_eq]; omega
    have d57 : decide ((x : Int) ≤ (57 : Int)) = false := by rw [decide_eq_false_iff_not]; omega
    rw [if_neg (by omega), if_neg (by omega), if_neg (by omega)] at hR
    subst hR
    clear a b hx
    go_enter Tryd.func84, Tryd.ntmps84
    go_wp2_with fail
    go_ret
    exact ⟨rfl, rfl⟩
  · have d65 : decide ((65 : Int) ≤ (x : Int)) = true := by rw [decide_eq_true_eq]; omega
    have d70 : decide ((x : Int) ≤ (70 : Int)) = false := by rw [decide_eq_false_iff_not]; omega
    have d97 : decide ((97 : Int) ≤ (x : Int)) = true := by rw [decide_eq_true_eq]; omega
    have d102 : decide ((x : Int) ≤ (102 : Int)) = true := by rw [decide_eq_true_eq]; omega
    have d48 : decide ((48 : Int) ≤ (x : Int)) = true := by rw [decide_eq_true_eq]; omega
    have d57 : decide ((x : Int) ≤ (57 : Int)) = false := by rw [decide_eq_false_iff_not]; omega
    rw [if_neg (by omega), if_pos (by omega)] at hR
    obtain ⟨y, rfl⟩ : ∃ y, x = y + 97 := ⟨x - 97, by omega⟩
    obtain rfl : R = y + 10 := by omega
    go_enter Tryd.func84, Tryd.ntmps84
    go_wp2_with fail
    go_ret
    exact ⟨by first | rfl | (show Ending.returned (.int .i64 _) = Ending.returned (.int .i64 _); congr 2; omega), rfl⟩
  · have d65 : decide ((65 : Int) ≤ (x : Int)) = true := by rw [decide_eq_true_eq]; omega
    have d70 : decide ((x : Int) ≤ (70 : Int)) = false := by rw [decide_eq_false_iff_not]; omega
    have d97 : decide ((97 : Int) ≤ (x : Int)) = true := by rw [decide_eq_true_eq]; omega
    have d102 : decide ((x : Int) ≤ (102 : Int)) = false := by rw [decide_eq_false_iff_not]; omega
    have d48 : decide ((48 : Int) ≤ (x : Int)) = true := by rw [decide_eq_true_eq]; omega
    have d57 : decide ((x : Int) ≤ (57 : Int)) = false := by rw [decide_eq_false_iff_not]; omega
    rw [if_neg (by omega), if_neg (by omega), if_neg (by omega)] at hR
    subst hR
    clear a b hx
    go_enter Tryd.func84, Tryd.ntmps84
    go_wp2_with fail
    go_ret
    exact ⟨rfl, rfl⟩
end Go.Proofs.YtcblgbonijloiaaDoor
