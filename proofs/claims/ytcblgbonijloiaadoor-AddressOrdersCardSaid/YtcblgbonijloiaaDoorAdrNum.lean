/- Contracts of the reference of layer 6: Number, hex, Decimal, group. -/
import Derived.Test.YtcblgbonijloiaaDoorAdrMath
import Derived.Test.YtcblgbonijloiaaDoorPlain
import Derived.Test.YtcblgbonijloiaaDoorRef
import Derived.Deep.QuietTactic
import Derived.OwnWalk
namespace Go.Proofs.YtcblgbonijloiaaDoor
open Go.ChangeShapes Go.WideShapes Go.ChangeAt Go.RowKit
set_option linter.unusedVariables false

set_option maxRecDepth 20000 in
theorem rnum6_any (n : Nat) (w : World) (hn : n ≤ 1000000000) :
    Calls Tryd.prog 55 #[.int .i64 n] w fun e w' => e = .returned (.string (str (numL n))) ∧ Below w.heap.size w w' := by
  obtain ⟨R, hR⟩ : ∃ R, R = numL n := ⟨_, rfl⟩
  rw [← hR]
  have HR := Lib.hid hR
  have hRl : R.length ≤ 10 := by rw [hR]; exact num_len_pow 9 n (by omega)
  have HB := Lib.hid (Below.refl w.heap.size w)
  clear hR
  go_enter Tryd.func55, Tryd.ntmps55
  go_wp2_with fail
  go_loopw [0, 3] (fun v0 v3 wr => ∃ k : Nat, ∃ q : By, v0 = .int .i64 k ∧ v3 = .string (str q) ∧ k ≤ 1000000000 ∧ Hid (numL k ++ q = R) ∧ Hid (Below w.heap.size w wr)) (fun v0 _ _ => (intOf v0).toNat)
  case atStart => exact ⟨n, [], rfl, rfl, hn, Lib.hid (by rw [HR.out]; simp), HB⟩
  case round =>
    clear HB
    obtain ⟨k, q, rfl, rfl, hk, HQ, HB⟩ := hrel
    have hq : q.length ≤ 10 := by
      have := congrArg List.length HQ.out
      rw [List.length_append] at this
      omega
    by_cases h9 : 9 < k
    · have d9 : decide ((9 : Int) < (k : Int)) = true := by simp; omega
      have hcv := fun W g => one_string W g (48 + (k : Int) % 10) (by omega) (by omega)
      rw [show (48 + (k : Int) % 10).toNat = 48 + k % 10 by omega] at hcv
      have hfin : str [UInt8.ofNat (48 + k % 10)] ++ str q = str (dig (k % 10) :: q) := str_append _ _
      have hcat : (9223372036854775807 < (str [UInt8.ofNat (48 + k % 10)]).size + (str q).size) = False := by
        rw [str_size, str_size]; simp; omega
      have HF := Lib.hid hfin
      have HQ2 := Lib.hid (show numL (k / 10) ++ (dig (k % 10) :: q) = R by
        rw [← HQ.out]
        rw [show numL k = numL (k / 10) ++ [dig (k % 10)] by rw [numL, if_neg (by omega)]]
        simp)
      have HB2 := Lib.hid (HB.out.alloc HB.out.size (.cells #[.int .u8 (48 + (k : Int) % 10)] 5))
      clear hfin
      generalize str q = S at *
      generalize str [UInt8.ofNat (48 + k % 10)] = U at *
      go_wp2_with fail
      go_roundw
      case rel => exact ⟨k / 10, dig (k % 10) :: q, by go_num, by rw [HF.out], by omega, HQ2, HB2⟩
      case measure => simp [intOf]; omega
    · have d9 : decide ((9 : Int) < (k : Int)) = false := by simp; omega
      have hcv := fun W g => one_string W g (48 + (k : Int)) (by omega) (by omega)
      rw [show (48 + (k : Int)).toNat = 48 + k by omega] at hcv
      have hfin : str [UInt8.ofNat (48 + k)] ++ str q = str R := by
        rw [str_append, ← HQ.out, numL, if_pos (by omega)]; rfl
      have hcat : (9223372036854775807 < (str [UInt8.ofNat (48 + k)]).size + (str q).size) = False := by
        rw [str_size, str_size]; simp; omega
      have HF := Lib.hid hfin
      have HB2 := Lib.hid (HB.out.alloc HB.out.size (.cells #[.int .u8 (48 + (k : Int))] 5))
      clear hfin
      generalize str q = S at *
      generalize str [UInt8.ofNat (48 + k)] = U at *
      go_wp2_with fail
      go_ret
      exact ⟨by rw [← HF.out]; rfl, HB2.out⟩
end Go.Proofs.YtcblgbonijloiaaDoor
