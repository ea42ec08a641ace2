/- The reference's MakePrefix and Contains in the program's words. -/
import Derived.Test.YtcblgbonijloiaaDoorAwk06
import Derived.Test.YtcblgbonijloiaaDoorAdrVal
namespace Go.Proofs.YtcblgbonijloiaaDoor
open Go.ChangeShapes Go.WideShapes Go.ChangeAt Go.RowKit
set_option linter.unusedVariables false

theorem rmake_any (v6 : Bool) (hi lo k : Nat) (w : World) (h1 : hi < 18446744073709551616) (h2 : lo < 18446744073709551616) (hb : k ≤ width v6) :
    Calls Tryd.prog 20 #[.agg #[.bool v6, .int .u64 hi, .int .u64 lo], .int .i64 k] w fun e w' => e = .returned (.tuple #[.agg #[.bool v6, .int .u64 (mkH v6 k hi : Nat), .int .u64 (mkL v6 k lo : Nat), .int .i64 k], .int .i64 0]) ∧ Below w.heap.size w w' := by
  refine (rmake6_ok v6 hi lo k w h1 h2 hb).mono ?_
  rintro e w' ⟨⟨hi', lo', rfl, hst⟩, hbel⟩
  obtain ⟨e1, e2⟩ := wst_mk hst h1 h2
  subst e1 e2
  exact ⟨rfl, hbel⟩
theorem cont_eq {v1 v2 : Bool} {h1 l1 k h2 l2 : Nat} (a2 : l1 < 18446744073709551616) (b1 : h2 < 18446744073709551616) (b2 : l2 < 18446744073709551616) (hk : v1 = v2 → k ≤ width v2) :
    (v1 == v2 && decide (cutN (width v2) k (numA h2 l2) = numA h1 l1)) = cntB v1 h1 l1 k v2 h2 l2 := by
  unfold cntB
  rw [Int.toNat_natCast]
  by_cases hv : v1 = v2
  · subst hv
    have hd : decide (0 ≤ (k : Int) ∧ (k : Int) ≤ (width v1 : Nat)) = true := decide_eq_true ⟨by omega, by have := hk rfl; omega⟩
    rw [hd, ← low_cut v1 k b2, Bool.eq_iff_iff]
    simp only [beq_self_eq_true, Bool.true_and, Bool.and_eq_true, beq_iff_eq, decide_eq_true_eq]
    rw [numA_inj (Nat.lt_of_le_of_lt (lowZ_le _ _) b2) a2]
    unfold mkH mkL
    omega
  · have e1 : (v1 == v2) = false := by simpa using hv
    have e2 : (v2 == v1) = false := by simpa using fun h => hv h.symm
    rw [e1, e2, Bool.false_and, Bool.false_and, Bool.and_false]
theorem rcont_any (v1 : Bool) (h1 l1 k : Nat) (v2 : Bool) (h2 l2 : Nat) (w : World) (a1 : h1 < 18446744073709551616) (a2 : l1 < 18446744073709551616) (b1 : h2 < 18446744073709551616) (b2 : l2 < 18446744073709551616) (hk : v1 = v2 → k ≤ width v2) :
    Calls Tryd.prog 38 #[.agg #[.bool v1, .int .u64 h1, .int .u64 l1, .int .i64 k], .agg #[.bool v2, .int .u64 h2, .int .u64 l2]] w fun e w' => e = .returned (.bool (cntB v1 h1 l1 k v2 h2 l2)) ∧ Below w.heap.size w w' := by
  have h := rcont6_any v1 v2 h1 l1 k h2 l2 w a1 a2 b1 b2 hk
  rw [cont_eq a2 b1 b2 hk] at h
  exact h
end Go.Proofs.YtcblgbonijloiaaDoor
