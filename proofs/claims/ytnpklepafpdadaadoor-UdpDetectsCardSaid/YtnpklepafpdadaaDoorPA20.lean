/- Contracts of the functions, part 20: SetHas, SetRef0. -/
import Derived.Test.YtnpklepafpdadaaDoorPA19
/- Contracts of the program of layer 7: hasAddresses, isApart. -/
namespace Go.Proofs.YtnpklepafpdadaaDoor
open Go.ChangeShapes Go.WideShapes Go.ChangeAt Go.RowKit
set_option linter.unusedVariables false

theorem someR_tests (a b : Ad) (f1 : a.fits) (f2 : b.fits) : someR ⟨a, b⟩ = (vA a && (vA b && (a.v == b.v && !decide (kA b < kA a)))) := by
  unfold someR
  rw [show decide (kA a ≤ kA b) = !decide (kA b < kA a) by rw [Bool.eq_iff_iff]; simp]
end Go.Proofs.YtnpklepafpdadaaDoor

/- Contracts of the reference of layer 7: Fine, Before. -/
namespace Go.Proofs.YtnpklepafpdadaaDoor
open Go.ChangeShapes Go.WideShapes Go.ChangeAt Go.RowKit
set_option linter.unusedVariables false

set_option maxRecDepth 20000 in
theorem rfine_any (v6 : Bool) (hi lo : Nat) (w : World) :
    Calls Tryd.prog 26 #[.agg #[.bool v6, .int .u64 hi, .int .u64 lo]] w fun e w' => e = .returned (.bool (vldA v6 hi lo)) ∧ Below w.heap.size w w' := by
  have HB := Lib.hid (below_alloc6 w (.cells #[.bool v6, .int .u64 hi, .int .u64 lo] 24))
  obtain ⟨R, hR⟩ : ∃ R, R = vldA v6 hi lo := ⟨_, rfl⟩
  rw [← hR]
  unfold vldA at hR
  cases v6 with
  | true =>
    obtain rfl : R = true := by rw [hR]; rfl
    clear hR
    go_enter Tryd.func26, Tryd.ntmps26
    go_wp2_with fail
    go_ret
    exact ⟨rfl, HB.out⟩
  | false =>
    by_cases h0 : hi = 0
    · have d0 : ((hi : Int) == 0) = true := by simp; omega
      by_cases h1 : lo < 4294967296
      · obtain rfl : R = true := by rw [hR, h0]; simpa using h1
        have d1 : decide ((lo : Int) < 4294967296) = true := by simp; omega
        clear hR h0
        go_enter Tryd.func26, Tryd.ntmps26
        go_wp2_with fail
        go_ret
        exact ⟨rfl, HB.out⟩
      · obtain rfl : R = false := by rw [hR, h0]; simpa using h1
        have d1 : decide ((lo : Int) < 4294967296) = false := by simp; omega
        clear hR h0
        go_enter Tryd.func26, Tryd.ntmps26
        go_wp2_with fail
        go_ret
        exact ⟨rfl, HB.out⟩
    · obtain rfl : R = false := by rw [hR]; simp [h0]
      have d0 : ((hi : Int) == 0) = false := by simp; omega
      clear hR
      go_enter Tryd.func26, Tryd.ntmps26
      go_wp2_with fail
      go_ret
      exact ⟨rfl, HB.out⟩
end Go.Proofs.YtnpklepafpdadaaDoor
