/- Contracts of the program's layer 6: Valid, width, first, isBefore, Compare. -/
import Derived.Test.YtcblgbonijloiaaDoorAdrNext
namespace Go.Proofs.YtcblgbonijloiaaDoor
open Go.ChangeShapes Go.WideShapes Go.ChangeAt Go.RowKit
set_option linter.unusedVariables false

set_option maxRecDepth 20000 in
theorem qvalid_any (v6 : Bool) (hi lo : Nat) (w : World) :
    Calls Tryd.prog 15 #[.agg #[.bool v6, .int .u64 hi, .int .u64 lo]] w fun e w' => e = .returned (.bool (vldA v6 hi lo)) ∧ Below w.heap.size w w' := by
  have HB := Lib.hid (below_alloc6 w (.cells #[.bool v6, .int .u64 hi, .int .u64 lo] 25))
  obtain ⟨R, hR⟩ : ∃ R, R = vldA v6 hi lo := ⟨_, rfl⟩
  rw [← hR]
  unfold vldA at hR
  cases v6 with
  | true =>
    obtain rfl : R = true := by rw [hR]; rfl
    clear hR
    go_enter Tryd.func15, Tryd.ntmps15
    go_wp2_with fail
    go_ret
    exact ⟨rfl, HB.out⟩
  | false =>
    by_cases h0 : hi = 0
    · have d0 : ((hi : Int) == 0) = true := by simp; omega
      by_cases h1 : lo < 4294967296
      · obtain rfl : R = true := by rw [hR, h0]; simpa using h1
        have d1 : decide ((lo : Int) < 4294967296) = true := by simp; omega
        clear hR h0
        go_enter Tryd.func15, Tryd.ntmps15
        go_wp2_with fail
        go_ret
        exact ⟨rfl, HB.out⟩
      · obtain rfl : R = false := by rw [hR, h0]; simpa using h1
        have d1 : decide ((lo : Int) < 4294967296) = false := by simp; omega
        clear hR h0
        go_enter Tryd.func15, Tryd.ntmps15
        go_wp2_with fail
        go_ret
        exact ⟨rfl, HB.out⟩
    · obtain rfl : R = false := by rw [hR]; simp [h0]
      have d0 : ((hi : Int) == 0) = false := by simp; omega
      clear hR
      go_enter Tryd.func15, Tryd.ntmps15
      go_wp2_with fail
      go_ret
      exact ⟨rfl, HB.out⟩
theorem qwidth_any (v6 : Bool) (hi lo : Nat) (w : World) :
    Calls Tryd.prog 45 #[.agg #[.bool v6, .int .u64 hi, .int .u64 lo]] w fun e w' => e = .returned (.int .i64 (width v6 : Nat)) ∧ Below w.heap.size w w' := by
  have HB := Lib.hid (below_alloc6 w (.cells #[.bool v6, .int .u64 hi, .int .u64 lo] 25))
  cases v6 with
  | true =>
    go_enter Tryd.func45, Tryd.ntmps45
    go_wp2_with fail
    go_ret
    exact ⟨rfl, HB.out⟩
  | false =>
    go_enter Tryd.func45, Tryd.ntmps45
    go_wp2_with fail
    go_ret
    exact ⟨rfl, HB.out⟩
set_option maxRecDepth 20000 in
theorem qfirst_any (v6 : Bool) (w : World) :
    Calls Tryd.prog 61 #[.bool v6] w fun e w' => e = .returned (.agg #[.bool v6, .int .u64 0, .int .u64 0]) ∧ Below w.heap.size w w' := by
  go_enter Tryd.func61, Tryd.ntmps61
  go_wp2_with fail
  exact bodyPost_ret (res_addr1 rfl _ _ rfl (ab_new w v6 0 0)) rfl ⟨rfl, below_alloc6 w _⟩
/-- Is an address ahead of another? By the tests of the program. -/
def befB (b1 b2 p q r : Bool) : Bool := if b1 == b2 then (if q then r else p) else b2
set_option maxHeartbeats 1000000 in
set_option maxRecDepth 20000 in
theorem qbefore_any (b1 : Bool) (h1 l1 : Nat) (b2 : Bool) (h2 l2 : Nat) (w : World) :
    Calls Tryd.prog 62 #[.agg #[.bool b1, .int .u64 h1, .int .u64 l1], .agg #[.bool b2, .int .u64 h2, .int .u64 l2]] w fun e w' => e = .returned (.bool (befB b1 b2 (decide ((h1 : Int) < (h2 : Int))) ((h1 : Int) == (h2 : Int)) (decide ((l1 : Int) < (l2 : Int))))) ∧ Below w.heap.size w w' := by
  have HB := Lib.hid ((below_alloc6 w (.cells #[.bool b1, .int .u64 h1, .int .u64 l1] 25)).trans ((below_alloc6 (w.alloc (.cells #[.bool b1, .int .u64 h1, .int .u64 l1] 25)) (.cells #[.bool b2, .int .u64 h2, .int .u64 l2] 25)).mono (by simp)))
  obtain ⟨p, dp⟩ : ∃ p, decide ((h1 : Int) < (h2 : Int)) = p := ⟨_, rfl⟩
  obtain ⟨q, dq⟩ : ∃ p, ((h1 : Int) == (h2 : Int)) = p := ⟨_, rfl⟩
  obtain ⟨r, dr⟩ : ∃ p, decide ((l1 : Int) < (l2 : Int)) = p := ⟨_, rfl⟩
  rw [dp, dq, dr]
  have dp2 : decide (h1 < h2) = p := by rw [← dp]; simp
  have dr2 : decide (l1 < l2) = r := by rw [← dr]; simp
  cases b1 <;> cases b2
  case false.true =>
    clear dp dq dr dp2 dr2
    go_enter Tryd.func62, Tryd.ntmps62
    go_wp2_with fail
    go_ret
    exact ⟨rfl, HB.out⟩
  case true.false =>
    clear dp dq dr dp2 dr2
    go_enter Tryd.func62, Tryd.ntmps62
    go_wp2_with fail
    go_ret
    exact ⟨rfl, HB.out⟩
  all_goals
    cases q
    all_goals
      cases p <;> cases r
      all_goals
        go_enter Tryd.func62, Tryd.ntmps62
        go_wp2_with fail
        go_ret
        exact ⟨rfl, HB.out⟩
theorem cmpB_before (b1 b2 p q r s : Bool) (hp : ¬ (p = true ∧ q = true)) : cmpB b1 b2 p q r s = if (b1 == b2 && (q && s)) = true then 0 else if befB b1 b2 p q r = true then -1 else 1 := by
  cases b1 <;> cases b2 <;> cases p <;> cases q <;> cases r <;> cases s <;> first | rfl | (exact absurd ⟨rfl, rfl⟩ hp)
set_option maxHeartbeats 1000000 in
set_option maxRecDepth 20000 in
theorem qcmp_any (b1 : Bool) (h1 l1 : Nat) (b2 : Bool) (h2 l2 : Nat) (w : World) :
    Calls Tryd.prog 33 #[.agg #[.bool b1, .int .u64 h1, .int .u64 l1], .agg #[.bool b2, .int .u64 h2, .int .u64 l2]] w fun e w' => e = .returned (.int .i64 (cmpA b1 h1 l1 b2 h2 l2)) ∧ Below w.heap.size w w' := by
  have hm := addr_guard
  have HX := Lib.hid (ab_new w b1 h1 l1 |>.kept (below_alloc6 _ (.cells #[.bool b2, .int .u64 h2, .int .u64 l2] 25)) (alloc_lt6 w _))
  have HY := Lib.hid (ab2 w (.cells #[.bool b1, .int .u64 h1, .int .u64 l1] 25) b2 h2 l2)
  have HB := Lib.hid (below2 w (.cells #[.bool b1, .int .u64 h1, .int .u64 l1] 25) (.cells #[.bool b2, .int .u64 h2, .int .u64 l2] 25))
  have HBF := Lib.hid (fun W => qbefore_any b1 h1 l1 b2 h2 l2 W)
  have qe := fun W => addr_eql b1 b2 h1 h2 l1 l2 W
  unfold cmpA
  have hpq : ¬ (decide ((h1 : Int) < (h2 : Int)) = true ∧ ((h1 : Int) == (h2 : Int)) = true) := by simp; omega
  rw [cmpB_before _ _ _ _ _ _ hpq]
  clear hpq
  generalize befB b1 b2 (decide ((h1 : Int) < (h2 : Int))) ((h1 : Int) == (h2 : Int)) (decide ((l1 : Int) < (l2 : Int))) = z at *
  generalize (b1 == b2 && ((h1 : Int) == (h2 : Int) && (l1 : Int) == (l2 : Int))) = y at *
  cases y with
  | true =>
    clear HBF
    go_enter Tryd.func33, Tryd.ntmps33
    go_wp2_with fail
    go_ret
    exact ⟨rfl, HB.out⟩
  | false =>
    go_enter Tryd.func33, Tryd.ntmps33
    go_wp2_with fail
    refine (HBF.out _).mono ?_
    rintro e w3 ⟨rfl, hb⟩
    have HB3 := Lib.hid (HB.out.trans (hb.mono HB.out.size))
    clear hb
    cases z with
    | true =>
      go_wp2_with fail
      go_ret
      exact ⟨rfl, HB3.out⟩
    | false =>
      go_wp2_with fail
      go_ret
      exact ⟨rfl, HB3.out⟩
end Go.Proofs.YtcblgbonijloiaaDoor
