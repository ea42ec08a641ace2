/- Contracts of the functions, part 24: OvPSm. -/
import Derived.Test.YtafpmlikocchpaaPA12
import Derived.Test.YtafpmlikocchpaaPA23
/- Contracts of the program of layer 15: Wins, end, isPart, segment, filled's closure. -/
namespace Go.Proofs.Ytafpmlikocchpaa
open Go.ChangeShapes Go.WideShapes Go.ChangeAt Go.RowKit
set_option linter.unusedVariables false
set_option maxRecDepth 100000
set_option maxHeartbeats 8000000 in
set_option maxRecDepth 100000 in
theorem pwins15_any (pol a1 f1 t1 a2 f2 t2 : Int) (D1 D2 : ByteArray) (w : World) :
    Calls Try.prog 10 #[.int .i64 pol, .agg #[.int .i64 a1, .string D1, .int .i64 f1, .int .i64 t1], .agg #[.int .i64 a2, .string D2, .int .i64 f2, .int .i64 t2]] w fun e w' => e = .returned (.bool (winsB pol f1 t1 f2 t2)) ∧ Below w.heap.size w w' := by
  obtain ⟨Q, hQ⟩ : ∃ Q, Q = winsB pol f1 t1 f2 t2 := ⟨_, rfl⟩
  rw [← hQ]
  unfold winsB at hQ
  obtain ⟨W1, hW1⟩ : ∃ W, W = (w.alloc (.cells #[.int .i64 a1, .string D1, .int .i64 f1, .int .i64 t1] 23)).alloc (.cells #[.int .i64 a2, .string D2, .int .i64 f2, .int .i64 t2] 23) := ⟨_, rfl⟩
  obtain ⟨g, hg⟩ : ∃ g, g = w.heap.size := ⟨_, rfl⟩
  obtain ⟨g2, hg2⟩ : ∃ g, g = w.heap.size + 1 := ⟨_, rfl⟩
  have HX := Lib.hid (show Cells W1 g 23 #[.int .i64 a1, .string D1, .int .i64 f1, .int .i64 t1] by rw [hW1, hg]; exact (Cells.kept (heap_alloc_new w _) (below_alloc6 _ _) (by simp)))
  have HY := Lib.hid (show Cells W1 g2 23 #[.int .i64 a2, .string D2, .int .i64 f2, .int .i64 t2] by rw [hW1, hg2]; exact twoO_new w _ _)
  have HB := Lib.hid (show Below w.heap.size w W1 by rw [hW1]; exact twoO_below w _ _)
  have x2 := (Cells.cell HX.out 2).trans (show _ = some (Value.int .i64 f1) from rfl)
  have x3 := (Cells.cell HX.out 3).trans (show _ = some (Value.int .i64 t1) from rfl)
  have y2 := (Cells.cell HY.out 2).trans (show _ = some (Value.int .i64 f2) from rfl)
  have y3 := (Cells.cell HY.out 3).trans (show _ = some (Value.int .i64 t2) from rfl)
  have HW := Lib.hid hW1
  have HG := Lib.hid hg
  have HG2 := Lib.hid hg2
  clear hW1 hg hg2
  cases e2 : (pol == 2) with
  | true =>
    rw [e2, Bool.true_or, Bool.true_or] at hQ
    have HQ := Lib.hid hQ
    clear hQ
    go_enter Try.func10, Try.ntmps10
    go_upto_region 1 with fail
    rw [← HW.out, ← HG2.out, ← HG.out]
    clear HW HG HG2
    go_wp2_with fail
    go_ret
    exact ⟨by rw [HQ.out]; rfl, HB.out⟩
  | false =>
    rw [e2, Bool.false_or] at hQ
    cases e3 : (pol == 3) with
    | true =>
      have e4 : (pol == 4) = false := by
        have h3 : pol = 3 := by simpa using e3
        rw [h3]; rfl
      rw [e3, e4, Bool.true_and, Bool.false_and, Bool.or_false] at hQ
      have HQ := Lib.hid hQ
      clear hQ
      cases d1 : decide (f2 < f1) with
      | true =>
        have n1 : f2 < f1 := of_decide_eq_true d1
        go_enter Try.func10, Try.ntmps10
        go_upto_region 1 with fail
        rw [← HW.out, ← HG2.out, ← HG.out]
        clear HW HG HG2
        go_wp2_with fail
        go_ret
        exact ⟨by rw [HQ.out, d1]; rfl, HB.out⟩
      | false =>
        have n1 : ¬ f2 < f1 := of_decide_eq_false d1
        go_enter Try.func10, Try.ntmps10
        go_upto_region 1 with fail
        rw [← HW.out, ← HG2.out, ← HG.out]
        clear HW HG HG2
        go_wp2_with fail
        go_ret
        exact ⟨by rw [HQ.out, d1]; rfl, HB.out⟩
    | false =>
      rw [e3, Bool.false_and, Bool.false_or] at hQ
      cases e4 : (pol == 4) with
      | false =>
        rw [e4, Bool.false_and] at hQ
        have HQ := Lib.hid hQ
        clear hQ
        go_enter Try.func10, Try.ntmps10
        go_upto_region 1 with fail
        rw [← HW.out, ← HG2.out, ← HG.out]
        clear HW HG HG2
        go_wp2_with fail
        go_ret
        exact ⟨by rw [HQ.out]; rfl, HB.out⟩
      | true =>
        rw [e4, Bool.true_and] at hQ
        have HQ := Lib.hid hQ
        clear hQ
        have hcs : (decide (f2 < f1) = true) ∨ (decide (f2 < f1) = false ∧ (f2 == f1) = false) ∨ (decide (f2 < f1) = false ∧ (f2 == f1) = true ∧ decide (t1 < t2) = true) ∨ (decide (f2 < f1) = false ∧ (f2 == f1) = true ∧ decide (t1 < t2) = false) := by
          cases decide (f2 < f1) <;> cases (f2 == f1) <;> cases decide (t1 < t2) <;> simp
        rcases hcs with d1 | ⟨d1, d2⟩ | ⟨d1, d2, d3⟩ | ⟨d1, d2, d3⟩
        · go_enter Try.func10, Try.ntmps10
          go_upto_region 1 with fail
          rw [← HW.out, ← HG2.out, ← HG.out]
          clear HW HG HG2
          go_wp2_with fail
          go_ret
          exact ⟨by rw [HQ.out, d1]; rfl, HB.out⟩
        · go_enter Try.func10, Try.ntmps10
          go_upto_region 1 with fail
          rw [← HW.out, ← HG2.out, ← HG.out]
          clear HW HG HG2
          go_wp2_with fail
          go_ret
          exact ⟨by rw [HQ.out, d1, d2]; rfl, HB.out⟩
        · go_enter Try.func10, Try.ntmps10
          go_upto_region 1 with fail
          rw [← HW.out, ← HG2.out, ← HG.out]
          clear HW HG HG2
          go_wp2_with fail
          go_ret
          exact ⟨by rw [HQ.out, d1, d2, d3]; rfl, HB.out⟩
        · go_enter Try.func10, Try.ntmps10
          go_upto_region 1 with fail
          rw [← HW.out, ← HG2.out, ← HG.out]
          clear HW HG HG2
          go_wp2_with fail
          go_ret
          exact ⟨by rw [HQ.out, d1, d2, d3]; rfl, HB.out⟩

def pcV (a : Int) (D : ByteArray) (f t : Int) : Value := .agg #[.int .i64 a, .string D, .int .i64 f, .int .i64 t]
set_option maxHeartbeats 4000000 in
theorem pend15 (a f t z : Int) (D : ByteArray) (w : World) (hz : a + (D.size : Int) = z) (wz : IntKind.i64.wrap z = z) :
    Calls Try.prog 28 #[.agg #[.int .i64 a, .string D, .int .i64 f, .int .i64 t]] w fun e w' => e = .returned (.int .i64 z) ∧ Below w.heap.size w w' := by
  have HB := Lib.hid (below_alloc6 w (.cells #[.int .i64 a, .string D, .int .i64 f, .int .i64 t] 23))
  go_enter Try.func28, Try.ntmps28
  go_wp2_with fail
  go_ret
  exact ⟨rfl, HB.out⟩
set_option maxHeartbeats 4000000 in
theorem pfil15 (a f t : Int) (D : ByteArray) (q : Bool) (w : World) (hq : D.toList.isEmpty = q) :
    Calls Try.prog 44 #[.agg #[.int .i64 a, .string D, .int .i64 f, .int .i64 t]] w fun e w' => e = .returned (.bool q) ∧ Below w.heap.size w w' := by
  have HB := Lib.hid (below_alloc6 w (.cells #[.int .i64 a, .string D, .int .i64 f, .int .i64 t] 23))
  go_enter Try.func44, Try.ntmps44
  go_wp2_with fail
  go_ret
  exact ⟨rfl, HB.out⟩
theorem psegm15 (a f t : Int) (D : ByteArray) (w : World) :
    Calls Try.prog 40 #[.agg #[.int .i64 a, .string D, .int .i64 f, .int .i64 t]] w fun e w' => e = .returned (.agg #[.int .i64 f, .int .i64 t]) ∧ Below w.heap.size w w' := by
  go_enter Try.func40, Try.ntmps40
  go_wp2_with fail
  exact bodyPost_ret (results_cell_row rfl _ _ (w.heap.size + 1) 60 _ (0, 0) _ rfl (twoO_new w _ _) Try.underlying60 rfl (by kernel_rfl)) rfl ⟨rfl, twoO_below w _ _⟩

def partB (a f t : Int) (D : ByteArray) : Bool := decide (0 ≤ f) && (decide (f ≤ a) && (decide (a < t) && (decide (t ≤ 4294967296) && (!D.toList.isEmpty && decide ((D.size : Int) ≤ t - a)))))
set_option maxHeartbeats 8000000 in
theorem ppart15 (a f t : Int) (D : ByteArray) (w : World) (hf : (Lit.int .i64 f).wf = true) (ha : (Lit.int .i64 a).wf = true) (ht : (Lit.int .i64 t).wf = true) :
    Calls Try.prog 36 #[.agg #[.int .i64 a, .string D, .int .i64 f, .int .i64 t]] w fun e w' => e = .returned (.bool (partB a f t D)) ∧ Below w.heap.size w w' := by
  have HB := Lib.hid (below_alloc6 w (.cells #[.int .i64 a, .string D, .int .i64 f, .int .i64 t] 23))
  obtain ⟨R, hR⟩ : ∃ R, R = partB a f t D := ⟨_, rfl⟩
  rw [← hR]
  unfold partB at hR
  obtain ⟨q, hq⟩ : ∃ q, q = t - a := ⟨_, rfl⟩
  rw [← hq] at hR
  clear hf ha ht
  cases hc0 : decide ((0 : Int) ≤ f) with
  | false =>
    have HR := Lib.hid (show R = false by rw [hR, hc0]; rfl)
    clear hR hq
    have nc0 : ¬ ((0 : Int) ≤ f) := of_decide_eq_false hc0
    go_enter Try.func36, Try.ntmps36
    go_wp2_with fail
    go_ret
    exact ⟨by rw [HR.out]; rfl, HB.out⟩
  | true =>
    cases hc1 : decide (f ≤ a) with
    | false =>
      have HR := Lib.hid (show R = false by rw [hR, hc0, hc1]; rfl)
      clear hR hq
      have nc0 : ((0 : Int) ≤ f) := of_decide_eq_true hc0
      have nc1 : ¬ (f ≤ a) := of_decide_eq_false hc1
      go_enter Try.func36, Try.ntmps36
      go_wp2_with fail
      go_ret
      exact ⟨by rw [HR.out]; rfl, HB.out⟩
    | true =>
      cases hc2 : decide (a < t) with
      | false =>
        have HR := Lib.hid (show R = false by rw [hR, hc0, hc1, hc2]; rfl)
        clear hR hq
        have nc0 : ((0 : Int) ≤ f) := of_decide_eq_true hc0
        have nc1 : (f ≤ a) := of_decide_eq_true hc1
        have nc2 : ¬ (a < t) := of_decide_eq_false hc2
        go_enter Try.func36, Try.ntmps36
        go_wp2_with fail
        go_ret
        exact ⟨by rw [HR.out]; rfl, HB.out⟩
      | true =>
        cases hc3 : decide (t ≤ 4294967296) with
        | false =>
          have HR := Lib.hid (show R = false by rw [hR, hc0, hc1, hc2, hc3]; rfl)
          clear hR hq
          have nc0 : ((0 : Int) ≤ f) := of_decide_eq_true hc0
          have nc1 : (f ≤ a) := of_decide_eq_true hc1
          have nc2 : (a < t) := of_decide_eq_true hc2
          have nc3 : ¬ (t ≤ 4294967296) := of_decide_eq_false hc3
          go_enter Try.func36, Try.ntmps36
          go_wp2_with fail
          go_ret
          exact ⟨by rw [HR.out]; rfl, HB.out⟩
        | true =>
          cases hc4 : D.toList.isEmpty with
          | true =>
            have HR := Lib.hid (show R = false by rw [hR, hc0, hc1, hc2, hc3, hc4]; rfl)
            clear hR hq
            have nc0 : ((0 : Int) ≤ f) := of_decide_eq_true hc0
            have nc1 : (f ≤ a) := of_decide_eq_true hc1
            have nc2 : (a < t) := of_decide_eq_true hc2
            have nc3 : (t ≤ 4294967296) := of_decide_eq_true hc3
            go_enter Try.func36, Try.ntmps36
            go_wp2_with fail
            go_ret
            exact ⟨by rw [HR.out]; rfl, HB.out⟩
          | false =>
            have kq : t - a = q := hq.symm
            have wq : IntKind.i64.wrap q = q := by
              have e0 : (0 : Int) ≤ f := of_decide_eq_true hc0
              have e1 : f ≤ a := of_decide_eq_true hc1
              have e2 : a < t := of_decide_eq_true hc2
              have e3 : t ≤ 4294967296 := of_decide_eq_true hc3
              rw [IntKind.wrap_i64]; omega
            cases hc5 : decide ((D.size : Int) ≤ q) with
            | false =>
              have HR := Lib.hid (show R = false by rw [hR, hc0, hc1, hc2, hc3, hc4, hc5]; rfl)
              clear hR hq
              have nc0 : ((0 : Int) ≤ f) := of_decide_eq_true hc0
              have nc1 : (f ≤ a) := of_decide_eq_true hc1
              have nc2 : (a < t) := of_decide_eq_true hc2
              have nc3 : (t ≤ 4294967296) := of_decide_eq_true hc3
              have nc5 : ¬ ((D.size : Int) ≤ q) := of_decide_eq_false hc5
              go_enter Try.func36, Try.ntmps36
              go_wp2_with fail
              trace_state
              go_ret
              exact ⟨by rw [HR.out]; rfl, HB.out⟩
            | true =>
              have HR := Lib.hid (show R = true by rw [hR, hc0, hc1, hc2, hc3, hc4, hc5]; rfl)
              clear hR hq
              have nc0 : ((0 : Int) ≤ f) := of_decide_eq_true hc0
              have nc1 : (f ≤ a) := of_decide_eq_true hc1
              have nc2 : (a < t) := of_decide_eq_true hc2
              have nc3 : (t ≤ 4294967296) := of_decide_eq_true hc3
              have nc5 : ((D.size : Int) ≤ q) := of_decide_eq_true hc5
              go_enter Try.func36, Try.ntmps36
              go_wp2_with fail
              trace_state
              go_ret
              exact ⟨by rw [HR.out]; rfl, HB.out⟩
end Go.Proofs.Ytafpmlikocchpaa
