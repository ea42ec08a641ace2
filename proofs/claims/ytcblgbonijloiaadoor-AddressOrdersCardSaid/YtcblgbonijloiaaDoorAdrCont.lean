/- Contracts of the reference of layer 6: Contains, ValidPrefix, Bounds. -/
import Derived.Test.YtcblgbonijloiaaDoorAdrPfx
namespace Go.Proofs.YtcblgbonijloiaaDoor
open Go.ChangeShapes Go.WideShapes Go.ChangeAt Go.RowKit
set_option linter.unusedVariables false

theorem numA_inj {a b c d : Nat} (h1 : b < 18446744073709551616) (h2 : d < 18446744073709551616) : numA a b = numA c d ↔ a = c ∧ b = d := by
  unfold numA
  constructor
  · intro h
    have : 2 ^ 64 = 18446744073709551616 := by decide
    omega
  · rintro ⟨rfl, rfl⟩; rfl
theorem numA_lt {a b : Nat} (h1 : a < 18446744073709551616) (h2 : b < 18446744073709551616) : numA a b < 2 ^ 128 := by
  unfold numA
  have : (2 : Nat) ^ 64 = 18446744073709551616 := by decide
  have : (2 : Nat) ^ 128 = 18446744073709551616 * 18446744073709551616 := by decide
  omega
set_option maxHeartbeats 1000000 in
set_option maxRecDepth 20000 in
theorem rcont6_any (v1 v2 : Bool) (h1 l1 k h2 l2 : Nat) (w : World) (a1 : h1 < 18446744073709551616) (a2 : l1 < 18446744073709551616) (b1 : h2 < 18446744073709551616) (b2 : l2 < 18446744073709551616) (hk : v1 = v2 → k ≤ width v2) :
    Calls Tryd.prog 38 #[.agg #[.bool v1, .int .u64 h1, .int .u64 l1, .int .i64 k], .agg #[.bool v2, .int .u64 h2, .int .u64 l2]] w fun e w' => e = .returned (.bool (v1 == v2 && decide (cutN (width v2) k (numA h2 l2) = numA h1 l1))) ∧ Below w.heap.size w w' := by
  have hm := addr_guard
  have HX := Lib.hid (pb_new w v1 h1 l1 k |>.kept (below_alloc6 _ (.cells #[.bool v2, .int .u64 h2, .int .u64 l2] 25)) (alloc_lt6 w _))
  have HY := Lib.hid (ab2 w (.cells #[.bool v1, .int .u64 h1, .int .u64 l1, .int .i64 k] 30) v2 h2 l2)
  have HB := Lib.hid (below2 w (.cells #[.bool v1, .int .u64 h1, .int .u64 l1, .int .i64 k] 30) (.cells #[.bool v2, .int .u64 h2, .int .u64 l2] 25))
  by_cases e : v1 = v2
  · subst e
    have HW := Lib.hid (fun W => rwith6_any v1 false h2 l2 k W b1 b2 (hk rfl))
    have HE := Lib.hid (fun hi' lo' (h : Wst (numA h2 l2) (width v1) k (width v1) false hi' lo') => show ((((hi' : Nat) : Int) == (h1 : Int) && ((lo' : Nat) : Int) == (l1 : Int)) : Bool) = (v1 == v1 && decide (cutN (width v1) k (numA h2 l2) = numA h1 l1)) from by
      have he := wst_end h (numA_lt b1 b2) (by unfold width; split <;> omega)
      rw [if_neg (by decide)] at he
      rw [← he, Bool.eq_iff_iff]
      simp only [beq_self_eq_true, Bool.true_and, Bool.and_eq_true, beq_iff_eq, decide_eq_true_eq, numA_inj h.h2 a2]
      omega)
    have HQ := Lib.hid (fun hi' lo' => addr_eql v1 v1 hi' h1 lo' l1)
    clear hk
    go_enter Tryd.func38, Tryd.ntmps38
    go_wp2_with fail
    generalize (w.alloc (.cells #[.bool v1, .int .u64 h1, .int .u64 l1, .int .i64 k] 30)).alloc (.cells #[.bool v1, .int .u64 h2, .int .u64 l2] 25) = w1 at *
    have p0 := HX.out.c0
    have p1 := HX.out.c1
    have p2 := HX.out.c2
    have p3 := HX.out.c3
    have y0 := HY.out.c0
    have y1 := HY.out.c1
    have y2 := HY.out.c2
    go_region_held3 (fun w' => w'.cell? ⟨w.heap.size, 0, none⟩ = some (.bool v1) ∧ w'.cell? ⟨w.heap.size, 1, none⟩ = some (.int .u64 h1) ∧ w'.cell? ⟨w.heap.size, 2, none⟩ = some (.int .u64 l1) ∧ w'.cell? ⟨w.heap.size, 3, none⟩ = some (.int .i64 k) ∧ w'.cell? ⟨w.heap.size + 1, 0, none⟩ = some (.bool v1) ∧ w'.cell? ⟨w.heap.size + 1, 1, none⟩ = some (.int .u64 h2) ∧ w'.cell? ⟨w.heap.size + 1, 2, none⟩ = some (.int .u64 l2)) (go_keep) (first
      | (go_at_call 50; refine (HW.out _).mono ?_; rintro e w5 ⟨⟨hi', lo', rfl, hst⟩, hb3d⟩; have hb5 : Below w1.heap.size w1 w5 := ⟨hb3d.os, hb3d.tape, hb3d.output, hb3d.size, hb3d.block⟩; have hx5 := HX.out.kept hb5 HX.out.lt; have hy5 := HY.out.kept hb5 HY.out.lt; have j0 := hx5.c0; have j1 := hx5.c1; have j2 := hx5.c2; have j3 := hx5.c3; have i0 := hy5.c0; have i1 := hy5.c1; have i2 := hy5.c2; have qe := HQ.out hi' lo'))
    all_goals
      have HST := Lib.hid hst
      have HB5 := Lib.hid (HB.out.trans (hb5.mono HB.out.size))
      clear hst hb5 hx5 hy5 j0 j1 j2 j3 i0 i1 i2 qe p0 p1 p2 p3 y0 y1 y2
      go_wp2_with fail
      go_ret
      exact ⟨congrArg (fun b => Ending.returned (.bool b)) (HE.out hi' lo' HST.out), HB5.out⟩
  · have hv : (v1 == v2) = false := by simpa using e
    have HV := Lib.hid hv
    clear e hk
    go_enter Tryd.func38, Tryd.ntmps38
    go_wp2_with fail
    generalize (w.alloc (.cells #[.bool v1, .int .u64 h1, .int .u64 l1, .int .i64 k] 30)).alloc (.cells #[.bool v2, .int .u64 h2, .int .u64 l2] 25) = w1 at *
    have p0 := HX.out.c0
    have y0 := HY.out.c0
    go_quiet (fail)
    have HB5 := Lib.hid (below_drewN6 HB.out nq)
    go_wp2_with fail
    go_ret
    exact ⟨by rw [HV.out]; rfl, HB5.out⟩
end Go.Proofs.YtcblgbonijloiaaDoor
