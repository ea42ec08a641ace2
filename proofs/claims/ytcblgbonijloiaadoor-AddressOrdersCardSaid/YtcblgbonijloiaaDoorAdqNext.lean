/- Contracts of the program's layer 6: Next, Previous. -/
import Derived.Test.YtcblgbonijloiaaDoorAdqBnd
namespace Go.Proofs.YtcblgbonijloiaaDoor
open Go.ChangeShapes Go.WideShapes Go.ChangeAt Go.RowKit
set_option linter.unusedVariables false

theorem vldP_whole (v6 : Bool) : vldP v6 0 0 ((0 : Nat) : Int) = true := by cases v6 <;> decide +kernel
theorem last_h (v6 : Bool) : lowO (frH v6 0) 0 = if v6 then 18446744073709551615 else 0 := by cases v6 <;> decide +kernel
theorem last_l (v6 : Bool) : lowO (frL v6 0) 0 = if v6 then 18446744073709551615 else 4294967295 := by cases v6 <;> decide +kernel
/-- Is an address the last one of its family? -/
def isLast (v6 : Bool) (hi lo : Nat) : Bool := v6 == v6 && ((hi : Int) == ((lowO (frH v6 0) 0 : Nat) : Int) && (lo : Int) == ((lowO (frL v6 0) 0 : Nat) : Int))
theorem last_true {v6 : Bool} {hi lo : Nat} (h : isLast v6 hi lo = true) : nxtA v6 hi lo = none := by
  unfold isLast at h
  rw [last_h, last_l] at h
  simp only [beq_self_eq_true, Bool.true_and, Bool.and_eq_true, beq_iff_eq] at h
  obtain ⟨a, b⟩ := h
  unfold nxtA
  cases v6 with
  | true =>
    rw [if_pos rfl] at a b
    rw [if_neg (by omega), if_pos rfl, if_neg (by omega)]
  | false =>
    rw [if_neg (by decide)] at a b
    rw [if_pos (by omega), if_pos ⟨rfl, by omega⟩]
theorem last_false {v6 : Bool} {hi lo : Nat} (h : isLast v6 hi lo = false) (hv : vldA v6 hi lo = true) (h1 : hi < 18446744073709551616) (h2 : lo < 18446744073709551616) :
    (lo + 1 < 18446744073709551616 ∧ nxtA v6 hi lo = some (v6, hi, lo + 1)) ∨ (lo + 1 = 18446744073709551616 ∧ hi + 1 < 18446744073709551616 ∧ nxtA v6 hi lo = some (v6, hi + 1, 0)) := by
  unfold isLast at h
  rw [last_h, last_l] at h
  simp only [beq_self_eq_true, Bool.true_and, Bool.and_eq_false_iff, beq_eq_false_iff_ne, ne_eq] at h
  unfold vldA at hv
  unfold nxtA
  cases v6 with
  | true =>
    rw [if_pos rfl, if_pos rfl] at h
    by_cases a : lo + 1 < 18446744073709551616
    · left
      rw [if_pos a, if_neg (by simp)]
      exact ⟨a, rfl⟩
    · right
      rw [if_neg a, if_pos rfl, if_pos (by omega)]
      exact ⟨by omega, by omega, rfl⟩
  | false =>
    simp only [Bool.false_eq_true, if_false] at h
    simp only [Bool.false_or, Bool.and_eq_true, beq_iff_eq, decide_eq_true_eq] at hv
    left
    rw [if_pos (by omega), if_neg (by intro e; omega)]
    exact ⟨by omega, rfl⟩
theorem rng_hi (v1 : Bool) (h1 l1 : Int) (v2 : Bool) (h2 l2 : Int) (W : World) : (Instr.field 40 (.agg #[.bool v1, .int .u64 h1, .int .u64 l1, .bool v2, .int .u64 h2, .int .u64 l2]) 1).run Tryd.prog W = .ok (.agg #[.bool v2, .int .u64 h2, .int .u64 l2]) W := by kernel_rfl
theorem rng_lo (v1 : Bool) (h1 l1 : Int) (v2 : Bool) (h2 l2 : Int) (W : World) : (Instr.field 40 (.agg #[.bool v1, .int .u64 h1, .int .u64 l1, .bool v2, .int .u64 h2, .int .u64 l2]) 0).run Tryd.prog W = .ok (.agg #[.bool v1, .int .u64 h1, .int .u64 l1]) W := by kernel_rfl
set_option maxHeartbeats 1000000 in
set_option maxRecDepth 20000 in
theorem qnext_any (v6 : Bool) (hi lo : Nat) (w : World) (h1 : hi < 18446744073709551616) (h2 : lo < 18446744073709551616) (hv : vldA v6 hi lo = true) :
    Calls Tryd.prog 31 #[.agg #[.bool v6, .int .u64 hi, .int .u64 lo]] w fun e w' => e = .returned (aRes (nxtA v6 hi lo)) ∧ Below w.heap.size w w' := by
  have hm := addr_guard
  have hfd := rng_hi v6 0 0 v6 (lowO (frH v6 0) 0 : Nat) (lowO (frL v6 0) 0 : Nat)
  have HX := Lib.hid (ab_new w v6 hi lo |>.kept (below_alloc6 _ (.cells #[.bool false, .int .u64 0, .int .u64 0] 25)) (alloc_lt6 w _))
  have HR := Lib.hid (ab2 w (.cells #[.bool v6, .int .u64 hi, .int .u64 lo] 25) false 0 0)
  have HB := Lib.hid (below2 w (.cells #[.bool v6, .int .u64 hi, .int .u64 lo] 25) (.cells #[.bool false, .int .u64 0, .int .u64 0] 25))
  have HF := Lib.hid (fun W => qfirst_any v6 W)
  have HBD := Lib.hid (fun W => qbounds_any v6 0 0 0 W (by decide) (by decide) (vldP_whole v6))
  have HE := Lib.hid (fun (h : isLast v6 hi lo = true) => last_true h)
  have HN := Lib.hid (fun (h : isLast v6 hi lo = false) => last_false h hv h1 h2)
  have qe : ∀ W, (binOp .eql 25 (.agg #[.bool v6, .int .u64 hi, .int .u64 lo]) (.agg #[.bool v6, .int .u64 (lowO (frH v6 0) 0 : Nat), .int .u64 (lowO (frL v6 0) 0 : Nat)])).run Tryd.prog W = .ok (.bool (isLast v6 hi lo)) W := fun W => addr_eql v6 v6 hi (lowO (frH v6 0) 0 : Nat) lo (lowO (frL v6 0) 0 : Nat) W
  generalize isLast v6 hi lo = E at *
  generalize lowO (frH v6 0) 0 = lh at *
  generalize lowO (frL v6 0) 0 = ll at *
  clear h1 h2 hv
  go_enter Tryd.func31, Tryd.ntmps31
  go_wp2_with fail
  generalize (w.alloc (.cells #[.bool v6, .int .u64 hi, .int .u64 lo] 25)).alloc (.cells #[.bool false, .int .u64 0, .int .u64 0] 25) = w1 at *
  have x0 := HX.out.c0
  have x1 := HX.out.c1
  have x2 := HX.out.c2
  go_region_held3 (fun w' => w'.cell? ⟨w.heap.size, 0, none⟩ = some (.bool v6) ∧ w'.cell? ⟨w.heap.size, 1, none⟩ = some (.int .u64 hi) ∧ w'.cell? ⟨w.heap.size, 2, none⟩ = some (.int .u64 lo)) (go_keep) (first
    | (go_at_call 61; refine (HF.out _).mono ?_; rintro e w5 ⟨rfl, hb3d⟩; have hb5 : Below w1.heap.size w1 w5 := ⟨hb3d.os, hb3d.tape, hb3d.output, hb3d.size, hb3d.block⟩; have hx5 := HX.out.kept hb5 HX.out.lt; have j0 := hx5.c0; have j1 := hx5.c1; have j2 := hx5.c2)
    | (go_at_call 27; refine (HBD.out _).mono ?_; rintro e w6 ⟨rfl, hb4d⟩; have hb6 : Below w1.heap.size w1 w6 := hb5.trans ((show Below w5.heap.size w5 w6 from ⟨hb4d.os, hb4d.tape, hb4d.output, hb4d.size, hb4d.block⟩).mono hb5.size); have hx6 := HX.out.kept hb6 HX.out.lt; have i0 := hx6.c0; have i1 := hx6.c1; have i2 := hx6.c2))
  all_goals
    have HX6 := Lib.hid hx6
    have HR6 := Lib.hid (HR.out.kept hb6 HR.out.lt)
    have HB6 := Lib.hid (HB.out.trans (hb6.mono HB.out.size))
    clear hb5 hx5 j0 j1 j2 hb6 hx6 i0 i1 i2 x0 x1 x2 HX HR HB qe hfd
    have x0 := HX6.out.c0
    have x1 := HX6.out.c1
    have x2 := HX6.out.c2
    have xf1 := HX6.out.f 1
    have xf2 := HX6.out.f 2
    have r0 := HR6.out.c0
    have r1 := HR6.out.c1
    have r2 := HR6.out.c2
    have rf0 := HR6.out.f 0
    have rf1 := HR6.out.f 1
    have rf2 := HR6.out.f 2
    cases E with
    | true =>
      have HEE := Lib.hid (HE.out rfl)
      clear HE HN
      go_wp2_with fail
      change bodyPost _ _ _ _ _ (aset w6 (w.heap.size + 1) false 0 0)
      exact bodyPost_ret (res_addr2 rfl _ _ rfl (HR6.out.set false 0 0)) rfl ⟨by rw [HEE.out]; rfl, aset_below HB6.out (Nat.le_succ _) false 0 0⟩
    | false =>
      rcases HN.out rfl with ⟨n1, n2⟩ | ⟨n1, n3, n2⟩
      · have HN2 := Lib.hid n2
        have e0 : ((lo : Int) + 1 == 0) = false := by rw [beq_eq_false_iff_ne]; omega
        have HR7 := Lib.hid (HR6.out.far (b := w.heap.size) (i := 2) (by omega) (.int .u64 ((lo + 1 : Nat) : Int)))
        have HB7 := Lib.hid (HB6.out.setCell (p := ⟨w.heap.size, 2, none⟩) (Nat.le_refl _) (.int .u64 ((lo + 1 : Nat) : Int)))
        clear HE HN n2
        go_wp2_with fail
        change bodyPost _ _ _ _ _ (aset (w6.setCell ⟨w.heap.size, 2, none⟩ (.int .u64 ((lo + 1 : Nat) : Int))) (w.heap.size + 1) v6 hi (lo + 1))
        exact bodyPost_ret (res_addr2 rfl _ _ rfl (HR7.out.set v6 hi (lo + 1))) rfl ⟨by rw [HN2.out]; rfl, aset_below HB7.out (Nat.le_succ _) v6 hi (lo + 1)⟩
      · have HN2 := Lib.hid n2
        have hw := wrap_u64_up n1
        have hm2 : ((lo : Int) + 1) % 18446744073709551616 = 0 := by omega
        have HR7 := Lib.hid ((HR6.out.far (b := w.heap.size) (i := 2) (by omega) (.int .u64 ((0 : Nat) : Int))).far (b := w.heap.size) (i := 1) (by omega) (.int .u64 ((hi + 1 : Nat) : Int)))
        have HB7 := Lib.hid ((HB6.out.setCell (p := ⟨w.heap.size, 2, none⟩) (Nat.le_refl _) (.int .u64 ((0 : Nat) : Int))).setCell (p := ⟨w.heap.size, 1, none⟩) (Nat.le_refl _) (.int .u64 ((hi + 1 : Nat) : Int)))
        clear HE HN n2 n1
        go_wp2_with fail
        change bodyPost _ _ _ _ _ (aset ((w6.setCell ⟨w.heap.size, 2, none⟩ (.int .u64 ((0 : Nat) : Int))).setCell ⟨w.heap.size, 1, none⟩ (.int .u64 ((hi + 1 : Nat) : Int))) (w.heap.size + 1) v6 (hi + 1) 0)
        exact bodyPost_ret (res_addr2 rfl _ _ rfl (HR7.out.set v6 (hi + 1) 0)) rfl ⟨by rw [HN2.out]; rfl, aset_below HB7.out (Nat.le_succ _) v6 (hi + 1) 0⟩
/-- Is an address the first one of its family? -/
def isFirst (v6 : Bool) (hi lo : Nat) : Bool := v6 == v6 && ((hi : Int) == 0 && (lo : Int) == 0)
theorem wrap_u64_down : IntKind.u64.wrap (-1) = 18446744073709551615 := by decide
set_option maxHeartbeats 1000000 in
set_option maxRecDepth 20000 in
theorem qprev_any (v6 : Bool) (hi lo : Nat) (w : World) (h1 : hi < 18446744073709551616) (h2 : lo < 18446744073709551616) :
    Calls Tryd.prog 35 #[.agg #[.bool v6, .int .u64 hi, .int .u64 lo]] w fun e w' => e = .returned (aRes (prvA v6 hi lo)) ∧ Below w.heap.size w w' := by
  have hm := addr_guard
  have HX := Lib.hid (ab_new w v6 hi lo |>.kept (below_alloc6 _ (.cells #[.bool false, .int .u64 0, .int .u64 0] 25)) (alloc_lt6 w _))
  have HR := Lib.hid (ab2 w (.cells #[.bool v6, .int .u64 hi, .int .u64 lo] 25) false 0 0)
  have HB := Lib.hid (below2 w (.cells #[.bool v6, .int .u64 hi, .int .u64 lo] 25) (.cells #[.bool false, .int .u64 0, .int .u64 0] 25))
  have HF := Lib.hid (fun W => qfirst_any v6 W)
  have HE := Lib.hid (show isFirst v6 hi lo = true → prvA v6 hi lo = none from fun h => by
    unfold isFirst at h
    simp only [beq_self_eq_true, Bool.true_and, Bool.and_eq_true, beq_iff_eq] at h
    unfold prvA
    rw [if_pos (by omega), if_pos (by omega)])
  have HN := Lib.hid (show isFirst v6 hi lo = false → (0 < lo ∧ prvA v6 hi lo = some (v6, hi, lo - 1)) ∨ (lo = 0 ∧ 0 < hi ∧ prvA v6 hi lo = some (v6, hi - 1, 18446744073709551615)) from fun h => by
    unfold isFirst at h
    simp only [beq_self_eq_true, Bool.true_and, Bool.and_eq_false_iff, beq_eq_false_iff_ne, ne_eq] at h
    unfold prvA
    by_cases a : lo = 0
    · exact .inr ⟨a, by omega, by rw [if_pos a, if_neg (by omega)]⟩
    · exact .inl ⟨by omega, by rw [if_neg a]⟩)
  have qe : ∀ W, (binOp .eql 25 (.agg #[.bool v6, .int .u64 hi, .int .u64 lo]) (.agg #[.bool v6, .int .u64 0, .int .u64 0])).run Tryd.prog W = .ok (.bool (isFirst v6 hi lo)) W := fun W => addr_eql v6 v6 hi 0 lo 0 W
  generalize isFirst v6 hi lo = E at *
  go_enter Tryd.func35, Tryd.ntmps35
  go_wp2_with fail
  generalize (w.alloc (.cells #[.bool v6, .int .u64 hi, .int .u64 lo] 25)).alloc (.cells #[.bool false, .int .u64 0, .int .u64 0] 25) = w1 at *
  have x0 := HX.out.c0
  have x1 := HX.out.c1
  have x2 := HX.out.c2
  go_region_held3 (fun w' => w'.cell? ⟨w.heap.size, 0, none⟩ = some (.bool v6) ∧ w'.cell? ⟨w.heap.size, 1, none⟩ = some (.int .u64 hi) ∧ w'.cell? ⟨w.heap.size, 2, none⟩ = some (.int .u64 lo)) (go_keep) (first
    | (go_at_call 61; refine (HF.out _).mono ?_; rintro e w6 ⟨rfl, hb3d⟩; have hb6 : Below w1.heap.size w1 w6 := ⟨hb3d.os, hb3d.tape, hb3d.output, hb3d.size, hb3d.block⟩; have hx6 := HX.out.kept hb6 HX.out.lt; have j0 := hx6.c0; have j1 := hx6.c1; have j2 := hx6.c2))
  all_goals
    have HX6 := Lib.hid hx6
    have HR6 := Lib.hid (HR.out.kept hb6 HR.out.lt)
    have HB6 := Lib.hid (HB.out.trans (hb6.mono HB.out.size))
    clear hb6 hx6 j0 j1 j2 x0 x1 x2 HX HR HB qe
    have x0 := HX6.out.c0
    have x1 := HX6.out.c1
    have x2 := HX6.out.c2
    have xf1 := HX6.out.f 1
    have xf2 := HX6.out.f 2
    have r0 := HR6.out.c0
    have r1 := HR6.out.c1
    have r2 := HR6.out.c2
    have rf0 := HR6.out.f 0
    have rf1 := HR6.out.f 1
    have rf2 := HR6.out.f 2
    cases E with
    | true =>
      have HEE := Lib.hid (HE.out rfl)
      clear HE HN
      go_wp2_with fail
      change bodyPost _ _ _ _ _ (aset w6 (w.heap.size + 1) false 0 0)
      exact bodyPost_ret (res_addr2 rfl _ _ rfl (HR6.out.set false 0 0)) rfl ⟨by rw [HEE.out]; rfl, aset_below HB6.out (Nat.le_succ _) false 0 0⟩
    | false =>
      rcases HN.out rfl with ⟨n1, n2⟩ | ⟨n1, n3, n2⟩
      · have HN2 := Lib.hid n2
        obtain ⟨m, hm⟩ : ∃ m, lo = m + 1 := ⟨lo - 1, by omega⟩
        rw [show lo - 1 = m by omega] at HN2
        have e0 : ((lo : Int) == 0) = false := by rw [beq_eq_false_iff_ne]; omega
        have e1 : (lo : Int) - 1 = (m : Int) := by omega
        have HR7 := Lib.hid (HR6.out.far (b := w.heap.size) (i := 2) (by omega) (.int .u64 (m : Int)))
        have HB7 := Lib.hid (HB6.out.setCell (p := ⟨w.heap.size, 2, none⟩) (Nat.le_refl _) (.int .u64 (m : Int)))
        clear HE HN n2 hm
        go_wp2_with fail
        change bodyPost _ _ _ _ _ (aset (w6.setCell ⟨w.heap.size, 2, none⟩ (.int .u64 (m : Int))) (w.heap.size + 1) v6 hi m)
        exact bodyPost_ret (res_addr2 rfl _ _ rfl (HR7.out.set v6 hi m)) rfl ⟨by rw [HN2.out]; rfl, aset_below HB7.out (Nat.le_succ _) v6 hi m⟩
      · have HN2 := Lib.hid n2
        obtain ⟨m, hm⟩ : ∃ m, hi = m + 1 := ⟨hi - 1, by omega⟩
        rw [show hi - 1 = m by omega] at HN2
        have e1 : (hi : Int) - 1 = (m : Int) := by omega
        have hw := wrap_u64_down
        have HR7 := Lib.hid ((HR6.out.far (b := w.heap.size) (i := 1) (by omega) (.int .u64 (m : Int))).far (b := w.heap.size) (i := 2) (by omega) (.int .u64 ((18446744073709551615 : Nat) : Int)))
        have HB7 := Lib.hid ((HB6.out.setCell (p := ⟨w.heap.size, 1, none⟩) (Nat.le_refl _) (.int .u64 (m : Int))).setCell (p := ⟨w.heap.size, 2, none⟩) (Nat.le_refl _) (.int .u64 ((18446744073709551615 : Nat) : Int)))
        subst n1
        clear HE HN n2 hm n3
        go_wp2_with fail
        change bodyPost _ _ _ _ _ (aset ((w6.setCell ⟨w.heap.size, 1, none⟩ (.int .u64 (m : Int))).setCell ⟨w.heap.size, 2, none⟩ (.int .u64 ((18446744073709551615 : Nat) : Int))) (w.heap.size + 1) v6 m 18446744073709551615)
        exact bodyPost_ret (res_addr2 rfl _ _ rfl (HR7.out.set v6 m 18446744073709551615)) rfl ⟨by rw [HN2.out]; rfl, aset_below HB7.out (Nat.le_succ _) v6 m 18446744073709551615⟩
end Go.Proofs.YtcblgbonijloiaaDoor
