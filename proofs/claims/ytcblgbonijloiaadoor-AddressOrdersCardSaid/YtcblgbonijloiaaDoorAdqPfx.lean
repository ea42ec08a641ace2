/- Contracts of the program's layer 6: MakePrefix, Contains, ValidPrefix, Bounds. -/
import Derived.Test.YtcblgbonijloiaaDoorAdqFree
namespace Go.Proofs.YtcblgbonijloiaaDoor
open Go.ChangeShapes Go.WideShapes Go.ChangeAt Go.RowKit
set_option linter.unusedVariables false

set_option maxRecDepth 20000 in
theorem qmake_bad (v6 : Bool) (hi lo : Nat) (bits : Int) (w : World) (hb : bits < 0 ∨ (width v6 : Int) < bits) :
    Calls Tryd.prog 19 #[.agg #[.bool v6, .int .u64 hi, .int .u64 lo], .int .i64 bits] w fun e w' => e = .returned (.tuple #[.agg #[.bool false, .int .u64 0, .int .u64 0, .int .i64 0], .int .i64 4]) ∧ Below w.heap.size w w' := by
  have HWD := Lib.hid (fun W => qwidth_any v6 hi lo W)
  have HX := Lib.hid (ab_new w v6 hi lo |>.kept (below_alloc6 _ (.cells #[.bool false, .int .u64 0, .int .u64 0, .int .i64 0] 30)) (alloc_lt6 w _))
  have HR := Lib.hid (pb2 w (.cells #[.bool v6, .int .u64 hi, .int .u64 lo] 25) false 0 0 0)
  have HB := Lib.hid (below2 w (.cells #[.bool v6, .int .u64 hi, .int .u64 lo] 25) (.cells #[.bool false, .int .u64 0, .int .u64 0, .int .i64 0] 30))
  by_cases c : bits < 0
  · have d : decide (bits < 0) = true := by simpa using c
    clear hb c
    go_enter Tryd.func19, Tryd.ntmps19
    go_wp2_with fail
    exact bodyPost_ret (res_pfx2 rfl _ _ rfl HR.out) rfl ⟨rfl, HB.out⟩
  · have d : decide (bits < 0) = false := by simpa using c
    have d2 : decide ((width v6 : Int) < bits) = true := by simp; omega
    obtain ⟨wd, hwd⟩ : ∃ wd, wd = width v6 := ⟨_, rfl⟩
    rw [← hwd] at d2 HWD
    have hlt : (wd : Int) < bits := by simpa using d2
    clear hb hwd
    go_enter Tryd.func19, Tryd.ntmps19
    go_wp2_with fail
    refine (HWD.out _).mono ?_
    rintro e w2 ⟨rfl, hb⟩
    have HR2 := Lib.hid (HR.out.kept hb HR.out.lt)
    have HB2 := Lib.hid (HB.out.trans (hb.mono HB.out.size))
    have r0 := HR2.out.c0
    have r1 := HR2.out.c1
    have r2 := HR2.out.c2
    have r3 := HR2.out.c3
    have rf0 := HR2.out.f 0
    have rf1 := HR2.out.f 1
    have rf2 := HR2.out.f 2
    have rf3 := HR2.out.f 3
    clear hb
    go_wp2_with fail
    change bodyPost _ _ _ _ _ (pset w2 (w.heap.size + 1) false 0 0 0)
    exact bodyPost_ret (res_pfx2 rfl _ _ rfl (HR2.out.set false 0 0 0)) rfl ⟨rfl, pset_below HB2.out (Nat.le_succ _) false 0 0 0⟩
/-- What MakePrefix makes: the two halves with the free bits 0. -/
def mkH (v6 : Bool) (k hi : Nat) : Nat := lowZ (frH v6 k) hi
def mkL (v6 : Bool) (k lo : Nat) : Nat := lowZ (frL v6 k) lo
set_option maxHeartbeats 1000000 in
set_option maxRecDepth 20000 in
theorem qmake_ok (v6 : Bool) (hi lo k : Nat) (w : World) (h1 : hi < 18446744073709551616) (h2 : lo < 18446744073709551616) (hb : k ≤ width v6) :
    Calls Tryd.prog 19 #[.agg #[.bool v6, .int .u64 hi, .int .u64 lo], .int .i64 k] w fun e w' => e = .returned (.tuple #[.agg #[.bool v6, .int .u64 (mkH v6 k hi : Nat), .int .u64 (mkL v6 k lo : Nat), .int .i64 k], .int .i64 0]) ∧ Below w.heap.size w w' := by
  have HWD := Lib.hid (fun W => qwidth_any v6 hi lo W)
  have HFR := Lib.hid (fun W => qfree_any v6 hi lo k W hb)
  have HN1 := andNot64 hi (frH v6 k) h1 (frH_le v6 k)
  have HN2 := andNot64 lo (frL v6 k) h2 (frL_le v6 k)
  have HX := Lib.hid (ab_new w v6 hi lo |>.kept (below_alloc6 _ (.cells #[.bool false, .int .u64 0, .int .u64 0, .int .i64 0] 30)) (alloc_lt6 w _))
  have HR := Lib.hid (pb2 w (.cells #[.bool v6, .int .u64 hi, .int .u64 lo] 25) false 0 0 0)
  have HB := Lib.hid (below2 w (.cells #[.bool v6, .int .u64 hi, .int .u64 lo] 25) (.cells #[.bool false, .int .u64 0, .int .u64 0, .int .i64 0] 30))
  have d : decide ((k : Int) < 0) = false := by simp
  unfold mkH mkL
  generalize lowZ (frH v6 k) hi = hi' at *
  generalize lowZ (frL v6 k) lo = lo' at *
  generalize 2 ^ frH v6 k - 1 = p at *
  generalize 2 ^ frL v6 k - 1 = q at *
  obtain ⟨wd, hwd⟩ : ∃ wd, wd = width v6 := ⟨_, rfl⟩
  rw [← hwd] at hb HWD
  have d2 : decide ((wd : Int) < (k : Int)) = false := by simp; omega
  have d3 : ¬ (wd : Int) < (k : Int) := by omega
  have hk : k ≤ 128 := by unfold width at hwd; split at hwd <;> omega
  clear hwd
  go_enter Tryd.func19, Tryd.ntmps19
  go_wp2_with fail
  refine (HWD.out _).mono ?_
  rintro e w2 ⟨rfl, hbw⟩
  have HX2 := Lib.hid (HX.out.kept hbw HX.out.lt)
  have HR2 := Lib.hid (HR.out.kept hbw HR.out.lt)
  have HB2 := Lib.hid (HB.out.trans (hbw.mono HB.out.size))
  have x0 := HX2.out.c0
  have x1 := HX2.out.c1
  have x2 := HX2.out.c2
  clear hbw HX HR HB
  go_wp2_with fail
  refine (HFR.out _).mono ?_
  rintro e w3 ⟨rfl, hbw⟩
  have HX3 := Lib.hid (HX2.out.kept hbw HX2.out.lt)
  have HR3 := Lib.hid (HR2.out.kept hbw HR2.out.lt)
  have HB3 := Lib.hid (HB2.out.trans (hbw.mono HB2.out.size))
  clear hbw HX2 HR2 HB2 x0 x1 x2
  have x0 := HX3.out.c0
  have x1 := HX3.out.c1
  have x2 := HX3.out.c2
  have xf1 := HX3.out.f 1
  have xf2 := HX3.out.f 2
  have r0 := HR3.out.c0
  have r1 := HR3.out.c1
  have r2 := HR3.out.c2
  have r3 := HR3.out.c3
  have rf0 := HR3.out.f 0
  have rf1 := HR3.out.f 1
  have rf2 := HR3.out.f 2
  have rf3 := HR3.out.f 3
  have HW4 := Lib.hid (((HR3.out.far (b := w.heap.size) (i := 1) (by omega) (.int .u64 hi')).far (b := w.heap.size) (i := 2) (by omega) (.int .u64 lo')))
  have HB4 := Lib.hid ((HB3.out.setCell (p := ⟨w.heap.size, 1, none⟩) (Nat.le_refl _) (.int .u64 hi')).setCell (p := ⟨w.heap.size, 2, none⟩) (Nat.le_refl _) (.int .u64 lo'))
  go_wp2_with fail
  change bodyPost _ _ _ _ _ (pset ((w3.setCell ⟨w.heap.size, 1, none⟩ (.int .u64 hi')).setCell ⟨w.heap.size, 2, none⟩ (.int .u64 lo')) (w.heap.size + 1) v6 hi' lo' k)
  exact bodyPost_ret (res_pfx2 rfl _ _ rfl (HW4.out.set v6 hi' lo' k)) rfl ⟨rfl, pset_below HB4.out (Nat.le_succ _) v6 hi' lo' k⟩
end Go.Proofs.YtcblgbonijloiaaDoor
