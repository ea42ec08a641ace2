/- Prefixes in memory; contracts of the reference of layer 6: MakePrefix, ValidPrefix, Contains, Bounds. -/
import Derived.Test.YtcblgbonijloiaaDoorAdrWith
import Derived.Deep.RegionHeld3
namespace Go.Proofs.YtcblgbonijloiaaDoor
open Go.ChangeShapes Go.WideShapes Go.ChangeAt Go.RowKit
set_option linter.unusedVariables false

/-- A prefix in a box. -/
def PB (w : World) (g : Nat) (v6 : Bool) (hi lo : Nat) (bits : Int) : Prop := Cells w g 30 #[.bool v6, .int .u64 hi, .int .u64 lo, .int .i64 bits]
theorem pb_new (w : World) (v6 : Bool) (hi lo : Nat) (bits : Int) : PB (w.alloc (.cells #[.bool v6, .int .u64 hi, .int .u64 lo, .int .i64 bits] 30)) w.heap.size v6 hi lo bits := heap_alloc_new w _
theorem PB.kept {w w' : World} {g B : Nat} {v6 : Bool} {hi lo : Nat} {bits : Int} (h : PB w g v6 hi lo bits) (hb : Below B w w') (hg : g < B) : PB w' g v6 hi lo bits := (hb.block _ hg).trans h
theorem PB.lt {w : World} {g : Nat} {v6 : Bool} {hi lo : Nat} {bits : Int} (h : PB w g v6 hi lo bits) : g < w.heap.size := Cells.lt h
theorem PB.c0 {w : World} {g : Nat} {v6 : Bool} {hi lo : Nat} {bits : Int} (h : PB w g v6 hi lo bits) : w.cell? ⟨g, 0, none⟩ = some (.bool v6) := (Cells.cell h 0).trans rfl
theorem PB.c1 {w : World} {g : Nat} {v6 : Bool} {hi lo : Nat} {bits : Int} (h : PB w g v6 hi lo bits) : w.cell? ⟨g, 1, none⟩ = some (.int .u64 hi) := (Cells.cell h 1).trans rfl
theorem PB.c2 {w : World} {g : Nat} {v6 : Bool} {hi lo : Nat} {bits : Int} (h : PB w g v6 hi lo bits) : w.cell? ⟨g, 2, none⟩ = some (.int .u64 lo) := (Cells.cell h 2).trans rfl
theorem PB.c3 {w : World} {g : Nat} {v6 : Bool} {hi lo : Nat} {bits : Int} (h : PB w g v6 hi lo bits) : w.cell? ⟨g, 3, none⟩ = some (.int .i64 bits) := (Cells.cell h 3).trans rfl
theorem PB.far {w : World} {g b i : Nat} {v6 : Bool} {hi lo : Nat} {bits : Int} (h : PB w g v6 hi lo bits) (hne : g ≠ b) (u : Value) : PB (w.setCell ⟨b, i, none⟩ u) g v6 hi lo bits := (Below.heap_setCell w ⟨b, i, none⟩ u g hne).trans h
theorem PB.f {w : World} {g : Nat} {v6 : Bool} {hi lo : Nat} {bits : Int} (h : PB w g v6 hi lo bits) (i : Nat) : w.frozen? ⟨g, i, none⟩ = false := Cells.frozen h i
theorem pfx_size : (Tryd.prog.info? 30).map (·.size) = some 4 := by kernel_rfl
theorem res_pfx2 {fn : Func} {p u : Tmp} (h : fn.results = #[.cell p 30, .tmp u]) (tmps : Array Value) (w : World) {g : Nat} {v6 : Bool} {hi lo : Nat} {bits : Int} (hp : tmps.getD p undef = .pointer (some ⟨g, 0, none⟩)) (ht : PB w g v6 hi lo bits) :
    (results fn tmps).run Tryd.prog w = .ok (.tuple #[.agg #[.bool v6, .int .u64 hi, .int .u64 lo, .int .i64 bits], tmps.getD u undef]) w := by
  have hp' : tmps[p]?.getD undef = .pointer (some ⟨g, 0, none⟩) := by simpa using hp
  simp [results, h, hp', asAddr, run_loadVar_row w g 30 30 _ (0, 0) _ ht Tryd.underlying30 rfl pfx_size]
theorem pb2 (w : World) (o : Obj) (v6 : Bool) (hi lo : Nat) (bits : Int) : PB ((w.alloc o).alloc (.cells #[.bool v6, .int .u64 hi, .int .u64 lo, .int .i64 bits] 30)) (w.heap.size + 1) v6 hi lo bits := by
  have := pb_new (w.alloc o) v6 hi lo bits
  rwa [show (w.alloc o).heap.size = w.heap.size + 1 by simp] at this
/-- The four stores of a prefix. -/
def pset (w : World) (g : Nat) (v6 : Bool) (hi lo : Nat) (bits : Int) : World := (((w.setCell ⟨g, 0, none⟩ (.bool v6)).setCell ⟨g, 1, none⟩ (.int .u64 hi)).setCell ⟨g, 2, none⟩ (.int .u64 lo)).setCell ⟨g, 3, none⟩ (.int .i64 bits)
theorem PB.set {w : World} {g : Nat} {b : Bool} {x y : Nat} {z : Int} (h : PB w g b x y z) (v6 : Bool) (hi lo : Nat) (bits : Int) : PB (pset w g v6 hi lo bits) g v6 hi lo bits := by
  have h0 := Cells.set h 0 (.bool v6)
  have h1 := Cells.set h0 1 (.int .u64 hi)
  have h2 := Cells.set h1 2 (.int .u64 lo)
  have h3 := Cells.set h2 3 (.int .i64 bits)
  exact h3
theorem pset_below {B : Nat} {a w : World} {g : Nat} (h : Below B a w) (hg : B ≤ g) (v6 : Bool) (hi lo : Nat) (bits : Int) : Below B a (pset w g v6 hi lo bits) := (((h.setCell hg _).setCell hg _).setCell hg _).setCell hg _
set_option maxRecDepth 20000 in
theorem rmake6_bad (v6 : Bool) (hi lo : Nat) (bits : Int) (w : World) (h1 : hi < 18446744073709551616) (h2 : lo < 18446744073709551616) (hb : bits < 0 ∨ (width v6 : Int) < bits) :
    Calls Tryd.prog 20 #[.agg #[.bool v6, .int .u64 hi, .int .u64 lo], .int .i64 bits] w fun e w' => e = .returned (.tuple #[.agg #[.bool false, .int .u64 0, .int .u64 0, .int .i64 0], .int .i64 4]) ∧ Below w.heap.size w w' := by
  have HWD := Lib.hid (fun W => rwidth_any v6 hi lo W)
  have HX := Lib.hid (ab_new w v6 hi lo |>.kept (below_alloc6 _ (.cells #[.bool false, .int .u64 0, .int .u64 0, .int .i64 0] 30)) (alloc_lt6 w _))
  have HR := Lib.hid (pb2 w (.cells #[.bool v6, .int .u64 hi, .int .u64 lo] 25) false 0 0 0)
  have HB := Lib.hid (below2 w (.cells #[.bool v6, .int .u64 hi, .int .u64 lo] 25) (.cells #[.bool false, .int .u64 0, .int .u64 0, .int .i64 0] 30))
  by_cases c : bits < 0
  · have d : decide (bits < 0) = true := by simpa using c
    clear hb c
    go_enter Tryd.func20, Tryd.ntmps20
    go_wp2_with fail
    exact bodyPost_ret (res_pfx2 rfl _ _ rfl HR.out) rfl ⟨rfl, HB.out⟩
  · have d : decide (bits < 0) = false := by simpa using c
    have d2 : decide ((width v6 : Int) < bits) = true := by simp; omega
    obtain ⟨wd, hwd⟩ : ∃ wd, wd = width v6 := ⟨_, rfl⟩
    rw [← hwd] at d2 HWD
    have hlt : (wd : Int) < bits := by simpa using d2
    clear hb hwd
    go_enter Tryd.func20, Tryd.ntmps20
    go_wp2_with fail
    refine (HWD.out _).mono ?_
    rintro e w2 ⟨rfl, hb⟩
    have HR2 := Lib.hid (HR.out.kept hb HR.out.lt)
    have HB2 := Lib.hid (HB.out.trans (hb.mono HB.out.size))
    have r0 := HR2.out.c0
    have r1 := HR2.out.c1
    have r2 := HR2.out.c2
    have r3 := HR2.out.c3
    have rf0 := HR2.out.f 0
    have rf1 := HR2.out.f 1
    have rf2 := HR2.out.f 2
    have rf3 := HR2.out.f 3
    clear hb
    go_wp2_with fail
    change bodyPost _ _ _ _ _ (pset w2 (w.heap.size + 1) false 0 0 0)
    exact bodyPost_ret (res_pfx2 rfl _ _ rfl (HR2.out.set false 0 0 0)) rfl ⟨rfl, pset_below HB2.out (Nat.le_succ _) false 0 0 0⟩
set_option maxHeartbeats 400000 in
set_option maxRecDepth 20000 in
theorem rmake6_ok (v6 : Bool) (hi lo k : Nat) (w : World) (h1 : hi < 18446744073709551616) (h2 : lo < 18446744073709551616) (hb : k ≤ width v6) :
    Calls Tryd.prog 20 #[.agg #[.bool v6, .int .u64 hi, .int .u64 lo], .int .i64 k] w fun e w' => (∃ hi' lo' : Nat, e = .returned (.tuple #[.agg #[.bool v6, .int .u64 hi', .int .u64 lo', .int .i64 k], .int .i64 0]) ∧ Wst (numA hi lo) (width v6) k (width v6) false hi' lo') ∧ Below w.heap.size w w' := by
  have HWD := Lib.hid (fun W => rwidth_any v6 hi lo W)
  have HWI := Lib.hid (fun W => rwith6_any v6 false hi lo k W h1 h2 hb)
  have HX := Lib.hid (ab_new w v6 hi lo |>.kept (below_alloc6 _ (.cells #[.bool false, .int .u64 0, .int .u64 0, .int .i64 0] 30)) (alloc_lt6 w _))
  have HR := Lib.hid (pb2 w (.cells #[.bool v6, .int .u64 hi, .int .u64 lo] 25) false 0 0 0)
  have HB := Lib.hid (below2 w (.cells #[.bool v6, .int .u64 hi, .int .u64 lo] 25) (.cells #[.bool false, .int .u64 0, .int .u64 0, .int .i64 0] 30))
  have d : decide ((k : Int) < 0) = false := by simp
  obtain ⟨wd, hwd⟩ : ∃ wd, wd = width v6 := ⟨_, rfl⟩
  rw [← hwd] at hb HWD HWI ⊢
  have d2 : decide ((wd : Int) < (k : Int)) = false := by simp; omega
  have d3 : ¬ (wd : Int) < (k : Int) := by omega
  have hk : k ≤ 128 := by unfold width at hwd; split at hwd <;> omega
  clear hwd
  go_enter Tryd.func20, Tryd.ntmps20
  go_wp2_with fail
  refine (HWD.out _).mono ?_
  rintro e w2 ⟨rfl, hbw⟩
  have HX2 := Lib.hid (HX.out.kept hbw HX.out.lt)
  have HR2 := Lib.hid (HR.out.kept hbw HR.out.lt)
  have HB2 := Lib.hid (HB.out.trans (hbw.mono HB.out.size))
  have x0 := HX2.out.c0
  have x1 := HX2.out.c1
  have x2 := HX2.out.c2
  clear hbw HX HR HB
  go_wp2_with fail
  refine (HWI.out _).mono ?_
  rintro e w3 ⟨⟨hi', lo', rfl, hst⟩, hbw⟩
  have HR3 := Lib.hid (HR2.out.kept hbw HR2.out.lt)
  have HB3 := Lib.hid (HB2.out.trans (hbw.mono HB2.out.size))
  have r0 := HR3.out.c0
  have r1 := HR3.out.c1
  have r2 := HR3.out.c2
  have r3 := HR3.out.c3
  have rf0 := HR3.out.f 0
  have rf1 := HR3.out.f 1
  have rf2 := HR3.out.f 2
  have rf3 := HR3.out.f 3
  have HST := Lib.hid hst
  clear hbw hst HX2 HR2 HB2 x0 x1 x2
  go_wp2_with fail
  change bodyPost _ _ _ _ _ (pset w3 (w.heap.size + 1) v6 hi' lo' k)
  exact bodyPost_ret (res_pfx2 rfl _ _ rfl (HR3.out.set v6 hi' lo' k)) rfl ⟨⟨hi', lo', rfl, HST.out⟩, pset_below HB3.out (Nat.le_succ _) v6 hi' lo' k⟩
end Go.Proofs.YtcblgbonijloiaaDoor
