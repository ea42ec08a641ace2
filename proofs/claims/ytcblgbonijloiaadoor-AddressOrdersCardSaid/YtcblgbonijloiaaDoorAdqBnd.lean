/- Contracts of the program's layer 6: Bounds. -/
import Derived.Test.YtcblgbonijloiaaDoorAdqCont
namespace Go.Proofs.YtcblgbonijloiaaDoor
open Go.ChangeShapes Go.WideShapes Go.ChangeAt Go.RowKit
set_option linter.unusedVariables false

/-- A range in a box. -/
def RB (w : World) (g : Nat) (v1 : Bool) (h1 l1 : Nat) (v2 : Bool) (h2 l2 : Nat) : Prop := Cells w g 40 #[.bool v1, .int .u64 h1, .int .u64 l1, .bool v2, .int .u64 h2, .int .u64 l2]
theorem rb_new (w : World) (v1 : Bool) (h1 l1 : Nat) (v2 : Bool) (h2 l2 : Nat) : RB (w.alloc (.cells #[.bool v1, .int .u64 h1, .int .u64 l1, .bool v2, .int .u64 h2, .int .u64 l2] 40)) w.heap.size v1 h1 l1 v2 h2 l2 := heap_alloc_new w _
theorem RB.kept {w w' : World} {g B : Nat} {v1 : Bool} {h1 l1 : Nat} {v2 : Bool} {h2 l2 : Nat} (h : RB w g v1 h1 l1 v2 h2 l2) (hb : Below B w w') (hg : g < B) : RB w' g v1 h1 l1 v2 h2 l2 := (hb.block _ hg).trans h
theorem RB.lt {w : World} {g : Nat} {v1 : Bool} {h1 l1 : Nat} {v2 : Bool} {h2 l2 : Nat} (h : RB w g v1 h1 l1 v2 h2 l2) : g < w.heap.size := Cells.lt h
theorem RB.f {w : World} {g : Nat} {v1 : Bool} {h1 l1 : Nat} {v2 : Bool} {h2 l2 : Nat} (h : RB w g v1 h1 l1 v2 h2 l2) (i : Nat) : w.frozen? ⟨g, i, none⟩ = false := Cells.frozen h i
theorem RB.c {w : World} {g : Nat} {v1 : Bool} {h1 l1 : Nat} {v2 : Bool} {h2 l2 : Nat} (h : RB w g v1 h1 l1 v2 h2 l2) (i : Nat) : w.cell? ⟨g, i, none⟩ = #[Value.bool v1, .int .u64 h1, .int .u64 l1, .bool v2, .int .u64 h2, .int .u64 l2][i]? := Cells.cell h i
theorem rng_size : (Tryd.prog.info? 40).map (·.size) = some 6 := by kernel_rfl
theorem res_rng1 {fn : Func} {p : Tmp} (h : fn.results = #[.cell p 40]) (tmps : Array Value) (w : World) {g : Nat} {v1 : Bool} {h1 l1 : Nat} {v2 : Bool} {h2 l2 : Nat} (hp : tmps.getD p undef = .pointer (some ⟨g, 0, none⟩)) (ht : RB w g v1 h1 l1 v2 h2 l2) :
    (results fn tmps).run Tryd.prog w = .ok (.agg #[.bool v1, .int .u64 h1, .int .u64 l1, .bool v2, .int .u64 h2, .int .u64 l2]) w := by
  have hp' : tmps[p]?.getD undef = .pointer (some ⟨g, 0, none⟩) := by simpa using hp
  simp [results, h, hp', asAddr, run_loadVar_row w g 40 40 _ (0, 0) _ ht Tryd.underlying40 rfl rng_size]
/-- The six stores of a range. -/
def rset (w : World) (g : Nat) (v1 : Bool) (h1 l1 : Nat) (v2 : Bool) (h2 l2 : Nat) : World := (((((w.setCell ⟨g, 0, none⟩ (.bool v1)).setCell ⟨g, 1, none⟩ (.int .u64 h1)).setCell ⟨g, 2, none⟩ (.int .u64 l1)).setCell ⟨g, 3, none⟩ (.bool v2)).setCell ⟨g, 4, none⟩ (.int .u64 h2)).setCell ⟨g, 5, none⟩ (.int .u64 l2)
theorem RB.set {w : World} {g : Nat} {a1 : Bool} {a2 a3 : Nat} {a4 : Bool} {a5 a6 : Nat} (h : RB w g a1 a2 a3 a4 a5 a6) (v1 : Bool) (h1 l1 : Nat) (v2 : Bool) (h2 l2 : Nat) : RB (rset w g v1 h1 l1 v2 h2 l2) g v1 h1 l1 v2 h2 l2 := by
  have j0 := Cells.set h 0 (.bool v1)
  have j1 := Cells.set j0 1 (.int .u64 h1)
  have j2 := Cells.set j1 2 (.int .u64 l1)
  have j3 := Cells.set j2 3 (.bool v2)
  have j4 := Cells.set j3 4 (.int .u64 h2)
  have j5 := Cells.set j4 5 (.int .u64 l2)
  exact j5
theorem rset_below {B : Nat} {a w : World} {g : Nat} (h : Below B a w) (hg : B ≤ g) (v1 : Bool) (h1 l1 : Nat) (v2 : Bool) (h2 l2 : Nat) : Below B a (rset w g v1 h1 l1 v2 h2 l2) := (((((h.setCell hg _).setCell hg _).setCell hg _).setCell hg _).setCell hg _).setCell hg _
theorem vldP_out {v6 : Bool} {hi lo k : Nat} (h : vldP v6 hi lo k = true) : vldA v6 hi lo = true ∧ k ≤ width v6 ∧ mkH v6 k hi = hi ∧ mkL v6 k lo = lo := by
  unfold vldP cntB at h
  rw [Bool.and_eq_true, Bool.and_eq_true, Bool.and_eq_true, Bool.and_eq_true, decide_eq_true_eq, beq_iff_eq, beq_iff_eq, beq_iff_eq, Int.toNat_natCast] at h
  obtain ⟨a, ⟨_, b⟩, _, c, d⟩ := h
  exact ⟨a, by omega, by omega, by omega⟩
set_option maxHeartbeats 1000000 in
set_option maxRecDepth 20000 in
theorem qbounds_any (v6 : Bool) (hi lo k : Nat) (w : World) (b1 : hi < 18446744073709551616) (b2 : lo < 18446744073709551616) (hv : vldP v6 hi lo k = true) :
    Calls Tryd.prog 27 #[.agg #[.bool v6, .int .u64 hi, .int .u64 lo, .int .i64 k]] w fun e w' => e = .returned (.agg #[.bool v6, .int .u64 hi, .int .u64 lo, .bool v6, .int .u64 (lowO (frH v6 k) hi : Nat), .int .u64 (lowO (frL v6 k) lo : Nat)]) ∧ Below w.heap.size w w' := by
  obtain ⟨a1, a2, a3, a4⟩ := vldP_out hv
  have HX := Lib.hid (pb_new w v6 hi lo k |>.kept (below_alloc6 _ (.cells #[.bool false, .int .u64 0, .int .u64 0, .bool false, .int .u64 0, .int .u64 0] 40)) (alloc_lt6 w _))
  have HR := Lib.hid (show RB ((w.alloc (.cells #[.bool v6, .int .u64 hi, .int .u64 lo, .int .i64 k] 30)).alloc (.cells #[.bool false, .int .u64 0, .int .u64 0, .bool false, .int .u64 0, .int .u64 0] 40)) (w.heap.size + 1) false 0 0 false 0 0 from by
    have := rb_new (w.alloc (.cells #[.bool v6, .int .u64 hi, .int .u64 lo, .int .i64 k] 30)) false 0 0 false 0 0
    rwa [show (w.alloc (.cells #[.bool v6, .int .u64 hi, .int .u64 lo, .int .i64 k] 30)).heap.size = w.heap.size + 1 by simp] at this)
  have HB := Lib.hid (below2 w (.cells #[.bool v6, .int .u64 hi, .int .u64 lo, .int .i64 k] 30) (.cells #[.bool false, .int .u64 0, .int .u64 0, .bool false, .int .u64 0, .int .u64 0] 40))
  have HV := Lib.hid (fun W => qvalidp_any v6 hi lo k W b1 b2)
  have HF := Lib.hid (fun W => qfree_any v6 hi lo k W a2)
  rw [hv] at HV
  have HO1 := or64 hi (frH v6 k) b1 (frH_le v6 k) a3
  have HO2 := or64 lo (frL v6 k) b2 (frL_le v6 k) a4
  generalize lowO (frH v6 k) hi = hi' at *
  generalize lowO (frL v6 k) lo = lo' at *
  generalize 2 ^ frH v6 k - 1 = p at *
  generalize 2 ^ frL v6 k - 1 = q at *
  clear a1 a2 a3 a4 hv b1 b2
  go_enter Tryd.func27, Tryd.ntmps27
  go_wp2_with fail
  refine (HV.out _).mono ?_
  rintro e w2 ⟨rfl, hb⟩
  have HX2 := Lib.hid (HX.out.kept hb HX.out.lt)
  have HR2 := Lib.hid (HR.out.kept hb HR.out.lt)
  have HB2 := Lib.hid (HB.out.trans (hb.mono HB.out.size))
  clear hb HX HR HB
  have x0 := HX2.out.c0
  have x1 := HX2.out.c1
  have x2 := HX2.out.c2
  have x3 := HX2.out.c3
  go_wp2_with fail
  refine (HF.out _).mono ?_
  rintro e w3 ⟨rfl, hb⟩
  have HX3 := Lib.hid (HX2.out.kept hb HX2.out.lt)
  have HR3 := Lib.hid (HR2.out.kept hb HR2.out.lt)
  have HB3 := Lib.hid (HB2.out.trans (hb.mono HB2.out.size))
  clear hb HX2 HR2 HB2 x0 x1 x2 x3
  have x0 := HX3.out.c0
  have x1 := HX3.out.c1
  have x2 := HX3.out.c2
  have x3 := HX3.out.c3
  have hgx := HX3.out.lt
  have hgr := HR3.out.lt
  have r0 : w3.cell? ⟨w.heap.size + 1, 0, none⟩ = some (.bool false) := (HR3.out.c 0).trans rfl
  have r1 : w3.cell? ⟨w.heap.size + 1, 1, none⟩ = some (.int .u64 0) := (HR3.out.c 1).trans rfl
  have r2 : w3.cell? ⟨w.heap.size + 1, 2, none⟩ = some (.int .u64 0) := (HR3.out.c 2).trans rfl
  have r3 : w3.cell? ⟨w.heap.size + 1, 3, none⟩ = some (.bool false) := (HR3.out.c 3).trans rfl
  have r4 : w3.cell? ⟨w.heap.size + 1, 4, none⟩ = some (.int .u64 0) := (HR3.out.c 4).trans rfl
  have r5 : w3.cell? ⟨w.heap.size + 1, 5, none⟩ = some (.int .u64 0) := (HR3.out.c 5).trans rfl
  have f0 := HR3.out.f 0
  have f1 := HR3.out.f 1
  have f2 := HR3.out.f 2
  have f3 := HR3.out.f 3
  have f4 := HR3.out.f 4
  have f5 := HR3.out.f 5
  go_wp2_with fail
  have HR4 := HR3.out.set v6 hi lo v6 hi' lo'
  have HB4 := rset_below HB3.out (g := w.heap.size + 1) (Nat.le_succ _) v6 hi lo v6 hi' lo'
  change bodyPost _ _ _ _ _ ((rset w3 (w.heap.size + 1) v6 hi lo v6 hi' lo').alloc _)
  exact bodyPost_ret (res_rng1 rfl _ _ rfl (HR4.kept (below_alloc6 _ _) HR4.lt)) rfl ⟨rfl, HB4.trans ((below_alloc6 _ _).mono HB4.size)⟩
end Go.Proofs.YtcblgbonijloiaaDoor
