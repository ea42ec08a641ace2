/- Contracts of the functions, part 3: AdqObj, AdrPfx, AdrCont, AdqFree, AdqPfx, AdqCont, AdqBnd, AdrFrom, AdqStr, AdqDig. -/
import Derived.Deep.RegionHeld3
import Derived.Test.YtcblgbonijloiaaDoorPa2
/- Contracts of the program's layer 6: Valid, width, first, isBefore, Compare. -/
namespace Go.Proofs.YtcblgbonijloiaaDoor
open Go.ChangeShapes Go.WideShapes Go.ChangeAt Go.RowKit
set_option linter.unusedVariables false

set_option maxRecDepth 20000 in
theorem qvalid_any (v6 : Bool) (hi lo : Nat) (w : World) :
    Calls Tryd.prog 15 #[.agg #[.bool v6, .int .u64 hi, .int .u64 lo]] w fun e w' => e = .returned (.bool (vldA v6 hi lo)) ∧ Below w.heap.size w w' := by
  have HB := Lib.hid (below_alloc6 w (.cells #[.bool v6, .int .u64 hi, .int .u64 lo] 25))
  obtain ⟨R, hR⟩ : ∃ R, R = vldA v6 hi lo := ⟨_, rfl⟩
  rw [← hR]
  unfold vldA at hR
  cases v6 with
  | true =>
    obtain rfl : R = true := by rw [hR]; rfl
    clear hR
    go_enter Tryd.func15, Tryd.ntmps15
    go_wp2_with fail
    go_ret
    exact ⟨rfl, HB.out⟩
  | false =>
    by_cases h0 : hi = 0
    · have d0 : ((hi : Int) == 0) = true := by simp; omega
      by_cases h1 : lo < 4294967296
      · obtain rfl : R = true := by rw [hR, h0]; simpa using h1
        have d1 : decide ((lo : Int) < 4294967296) = true := by simp; omega
        clear hR h0
        go_enter Tryd.func15, Tryd.ntmps15
        go_wp2_with fail
        go_ret
        exact ⟨rfl, HB.out⟩
      · obtain rfl : R = false := by rw [hR, h0]; simpa using h1
        have d1 : decide ((lo : Int) < 4294967296) = false := by simp; omega
        clear hR h0
        go_enter Tryd.func15, Tryd.ntmps15
        go_wp2_with fail
        go_ret
        exact ⟨rfl, HB.out⟩
    · obtain rfl : R = false := by rw [hR]; simp [h0]
      have d0 : ((hi : Int) == 0) = false := by simp; omega
      clear hR
      go_enter Tryd.func15, Tryd.ntmps15
      go_wp2_with fail
      go_ret
      exact ⟨rfl, HB.out⟩
theorem qwidth_any (v6 : Bool) (hi lo : Nat) (w : World) :
    Calls Tryd.prog 45 #[.agg #[.bool v6, .int .u64 hi, .int .u64 lo]] w fun e w' => e = .returned (.int .i64 (width v6 : Nat)) ∧ Below w.heap.size w w' := by
  have HB := Lib.hid (below_alloc6 w (.cells #[.bool v6, .int .u64 hi, .int .u64 lo] 25))
  cases v6 with
  | true =>
    go_enter Tryd.func45, Tryd.ntmps45
    go_wp2_with fail
    go_ret
    exact ⟨rfl, HB.out⟩
  | false =>
    go_enter Tryd.func45, Tryd.ntmps45
    go_wp2_with fail
    go_ret
    exact ⟨rfl, HB.out⟩
set_option maxRecDepth 20000 in
theorem qfirst_any (v6 : Bool) (w : World) :
    Calls Tryd.prog 61 #[.bool v6] w fun e w' => e = .returned (.agg #[.bool v6, .int .u64 0, .int .u64 0]) ∧ Below w.heap.size w w' := by
  go_enter Tryd.func61, Tryd.ntmps61
  go_wp2_with fail
  exact bodyPost_ret (res_addr1 rfl _ _ rfl (ab_new w v6 0 0)) rfl ⟨rfl, below_alloc6 w _⟩
/-- Is an address ahead of another? By the tests of the program. -/
def befB (b1 b2 p q r : Bool) : Bool := if b1 == b2 then (if q then r else p) else b2
set_option maxHeartbeats 1000000 in
set_option maxRecDepth 20000 in
theorem qbefore_any (b1 : Bool) (h1 l1 : Nat) (b2 : Bool) (h2 l2 : Nat) (w : World) :
    Calls Tryd.prog 62 #[.agg #[.bool b1, .int .u64 h1, .int .u64 l1], .agg #[.bool b2, .int .u64 h2, .int .u64 l2]] w fun e w' => e = .returned (.bool (befB b1 b2 (decide ((h1 : Int) < (h2 : Int))) ((h1 : Int) == (h2 : Int)) (decide ((l1 : Int) < (l2 : Int))))) ∧ Below w.heap.size w w' := by
  have HB := Lib.hid ((below_alloc6 w (.cells #[.bool b1, .int .u64 h1, .int .u64 l1] 25)).trans ((below_alloc6 (w.alloc (.cells #[.bool b1, .int .u64 h1, .int .u64 l1] 25)) (.cells #[.bool b2, .int .u64 h2, .int .u64 l2] 25)).mono (by simp)))
  obtain ⟨p, dp⟩ : ∃ p, decide ((h1 : Int) < (h2 : Int)) = p := ⟨_, rfl⟩
  obtain ⟨q, dq⟩ : ∃ p, ((h1 : Int) == (h2 : Int)) = p := ⟨_, rfl⟩
  obtain ⟨r, dr⟩ : ∃ p, decide ((l1 : Int) < (l2 : Int)) = p := ⟨_, rfl⟩
  rw [dp, dq, dr]
  have dp2 : decide (h1 < h2) = p := by rw [← dp]; simp
  have dr2 : decide (l1 < l2) = r := by rw [← dr]; simp
  cases b1 <;> cases b2
  case false.true =>
    clear dp dq dr dp2 dr2
    go_enter Tryd.func62, Tryd.ntmps62
    go_wp2_with fail
    go_ret
    exact ⟨rfl, HB.out⟩
  case true.false =>
    clear dp dq dr dp2 dr2
    go_enter Tryd.func62, Tryd.ntmps62
    go_wp2_with fail
    go_ret
    exact ⟨rfl, HB.out⟩
  all_goals
    cases q
    all_goals
      cases p <;> cases r
      all_goals
        go_enter Tryd.func62, Tryd.ntmps62
        go_wp2_with fail
        go_ret
        exact ⟨rfl, HB.out⟩
theorem cmpB_before (b1 b2 p q r s : Bool) (hp : ¬ (p = true ∧ q = true)) : cmpB b1 b2 p q r s = if (b1 == b2 && (q && s)) = true then 0 else if befB b1 b2 p q r = true then -1 else 1 := by
  cases b1 <;> cases b2 <;> cases p <;> cases q <;> cases r <;> cases s <;> first | rfl | (exact absurd ⟨rfl, rfl⟩ hp)
set_option maxHeartbeats 1000000 in
set_option maxRecDepth 20000 in
theorem qcmp_any (b1 : Bool) (h1 l1 : Nat) (b2 : Bool) (h2 l2 : Nat) (w : World) :
    Calls Tryd.prog 33 #[.agg #[.bool b1, .int .u64 h1, .int .u64 l1], .agg #[.bool b2, .int .u64 h2, .int .u64 l2]] w fun e w' => e = .returned (.int .i64 (cmpA b1 h1 l1 b2 h2 l2)) ∧ Below w.heap.size w w' := by
  have hm := addr_guard
  have HX := Lib.hid (ab_new w b1 h1 l1 |>.kept (below_alloc6 _ (.cells #[.bool b2, .int .u64 h2, .int .u64 l2] 25)) (alloc_lt6 w _))
  have HY := Lib.hid (ab2 w (.cells #[.bool b1, .int .u64 h1, .int .u64 l1] 25) b2 h2 l2)
  have HB := Lib.hid (below2 w (.cells #[.bool b1, .int .u64 h1, .int .u64 l1] 25) (.cells #[.bool b2, .int .u64 h2, .int .u64 l2] 25))
  have HBF := Lib.hid (fun W => qbefore_any b1 h1 l1 b2 h2 l2 W)
  have qe := fun W => addr_eql b1 b2 h1 h2 l1 l2 W
  unfold cmpA
  have hpq : ¬ (decide ((h1 : Int) < (h2 : Int)) = true ∧ ((h1 : Int) == (h2 : Int)) = true) := by simp; omega
  rw [cmpB_before _ _ _ _ _ _ hpq]
  clear hpq
  generalize befB b1 b2 (decide ((h1 : Int) < (h2 : Int))) ((h1 : Int) == (h2 : Int)) (decide ((l1 : Int) < (l2 : Int))) = z at *
  generalize (b1 == b2 && ((h1 : Int) == (h2 : Int) && (l1 : Int) == (l2 : Int))) = y at *
  cases y with
  | true =>
    clear HBF
    go_enter Tryd.func33, Tryd.ntmps33
    go_wp2_with fail
    go_ret
    exact ⟨rfl, HB.out⟩
  | false =>
    go_enter Tryd.func33, Tryd.ntmps33
    go_wp2_with fail
    refine (HBF.out _).mono ?_
    rintro e w3 ⟨rfl, hb⟩
    have HB3 := Lib.hid (HB.out.trans (hb.mono HB.out.size))
    clear hb
    cases z with
    | true =>
      go_wp2_with fail
      go_ret
      exact ⟨rfl, HB3.out⟩
    | false =>
      go_wp2_with fail
      go_ret
      exact ⟨rfl, HB3.out⟩
end Go.Proofs.YtcblgbonijloiaaDoor

/- Prefixes in memory; contracts of the reference of layer 6: MakePrefix, ValidPrefix, Contains, Bounds. -/
namespace Go.Proofs.YtcblgbonijloiaaDoor
open Go.ChangeShapes Go.WideShapes Go.ChangeAt Go.RowKit
set_option linter.unusedVariables false

/-- A prefix in a box. -/
def PB (w : World) (g : Nat) (v6 : Bool) (hi lo : Nat) (bits : Int) : Prop := Cells w g 30 #[.bool v6, .int .u64 hi, .int .u64 lo, .int .i64 bits]
theorem pb_new (w : World) (v6 : Bool) (hi lo : Nat) (bits : Int) : PB (w.alloc (.cells #[.bool v6, .int .u64 hi, .int .u64 lo, .int .i64 bits] 30)) w.heap.size v6 hi lo bits := heap_alloc_new w _
theorem PB.kept {w w' : World} {g B : Nat} {v6 : Bool} {hi lo : Nat} {bits : Int} (h : PB w g v6 hi lo bits) (hb : Below B w w') (hg : g < B) : PB w' g v6 hi lo bits := (hb.block _ hg).trans h
theorem PB.lt {w : World} {g : Nat} {v6 : Bool} {hi lo : Nat} {bits : Int} (h : PB w g v6 hi lo bits) : g < w.heap.size := Cells.lt h
theorem PB.c0 {w : World} {g : Nat} {v6 : Bool} {hi lo : Nat} {bits : Int} (h : PB w g v6 hi lo bits) : w.cell? ⟨g, 0, none⟩ = some (.bool v6) := (Cells.cell h 0).trans rfl
theorem PB.c1 {w : World} {g : Nat} {v6 : Bool} {hi lo : Nat} {bits : Int} (h : PB w g v6 hi lo bits) : w.cell? ⟨g, 1, none⟩ = some (.int .u64 hi) := (Cells.cell h 1).trans rfl
theorem PB.c2 {w : World} {g : Nat} {v6 : Bool} {hi lo : Nat} {bits : Int} (h : PB w g v6 hi lo bits) : w.cell? ⟨g, 2, none⟩ = some (.int .u64 lo) := (Cells.cell h 2).trans rfl
theorem PB.c3 {w : World} {g : Nat} {v6 : Bool} {hi lo : Nat} {bits : Int} (h : PB w g v6 hi lo bits) : w.cell? ⟨g, 3, none⟩ = some (.int .i64 bits) := (Cells.cell h 3).trans rfl
theorem PB.far {w : World} {g b i : Nat} {v6 : Bool} {hi lo : Nat} {bits : Int} (h : PB w g v6 hi lo bits) (hne : g ≠ b) (u : Value) : PB (w.setCell ⟨b, i, none⟩ u) g v6 hi lo bits := (Below.heap_setCell w ⟨b, i, none⟩ u g hne).trans h
theorem PB.f {w : World} {g : Nat} {v6 : Bool} {hi lo : Nat} {bits : Int} (h : PB w g v6 hi lo bits) (i : Nat) : w.frozen? ⟨g, i, none⟩ = false := Cells.frozen h i
theorem pfx_size : (Tryd.prog.info? 30).map (·.size) = some 4 := by kernel_rfl
theorem res_pfx2 {fn : Func} {p u : Tmp} (h : fn.results = #[.cell p 30, .tmp u]) (tmps : Array Value) (w : World) {g : Nat} {v6 : Bool} {hi lo : Nat} {bits : Int} (hp : tmps.getD p undef = .pointer (some ⟨g, 0, none⟩)) (ht : PB w g v6 hi lo bits) :
    (results fn tmps).run Tryd.prog w = .ok (.tuple #[.agg #[.bool v6, .int .u64 hi, .int .u64 lo, .int .i64 bits], tmps.getD u undef]) w := by
  have hp' : tmps[p]?.getD undef = .pointer (some ⟨g, 0, none⟩) := by simpa using hp
  simp [results, h, hp', asAddr, run_loadVar_row w g 30 30 _ (0, 0) _ ht Tryd.underlying30 rfl pfx_size]
theorem pb2 (w : World) (o : Obj) (v6 : Bool) (hi lo : Nat) (bits : Int) : PB ((w.alloc o).alloc (.cells #[.bool v6, .int .u64 hi, .int .u64 lo, .int .i64 bits] 30)) (w.heap.size + 1) v6 hi lo bits := by
  have := pb_new (w.alloc o) v6 hi lo bits
  rwa [show (w.alloc o).heap.size = w.heap.size + 1 by simp] at this
/-- The four stores of a prefix. -/
def pset (w : World) (g : Nat) (v6 : Bool) (hi lo : Nat) (bits : Int) : World := (((w.setCell ⟨g, 0, none⟩ (.bool v6)).setCell ⟨g, 1, none⟩ (.int .u64 hi)).setCell ⟨g, 2, none⟩ (.int .u64 lo)).setCell ⟨g, 3, none⟩ (.int .i64 bits)
theorem PB.set {w : World} {g : Nat} {b : Bool} {x y : Nat} {z : Int} (h : PB w g b x y z) (v6 : Bool) (hi lo : Nat) (bits : Int) : PB (pset w g v6 hi lo bits) g v6 hi lo bits := by
  have h0 := Cells.set h 0 (.bool v6)
  have h1 := Cells.set h0 1 (.int .u64 hi)
  have h2 := Cells.set h1 2 (.int .u64 lo)
  have h3 := Cells.set h2 3 (.int .i64 bits)
  exact h3
theorem pset_below {B : Nat} {a w : World} {g : Nat} (h : Below B a w) (hg : B ≤ g) (v6 : Bool) (hi lo : Nat) (bits : Int) : Below B a (pset w g v6 hi lo bits) := (((h.setCell hg _).setCell hg _).setCell hg _).setCell hg _
set_option maxRecDepth 20000 in
theorem rmake6_bad (v6 : Bool) (hi lo : Nat) (bits : Int) (w : World) (h1 : hi < 18446744073709551616) (h2 : lo < 18446744073709551616) (hb : bits < 0 ∨ (width v6 : Int) < bits) :
    Calls Tryd.prog 20 #[.agg #[.bool v6, .int .u64 hi, .int .u64 lo], .int .i64 bits] w fun e w' => e = .returned (.tuple #[.agg #[.bool false, .int .u64 0, .int .u64 0, .int .i64 0], .int .i64 4]) ∧ Below w.heap.size w w' := by
  have HWD := Lib.hid (fun W => rwidth_any v6 hi lo W)
  have HX := Lib.hid (ab_new w v6 hi lo |>.kept (below_alloc6 _ (.cells #[.bool false, .int .u64 0, .int .u64 0, .int .i64 0] 30)) (alloc_lt6 w _))
  have HR := Lib.hid (pb2 w (.cells #[.bool v6, .int .u64 hi, .int .u64 lo] 25) false 0 0 0)
  have HB := Lib.hid (below2 w (.cells #[.bool v6, .int .u64 hi, .int .u64 lo] 25) (.cells #[.bool false, .int .u64 0, .int .u64 0, .int .i64 0] 30))
  by_cases c : bits < 0
  · have d : decide (bits < 0) = true := by simpa using c
    clear hb c
    go_enter Tryd.func20, Tryd.ntmps20
    go_wp2_with fail
    exact bodyPost_ret (res_pfx2 rfl _ _ rfl HR.out) rfl ⟨rfl, HB.out⟩
  · have d : decide (bits < 0) = false := by simpa using c
    have d2 : decide ((width v6 : Int) < bits) = true := by simp; omega
    obtain ⟨wd, hwd⟩ : ∃ wd, wd = width v6 := ⟨_, rfl⟩
    rw [← hwd] at d2 HWD
    have hlt : (wd : Int) < bits := by simpa using d2
    clear hb hwd
    go_enter Tryd.func20, Tryd.ntmps20
    go_wp2_with fail
    refine (HWD.out _).mono ?_
    rintro e w2 ⟨rfl, hb⟩
    have HR2 := Lib.hid (HR.out.kept hb HR.out.lt)
    have HB2 := Lib.hid (HB.out.trans (hb.mono HB.out.size))
    have r0 := HR2.out.c0
    have r1 := HR2.out.c1
    have r2 := HR2.out.c2
    have r3 := HR2.out.c3
    have rf0 := HR2.out.f 0
    have rf1 := HR2.out.f 1
    have rf2 := HR2.out.f 2
    have rf3 := HR2.out.f 3
    clear hb
    go_wp2_with fail
    change bodyPost _ _ _ _ _ (pset w2 (w.heap.size + 1) false 0 0 0)
    exact bodyPost_ret (res_pfx2 rfl _ _ rfl (HR2.out.set false 0 0 0)) rfl ⟨rfl, pset_below HB2.out (Nat.le_succ _) false 0 0 0⟩
set_option maxHeartbeats 400000 in
set_option maxRecDepth 20000 in
theorem rmake6_ok (v6 : Bool) (hi lo k : Nat) (w : World) (h1 : hi < 18446744073709551616) (h2 : lo < 18446744073709551616) (hb : k ≤ width v6) :
    Calls Tryd.prog 20 #[.agg #[.bool v6, .int .u64 hi, .int .u64 lo], .int .i64 k] w fun e w' => (∃ hi' lo' : Nat, e = .returned (.tuple #[.agg #[.bool v6, .int .u64 hi', .int .u64 lo', .int .i64 k], .int .i64 0]) ∧ Wst (numA hi lo) (width v6) k (width v6) false hi' lo') ∧ Below w.heap.size w w' := by
  have HWD := Lib.hid (fun W => rwidth_any v6 hi lo W)
  have HWI := Lib.hid (fun W => rwith6_any v6 false hi lo k W h1 h2 hb)
  have HX := Lib.hid (ab_new w v6 hi lo |>.kept (below_alloc6 _ (.cells #[.bool false, .int .u64 0, .int .u64 0, .int .i64 0] 30)) (alloc_lt6 w _))
  have HR := Lib.hid (pb2 w (.cells #[.bool v6, .int .u64 hi, .int .u64 lo] 25) false 0 0 0)
  have HB := Lib.hid (below2 w (.cells #[.bool v6, .int .u64 hi, .int .u64 lo] 25) (.cells #[.bool false, .int .u64 0, .int .u64 0, .int .i64 0] 30))
  have d : decide ((k : Int) < 0) = false := by simp
  obtain ⟨wd, hwd⟩ : ∃ wd, wd = width v6 := ⟨_, rfl⟩
  rw [← hwd] at hb HWD HWI ⊢
  have d2 : decide ((wd : Int) < (k : Int)) = false := by simp; omega
  have d3 : ¬ (wd : Int) < (k : Int) := by omega
  have hk : k ≤ 128 := by unfold width at hwd; split at hwd <;> omega
  clear hwd
  go_enter Tryd.func20, Tryd.ntmps20
  go_wp2_with fail
  refine (HWD.out _).mono ?_
  rintro e w2 ⟨rfl, hbw⟩
  have HX2 := Lib.hid (HX.out.kept hbw HX.out.lt)
  have HR2 := Lib.hid (HR.out.kept hbw HR.out.lt)
  have HB2 := Lib.hid (HB.out.trans (hbw.mono HB.out.size))
  have x0 := HX2.out.c0
  have x1 := HX2.out.c1
  have x2 := HX2.out.c2
  clear hbw HX HR HB
  go_wp2_with fail
  refine (HWI.out _).mono ?_
  rintro e w3 ⟨⟨hi', lo', rfl, hst⟩, hbw⟩
  have HR3 := Lib.hid (HR2.out.kept hbw HR2.out.lt)
  have HB3 := Lib.hid (HB2.out.trans (hbw.mono HB2.out.size))
  have r0 := HR3.out.c0
  have r1 := HR3.out.c1
  have r2 := HR3.out.c2
  have r3 := HR3.out.c3
  have rf0 := HR3.out.f 0
  have rf1 := HR3.out.f 1
  have rf2 := HR3.out.f 2
  have rf3 := HR3.out.f 3
  have HST := Lib.hid hst
  clear hbw hst HX2 HR2 HB2 x0 x1 x2
  go_wp2_with fail
  change bodyPost _ _ _ _ _ (pset w3 (w.heap.size + 1) v6 hi' lo' k)
  exact bodyPost_ret (res_pfx2 rfl _ _ rfl (HR3.out.set v6 hi' lo' k)) rfl ⟨⟨hi', lo', rfl, HST.out⟩, pset_below HB3.out (Nat.le_succ _) v6 hi' lo' k⟩
end Go.Proofs.YtcblgbonijloiaaDoor

/- Contracts of the reference of layer 6: Contains, ValidPrefix, Bounds. -/
namespace Go.Proofs.YtcblgbonijloiaaDoor
open Go.ChangeShapes Go.WideShapes Go.ChangeAt Go.RowKit
set_option linter.unusedVariables false

theorem numA_inj {a b c d : Nat} (h1 : b < 18446744073709551616) (h2 : d < 18446744073709551616) : numA a b = numA c d ↔ a = c ∧ b = d := by
  unfold numA
  constructor
  · intro h
    have : 2 ^ 64 = 18446744073709551616 := by decide
    omega
  · rintro ⟨rfl, rfl⟩; rfl
theorem numA_lt {a b : Nat} (h1 : a < 18446744073709551616) (h2 : b < 18446744073709551616) : numA a b < 2 ^ 128 := by
  unfold numA
  have : (2 : Nat) ^ 64 = 18446744073709551616 := by decide
  have : (2 : Nat) ^ 128 = 18446744073709551616 * 18446744073709551616 := by decide
  omega
set_option maxHeartbeats 1000000 in
set_option maxRecDepth 20000 in
theorem rcont6_any (v1 v2 : Bool) (h1 l1 k h2 l2 : Nat) (w : World) (a1 : h1 < 18446744073709551616) (a2 : l1 < 18446744073709551616) (b1 : h2 < 18446744073709551616) (b2 : l2 < 18446744073709551616) (hk : v1 = v2 → k ≤ width v2) :
    Calls Tryd.prog 38 #[.agg #[.bool v1, .int .u64 h1, .int .u64 l1, .int .i64 k], .agg #[.bool v2, .int .u64 h2, .int .u64 l2]] w fun e w' => e = .returned (.bool (v1 == v2 && decide (cutN (width v2) k (numA h2 l2) = numA h1 l1))) ∧ Below w.heap.size w w' := by
  have hm := addr_guard
  have HX := Lib.hid (pb_new w v1 h1 l1 k |>.kept (below_alloc6 _ (.cells #[.bool v2, .int .u64 h2, .int .u64 l2] 25)) (alloc_lt6 w _))
  have HY := Lib.hid (ab2 w (.cells #[.bool v1, .int .u64 h1, .int .u64 l1, .int .i64 k] 30) v2 h2 l2)
  have HB := Lib.hid (below2 w (.cells #[.bool v1, .int .u64 h1, .int .u64 l1, .int .i64 k] 30) (.cells #[.bool v2, .int .u64 h2, .int .u64 l2] 25))
  by_cases e : v1 = v2
  · subst e
    have HW := Lib.hid (fun W => rwith6_any v1 false h2 l2 k W b1 b2 (hk rfl))
    have HE := Lib.hid (fun hi' lo' (h : Wst (numA h2 l2) (width v1) k (width v1) false hi' lo') => show ((((hi' : Nat) : Int) == (h1 : Int) && ((lo' : Nat) : Int) == (l1 : Int)) : Bool) = (v1 == v1 && decide (cutN (width v1) k (numA h2 l2) = numA h1 l1)) from by
      have he := wst_end h (numA_lt b1 b2) (by unfold width; split <;> omega)
      rw [if_neg (by decide)] at he
      rw [← he, Bool.eq_iff_iff]
      simp only [beq_self_eq_true, Bool.true_and, Bool.and_eq_true, beq_iff_eq, decide_eq_true_eq, numA_inj h.h2 a2]
      omega)
    have HQ := Lib.hid (fun hi' lo' => addr_eql v1 v1 hi' h1 lo' l1)
    clear hk
    go_enter Tryd.func38, Tryd.ntmps38
    go_wp2_with fail
    generalize (w.alloc (.cells #[.bool v1, .int .u64 h1, .int .u64 l1, .int .i64 k] 30)).alloc (.cells #[.bool v1, .int .u64 h2, .int .u64 l2] 25) = w1 at *
    have p0 := HX.out.c0
    have p1 := HX.out.c1
    have p2 := HX.out.c2
    have p3 := HX.out.c3
    have y0 := HY.out.c0
    have y1 := HY.out.c1
    have y2 := HY.out.c2
    go_region_held3 (fun w' => w'.cell? ⟨w.heap.size, 0, none⟩ = some (.bool v1) ∧ w'.cell? ⟨w.heap.size, 1, none⟩ = some (.int .u64 h1) ∧ w'.cell? ⟨w.heap.size, 2, none⟩ = some (.int .u64 l1) ∧ w'.cell? ⟨w.heap.size, 3, none⟩ = some (.int .i64 k) ∧ w'.cell? ⟨w.heap.size + 1, 0, none⟩ = some (.bool v1) ∧ w'.cell? ⟨w.heap.size + 1, 1, none⟩ = some (.int .u64 h2) ∧ w'.cell? ⟨w.heap.size + 1, 2, none⟩ = some (.int .u64 l2)) (go_keep) (first
      | (go_at_call 50; refine (HW.out _).mono ?_; rintro e w5 ⟨⟨hi', lo', rfl, hst⟩, hb3d⟩; have hb5 : Below w1.heap.size w1 w5 := ⟨hb3d.os, hb3d.tape, hb3d.output, hb3d.size, hb3d.block⟩; have hx5 := HX.out.kept hb5 HX.out.lt; have hy5 := HY.out.kept hb5 HY.out.lt; have j0 := hx5.c0; have j1 := hx5.c1; have j2 := hx5.c2; have j3 := hx5.c3; have i0 := hy5.c0; have i1 := hy5.c1; have i2 := hy5.c2; have qe := HQ.out hi' lo'))
    all_goals
      have HST := Lib.hid hst
      have HB5 := Lib.hid (HB.out.trans (hb5.mono HB.out.size))
      clear hst hb5 hx5 hy5 j0 j1 j2 j3 i0 i1 i2 qe p0 p1 p2 p3 y0 y1 y2
      go_wp2_with fail
      go_ret
      exact ⟨congrArg (fun b => Ending.returned (.bool b)) (HE.out hi' lo' HST.out), HB5.out⟩
  · have hv : (v1 == v2) = false := by simpa using e
    have HV := Lib.hid hv
    clear e hk
    go_enter Tryd.func38, Tryd.ntmps38
    go_wp2_with fail
    generalize (w.alloc (.cells #[.bool v1, .int .u64 h1, .int .u64 l1, .int .i64 k] 30)).alloc (.cells #[.bool v2, .int .u64 h2, .int .u64 l2] 25) = w1 at *
    have p0 := HX.out.c0
    have y0 := HY.out.c0
    go_quiet (fail)
    have HB5 := Lib.hid (below_drewN6 HB.out nq)
    go_wp2_with fail
    go_ret
    exact ⟨by rw [HV.out]; rfl, HB5.out⟩
end Go.Proofs.YtcblgbonijloiaaDoor

/- The free bits of a prefix, in plain numbers; contract of the program's freeBits. -/
namespace Go.Proofs.YtcblgbonijloiaaDoor
open Go.ChangeShapes Go.WideShapes Go.ChangeAt Go.RowKit
set_option linter.unusedVariables false

/-- How many free bits the upper and the lower half have. -/
def frH (v6 : Bool) (k : Nat) : Nat := (width v6 - k) - 64
def frL (v6 : Bool) (k : Nat) : Nat := min (width v6 - k) 64
/-- A number with its last k bits 0; 1. -/
def lowZ (k n : Nat) : Nat := n / 2 ^ k * 2 ^ k
def lowO (k n : Nat) : Nat := n / 2 ^ k * 2 ^ k + (2 ^ k - 1)
theorem frH_le (v6 : Bool) (k : Nat) : frH v6 k ≤ 64 := by unfold frH width; split <;> omega
theorem frL_le (v6 : Bool) (k : Nat) : frL v6 k ≤ 64 := by unfold frL; omega
theorem lowZ_le (k n : Nat) : lowZ k n ≤ n := Nat.div_mul_le_self _ _
theorem lowZ_tb (k n t : Nat) : (lowZ k n).testBit t = if t < k then false else n.testBit t := by
  have hc : lowZ k n = 2 ^ k * (n / 2 ^ k) + 0 := by unfold lowZ; rw [Nat.mul_comm]; rfl
  rw [hc, Nat.testBit_two_pow_mul_add _ (Nat.two_pow_pos k)]
  split
  · rw [Nat.zero_testBit]
  · rw [Nat.testBit_div_two_pow]; congr 1; omega
theorem lowZ_lowZ (k n : Nat) : lowZ k (lowZ k n) = lowZ k n := by
  unfold lowZ
  rw [Nat.mul_div_cancel _ (Nat.two_pow_pos _)]
theorem andNot64 (n k : Nat) (h : n < 18446744073709551616) (hk : k ≤ 64) : bits .andNot .u64 (n : Int) ((2 ^ k - 1 : Nat) : Int) = ((lowZ k n : Nat) : Int) := by
  have hp : 2 ^ k ≤ 2 ^ 64 := Nat.pow_le_pow_right (by omega) hk
  have h64 : (2 : Nat) ^ 64 = 18446744073709551616 := by decide
  have h0 := Nat.two_pow_pos k
  rw [u64_andNot_nat _ _ h (by omega)]
  congr 1
  apply Nat.eq_of_testBit_eq
  intro t
  rw [Nat.testBit_and, lowZ_tb]
  have e : 18446744073709551615 - (2 ^ k - 1) = 2 ^ k * (2 ^ (64 - k) - 1) + 0 := by
    have : 2 ^ k * 2 ^ (64 - k) = 2 ^ 64 := by rw [← Nat.pow_add]; congr 1; omega
    rw [Nat.mul_sub, this]; omega
  rw [e, Nat.testBit_two_pow_mul_add _ h0]
  split
  · rw [Nat.zero_testBit, Bool.and_false]
  · rw [Nat.testBit_two_pow_sub_one]
    by_cases ht : t < 64
    · rw [show decide (t - k < 64 - k) = true by simp; omega, Bool.and_true]
    · rw [Nat.testBit_lt_two_pow (i := t) (Nat.lt_of_lt_of_le (by rw [h64]; exact h) (Nat.pow_le_pow_right (by omega) (show 64 ≤ t by omega))), Bool.false_and]
theorem or64 (n k : Nat) (h : n < 18446744073709551616) (hk : k ≤ 64) (hz : lowZ k n = n) : bits .or .u64 (n : Int) ((2 ^ k - 1 : Nat) : Int) = ((lowO k n : Nat) : Int) := by
  have hp : 2 ^ k ≤ 2 ^ 64 := Nat.pow_le_pow_right (by omega) hk
  have h64 : (2 : Nat) ^ 64 = 18446744073709551616 := by decide
  have h0 := Nat.two_pow_pos k
  rw [u64_or_nat _ _ h (by omega)]
  congr 1
  have h1 := Nat.two_pow_add_eq_or_of_lt (i := k) (b := 2 ^ k - 1) (by omega) (n / 2 ^ k)
  unfold lowO
  rw [Nat.mul_comm, h1, Nat.mul_comm]
  show n ||| _ = lowZ k n ||| _
  rw [hz]
theorem lowO_lt {k n : Nat} (h : n < 18446744073709551616) (hk : k ≤ 64) : lowO k n < 18446744073709551616 := by
  have h64 : (2 : Nat) ^ 64 = 18446744073709551616 := by decide
  have := fillN_lt (w := 64) (bits := 64 - k) (n := n) (by omega) (by omega)
  unfold fillN cutN at this
  rw [show 64 - (64 - k) = k by omega] at this
  unfold lowO
  omega
/-- The two halves together. -/
theorem low_cut (v6 : Bool) (k : Nat) {hi lo : Nat} (h2 : lo < 18446744073709551616) : numA (lowZ (frH v6 k) hi) (lowZ (frL v6 k) lo) = cutN (width v6) k (numA hi lo) := by
  have h64 : (2 : Nat) ^ 64 = 18446744073709551616 := by decide
  unfold frH frL cutN lowZ numA
  generalize width v6 - k = f
  by_cases hf : f ≤ 64
  · rw [Nat.min_eq_left hf, show f - 64 = 0 by omega, Nat.pow_zero, Nat.div_one, Nat.mul_one]
    have e : 2 ^ 64 = 2 ^ (64 - f) * 2 ^ f := by rw [← Nat.pow_add]; congr 1; omega
    have h0 := Nat.two_pow_pos f
    rw [e]
    generalize 2 ^ f = q at *
    generalize 2 ^ (64 - f) = r at *
    have e3 : r * q * hi = r * hi * q := Nat.mul_right_comm r q hi
    rw [e3, Nat.add_comm (r * hi * q) lo, Nat.add_mul_div_right _ _ h0, Nat.add_mul]
    omega
  · rw [Nat.min_eq_right (by omega), h64, Nat.div_eq_of_lt h2, Nat.zero_mul, Nat.add_zero]
    have e : 2 ^ f = 2 ^ (f - 64) * 18446744073709551616 := by rw [← h64, ← Nat.pow_add]; congr 1; omega
    rw [e, Nat.mul_comm (2 ^ (f - 64)) 18446744073709551616, ← Nat.div_div_eq_div_mul, show (18446744073709551616 * hi + lo) / 18446744073709551616 = hi by omega, Nat.mul_left_comm]
theorem low_fill (v6 : Bool) (k : Nat) {hi lo : Nat} (h2 : lo < 18446744073709551616) : numA (lowO (frH v6 k) hi) (lowO (frL v6 k) lo) = fillN (width v6) k (numA hi lo) := by
  have h64 : (2 : Nat) ^ 64 = 18446744073709551616 := by decide
  have hc := low_cut v6 k (hi := hi) h2
  unfold fillN
  rw [← hc]
  unfold lowO numA lowZ
  have e : 2 ^ (width v6 - k) = 2 ^ frH v6 k * 2 ^ frL v6 k := by
    rw [← Nat.pow_add]; congr 1; unfold frH frL; omega
  rw [e]
  have a := Nat.two_pow_pos (frH v6 k)
  have b := Nat.two_pow_pos (frL v6 k)
  by_cases hf : frH v6 k = 0
  · rw [hf, Nat.pow_zero, Nat.div_one, Nat.mul_one, Nat.one_mul]
    clear h64 hc e a
    generalize 2 ^ frL v6 k = q at *
    generalize lo / q * q = z
    omega
  · have hl : frL v6 k = 64 := by unfold frH at hf; unfold frL; omega
    rw [hl, h64]
    clear h64 hc e b hl
    generalize 2 ^ frH v6 k = q at *
    generalize hi / q * q = z
    generalize lo / 18446744073709551616 = y
    omega
theorem shl64 {k : Nat} (hk : k ≤ 64) : IntKind.u64.wrap (IntKind.u64.wrap (2 ^ k) - 1) = ((2 ^ k - 1 : Nat) : Int) := by
  have h64 : (2 : Nat) ^ 64 = 18446744073709551616 := by decide
  have hp : 2 ^ k ≤ 2 ^ 64 := Nat.pow_le_pow_right (by omega) hk
  have h0 := Nat.two_pow_pos k
  have e : ((2 : Int) ^ k) = ((2 ^ k : Nat) : Int) := by simp
  rw [e]
  generalize (2 : Nat) ^ k = p at *
  by_cases hq : p = 18446744073709551616
  · subst hq; decide
  · rw [wrap_u64_in (n := (p : Int)) (by omega) (by omega), wrap_u64_in (by omega) (by omega)]
    omega
set_option maxHeartbeats 1000000 in
set_option maxRecDepth 20000 in
theorem qfree_any (v6 : Bool) (hi lo k : Nat) (w : World) (hk : k ≤ width v6) :
    Calls Tryd.prog 51 #[.agg #[.bool v6, .int .u64 hi, .int .u64 lo], .int .i64 k] w fun e w' => e = .returned (.tuple #[.int .u64 ((2 ^ frH v6 k - 1 : Nat) : Int), .int .u64 ((2 ^ frL v6 k - 1 : Nat) : Int)]) ∧ Below w.heap.size w w' := by
  have HWD := Lib.hid (fun W => qwidth_any v6 hi lo W)
  have HX := Lib.hid (ab_new w v6 hi lo)
  have HB := Lib.hid (below_alloc6 w (.cells #[.bool v6, .int .u64 hi, .int .u64 lo] 25))
  have e1 := shl64 (frH_le v6 k)
  have e2 := shl64 (frL_le v6 k)
  have hw : width v6 ≤ 128 := by unfold width; split <;> omega
  have q1 : max (((width v6 - k : Nat) : Int) - 64) 0 = ((frH v6 k : Nat) : Int) := by unfold frH; omega
  have q2 : min ((width v6 - k : Nat) : Int) 64 = ((frL v6 k : Nat) : Int) := by unfold frL; omega
  have q3 := frH_le v6 k
  have q4 := frL_le v6 k
  obtain ⟨f, hf⟩ : ∃ f, f = width v6 - k := ⟨_, rfl⟩
  rw [← hf] at q1 q2
  have hfi : ((width v6 : Nat) : Int) - (k : Int) = (f : Int) := by omega
  have hf128 : f ≤ 128 := by omega
  generalize frH v6 k = a at *
  generalize frL v6 k = b at *
  generalize width v6 = wd at *
  have HE1 := Lib.hid e1
  have HE2 := Lib.hid e2
  clear e1 e2 hf
  go_enter Tryd.func51, Tryd.ntmps51
  go_wp2_with fail
  refine (HWD.out _).mono ?_
  rintro e w2 ⟨rfl, hbw⟩
  have HB2 := Lib.hid (HB.out.trans (hbw.mono HB.out.size))
  clear hbw
  go_wp2_with fail
  go_quiet (fail)
  go_wp2_with fail
  go_ret2
  exact ⟨by rw [← HE1.out, ← HE2.out]; rfl, below_drewN6 HB2.out nq⟩
end Go.Proofs.YtcblgbonijloiaaDoor

/- Contracts of the program's layer 6: MakePrefix, Contains, ValidPrefix, Bounds. -/
namespace Go.Proofs.YtcblgbonijloiaaDoor
open Go.ChangeShapes Go.WideShapes Go.ChangeAt Go.RowKit
set_option linter.unusedVariables false

set_option maxRecDepth 20000 in
theorem qmake_bad (v6 : Bool) (hi lo : Nat) (bits : Int) (w : World) (hb : bits < 0 ∨ (width v6 : Int) < bits) :
    Calls Tryd.prog 19 #[.agg #[.bool v6, .int .u64 hi, .int .u64 lo], .int .i64 bits] w fun e w' => e = .returned (.tuple #[.agg #[.bool false, .int .u64 0, .int .u64 0, .int .i64 0], .int .i64 4]) ∧ Below w.heap.size w w' := by
  have HWD := Lib.hid (fun W => qwidth_any v6 hi lo W)
  have HX := Lib.hid (ab_new w v6 hi lo |>.kept (below_alloc6 _ (.cells #[.bool false, .int .u64 0, .int .u64 0, .int .i64 0] 30)) (alloc_lt6 w _))
  have HR := Lib.hid (pb2 w (.cells #[.bool v6, .int .u64 hi, .int .u64 lo] 25) false 0 0 0)
  have HB := Lib.hid (below2 w (.cells #[.bool v6, .int .u64 hi, .int .u64 lo] 25) (.cells #[.bool false, .int .u64 0, .int .u64 0, .int .i64 0] 30))
  by_cases c : bits < 0
  · have d : decide (bits < 0) = true := by simpa using c
    clear hb c
    go_enter Tryd.func19, Tryd.ntmps19
    go_wp2_with fail
    exact bodyPost_ret (res_pfx2 rfl _ _ rfl HR.out) rfl ⟨rfl, HB.out⟩
  · have d : decide (bits < 0) = false := by simpa using c
    have d2 : decide ((width v6 : Int) < bits) = true := by simp; omega
    obtain ⟨wd, hwd⟩ : ∃ wd, wd = width v6 := ⟨_, rfl⟩
    rw [← hwd] at d2 HWD
    have hlt : (wd : Int) < bits := by simpa using d2
    clear hb hwd
    go_enter Tryd.func19, Tryd.ntmps19
    go_wp2_with fail
    refine (HWD.out _).mono ?_
    rintro e w2 ⟨rfl, hb⟩
    have HR2 := Lib.hid (HR.out.kept hb HR.out.lt)
    have HB2 := Lib.hid (HB.out.trans (hb.mono HB.out.size))
    have r0 := HR2.out.c0
    have r1 := HR2.out.c1
    have r2 := HR2.out.c2
    have r3 := HR2.out.c3
    have rf0 := HR2.out.f 0
    have rf1 := HR2.out.f 1
    have rf2 := HR2.out.f 2
    have rf3 := HR2.out.f 3
    clear hb
    go_wp2_with fail
    change bodyPost _ _ _ _ _ (pset w2 (w.heap.size + 1) false 0 0 0)
    exact bodyPost_ret (res_pfx2 rfl _ _ rfl (HR2.out.set false 0 0 0)) rfl ⟨rfl, pset_below HB2.out (Nat.le_succ _) false 0 0 0⟩
/-- What MakePrefix makes: the two halves with the free bits 0. -/
def mkH (v6 : Bool) (k hi : Nat) : Nat := lowZ (frH v6 k) hi
def mkL (v6 : Bool) (k lo : Nat) : Nat := lowZ (frL v6 k) lo
set_option maxHeartbeats 1000000 in
set_option maxRecDepth 20000 in
theorem qmake_ok (v6 : Bool) (hi lo k : Nat) (w : World) (h1 : hi < 18446744073709551616) (h2 : lo < 18446744073709551616) (hb : k ≤ width v6) :
    Calls Tryd.prog 19 #[.agg #[.bool v6, .int .u64 hi, .int .u64 lo], .int .i64 k] w fun e w' => e = .returned (.tuple #[.agg #[.bool v6, .int .u64 (mkH v6 k hi : Nat), .int .u64 (mkL v6 k lo : Nat), .int .i64 k], .int .i64 0]) ∧ Below w.heap.size w w' := by
  have HWD := Lib.hid (fun W => qwidth_any v6 hi lo W)
  have HFR := Lib.hid (fun W => qfree_any v6 hi lo k W hb)
  have HN1 := andNot64 hi (frH v6 k) h1 (frH_le v6 k)
  have HN2 := andNot64 lo (frL v6 k) h2 (frL_le v6 k)
  have HX := Lib.hid (ab_new w v6 hi lo |>.kept (below_alloc6 _ (.cells #[.bool false, .int .u64 0, .int .u64 0, .int .i64 0] 30)) (alloc_lt6 w _))
  have HR := Lib.hid (pb2 w (.cells #[.bool v6, .int .u64 hi, .int .u64 lo] 25) false 0 0 0)
  have HB := Lib.hid (below2 w (.cells #[.bool v6, .int .u64 hi, .int .u64 lo] 25) (.cells #[.bool false, .int .u64 0, .int .u64 0, .int .i64 0] 30))
  have d : decide ((k : Int) < 0) = false := by simp
  unfold mkH mkL
  generalize lowZ (frH v6 k) hi = hi' at *
  generalize lowZ (frL v6 k) lo = lo' at *
  generalize 2 ^ frH v6 k - 1 = p at *
  generalize 2 ^ frL v6 k - 1 = q at *
  obtain ⟨wd, hwd⟩ : ∃ wd, wd = width v6 := ⟨_, rfl⟩
  rw [← hwd] at hb HWD
  have d2 : decide ((wd : Int) < (k : Int)) = false := by simp; omega
  have d3 : ¬ (wd : Int) < (k : Int) := by omega
  have hk : k ≤ 128 := by unfold width at hwd; split at hwd <;> omega
  clear hwd
  go_enter Tryd.func19, Tryd.ntmps19
  go_wp2_with fail
  refine (HWD.out _).mono ?_
  rintro e w2 ⟨rfl, hbw⟩
  have HX2 := Lib.hid (HX.out.kept hbw HX.out.lt)
  have HR2 := Lib.hid (HR.out.kept hbw HR.out.lt)
  have HB2 := Lib.hid (HB.out.trans (hbw.mono HB.out.size))
  have x0 := HX2.out.c0
  have x1 := HX2.out.c1
  have x2 := HX2.out.c2
  clear hbw HX HR HB
  go_wp2_with fail
  refine (HFR.out _).mono ?_
  rintro e w3 ⟨rfl, hbw⟩
  have HX3 := Lib.hid (HX2.out.kept hbw HX2.out.lt)
  have HR3 := Lib.hid (HR2.out.kept hbw HR2.out.lt)
  have HB3 := Lib.hid (HB2.out.trans (hbw.mono HB2.out.size))
  clear hbw HX2 HR2 HB2 x0 x1 x2
  have x0 := HX3.out.c0
  have x1 := HX3.out.c1
  have x2 := HX3.out.c2
  have xf1 := HX3.out.f 1
  have xf2 := HX3.out.f 2
  have r0 := HR3.out.c0
  have r1 := HR3.out.c1
  have r2 := HR3.out.c2
  have r3 := HR3.out.c3
  have rf0 := HR3.out.f 0
  have rf1 := HR3.out.f 1
  have rf2 := HR3.out.f 2
  have rf3 := HR3.out.f 3
  have HW4 := Lib.hid (((HR3.out.far (b := w.heap.size) (i := 1) (by omega) (.int .u64 hi')).far (b := w.heap.size) (i := 2) (by omega) (.int .u64 lo')))
  have HB4 := Lib.hid ((HB3.out.setCell (p := ⟨w.heap.size, 1, none⟩) (Nat.le_refl _) (.int .u64 hi')).setCell (p := ⟨w.heap.size, 2, none⟩) (Nat.le_refl _) (.int .u64 lo'))
  go_wp2_with fail
  change bodyPost _ _ _ _ _ (pset ((w3.setCell ⟨w.heap.size, 1, none⟩ (.int .u64 hi')).setCell ⟨w.heap.size, 2, none⟩ (.int .u64 lo')) (w.heap.size + 1) v6 hi' lo' k)
  exact bodyPost_ret (res_pfx2 rfl _ _ rfl (HW4.out.set v6 hi' lo' k)) rfl ⟨rfl, pset_below HB4.out (Nat.le_succ _) v6 hi' lo' k⟩
end Go.Proofs.YtcblgbonijloiaaDoor

/- Contracts of the program's layer 6: Contains, ValidPrefix. -/
namespace Go.Proofs.YtcblgbonijloiaaDoor
open Go.ChangeShapes Go.WideShapes Go.ChangeAt Go.RowKit
set_option linter.unusedVariables false

/-- '==' of two prefixes. -/
theorem pfx_guard : Tryd.prog.eqGuardType Tryd.prog.depth 30 = false := by kernel_rfl
theorem pfx_eql (b b' : Bool) (h h' l l' k k' : Int) (W : World) :
    (binOp .eql 30 (.agg #[.bool b, .int .u64 h, .int .u64 l, .int .i64 k]) (.agg #[.bool b', .int .u64 h', .int .u64 l', .int .i64 k'])).run Tryd.prog W = .ok (.bool (b == b' && (h == h' && (l == l' && k == k')))) W := by
  have u3 := Tryd.underlying23
  have a3 := Tryd.isAgg23
  have z3 := Tryd.sizeOf23
  have u2 := Tryd.underlying3
  have a2 := Tryd.isAgg3
  have z2 := Tryd.sizeOf3
  have u9 := Tryd.underlying4
  have a9 := Tryd.isAgg4
  have z9 := Tryd.sizeOf4
  have u8 := Tryd.underlying25
  have a8 := Tryd.isAgg25
  have z8 := Tryd.sizeOf25
  have hS : Tryd.prog.underlying 30 = some (.struct (Tryd.prog.fieldsOf 30)) := by kernel_rfl
  have hp : Tryd.prog.stoodInHeld 30 = false := by kernel_rfl
  have hS2 : Tryd.prog.underlying 25 = some (.struct (Tryd.prog.fieldsOf 25)) := by kernel_rfl
  have hp2 : Tryd.prog.stoodInHeld 25 = false := by kernel_rfl
  rw [run_eql_struct, show (10000 : Nat) = 9999 + 1 from rfl, run_equalIn_agg W 9999 30 _ _ hS hp]
  simp only [Program.fieldsOf, Tryd.underlying30]
  go_simp
  cases h1 : (b == b') <;> cases h2 : (h == h') <;> cases h3 : (l == l') <;> cases h4 : (k == k') <;> simp_all
/-- Is an address in a prefix? By the tests of the program. -/
def cntB (v1 : Bool) (h1 l1 : Nat) (k : Int) (v2 : Bool) (h2 l2 : Nat) : Bool :=
  decide (0 ≤ k ∧ k ≤ (width v2 : Nat)) && (v2 == v1 && (((mkH v2 k.toNat h2 : Nat) : Int) == (h1 : Int) && ((mkL v2 k.toNat l2 : Nat) : Int) == (l1 : Int)))
theorem below3 (w : World) (a b c : Obj) : Below w.heap.size w (((w.alloc a).alloc b).alloc c) := (below2 w a b).trans ((below_alloc6 _ c).mono (by simp; omega))
set_option maxHeartbeats 1000000 in
set_option maxRecDepth 20000 in
theorem qcont_any (v1 : Bool) (h1 l1 : Nat) (k : Int) (v2 : Bool) (h2 l2 : Nat) (w : World) (b1 : h2 < 18446744073709551616) (b2 : l2 < 18446744073709551616) :
    Calls Tryd.prog 37 #[.agg #[.bool v1, .int .u64 h1, .int .u64 l1, .int .i64 k], .agg #[.bool v2, .int .u64 h2, .int .u64 l2]] w fun e w' => e = .returned (.bool (cntB v1 h1 l1 k v2 h2 l2)) ∧ Below w.heap.size w w' := by
  have hm := pfx_guard
  have HX := Lib.hid (pb_new w v1 h1 l1 k |>.kept (below_alloc6 _ (.cells #[.bool v2, .int .u64 h2, .int .u64 l2] 25)) (alloc_lt6 w _))
  have HY := Lib.hid (ab2 w (.cells #[.bool v1, .int .u64 h1, .int .u64 l1, .int .i64 k] 30) v2 h2 l2)
  have HB := Lib.hid (below2 w (.cells #[.bool v1, .int .u64 h1, .int .u64 l1, .int .i64 k] 30) (.cells #[.bool v2, .int .u64 h2, .int .u64 l2] 25))
  by_cases c : 0 ≤ k ∧ k ≤ (width v2 : Nat)
  · obtain ⟨n, rfl⟩ := Int.eq_ofNat_of_zero_le c.1
    have HM := Lib.hid (fun W => qmake_ok v2 h2 l2 n W b1 b2 (by have := c.2; omega))
    have hr : cntB v1 h1 l1 n v2 h2 l2 = (v2 == v1 && (((mkH v2 n h2 : Nat) : Int) == (h1 : Int) && ((mkL v2 n l2 : Nat) : Int) == (l1 : Int))) := by
      unfold cntB
      rw [decide_eq_true c, Bool.true_and]
      rfl
    rw [hr]
    have qe := fun W => pfx_eql v2 v1 (mkH v2 n h2 : Nat) h1 (mkL v2 n l2 : Nat) l1 n n W
    rw [beq_self_eq_true, Bool.and_true] at qe
    generalize mkH v2 n h2 = hi' at *
    generalize mkL v2 n l2 = lo' at *
    generalize (v2 == v1 && ((hi' : Int) == (h1 : Int) && (lo' : Int) == (l1 : Int))) = z at *
    clear c hr
    go_enter Tryd.func37, Tryd.ntmps37
    go_wp2_with fail
    refine (HM.out _).mono ?_
    rintro e w3 ⟨rfl, hb⟩
    have HX3 := Lib.hid (HX.out.kept hb HX.out.lt)
    have HB3 := Lib.hid (HB.out.trans (hb.mono HB.out.size))
    clear hb
    have x0 := HX3.out.c0
    have x1 := HX3.out.c1
    have x2 := HX3.out.c2
    have x3 := HX3.out.c3
    have hgl := HX3.out.lt
    cases z with
    | true =>
      go_wp2_with fail
      go_ret
      exact ⟨rfl, HB3.out.trans ((below_alloc6 _ _).mono HB3.out.size)⟩
    | false =>
      go_wp2_with fail
      go_ret
      exact ⟨rfl, HB3.out.trans ((below_alloc6 _ _).mono HB3.out.size)⟩
  · have hr : cntB v1 h1 l1 k v2 h2 l2 = false := by
      unfold cntB
      rw [decide_eq_false c, Bool.false_and]
    rw [hr]
    have HM := Lib.hid (fun W => qmake_bad v2 h2 l2 k W (by omega))
    clear c hr
    go_enter Tryd.func37, Tryd.ntmps37
    go_wp2_with fail
    refine (HM.out _).mono ?_
    rintro e w3 ⟨rfl, hb⟩
    have HB3 := Lib.hid (HB.out.trans (hb.mono HB.out.size))
    clear hb
    go_wp2_with fail
    go_ret
    exact ⟨rfl, HB3.out.trans ((below_alloc6 _ _).mono HB3.out.size)⟩
/-- Is a struct a prefix? -/
def vldP (v6 : Bool) (hi lo : Nat) (k : Int) : Bool := vldA v6 hi lo && cntB v6 hi lo k v6 hi lo
set_option maxHeartbeats 1000000 in
set_option maxRecDepth 20000 in
theorem qvalidp_any (v6 : Bool) (hi lo : Nat) (k : Int) (w : World) (b1 : hi < 18446744073709551616) (b2 : lo < 18446744073709551616) :
    Calls Tryd.prog 17 #[.agg #[.bool v6, .int .u64 hi, .int .u64 lo, .int .i64 k]] w fun e w' => e = .returned (.bool (vldP v6 hi lo k)) ∧ Below w.heap.size w w' := by
  have HX := Lib.hid (pb_new w v6 hi lo k)
  have HB := Lib.hid (below_alloc6 w (.cells #[.bool v6, .int .u64 hi, .int .u64 lo, .int .i64 k] 30))
  have HV := Lib.hid (fun W => qvalid_any v6 hi lo W)
  have HC := Lib.hid (fun W => qcont_any v6 hi lo k v6 hi lo W b1 b2)
  unfold vldP
  generalize vldA v6 hi lo = a at *
  generalize cntB v6 hi lo k v6 hi lo = b at *
  go_enter Tryd.func17, Tryd.ntmps17
  go_wp2_with fail
  refine (HV.out _).mono ?_
  rintro e w3 ⟨rfl, hb⟩
  have HX3 := Lib.hid (HX.out.kept hb HX.out.lt)
  have HB3 := Lib.hid (HB.out.trans (hb.mono HB.out.size))
  clear hb HX HB
  have x0 := HX3.out.c0
  have x1 := HX3.out.c1
  have x2 := HX3.out.c2
  have x3 := HX3.out.c3
  cases a with
  | true =>
    go_wp2_with fail
    refine (HC.out _).mono ?_
    rintro e w4 ⟨rfl, hb⟩
    have HB4 := Lib.hid (HB3.out.trans (hb.mono HB3.out.size))
    clear hb
    go_wp2_with fail
    go_ret
    exact ⟨rfl, HB4.out⟩
  | false =>
    go_wp2_with fail
    go_ret
    exact ⟨rfl, HB3.out⟩
end Go.Proofs.YtcblgbonijloiaaDoor

/- Contracts of the program's layer 6: Bounds. -/
namespace Go.Proofs.YtcblgbonijloiaaDoor
open Go.ChangeShapes Go.WideShapes Go.ChangeAt Go.RowKit
set_option linter.unusedVariables false

/-- A range in a box. -/
def RB (w : World) (g : Nat) (v1 : Bool) (h1 l1 : Nat) (v2 : Bool) (h2 l2 : Nat) : Prop := Cells w g 40 #[.bool v1, .int .u64 h1, .int .u64 l1, .bool v2, .int .u64 h2, .int .u64 l2]
theorem rb_new (w : World) (v1 : Bool) (h1 l1 : Nat) (v2 : Bool) (h2 l2 : Nat) : RB (w.alloc (.cells #[.bool v1, .int .u64 h1, .int .u64 l1, .bool v2, .int .u64 h2, .int .u64 l2] 40)) w.heap.size v1 h1 l1 v2 h2 l2 := heap_alloc_new w _
theorem RB.kept {w w' : World} {g B : Nat} {v1 : Bool} {h1 l1 : Nat} {v2 : Bool} {h2 l2 : Nat} (h : RB w g v1 h1 l1 v2 h2 l2) (hb : Below B w w') (hg : g < B) : RB w' g v1 h1 l1 v2 h2 l2 := (hb.block _ hg).trans h
theorem RB.lt {w : World} {g : Nat} {v1 : Bool} {h1 l1 : Nat} {v2 : Bool} {h2 l2 : Nat} (h : RB w g v1 h1 l1 v2 h2 l2) : g < w.heap.size := Cells.lt h
theorem RB.f {w : World} {g : Nat} {v1 : Bool} {h1 l1 : Nat} {v2 : Bool} {h2 l2 : Nat} (h : RB w g v1 h1 l1 v2 h2 l2) (i : Nat) : w.frozen? ⟨g, i, none⟩ = false := Cells.frozen h i
theorem RB.c {w : World} {g : Nat} {v1 : Bool} {h1 l1 : Nat} {v2 : Bool} {h2 l2 : Nat} (h : RB w g v1 h1 l1 v2 h2 l2) (i : Nat) : w.cell? ⟨g, i, none⟩ = #[Value.bool v1, .int .u64 h1, .int .u64 l1, .bool v2, .int .u64 h2, .int .u64 l2][i]? := Cells.cell h i
theorem rng_size : (Tryd.prog.info? 40).map (·.size) = some 6 := by kernel_rfl
theorem res_rng1 {fn : Func} {p : Tmp} (h : fn.results = #[.cell p 40]) (tmps : Array Value) (w : World) {g : Nat} {v1 : Bool} {h1 l1 : Nat} {v2 : Bool} {h2 l2 : Nat} (hp : tmps.getD p undef = .pointer (some ⟨g, 0, none⟩)) (ht : RB w g v1 h1 l1 v2 h2 l2) :
    (results fn tmps).run Tryd.prog w = .ok (.agg #[.bool v1, .int .u64 h1, .int .u64 l1, .bool v2, .int .u64 h2, .int .u64 l2]) w := by
  have hp' : tmps[p]?.getD undef = .pointer (some ⟨g, 0, none⟩) := by simpa using hp
  simp [results, h, hp', asAddr, run_loadVar_row w g 40 40 _ (0, 0) _ ht Tryd.underlying40 rfl rng_size]
/-- The six stores of a range. -/
def rset (w : World) (g : Nat) (v1 : Bool) (h1 l1 : Nat) (v2 : Bool) (h2 l2 : Nat) : World := (((((w.setCell ⟨g, 0, none⟩ (.bool v1)).setCell ⟨g, 1, none⟩ (.int .u64 h1)).setCell ⟨g, 2, none⟩ (.int .u64 l1)).setCell ⟨g, 3, none⟩ (.bool v2)).setCell ⟨g, 4, none⟩ (.int .u64 h2)).setCell ⟨g, 5, none⟩ (.int .u64 l2)
theorem RB.set {w : World} {g : Nat} {a1 : Bool} {a2 a3 : Nat} {a4 : Bool} {a5 a6 : Nat} (h : RB w g a1 a2 a3 a4 a5 a6) (v1 : Bool) (h1 l1 : Nat) (v2 : Bool) (h2 l2 : Nat) : RB (rset w g v1 h1 l1 v2 h2 l2) g v1 h1 l1 v2 h2 l2 := by
  have j0 := Cells.set h 0 (.bool v1)
  have j1 := Cells.set j0 1 (.int .u64 h1)
  have j2 := Cells.set j1 2 (.int .u64 l1)
  have j3 := Cells.set j2 3 (.bool v2)
  have j4 := Cells.set j3 4 (.int .u64 h2)
  have j5 := Cells.set j4 5 (.int .u64 l2)
  exact j5
theorem rset_below {B : Nat} {a w : World} {g : Nat} (h : Below B a w) (hg : B ≤ g) (v1 : Bool) (h1 l1 : Nat) (v2 : Bool) (h2 l2 : Nat) : Below B a (rset w g v1 h1 l1 v2 h2 l2) := (((((h.setCell hg _).setCell hg _).setCell hg _).setCell hg _).setCell hg _).setCell hg _
theorem vldP_out {v6 : Bool} {hi lo k : Nat} (h : vldP v6 hi lo k = true) : vldA v6 hi lo = true ∧ k ≤ width v6 ∧ mkH v6 k hi = hi ∧ mkL v6 k lo = lo := by
  unfold vldP cntB at h
  rw [Bool.and_eq_true, Bool.and_eq_true, Bool.and_eq_true, Bool.and_eq_true, decide_eq_true_eq, beq_iff_eq, beq_iff_eq, beq_iff_eq, Int.toNat_natCast] at h
  obtain ⟨a, ⟨_, b⟩, _, c, d⟩ := h
  exact ⟨a, by omega, by omega, by omega⟩
set_option maxHeartbeats 1000000 in
set_option maxRecDepth 20000 in
theorem qbounds_any (v6 : Bool) (hi lo k : Nat) (w : World) (b1 : hi < 18446744073709551616) (b2 : lo < 18446744073709551616) (hv : vldP v6 hi lo k = true) :
    Calls Tryd.prog 27 #[.agg #[.bool v6, .int .u64 hi, .int .u64 lo, .int .i64 k]] w fun e w' => e = .returned (.agg #[.bool v6, .int .u64 hi, .int .u64 lo, .bool v6, .int .u64 (lowO (frH v6 k) hi : Nat), .int .u64 (lowO (frL v6 k) lo : Nat)]) ∧ Below w.heap.size w w' := by
  obtain ⟨a1, a2, a3, a4⟩ := vldP_out hv
  have HX := Lib.hid (pb_new w v6 hi lo k |>.kept (below_alloc6 _ (.cells #[.bool false, .int .u64 0, .int .u64 0, .bool false, .int .u64 0, .int .u64 0] 40)) (alloc_lt6 w _))
  have HR := Lib.hid (show RB ((w.alloc (.cells #[.bool v6, .int .u64 hi, .int .u64 lo, .int .i64 k] 30)).alloc (.cells #[.bool false, .int .u64 0, .int .u64 0, .bool false, .int .u64 0, .int .u64 0] 40)) (w.heap.size + 1) false 0 0 false 0 0 from by
    have := rb_new (w.alloc (.cells #[.bool v6, .int .u64 hi, .int .u64 lo, .int .i64 k] 30)) false 0 0 false 0 0
    rwa [show (w.alloc (.cells #[.bool v6, .int .u64 hi, .int .u64 lo, .int .i64 k] 30)).heap.size = w.heap.size + 1 by simp] at this)
  have HB := Lib.hid (below2 w (.cells #[.bool v6, .int .u64 hi, .int .u64 lo, .int .i64 k] 30) (.cells #[.bool false, .int .u64 0, .int .u64 0, .bool false, .int .u64 0, .int .u64 0] 40))
  have HV := Lib.hid (fun W => qvalidp_any v6 hi lo k W b1 b2)
  have HF := Lib.hid (fun W => qfree_any v6 hi lo k W a2)
  rw [hv] at HV
  have HO1 := or64 hi (frH v6 k) b1 (frH_le v6 k) a3
  have HO2 := or64 lo (frL v6 k) b2 (frL_le v6 k) a4
  generalize lowO (frH v6 k) hi = hi' at *
  generalize lowO (frL v6 k) lo = lo' at *
  generalize 2 ^ frH v6 k - 1 = p at *
  generalize 2 ^ frL v6 k - 1 = q at *
  clear a1 a2 a3 a4 hv b1 b2
  go_enter Tryd.func27, Tryd.ntmps27
  go_wp2_with fail
  refine (HV.out _).mono ?_
  rintro e w2 ⟨rfl, hb⟩
  have HX2 := Lib.hid (HX.out.kept hb HX.out.lt)
  have HR2 := Lib.hid (HR.out.kept hb HR.out.lt)
  have HB2 := Lib.hid (HB.out.trans (hb.mono HB.out.size))
  clear hb HX HR HB
  have x0 := HX2.out.c0
  have x1 := HX2.out.c1
  have x2 := HX2.out.c2
  have x3 := HX2.out.c3
  go_wp2_with fail
  refine (HF.out _).mono ?_
  rintro e w3 ⟨rfl, hb⟩
  have HX3 := Lib.hid (HX2.out.kept hb HX2.out.lt)
  have HR3 := Lib.hid (HR2.out.kept hb HR2.out.lt)
  have HB3 := Lib.hid (HB2.out.trans (hb.mono HB2.out.size))
  clear hb HX2 HR2 HB2 x0 x1 x2 x3
  have x0 := HX3.out.c0
  have x1 := HX3.out.c1
  have x2 := HX3.out.c2
  have x3 := HX3.out.c3
  have hgx := HX3.out.lt
  have hgr := HR3.out.lt
  have r0 : w3.cell? ⟨w.heap.size + 1, 0, none⟩ = some (.bool false) := (HR3.out.c 0).trans rfl
  have r1 : w3.cell? ⟨w.heap.size + 1, 1, none⟩ = some (.int .u64 0) := (HR3.out.c 1).trans rfl
  have r2 : w3.cell? ⟨w.heap.size + 1, 2, none⟩ = some (.int .u64 0) := (HR3.out.c 2).trans rfl
  have r3 : w3.cell? ⟨w.heap.size + 1, 3, none⟩ = some (.bool false) := (HR3.out.c 3).trans rfl
  have r4 : w3.cell? ⟨w.heap.size + 1, 4, none⟩ = some (.int .u64 0) := (HR3.out.c 4).trans rfl
  have r5 : w3.cell? ⟨w.heap.size + 1, 5, none⟩ = some (.int .u64 0) := (HR3.out.c 5).trans rfl
  have f0 := HR3.out.f 0
  have f1 := HR3.out.f 1
  have f2 := HR3.out.f 2
  have f3 := HR3.out.f 3
  have f4 := HR3.out.f 4
  have f5 := HR3.out.f 5
  go_wp2_with fail
  have HR4 := HR3.out.set v6 hi lo v6 hi' lo'
  have HB4 := rset_below HB3.out (g := w.heap.size + 1) (Nat.le_succ _) v6 hi lo v6 hi' lo'
  change bodyPost _ _ _ _ _ ((rset w3 (w.heap.size + 1) v6 hi lo v6 hi' lo').alloc _)
  exact bodyPost_ret (res_rng1 rfl _ _ rfl (HR4.kept (below_alloc6 _ _) HR4.lt)) rfl ⟨rfl, HB4.trans ((below_alloc6 _ _).mono HB4.size)⟩
end Go.Proofs.YtcblgbonijloiaaDoor

/- Contract of the reference of layer 6: FromBytes. -/
namespace Go.Proofs.YtcblgbonijloiaaDoor
open Go.ChangeShapes Go.WideShapes Go.ChangeAt Go.RowKit
set_option linter.unusedVariables false

/-- The address under way behind k bytes. -/
def FB (v6 : Bool) (L : By) (k hi lo : Nat) : Prop :=
  if v6 then hi = num (L.take (min k 8)) ∧ lo = num ((L.take k).drop 8) else hi = 0 ∧ lo = num (L.take k)
theorem fb_zero (v6 : Bool) (L : By) : FB v6 L 0 0 0 := by cases v6 <;> simp [FB, num_nil]
theorem fb_hi {L : By} {k hi lo : Nat} (h : FB true L k hi lo) (hk : k < 8) (hl : k < L.length) : hi < 72057594037927936 ∧ FB true L (k + 1) (hi * 256 + L[k].toNat) lo := by
  obtain ⟨h1, h2⟩ := h
  rw [Nat.min_eq_left (by omega)] at h1
  refine ⟨by rw [h1]; exact num_le7 (by rw [List.length_take]; omega), ?_, ?_⟩
  · rw [Nat.min_eq_left (by omega), List.take_succ_eq_append_getElem hl, num_snoc, h1]
  · rw [h2, List.drop_of_length_le (by rw [List.length_take]; omega), List.drop_of_length_le (by rw [List.length_take]; omega)]
theorem fb_lo6 {L : By} {k hi lo : Nat} (h : FB true L k hi lo) (hk : 8 ≤ k) (hl : k < L.length) (hL : L.length = 16) : lo < 72057594037927936 ∧ FB true L (k + 1) hi (lo * 256 + L[k].toNat) := by
  obtain ⟨h1, h2⟩ := h
  rw [Nat.min_eq_right hk] at h1
  refine ⟨by rw [h2]; exact num_le7 (by rw [List.length_drop, List.length_take]; omega), ?_, ?_⟩
  · rw [Nat.min_eq_right (by omega), h1]
  · rw [List.take_succ_eq_append_getElem hl, List.drop_append_of_le_length (by rw [List.length_take]; omega), num_snoc, h2]
theorem fb_lo4 {L : By} {k hi lo : Nat} (h : FB false L k hi lo) (hl : k < L.length) (hL : L.length = 4) : lo < 72057594037927936 ∧ FB false L (k + 1) hi (lo * 256 + L[k].toNat) := by
  obtain ⟨h1, h2⟩ := h
  refine ⟨by rw [h2]; exact num_le7 (by rw [List.length_take]; omega), h1, ?_⟩
  rw [List.take_succ_eq_append_getElem hl, num_snoc, h2]
/-- One round: which half takes the byte. -/
theorem fb_step {v6 : Bool} {L : By} {k hi lo : Nat} (h : FB v6 L k hi lo) (hl : k < L.length) (hL : L.length = if v6 then 16 else 4) :
    ((v6 && decide ((k : Int) < 8)) = true ∧ hi < 72057594037927936 ∧ FB v6 L (k + 1) (hi * 256 + L[k].toNat) lo) ∨ ((v6 && decide ((k : Int) < 8)) = false ∧ lo < 72057594037927936 ∧ FB v6 L (k + 1) hi (lo * 256 + L[k].toNat)) := by
  cases v6 with
  | false => exact .inr ⟨rfl, fb_lo4 h hl hL⟩
  | true =>
    by_cases h8 : k < 8
    · exact .inl ⟨by simp; omega, fb_hi h h8 hl⟩
    · exact .inr ⟨by simp; omega, fb_lo6 h (by omega) hl hL⟩
set_option maxHeartbeats 800000 in
set_option maxRecDepth 20000 in
theorem rfrom6_true (s : ByteArray) (w : World) (hs : s.size = 16) :
    Calls Tryd.prog 30 #[.string s] w fun e w' => (∃ hi lo : Nat, e = .returned (.tuple #[.agg #[.bool true, .int .u64 hi, .int .u64 lo], .int .i64 0]) ∧ FB true s.data.toList s.size hi lo) ∧ Below w.heap.size w w' := by
  have hlen := toList_length6 s
  have H0 := Lib.hid (fb_zero true s.data.toList)
  have HST := Lib.hid (fun k hi lo (h : FB true s.data.toList k hi lo) (hl : k < s.data.toList.length) => fb_step h hl (by rw [hlen]; exact hs))
  have dg : ((s.size : Int) == 4) = false := by rw [hs]; rfl
  have dh : ((s.size : Int) == 16) = true := by rw [hs]; rfl
  have n4 : ¬ (s.size : Int) = 4 := by omega
  have d4 : ((s.size : Int) != 4) = true := by rw [hs]; rfl
  have d16 : ((s.size : Int) != 16) = false := by rw [hs]; rfl
  have hsz : s.size ≤ 16 := by omega
  have HLN := Lib.hid hlen
  have HX := Lib.hid (ab_new w false 0 0 |>.kept (below_alloc6 _ (.cells #[.bool true, .int .u64 0, .int .u64 0] 25)) (alloc_lt6 w _))
  have HY := Lib.hid (ab2 w (.cells #[.bool false, .int .u64 0, .int .u64 0] 25) true 0 0)
  have HB := Lib.hid (below2 w (.cells #[.bool false, .int .u64 0, .int .u64 0] 25) (.cells #[.bool true, .int .u64 0, .int .u64 0] 25))
  clear hlen hs
  go_enter Tryd.func30, Tryd.ntmps30
  go_wp2_with fail
  generalize (w.alloc (.cells #[.bool false, .int .u64 0, .int .u64 0] 25)).alloc (.cells #[.bool true, .int .u64 0, .int .u64 0] 25) = w1 at *
  go_loopw [5] (fun v5 wr => ∃ k hi lo : Nat, v5 = .int .i64 k ∧ k ≤ s.size ∧ Hid (FB true s.data.toList k hi lo) ∧ Hid (AB wr (w.heap.size + 1) true hi lo) ∧ Hid (AB wr w.heap.size false 0 0) ∧ Hid (Below w.heap.size w wr)) (fun v5 _ => s.size - (intOf v5).toNat)
  case atStart => exact ⟨0, 0, 0, rfl, Nat.zero_le _, H0, HY, HX, HB⟩
  case round =>
    clear H0 HY HX HB
    obtain ⟨k, hi, lo, rfl, hk, HF, HY, HX, HB⟩ := hrel
    have y0 := HY.out.c0
    have y1 := HY.out.c1
    have y2 := HY.out.c2
    have yf1 := HY.out.f 1
    have yf2 := HY.out.f 2
    by_cases hlt : k < s.size
    · have dlt : decide ((k : Int) < (s.size : Int)) = true := by simp; omega
      have hlti : (k : Int) < (s.size : Int) := by omega
      have hki0 : (0 : Int) ≤ (k : Int) := by omega
      have hx8 := u8_lt s[k]
      have hll : k < s.data.toList.length := by have := HLN.out; omega
      have ha : s.data.toList[k]'hll = s[k]'hlt := rfl
      have hst := HST.out k hi lo HF.out hll
      rw [ha] at hst
      obtain ⟨k1, hk1⟩ : ∃ k1, k1 = k + 1 := ⟨_, rfl⟩
      have k1i : (k : Int) + 1 = (k1 : Int) := by omega
      have k1s : k1 ≤ s.size := by omega
      rw [← hk1] at hst
      have HK1 := Lib.hid hk1
      generalize hxc : s[k]'hlt = x at *
      clear hk1 ha
      rcases hst with ⟨d8, hq⟩ | ⟨d8, hq⟩
      · have d8 : decide ((k : Int) < 8) = true := d8
        have hw := hq.1
        have HOR := Lib.hid (or_u64 hi x.toNat (by omega) (by omega))
        have HF2 := Lib.hid hq.2
        have HX3 := Lib.hid (HX.out.far (b := w.heap.size + 1) (i := 1) (by omega) (.int .u64 ((hi * 256 + x.toNat : Nat) : Int)))
        have HY3 := Lib.hid (HY.out.set1 (hi * 256 + x.toNat))
        have HB3 := Lib.hid (HB.out.setCell (p := ⟨w.heap.size + 1, 1, none⟩) (Nat.le_succ _) (.int .u64 ((hi * 256 + x.toNat : Nat) : Int)))
        clear hq
        go_wp2_with fail
        go_region
        all_goals
          go_wp2_with fail
          go_roundw
          case rel =>
            rw [HOR.out]
            exact ⟨k1, hi * 256 + x.toNat, lo, by go_num, k1s, HF2, HY3, HX3, Lib.hid (HB3.out.drew)⟩
          case measure => have := HK1.out; simp [intOf]; omega
      · have d8 : decide ((k : Int) < 8) = false := d8
        have hw := hq.1
        have HOR := Lib.hid (or_u64 lo x.toNat (by omega) (by omega))
        have HF2 := Lib.hid hq.2
        have HX3 := Lib.hid (HX.out.far (b := w.heap.size + 1) (i := 2) (by omega) (.int .u64 ((lo * 256 + x.toNat : Nat) : Int)))
        have HY3 := Lib.hid (HY.out.set2 (lo * 256 + x.toNat))
        have HB3 := Lib.hid (HB.out.setCell (p := ⟨w.heap.size + 1, 2, none⟩) (Nat.le_succ _) (.int .u64 ((lo * 256 + x.toNat : Nat) : Int)))
        clear hq
        go_wp2_with fail
        go_region
        all_goals
          go_wp2_with fail
          go_roundw
          case rel =>
            rw [HOR.out]
            exact ⟨k1, hi, lo * 256 + x.toNat, by go_num, k1s, HF2, HY3, HX3, Lib.hid (HB3.out.drew)⟩
          case measure => have := HK1.out; simp [intOf]; omega
    · have dlt : decide ((k : Int) < (s.size : Int)) = false := by simp; omega
      have nlt : ¬ (k : Int) < (s.size : Int) := by omega
      obtain rfl : k = s.size := by omega
      have x0 := HX.out.c0
      have x1 := HX.out.c1
      have x2 := HX.out.c2
      have xf0 := HX.out.f 0
      have xf1 := HX.out.f 1
      have xf2 := HX.out.f 2
      go_wp2_with fail
      change bodyPost _ _ _ _ _ (aset wr w.heap.size true hi lo)
      exact bodyPost_ret (res_addr2 rfl _ _ rfl (HX.out.set true hi lo)) rfl ⟨⟨hi, lo, rfl, HF.out⟩, aset_below HB.out (Nat.le_refl _) true hi lo⟩
set_option maxHeartbeats 800000 in
set_option maxRecDepth 20000 in
theorem rfrom6_false (s : ByteArray) (w : World) (hs : s.size = 4) :
    Calls Tryd.prog 30 #[.string s] w fun e w' => (∃ hi lo : Nat, e = .returned (.tuple #[.agg #[.bool false, .int .u64 hi, .int .u64 lo], .int .i64 0]) ∧ FB false s.data.toList s.size hi lo) ∧ Below w.heap.size w w' := by
  have hlen := toList_length6 s
  have H0 := Lib.hid (fb_zero false s.data.toList)
  have HST := Lib.hid (fun k hi lo (h : FB false s.data.toList k hi lo) (hl : k < s.data.toList.length) => fb_step h hl (by rw [hlen]; exact hs))
  have dg : ((s.size : Int) == 4) = true := by rw [hs]; rfl
  have dh : ((s.size : Int) == 16) = false := by rw [hs]; rfl
  have n4 : (s.size : Int) = 4 := by omega
  have d4 : ((s.size : Int) != 4) = false := by rw [hs]; rfl
  have d16 : ((s.size : Int) != 16) = true := by rw [hs]; rfl
  have hsz : s.size ≤ 16 := by omega
  have HLN := Lib.hid hlen
  have HX := Lib.hid (ab_new w false 0 0 |>.kept (below_alloc6 _ (.cells #[.bool false, .int .u64 0, .int .u64 0] 25)) (alloc_lt6 w _))
  have HY := Lib.hid (ab2 w (.cells #[.bool false, .int .u64 0, .int .u64 0] 25) false 0 0)
  have HB := Lib.hid (below2 w (.cells #[.bool false, .int .u64 0, .int .u64 0] 25) (.cells #[.bool false, .int .u64 0, .int .u64 0] 25))
  clear hlen hs
  go_enter Tryd.func30, Tryd.ntmps30
  go_wp2_with fail
  generalize (w.alloc (.cells #[.bool false, .int .u64 0, .int .u64 0] 25)).alloc (.cells #[.bool false, .int .u64 0, .int .u64 0] 25) = w1 at *
  go_loopw [5] (fun v5 wr => ∃ k hi lo : Nat, v5 = .int .i64 k ∧ k ≤ s.size ∧ Hid (FB false s.data.toList k hi lo) ∧ Hid (AB wr (w.heap.size + 1) false hi lo) ∧ Hid (AB wr w.heap.size false 0 0) ∧ Hid (Below w.heap.size w wr)) (fun v5 _ => s.size - (intOf v5).toNat)
  case atStart => exact ⟨0, 0, 0, rfl, Nat.zero_le _, H0, HY, HX, HB⟩
  case round =>
    clear H0 HY HX HB
    obtain ⟨k, hi, lo, rfl, hk, HF, HY, HX, HB⟩ := hrel
    have y0 := HY.out.c0
    have y1 := HY.out.c1
    have y2 := HY.out.c2
    have yf1 := HY.out.f 1
    have yf2 := HY.out.f 2
    by_cases hlt : k < s.size
    · have dlt : decide ((k : Int) < (s.size : Int)) = true := by simp; omega
      have hlti : (k : Int) < (s.size : Int) := by omega
      have hki0 : (0 : Int) ≤ (k : Int) := by omega
      have hx8 := u8_lt s[k]
      have hll : k < s.data.toList.length := by have := HLN.out; omega
      have ha : s.data.toList[k]'hll = s[k]'hlt := rfl
      have hst := HST.out k hi lo HF.out hll
      rw [ha] at hst
      obtain ⟨k1, hk1⟩ : ∃ k1, k1 = k + 1 := ⟨_, rfl⟩
      have k1i : (k : Int) + 1 = (k1 : Int) := by omega
      have k1s : k1 ≤ s.size := by omega
      rw [← hk1] at hst
      have HK1 := Lib.hid hk1
      generalize hxc : s[k]'hlt = x at *
      clear hk1 ha
      rcases hst with ⟨d8, hq⟩ | ⟨d8, hq⟩
      · exact absurd d8 (by simp)
      · clear d8
        have hw := hq.1
        have HOR := Lib.hid (or_u64 lo x.toNat (by omega) (by omega))
        have HF2 := Lib.hid hq.2
        have HX3 := Lib.hid (HX.out.far (b := w.heap.size + 1) (i := 2) (by omega) (.int .u64 ((lo * 256 + x.toNat : Nat) : Int)))
        have HY3 := Lib.hid (HY.out.set2 (lo * 256 + x.toNat))
        have HB3 := Lib.hid (HB.out.setCell (p := ⟨w.heap.size + 1, 2, none⟩) (Nat.le_succ _) (.int .u64 ((lo * 256 + x.toNat : Nat) : Int)))
        clear hq
        go_wp2_with fail
        go_region
        all_goals
          go_wp2_with fail
          go_roundw
          case rel =>
            rw [HOR.out]
            exact ⟨k1, hi, lo * 256 + x.toNat, by go_num, k1s, HF2, HY3, HX3, Lib.hid (HB3.out.drew)⟩
          case measure => have := HK1.out; simp [intOf]; omega
    · have dlt : decide ((k : Int) < (s.size : Int)) = false := by simp; omega
      have nlt : ¬ (k : Int) < (s.size : Int) := by omega
      obtain rfl : k = s.size := by omega
      have x0 := HX.out.c0
      have x1 := HX.out.c1
      have x2 := HX.out.c2
      have xf0 := HX.out.f 0
      have xf1 := HX.out.f 1
      have xf2 := HX.out.f 2
      go_wp2_with fail
      change bodyPost _ _ _ _ _ (aset wr w.heap.size false hi lo)
      exact bodyPost_ret (res_addr2 rfl _ _ rfl (HX.out.set false hi lo)) rfl ⟨⟨hi, lo, rfl, HF.out⟩, aset_below HB.out (Nat.le_refl _) false hi lo⟩
end Go.Proofs.YtcblgbonijloiaaDoor

/- Contracts of the program's layer 6: eightBytes, numberOf, Bytes, FromBytes. -/
namespace Go.Proofs.YtcblgbonijloiaaDoor
open Go.ChangeShapes Go.WideShapes Go.ChangeAt Go.RowKit
set_option linter.unusedVariables false

set_option maxHeartbeats 1000000 in
set_option maxRecDepth 20000 in
theorem qeight_any (n : Nat) (w : World) (hn : n < 18446744073709551616) :
    Calls Tryd.prog 59 #[.int .u64 n] w fun e w' => e = .returned (.string (str (leL 8 n).reverse)) ∧ Below w.heap.size w w' := by
  go_enter Tryd.func59, Tryd.ntmps59
  go_wp2_with fail
  go_loopw [0, 4] (fun v0 v4 wr => ∃ m N : Nat, m ≤ 8 ∧ Hid (N = n / pw m) ∧ v0 = .int .u64 N ∧ v4 = .int .i64 (7 - (m : Int)) ∧ wr.rowIs w.heap.size 96 8 (fun x => .int .u8 (if 8 - m ≤ x then ((n / 256 ^ (7 - x) % 256 : Nat) : Int) else 0)) ∧ Below w.heap.size w wr) (fun v0 v4 _ => (intOf v4 + 1).toNat)
  case atStart =>
    refine ⟨0, n, by omega, Lib.hid (by rw [pw_zero, Nat.div_one]), rfl, rfl, ?_, (Below.refl _ _).alloc (Nat.le_refl _) _⟩
    refine World.rowIs.congr (World.rowIs_alloc w _ _ (fun _ => .int .u8 0) ?_) (fun i hi => by rw [if_neg (by omega)])
    intro i hi
    have hk : i = 0 ∨ i = 1 ∨ i = 2 ∨ i = 3 ∨ i = 4 ∨ i = 5 ∨ i = 6 ∨ i = 7 := by
      have : i < 8 := hi
      omega
    rcases hk with rfl | rfl | rfl | rfl | rfl | rfl | rfl | rfl <;> rfl
  case round =>
    obtain ⟨m, N, hm, HN, rfl, rfl, hrow, hb⟩ := hrel
    by_cases hlt : m < 8
    · obtain ⟨q, hq⟩ : ∃ q, q + m = 7 := ⟨7 - m, by omega⟩
      have hqi : (7 - (m : Int)) = (q : Int) := by omega
      rw [hqi]
      have hq8 : q < 8 := by omega
      have hc := hrow.cell hq8
      rw [if_neg (by omega)] at hc
      have hf := hrow.frozen q
      have d0 : decide ((0 : Int) ≤ (q : Int)) = true := by simp
      have hqs : IntKind.i64.wrap ((q : Int) - 1) = (q : Int) - 1 := IntWalk.i64_in _ (by omega)
      have HQ := Lib.hid hq
      have HM := Lib.hid (show 7 - ((m + 1 : Nat) : Int) = (q : Int) - 1 by omega)
      clear hq hqi hm
      go_wp2_with fail
      go_roundw
      case rel =>
        have hq := HQ.out
        refine ⟨m + 1, N / 256, by omega, Lib.hid (by rw [HN.out, pw_succ, Nat.div_div_eq_div_mul]), by go_num, by rw [HM.out], (hrow.set q _).congr (fun x hx => ?_), hb.setCell (Nat.le_refl _) _⟩
        by_cases e : x = q
        · subst e
          rw [if_pos rfl, if_pos (by omega), HN.out]
          unfold pw
          rw [show 7 - x = m by omega]
          simp
        · rw [if_neg e]
          by_cases e2 : 8 - m ≤ x
          · rw [if_pos e2, if_pos (by omega)]
          · rw [if_neg e2, if_neg (by omega)]
      case measure => simp [intOf]
    · obtain rfl : m = 8 := by omega
      have hl8 : (leL 8 n).reverse.length = 8 := by rw [List.length_reverse, leL_length]
      have hbs : BS wr w.heap.size (.slice (some ⟨w.heap.size, 0, none⟩) (leL 8 n).reverse.length 8) (leL 8 n).reverse := by
        refine ⟨some ⟨w.heap.size, 0, none⟩, 8, rfl, by omega, fun _ => ⟨w.heap.size, 0, rfl, Nat.le_refl _, hrow.lt, fun x hx => ?_⟩⟩
        have hx8 : x < 8 := by omega
        rw [Nat.zero_add]
        refine ⟨?_, hrow.frozen x⟩
        rw [hrow.cell hx8, if_pos (by omega), List.getElem_reverse, leL_get, UInt8.toNat_ofNat', show (leL 8 n).length - 1 - x = 7 - x by rw [leL_length]]
        simp
      have hcv := bs_string hbs
      rw [hl8] at hcv
      have HB := Lib.hid hb
      have d0 : decide ((0 : Int) ≤ 7 - ((8 : Nat) : Int)) = false := by decide
      clear hb hbs hrow hl8 HN hm hlt
      go_wp2_with fail
      go_ret
      exact ⟨rfl, HB.out⟩
set_option maxHeartbeats 1000000 in
set_option maxRecDepth 20000 in
theorem qnumber_any (s : ByteArray) (w : World) (hs : s.size ≤ 8) :
    Calls Tryd.prog 60 #[.string s] w fun e w' => e = .returned (.int .u64 (num s.data.toList : Nat)) ∧ w' = w := by
  have HLN := Lib.hid (toList_length6 s)
  go_enter Tryd.func60, Tryd.ntmps60
  go_wp2_with fail
  go_loop [3, 7] (fun v3 v7 => ∃ k n : Nat, k ≤ s.size ∧ Hid (n = num (s.data.toList.take k)) ∧ v3 = .int .u64 n ∧ v7 = .int .i64 k) (fun v3 v7 => s.size - (intOf v7).toNat)
  case atStart => exact ⟨0, 0, Nat.zero_le _, Lib.hid rfl, rfl, rfl⟩
  case round =>
    obtain ⟨k, n, hk, HN, rfl, rfl⟩ := hrel
    by_cases hlt : k < s.size
    · have dlt : decide ((k : Int) < (s.size : Int)) = true := by simp; omega
      have hlti : (k : Int) < (s.size : Int) := by omega
      have hki0 : (0 : Int) ≤ (k : Int) := by omega
      have hx8 := u8_lt s[k]
      have hll : k < s.data.toList.length := by have := HLN.out; omega
      have ha : s.data.toList[k]'hll = s[k]'hlt := rfl
      have hn7 : n < 72057594037927936 := by rw [HN.out]; exact num_le7 (by rw [List.length_take]; omega)
      have hst : num (s.data.toList.take (k + 1)) = n * 256 + (s[k]'hlt).toNat := by rw [List.take_succ_eq_append_getElem hll, num_snoc, HN.out, ha]
      obtain ⟨k1, hk1⟩ : ∃ k1, k1 = k + 1 := ⟨_, rfl⟩
      have k1i : (k : Int) + 1 = (k1 : Int) := by omega
      have k1s : k1 ≤ s.size := by omega
      rw [← hk1] at hst
      have HK1 := Lib.hid hk1
      have HS := Lib.hid hst
      generalize hxc : s[k]'hlt = x at *
      have HOR := Lib.hid (or_u64 n x.toNat (by omega) (by omega))
      clear hk1 ha hst
      go_wp2_with fail
      go_round
      case rel => exact ⟨k1, n * 256 + x.toNat, k1s, Lib.hid HS.out.symm, by rw [HOR.out], by go_num⟩
      case measure => have := HK1.out; simp [intOf]; omega
    · have dlt : decide ((k : Int) < (s.size : Int)) = false := by simp; omega
      have nlt : ¬ (k : Int) < (s.size : Int) := by omega
      obtain rfl : k = s.size := by omega
      have HE := Lib.hid (show n = num s.data.toList by rw [HN.out, List.take_of_length_le (by rw [HLN.out]; exact Nat.le_refl _)])
      go_wp2_with fail
      go_ret
      exact ⟨by rw [← HE.out]; rfl, rfl⟩
/-- The bytes of an address. -/
def adrB (v6 : Bool) (hi lo : Nat) : By := if v6 then (leL 8 hi).reverse ++ (leL 8 lo).reverse else (leL 4 lo).reverse
theorem adrB_length (v6 : Bool) (hi lo : Nat) : (adrB v6 hi lo).length = if v6 then 16 else 4 := by
  unfold adrB; split <;> simp [leL_length]
theorem leL_add : ∀ (a b n : Nat), leL (a + b) n = leL a n ++ leL b (n / 256 ^ a) := by
  intro a b n
  apply List.ext_getElem
  · simp [leL_length]
  · intro i h1 h2
    rw [leL_get]
    by_cases hi : i < a
    · rw [List.getElem_append_left (by rw [leL_length]; exact hi), leL_get]
    · rw [List.getElem_append_right (by rw [leL_length]; omega), leL_get, leL_length, Nat.div_div_eq_div_mul, ← Nat.pow_add, show a + (i - a) = i by omega]
theorem adrB_tail (lo : Nat) : (str (leL 8 lo).reverse).extract 4 (str (leL 8 lo).reverse).size = str (leL 4 lo).reverse := by
  apply ByteArray.ext
  apply Array.ext'
  rw [Lib.extract_data, str_size, List.length_reverse, leL_length, str_toList, str_toList, show (8 : Nat) = 4 + 4 from rfl, leL_add, List.reverse_append]
  rw [List.drop_append_of_le_length (by simp [leL_length]), List.drop_eq_nil_of_le (by simp [leL_length]), List.nil_append, List.take_of_length_le (by simp [leL_length])]
theorem ret_str6 {a b : ByteArray} (h : a = b) : Ending.returned (.string a) = .returned (.string b) := by rw [h]
set_option maxHeartbeats 1000000 in
set_option maxRecDepth 20000 in
theorem qbytes_any (v6 : Bool) (hi lo : Nat) (w : World) (h1 : hi < 18446744073709551616) (h2 : lo < 18446744073709551616) :
    Calls Tryd.prog 23 #[.agg #[.bool v6, .int .u64 hi, .int .u64 lo]] w fun e w' => e = .returned (.string (str (adrB v6 hi lo))) ∧ Below w.heap.size w w' := by
  have H1 := Lib.hid (fun W => qeight_any hi W h1)
  have H2 := Lib.hid (fun W => qeight_any lo W h2)
  have HX := Lib.hid (ab_new w v6 hi lo)
  have HB := Lib.hid (below_alloc6 w (.cells #[.bool v6, .int .u64 hi, .int .u64 lo] 25))
  have hsz : (str (leL 8 lo).reverse).size = 8 := by rw [str_size, List.length_reverse, leL_length]
  have hle : 4 ≤ (str (leL 8 lo).reverse).size := by omega
  have hle2 : (4 : Int) ≤ ((str (leL 8 lo).reverse).size : Int) := by omega
  have hT := Lib.hid (adrB_tail lo)
  have hcat : (9223372036854775807 < (str (leL 8 hi).reverse).size + (str (leL 8 lo).reverse).size) = False := by
    rw [str_size, str_size]; simp [leL_length]
  have HC : Hid (str (leL 8 hi).reverse ++ str (leL 8 lo).reverse = str (adrB true hi lo)) := str_append _ _
  have HD : Hid (str (leL 4 lo).reverse = str (adrB false hi lo)) := rfl
  rw [hsz] at hT
  generalize str (leL 8 lo).reverse = B at *
  generalize str (leL 8 hi).reverse = A at *
  go_enter Tryd.func23, Tryd.ntmps23
  go_wp2_with fail
  refine (H2.out _).mono ?_
  rintro e w2 ⟨rfl, hb⟩
  have HX2 := Lib.hid (HX.out.kept hb HX.out.lt)
  have HB2 := Lib.hid (HB.out.trans (hb.mono HB.out.size))
  clear hb HX HB
  have x0 := HX2.out.c0
  have x1 := HX2.out.c1
  cases v6 with
  | true =>
    go_wp2_with fail
    refine (H1.out _).mono ?_
    rintro e w3 ⟨rfl, hb⟩
    have HB3 := Lib.hid (HB2.out.trans (hb.mono HB2.out.size))
    clear hb hsz hle hle2 hT
    go_wp2_with fail
    go_ret
    exact ⟨ret_str6 HC.out, HB3.out⟩
  | false =>
    go_wp2_with fail
    go_ret
    exact ⟨ret_str6 (by rw [← HD.out, ← hT.out]), HB2.out⟩
/-- What FromBytes answers. -/
def fbRes (l : By) : Value :=
  if l.length = 4 then .tuple #[.agg #[.bool false, .int .u64 0, .int .u64 (num l : Nat)], .int .i64 0]
  else if l.length = 16 then .tuple #[.agg #[.bool true, .int .u64 (num (l.take 8) : Nat), .int .u64 (num (l.drop 8) : Nat)], .int .i64 0]
  else .tuple #[.agg #[.bool false, .int .u64 0, .int .u64 0], .int .i64 2]
theorem extract_toList6 (s : ByteArray) (a b : Nat) : (s.extract a b).data.toList = (s.data.toList.drop a).take (b - a) := Lib.extract_data s a b
set_option maxHeartbeats 1000000 in
set_option maxRecDepth 20000 in
theorem qfrom_any (s : ByteArray) (w : World) (hs : s.size ≤ 1000) :
    Calls Tryd.prog 29 #[.string s] w fun e w' => e = .returned (fbRes s.data.toList) ∧ Below w.heap.size w w' := by
  have HLN := Lib.hid (toList_length6 s)
  have HX := Lib.hid (ab_new w false 0 0)
  have HB := Lib.hid (below_alloc6 w (.cells #[.bool false, .int .u64 0, .int .u64 0] 25))
  by_cases c4 : s.size = 4
  · have HN := Lib.hid (fun W => qnumber_any s W (by omega))
    have HR : Hid (fbRes s.data.toList = .tuple #[.agg #[.bool false, .int .u64 0, .int .u64 (num s.data.toList : Nat)], .int .i64 0]) := Lib.hid (by unfold fbRes; rw [if_pos (by rw [HLN.out, c4])])
    have d4 : ((s.size : Int) == 4) = true := by rw [c4]; rfl
    generalize num s.data.toList = n at *
    go_enter Tryd.func29, Tryd.ntmps29
    go_wp2_with fail
    refine (HN.out _).mono ?_
    rintro e w2 ⟨rfl, rfl⟩
    go_wp2_with fail
    exact bodyPost_ret (res_addr2 rfl _ _ rfl (ab_new w false 0 n)) rfl ⟨by rw [HR.out]; rfl, below_alloc6 w _⟩
  · have d4 : ((s.size : Int) == 4) = false := by rw [beq_eq_false_iff_ne]; omega
    have n4 : ¬ (s.size : Int) = 4 := by omega
    by_cases c16 : s.size = 16
    · have e1 : (s.extract 0 8).data.toList = s.data.toList.take 8 := by rw [extract_toList6]; rfl
      have e2 : (s.extract 8 s.size).data.toList = s.data.toList.drop 8 := by rw [extract_toList6, List.take_of_length_le (by rw [List.length_drop, HLN.out]; exact Nat.le_refl _)]
      have HN1 := Lib.hid (fun W => qnumber_any (s.extract 0 8) W (by rw [← toList_length6, e1, List.length_take]; omega))
      have HN2 := Lib.hid (fun W => qnumber_any (s.extract 8 s.size) W (by rw [← toList_length6, e2, List.length_drop, HLN.out]; omega))
      rw [e1] at HN1
      rw [e2] at HN2
      have HR : Hid (fbRes s.data.toList = .tuple #[.agg #[.bool true, .int .u64 (num (s.data.toList.take 8) : Nat), .int .u64 (num (s.data.toList.drop 8) : Nat)], .int .i64 0]) := Lib.hid (by unfold fbRes; rw [if_neg (by rw [HLN.out]; exact c4), if_pos (by rw [HLN.out, c16])])
      have d16 : ((s.size : Int) == 16) = true := by rw [c16]; rfl
      have l8 : 8 ≤ s.size := by omega
      have l8i : (8 : Int) ≤ (s.size : Int) := by omega
      generalize num (s.data.toList.take 8) = a at *
      generalize num (s.data.toList.drop 8) = b at *
      clear e1 e2
      have C16 := Lib.hid c16
      clear c16 c4
      go_enter Tryd.func29, Tryd.ntmps29
      go_wp2_with fail
      go_region_held3 (fun _ => True) (trivial) (first
        | (go_at_call_of 60 (Value.string (s.extract 0 8)); refine (HN1.out _).mono ?_; rintro e w5 ⟨rfl, rfl⟩)
        | (go_at_call_of 60 (Value.string (s.extract 8 s.size)); refine (HN2.out _).mono ?_; rintro e w6 ⟨rfl, rfl⟩))
      go_wp2_with fail
      exact bodyPost_ret (res_addr2 rfl _ _ rfl (show AB _ _ true a b from ab_new w true a b)) rfl ⟨by rw [HR.out]; rfl, (below_alloc6 w _).drew⟩
    · have HR : Hid (fbRes s.data.toList = .tuple #[.agg #[.bool false, .int .u64 0, .int .u64 0], .int .i64 2]) := Lib.hid (by unfold fbRes; rw [if_neg (by rw [HLN.out]; exact c4), if_neg (by rw [HLN.out]; exact c16)])
      have d16 : ((s.size : Int) == 16) = false := by rw [beq_eq_false_iff_ne]; omega
      have n16 : ¬ (s.size : Int) = 16 := by omega
      go_enter Tryd.func29, Tryd.ntmps29
      go_wp2_with fail
      exact bodyPost_ret (res_addr2 rfl _ _ rfl HX.out) rfl ⟨by rw [HR.out]; rfl, HB.out⟩
end Go.Proofs.YtcblgbonijloiaaDoor

/- The digits of numbers and groups: plain mathematics; contracts of the program's digit, value, decimal. -/
namespace Go.Proofs.YtcblgbonijloiaaDoor
open Go.ChangeShapes Go.WideShapes Go.ChangeAt Go.RowKit
set_option linter.unusedVariables false

/-- A digit's value; 16 for any other byte. -/
def dgN (x : Nat) : Nat := if 48 ≤ x ∧ x ≤ 57 then x - 48 else if 97 ≤ x ∧ x ≤ 102 then x - 87 else if 65 ≤ x ∧ x ≤ 70 then x - 55 else 16
theorem dgN_le (x : Nat) : dgN x ≤ 16 := by unfold dgN; split <;> (try split) <;> (try split) <;> omega
theorem dgN_hex (c : UInt8) : hexV c = if dgN c.toNat < 16 then some (dgN c.toNat) else none := by
  unfold hexV dgN
  by_cases a : 48 ≤ c.toNat ∧ c.toNat ≤ 57
  · rw [if_pos a, if_pos a, if_pos (by omega)]
  · rw [if_neg a, if_neg a]
    by_cases b : 97 ≤ c.toNat ∧ c.toNat ≤ 102
    · rw [if_pos b, if_pos b, if_pos (by omega)]
    · rw [if_neg b, if_neg b]
      by_cases d : 65 ≤ c.toNat ∧ c.toNat ≤ 70
      · rw [if_pos d, if_pos d, if_pos (by omega)]
      · rw [if_neg d, if_neg d, if_neg (by omega)]
set_option maxHeartbeats 1000000 in
set_option maxRecDepth 20000 in
theorem qdigit_any (x : Nat) (w : World) (hx : x < 256) :
    Calls Tryd.prog 84 #[.int .u8 x] w fun e w' => e = .returned (.int .i64 (dgN x : Nat)) ∧ w' = w := by
  obtain ⟨R, hR⟩ : ∃ R, R = dgN x := ⟨_, rfl⟩
  rw [← hR]
  unfold dgN at hR
  have hv : (0 ≤ x ∧ x ≤ 47) ∨ (48 ≤ x ∧ x ≤ 57) ∨ (58 ≤ x ∧ x ≤ 64) ∨ (65 ≤ x ∧ x ≤ 70) ∨ (71 ≤ x ∧ x ≤ 96) ∨ (97 ≤ x ∧ x ≤ 102) ∨ (103 ≤ x ∧ x ≤ 255) := by omega
  rcases hv with ⟨a, b⟩ | ⟨a, b⟩ | ⟨a, b⟩ | ⟨a, b⟩ | ⟨a, b⟩ | ⟨a, b⟩ | ⟨a, b⟩
  · have d65 : decide ((65 : Int) ≤ (x : Int)) = false := by rw [decide_eq_false_iff_not]; omega
    have d70 : decide ((x : Int) ≤ (70 : Int)) = true := by rw [decide_eq_true_eq]; omega
    have d97 : decide ((97 : Int) ≤ (x : Int)) = false := by rw [decide_eq_false_iff_not]; omega
    have d102 : decide ((x : Int) ≤ (102 : Int)) = true := by rw [decide_eq_true_eq]; omega
    have d48 : decide ((48 : Int) ≤ (x : Int)) = false := by rw [decide_eq_false_iff_not]; omega
    have d57 : decide ((x : Int) ≤ (57 : Int)) = true := by rw [decide_eq_true_eq]; omega
    rw [if_neg (by omega), if_neg (by omega), if_neg (by omega)] at hR
    subst hR
    clear a b hx
    go_enter Tryd.func84, Tryd.ntmps84
    go_wp2_with fail
    go_ret
    exact ⟨rfl, rfl⟩
  · have d65 : decide ((65 : Int) ≤ (x : Int)) = false := by rw [decide_eq_false_iff_not]; omega
    have d70 : decide ((x : Int) ≤ (70 : Int)) = true := by rw [decide_eq_true_eq]; omega
    have d97 : decide ((97 : Int) ≤ (x : Int)) = false := by rw [decide_eq_false_iff_not]; omega
    have d102 : decide ((x : Int) ≤ (102 : Int)) = true := by rw [decide_eq_true_eq]; omega
    have d48 : decide ((48 : Int) ≤ (x : Int)) = true := by rw [decide_eq_true_eq]; omega
    have d57 : decide ((x : Int) ≤ (57 : Int)) = true := by rw [decide_eq_true_eq]; omega
    rw [if_pos (by omega)] at hR
    have HA := Lib.hid a
    have HR := Lib.hid hR
    have x48 : (48 : Int) ≤ (x : Int) := by omega
    have x57 : (x : Int) ≤ 57 := by omega
    clear a b hR hx
    go_enter Tryd.func84, Tryd.ntmps84
    go_wp2_with fail
    go_ret
    exact ⟨by have hr := HR.out; have ha := HA.out; show Ending.returned (.int .i64 _) = Ending.returned (.int .i64 _); congr 2; omega, rfl⟩
  · have d65 : decide ((65 : Int) ≤ (x : Int)) = false := by rw [decide_eq_false_iff_not]; omega
    have d70 : decide ((x : Int) ≤ (70 : Int)) = true := by rw [decide_eq_true_eq]; omega
    have d97 : decide ((97 : Int) ≤ (x : Int)) = false := by rw [decide_eq_false_iff_not]; omega
    have d102 : decide ((x : Int) ≤ (102 : Int)) = true := by rw [decide_eq_true_eq]; omega
    have d48 : decide ((48 : Int) ≤ (x : Int)) = true := by rw [decide_eq_true_eq]; omega
    have d57 : decide ((x : Int) ≤ (57 : Int)) = false := by rw [decide_eq_false_iff_not]; omega
    rw [if_neg (by omega), if_neg (by omega), if_neg (by omega)] at hR
    subst hR
    clear a b hx
    go_enter Tryd.func84, Tryd.ntmps84
    go_wp2_with fail
    go_ret
    exact ⟨rfl, rfl⟩
  · have d65 : decide ((65 : Int) ≤ (x : Int)) = true := by rw [decide_eq_true_eq]; omega
    have d70 : decide ((x : Int) ≤ (70 : Int)) = true := by rw [decide_eq_true_eq]; omega
    have d97 : decide ((97 : Int) ≤ (x : Int)) = false := by rw [decide_eq_false_iff_not]; omega
    have d102 : decide ((x : Int) ≤ (102 : Int)) = true := by rw [decide_eq_true_eq]; omega
    have d48 : decide ((48 : Int) ≤ (x : Int)) = true := by rw [decide_eq_true_eq]; omega
    have d57 : decide ((x : Int) ≤ (57 : Int)) = false := by rw [decide_eq_false_iff_not]; omega
    rw [if_neg (by omega), if_neg (by omega), if_pos (by omega)] at hR
    obtain ⟨y, rfl⟩ : ∃ y, x = y + 65 := ⟨x - 65, by omega⟩
    obtain rfl : R = y + 10 := by omega
    go_enter Tryd.func84, Tryd.ntmps84
    go_wp2_with fail
    go_ret
    exact ⟨by first | rfl | (show Ending.returned (.int .i64 _) = Ending.returned (.int .i64 _); congr 2; omega), rfl⟩
  · have d65 : decide ((65 : Int) ≤ (x : Int)) = true := by rw [decide_eq_true_eq]; omega
    have d70 : decide ((x : Int) ≤ (70 : Int)) = false := by rw [decide_eq_false_iff_not]; omega
    have d97 : decide ((97 : Int) ≤ (x : Int)) = false := by rw [decide_eq_false_iff_not]; omega
    have d102 : decide ((x : Int) ≤ (102 : Int)) = true := by rw [decide_eq_true_eq]; omega
    have d48 : decide ((48 : Int) ≤ (x : Int)) = true := by rw [decide_eq_true_eq]; omega
    have d57 : decide ((x : Int) ≤ (57 : Int)) = false := by rw [decide_eq_false_iff_not]; omega
    rw [if_neg (by omega), if_neg (by omega), if_neg (by omega)] at hR
    subst hR
    clear a b hx
    go_enter Tryd.func84, Tryd.ntmps84
    go_wp2_with fail
    go_ret
    exact ⟨rfl, rfl⟩
  · have d65 : decide ((65 : Int) ≤ (x : Int)) = true := by rw [decide_eq_true_eq]; omega
    have d70 : decide ((x : Int) ≤ (70 : Int)) = false := by rw [decide_eq_false_iff_not]; omega
    have d97 : decide ((97 : Int) ≤ (x : Int)) = true := by rw [decide_eq_true_eq]; omega
    have d102 : decide ((x : Int) ≤ (102 : Int)) = true := by rw [decide_eq_true_eq]; omega
    have d48 : decide ((48 : Int) ≤ (x : Int)) = true := by rw [decide_eq_true_eq]; omega
    have d57 : decide ((x : Int) ≤ (57 : Int)) = false := by rw [decide_eq_false_iff_not]; omega
    rw [if_neg (by omega), if_pos (by omega)] at hR
    obtain ⟨y, rfl⟩ : ∃ y, x = y + 97 := ⟨x - 97, by omega⟩
    obtain rfl : R = y + 10 := by omega
    go_enter Tryd.func84, Tryd.ntmps84
    go_wp2_with fail
    go_ret
    exact ⟨by first | rfl | (show Ending.returned (.int .i64 _) = Ending.returned (.int .i64 _); congr 2; omega), rfl⟩
  · have d65 : decide ((65 : Int) ≤ (x : Int)) = true := by rw [decide_eq_true_eq]; omega
    have d70 : decide ((x : Int) ≤ (70 : Int)) = false := by rw [decide_eq_false_iff_not]; omega
    have d97 : decide ((97 : Int) ≤ (x : Int)) = true := by rw [decide_eq_true_eq]; omega
    have d102 : decide ((x : Int) ≤ (102 : Int)) = false := by rw [decide_eq_false_iff_not]; omega
    have d48 : decide ((48 : Int) ≤ (x : Int)) = true := by rw [decide_eq_true_eq]; omega
    have d57 : decide ((x : Int) ≤ (57 : Int)) = false := by rw [decide_eq_false_iff_not]; omega
    rw [if_neg (by omega), if_neg (by omega), if_neg (by omega)] at hR
    subst hR
    clear a b hx
    go_enter Tryd.func84, Tryd.ntmps84
    go_wp2_with fail
    go_ret
    exact ⟨rfl, rfl⟩
end Go.Proofs.YtcblgbonijloiaaDoor
