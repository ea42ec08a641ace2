/- Contracts of the program's layer 6: Contains, ValidPrefix. -/
import Derived.Test.YtcblgbonijloiaaDoorAdqPfx
namespace Go.Proofs.YtcblgbonijloiaaDoor
open Go.ChangeShapes Go.WideShapes Go.ChangeAt Go.RowKit
set_option linter.unusedVariables false

/-- '==' of two prefixes. -/
theorem pfx_guard : Tryd.prog.eqGuardType Tryd.prog.depth 30 = false := by kernel_rfl
theorem pfx_eql (b b' : Bool) (h h' l l' k k' : Int) (W : World) :
    (binOp .eql 30 (.agg #[.bool b, .int .u64 h, .int .u64 l, .int .i64 k]) (.agg #[.bool b', .int .u64 h', .int .u64 l', .int .i64 k'])).run Tryd.prog W = .ok (.bool (b == b' && (h == h' && (l == l' && k == k')))) W := by
  have u3 := Tryd.underlying23
  have a3 := Tryd.isAgg23
  have z3 := Tryd.sizeOf23
  have u2 := Tryd.underlying3
  have a2 := Tryd.isAgg3
  have z2 := Tryd.sizeOf3
  have u9 := Tryd.underlying4
  have a9 := Tryd.isAgg4
  have z9 := Tryd.sizeOf4
  have u8 := Tryd.underlying25
  have a8 := Tryd.isAgg25
  have z8 := Tryd.sizeOf25
  have hS : Tryd.prog.underlying 30 = some (.struct (Tryd.prog.fieldsOf 30)) := by kernel_rfl
  have hp : Tryd.prog.stoodInHeld 30 = false := by kernel_rfl
  have hS2 : Tryd.prog.underlying 25 = some (.struct (Tryd.prog.fieldsOf 25)) := by kernel_rfl
  have hp2 : Tryd.prog.stoodInHeld 25 = false := by kernel_rfl
  rw [run_eql_struct, show (10000 : Nat) = 9999 + 1 from rfl, run_equalIn_agg W 9999 30 _ _ hS hp]
  simp only [Program.fieldsOf, Tryd.underlying30]
  go_simp
  cases h1 : (b == b') <;> cases h2 : (h == h') <;> cases h3 : (l == l') <;> cases h4 : (k == k') <;> simp_all
/-- Is an address in a prefix? By the tests of the program. -/
def cntB (v1 : Bool) (h1 l1 : Nat) (k : Int) (v2 : Bool) (h2 l2 : Nat) : Bool :=
  decide (0 ≤ k ∧ k ≤ (width v2 : Nat)) && (v2 == v1 && (((mkH v2 k.toNat h2 : Nat) : Int) == (h1 : Int) && ((mkL v2 k.toNat l2 : Nat) : Int) == (l1 : Int)))
theorem below3 (w : World) (a b c : Obj) : Below w.heap.size w (((w.alloc a).alloc b).alloc c) := (below2 w a b).trans ((below_alloc6 _ c).mono (by simp; omega))
set_option maxHeartbeats 1000000 in
set_option maxRecDepth 20000 in
theorem qcont_any (v1 : Bool) (h1 l1 : Nat) (k : Int) (v2 : Bool) (h2 l2 : Nat) (w : World) (b1 : h2 < 18446744073709551616) (b2 : l2 < 18446744073709551616) :
    Calls Tryd.prog 37 #[.agg #[.bool v1, .int .u64 h1, .int .u64 l1, .int .i64 k], .agg #[.bool v2, .int .u64 h2, .int .u64 l2]] w fun e w' => e = .returned (.bool (cntB v1 h1 l1 k v2 h2 l2)) ∧ Below w.heap.size w w' := by
  have hm := pfx_guard
  have HX := Lib.hid (pb_new w v1 h1 l1 k |>.kept (below_alloc6 _ (.cells #[.bool v2, .int .u64 h2, .int .u64 l2] 25)) (alloc_lt6 w _))
  have HY := Lib.hid (ab2 w (.cells #[.bool v1, .int .u64 h1, .int .u64 l1, .int .i64 k] 30) v2 h2 l2)
  have HB := Lib.hid (below2 w (.cells #[.bool v1, .int .u64 h1, .int .u64 l1, .int .i64 k] 30) (.cells #[.bool v2, .int .u64 h2, .int .u64 l2] 25))
  by_cases c : 0 ≤ k ∧ k ≤ (width v2 : Nat)
  · obtain ⟨n, rfl⟩ := Int.eq_ofNat_of_zero_le c.1
    have HM := Lib.hid (fun W => qmake_ok v2 h2 l2 n W b1 b2 (by have := c.2; omega))
    have hr : cntB v1 h1 l1 n v2 h2 l2 = (v2 == v1 && (((mkH v2 n h2 : Nat) : Int) == (h1 : Int) && ((mkL v2 n l2 : Nat) : Int) == (l1 : Int))) := by
      unfold cntB
      rw [decide_eq_true c, Bool.true_and]
      rfl
    rw [hr]
    have qe := fun W => pfx_eql v2 v1 (mkH v2 n h2 : Nat) h1 (mkL v2 n l2 : Nat) l1 n n W
    rw [beq_self_eq_true, Bool.and_true] at qe
    generalize mkH v2 n h2 = hi' at *
    generalize mkL v2 n l2 = lo' at *
    generalize (v2 == v1 && ((hi' : Int) == (h1 : Int) && (lo' : Int) == (l1 : Int))) = z at *
    clear c hr
    go_enter Tryd.func37, Tryd.ntmps37
    go_wp2_with fail
    refine (HM.out _).mono ?_
    rintro e w3 ⟨rfl, hb⟩
    have HX3 := Lib.hid (HX.out.kept hb HX.out.lt)
    have HB3 := Lib.hid (HB.out.trans (hb.mono HB.out.size))
    clear hb
    have x0 := HX3.out.c0
    have x1 := HX3.out.c1
    have x2 := HX3.out.c2
    have x3 := HX3.out.c3
    have hgl := HX3.out.lt
    cases z with
    | true =>
      go_wp2_with fail
      go_ret
      exact ⟨rfl, HB3.out.trans ((below_alloc6 _ _).mono HB3.out.size)⟩
    | false =>
      go_wp2_with fail
      go_ret
      exact ⟨rfl, HB3.out.trans ((below_alloc6 _ _).mono HB3.out.size)⟩
  · have hr : cntB v1 h1 l1 k v2 h2 l2 = false := by
      unfold cntB
      rw [decide_eq_false c, Bool.false_and]
    rw [hr]
    have HM := Lib.hid (fun W => qmake_bad v2 h2 l2 k W (by omega))
    clear c hr
    go_enter Tryd.func37, Tryd.ntmps37
    go_wp2_with fail
    refine (HM.out _).mono ?_
    rintro e w3 ⟨rfl, hb⟩
    have HB3 := Lib.hid (HB.out.trans (hb.mono HB.out.size))
    clear hb
    go_wp2_with fail
    go_ret
    exact ⟨rfl, HB3.out.trans ((below_alloc6 _ _).mono HB3.out.size)⟩
/-- Is a struct a prefix? -/
def vldP (v6 : Bool) (hi lo : Nat) (k : Int) : Bool := vldA v6 hi lo && cntB v6 hi lo k v6 hi lo
set_option maxHeartbeats 1000000 in
set_option maxRecDepth 20000 in
theorem qvalidp_any (v6 : Bool) (hi lo : Nat) (k : Int) (w : World) (b1 : hi < 18446744073709551616) (b2 : lo < 18446744073709551616) :
    Calls Tryd.prog 17 #[.agg #[.bool v6, .int .u64 hi, .int .u64 lo, .int .i64 k]] w fun e w' => e = .returned (.bool (vldP v6 hi lo k)) ∧ Below w.heap.size w w' := by
  have HX := Lib.hid (pb_new w v6 hi lo k)
  have HB := Lib.hid (below_alloc6 w (.cells #[.bool v6, .int .u64 hi, .int .u64 lo, .int .i64 k] 30))
  have HV := Lib.hid (fun W => qvalid_any v6 hi lo W)
  have HC := Lib.hid (fun W => qcont_any v6 hi lo k v6 hi lo W b1 b2)
  unfold vldP
  generalize vldA v6 hi lo = a at *
  generalize cntB v6 hi lo k v6 hi lo = b at *
  go_enter Tryd.func17, Tryd.ntmps17
  go_wp2_with fail
  refine (HV.out _).mono ?_
  rintro e w3 ⟨rfl, hb⟩
  have HX3 := Lib.hid (HX.out.kept hb HX.out.lt)
  have HB3 := Lib.hid (HB.out.trans (hb.mono HB.out.size))
  clear hb HX HB
  have x0 := HX3.out.c0
  have x1 := HX3.out.c1
  have x2 := HX3.out.c2
  have x3 := HX3.out.c3
  cases a with
  | true =>
    go_wp2_with fail
    refine (HC.out _).mono ?_
    rintro e w4 ⟨rfl, hb⟩
    have HB4 := Lib.hid (HB3.out.trans (hb.mono HB3.out.size))
    clear hb
    go_wp2_with fail
    go_ret
    exact ⟨rfl, HB4.out⟩
  | false =>
    go_wp2_with fail
    go_ret
    exact ⟨rfl, HB3.out⟩
end Go.Proofs.YtcblgbonijloiaaDoor
