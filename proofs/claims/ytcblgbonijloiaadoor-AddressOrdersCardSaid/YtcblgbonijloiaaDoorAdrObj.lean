/- Addresses in memory; contracts of the reference of layer 6: Valid, Width, Compare, Next, Previous. -/
import Derived.Test.YtcblgbonijloiaaDoorAdrMath
import Derived.Test.YtcblgbonijloiaaDoorRef
import Derived.Test.YtcblgbonijloiaaDoorReader
import Derived.Laws.StructEq
import Derived.Deep.QuietTactic
import Derived.BigQuiet
import Derived.OwnWalk
namespace Go.Proofs.YtcblgbonijloiaaDoor
open Go.ChangeShapes Go.WideShapes Go.ChangeAt Go.RowKit
set_option linter.unusedVariables false

theorem below_alloc6 (w : World) (o : Obj) : Below w.heap.size w (w.alloc o) := (Below.refl _ w).alloc (Nat.le_refl _) _
theorem alloc_lt6 (w : World) (o : Obj) : w.heap.size < (w.alloc o).heap.size := (Array.getElem?_eq_some_iff.1 (heap_alloc_new w o)).1
theorem below_drewN6 {w w' : World} {B : Nat} (h : Below B w w') (q : Nat) : Below B w (w'.drewN q) := ⟨h.os, h.tape, h.output, h.size, h.block⟩
/-- An address in a box. -/
def AB (w : World) (g : Nat) (v6 : Bool) (hi lo : Nat) : Prop := Cells w g 25 #[.bool v6, .int .u64 hi, .int .u64 lo]
theorem ab_new (w : World) (v6 : Bool) (hi lo : Nat) : AB (w.alloc (.cells #[.bool v6, .int .u64 hi, .int .u64 lo] 25)) w.heap.size v6 hi lo := heap_alloc_new w _
theorem AB.kept {w w' : World} {g B : Nat} {v6 : Bool} {hi lo : Nat} (h : AB w g v6 hi lo) (hb : Below B w w') (hg : g < B) : AB w' g v6 hi lo := (hb.block _ hg).trans h
theorem AB.lt {w : World} {g : Nat} {v6 : Bool} {hi lo : Nat} (h : AB w g v6 hi lo) : g < w.heap.size := Cells.lt h
theorem AB.c0 {w : World} {g : Nat} {v6 : Bool} {hi lo : Nat} (h : AB w g v6 hi lo) : w.cell? ⟨g, 0, none⟩ = some (.bool v6) := (Cells.cell h 0).trans rfl
theorem AB.c1 {w : World} {g : Nat} {v6 : Bool} {hi lo : Nat} (h : AB w g v6 hi lo) : w.cell? ⟨g, 1, none⟩ = some (.int .u64 hi) := (Cells.cell h 1).trans rfl
theorem AB.c2 {w : World} {g : Nat} {v6 : Bool} {hi lo : Nat} (h : AB w g v6 hi lo) : w.cell? ⟨g, 2, none⟩ = some (.int .u64 lo) := (Cells.cell h 2).trans rfl
theorem AB.f {w : World} {g : Nat} {v6 : Bool} {hi lo : Nat} (h : AB w g v6 hi lo) (i : Nat) : w.frozen? ⟨g, i, none⟩ = false := Cells.frozen h i
theorem addr_size : (Tryd.prog.info? 25).map (·.size) = some 3 := by kernel_rfl
theorem res_addr2 {fn : Func} {p u : Tmp} (h : fn.results = #[.cell p 25, .tmp u]) (tmps : Array Value) (w : World) {g : Nat} {v6 : Bool} {hi lo : Nat} (hp : tmps.getD p undef = .pointer (some ⟨g, 0, none⟩)) (ht : AB w g v6 hi lo) :
    (results fn tmps).run Tryd.prog w = .ok (.tuple #[.agg #[.bool v6, .int .u64 hi, .int .u64 lo], tmps.getD u undef]) w := by
  have hp' : tmps[p]?.getD undef = .pointer (some ⟨g, 0, none⟩) := by simpa using hp
  simp [results, h, hp', asAddr, run_loadVar_row w g 25 25 _ (0, 0) _ ht Tryd.underlying25 rfl addr_size]
theorem res_addr1 {fn : Func} {p : Tmp} (h : fn.results = #[.cell p 25]) (tmps : Array Value) (w : World) {g : Nat} {v6 : Bool} {hi lo : Nat} (hp : tmps.getD p undef = .pointer (some ⟨g, 0, none⟩)) (ht : AB w g v6 hi lo) :
    (results fn tmps).run Tryd.prog w = .ok (.agg #[.bool v6, .int .u64 hi, .int .u64 lo]) w := by
  have hp' : tmps[p]?.getD undef = .pointer (some ⟨g, 0, none⟩) := by simpa using hp
  simp [results, h, hp', asAddr, run_loadVar_row w g 25 25 _ (0, 0) _ ht Tryd.underlying25 rfl addr_size]
/-- '==' of two addresses. -/
theorem addr_guard : Tryd.prog.eqGuardType Tryd.prog.depth 25 = false := by kernel_rfl
theorem addr_eql (b b' : Bool) (h h' l l' : Int) (W : World) :
    (binOp .eql 25 (.agg #[.bool b, .int .u64 h, .int .u64 l]) (.agg #[.bool b', .int .u64 h', .int .u64 l'])).run Tryd.prog W = .ok (.bool (b == b' && (h == h' && l == l'))) W := by
  have u3 := Tryd.underlying23
  have a3 := Tryd.isAgg23
  have z3 := Tryd.sizeOf23
  have u9 := Tryd.underlying4
  have a9 := Tryd.isAgg4
  have z9 := Tryd.sizeOf4
  have hS : Tryd.prog.underlying 25 = some (.struct (Tryd.prog.fieldsOf 25)) := by kernel_rfl
  have hp : Tryd.prog.stoodInHeld 25 = false := by kernel_rfl
  rw [run_eql_struct, show (10000 : Nat) = 9999 + 1 from rfl, run_equalIn_agg W 9999 25 _ _ hS hp]
  simp only [Program.fieldsOf, Tryd.underlying25]
  go_simp
  cases h1 : (b == b') <;> cases h2 : (h == h') <;> cases h3 : (l == l') <;> simp_all
theorem addr_neq (b b' : Bool) (h h' l l' : Int) (W : World) :
    (binOp .neq 25 (.agg #[.bool b, .int .u64 h, .int .u64 l]) (.agg #[.bool b', .int .u64 h', .int .u64 l'])).run Tryd.prog W = .ok (.bool (!(b == b' && (h == h' && l == l')))) W := by
  have u3 := Tryd.underlying23
  have a3 := Tryd.isAgg23
  have z3 := Tryd.sizeOf23
  have u9 := Tryd.underlying4
  have a9 := Tryd.isAgg4
  have z9 := Tryd.sizeOf4
  have hS : Tryd.prog.underlying 25 = some (.struct (Tryd.prog.fieldsOf 25)) := by kernel_rfl
  have hp : Tryd.prog.stoodInHeld 25 = false := by kernel_rfl
  rw [run_neq_struct, show (10000 : Nat) = 9999 + 1 from rfl, run_equalIn_agg W 9999 25 _ _ hS hp]
  simp only [Program.fieldsOf, Tryd.underlying25]
  go_simp
  cases h1 : (b == b') <;> cases h2 : (h == h') <;> cases h3 : (l == l') <;> simp_all
/-- Is a struct an address? -/
def vldA (v6 : Bool) (hi lo : Nat) : Bool := v6 || (hi == 0 && decide (lo < 4294967296))
set_option maxRecDepth 20000 in
theorem rvalid6_any (v6 : Bool) (hi lo : Nat) (w : World) :
    Calls Tryd.prog 16 #[.agg #[.bool v6, .int .u64 hi, .int .u64 lo]] w fun e w' => e = .returned (.bool (vldA v6 hi lo)) ∧ Below w.heap.size w w' := by
  have HB := Lib.hid (below_alloc6 w (.cells #[.bool v6, .int .u64 hi, .int .u64 lo] 25))
  obtain ⟨R, hR⟩ : ∃ R, R = vldA v6 hi lo := ⟨_, rfl⟩
  rw [← hR]
  unfold vldA at hR
  cases v6 with
  | true =>
    obtain rfl : R = true := by rw [hR]; rfl
    clear hR
    go_enter Tryd.func16, Tryd.ntmps16
    go_wp2_with fail
    go_ret
    exact ⟨rfl, HB.out⟩
  | false =>
    by_cases h0 : hi = 0
    · have d0 : ((hi : Int) == 0) = true := by simp; omega
      by_cases h1 : lo < 4294967296
      · obtain rfl : R = true := by rw [hR, h0]; simpa using h1
        have d1 : decide ((lo : Int) < 4294967296) = true := by simp; omega
        clear hR h0
        go_enter Tryd.func16, Tryd.ntmps16
        go_wp2_with fail
        go_ret
        exact ⟨rfl, HB.out⟩
      · obtain rfl : R = false := by rw [hR, h0]; simpa using h1
        have d1 : decide ((lo : Int) < 4294967296) = false := by simp; omega
        clear hR h0
        go_enter Tryd.func16, Tryd.ntmps16
        go_wp2_with fail
        go_ret
        exact ⟨rfl, HB.out⟩
    · obtain rfl : R = false := by rw [hR]; simp [h0]
      have d0 : ((hi : Int) == 0) = false := by simp; omega
      clear hR
      go_enter Tryd.func16, Tryd.ntmps16
      go_wp2_with fail
      go_ret
      exact ⟨rfl, HB.out⟩
theorem rwidth_any (v6 : Bool) (hi lo : Nat) (w : World) :
    Calls Tryd.prog 48 #[.agg #[.bool v6, .int .u64 hi, .int .u64 lo]] w fun e w' => e = .returned (.int .i64 (width v6 : Nat)) ∧ Below w.heap.size w w' := by
  have HB := Lib.hid (below_alloc6 w (.cells #[.bool v6, .int .u64 hi, .int .u64 lo] 25))
  cases v6 with
  | true =>
    go_enter Tryd.func48, Tryd.ntmps48
    go_wp2_with fail
    go_ret
    exact ⟨rfl, HB.out⟩
  | false =>
    go_enter Tryd.func48, Tryd.ntmps48
    go_wp2_with fail
    go_ret
    exact ⟨rfl, HB.out⟩
/-- The order of addresses, by the tests of the reference: p, q: the upper halves ascend, are equal; r, s: the lower ones. -/
def cmpB (b1 b2 p q r s : Bool) : Int :=
  if (b1 == b2 && (q && s)) = true then 0
  else if (!b1 && b2 || (b1 == b2 && (p || (q && r)))) = true then -1 else 1
def cmpA (b1 : Bool) (h1 l1 : Nat) (b2 : Bool) (h2 l2 : Nat) : Int := cmpB b1 b2 (decide ((h1 : Int) < (h2 : Int))) ((h1 : Int) == (h2 : Int)) (decide ((l1 : Int) < (l2 : Int))) ((l1 : Int) == (l2 : Int))
set_option maxHeartbeats 4000000 in
set_option maxRecDepth 20000 in
theorem rcmp6_any (b1 : Bool) (h1 l1 : Nat) (b2 : Bool) (h2 l2 : Nat) (w : World) :
    Calls Tryd.prog 34 #[.agg #[.bool b1, .int .u64 h1, .int .u64 l1], .agg #[.bool b2, .int .u64 h2, .int .u64 l2]] w fun e w' => e = .returned (.int .i64 (cmpA b1 h1 l1 b2 h2 l2)) ∧ Below w.heap.size w w' := by
  have hm := addr_guard
  have HB := Lib.hid ((below_alloc6 w (.cells #[.bool b1, .int .u64 h1, .int .u64 l1] 25)).trans ((below_alloc6 (w.alloc (.cells #[.bool b1, .int .u64 h1, .int .u64 l1] 25)) (.cells #[.bool b2, .int .u64 h2, .int .u64 l2] 25)).mono (by simp)))
  have qe := fun W => addr_eql b1 b2 h1 h2 l1 l2 W
  unfold cmpA
  obtain ⟨p, dp⟩ : ∃ p, decide ((h1 : Int) < (h2 : Int)) = p := ⟨_, rfl⟩
  obtain ⟨q, dq⟩ : ∃ p, ((h1 : Int) == (h2 : Int)) = p := ⟨_, rfl⟩
  obtain ⟨r, dr⟩ : ∃ p, decide ((l1 : Int) < (l2 : Int)) = p := ⟨_, rfl⟩
  obtain ⟨s, ds⟩ : ∃ p, ((l1 : Int) == (l2 : Int)) = p := ⟨_, rfl⟩
  rw [dq, ds] at qe
  rw [dp, dq, dr, ds]
  have dp2 : decide (h1 < h2) = p := by rw [← dp]; simp
  have dr2 : decide (l1 < l2) = r := by rw [← dr]; simp
  cases b1 <;> cases b2
  case false.true =>
    clear dp dq dr ds dp2 dr2
    go_enter Tryd.func34, Tryd.ntmps34
    go_wp2_with fail
    go_ret
    exact ⟨rfl, HB.out⟩
  case true.false =>
    clear dp dq dr ds dp2 dr2
    go_enter Tryd.func34, Tryd.ntmps34
    go_wp2_with fail
    go_ret
    exact ⟨rfl, HB.out⟩
  all_goals
    cases p <;> cases q
    case true.true => exfalso; simp at dp dq; omega
    all_goals
      cases r <;> cases s
      case true.true => exfalso; simp at dr ds; omega
      all_goals
        go_enter Tryd.func34, Tryd.ntmps34
        go_wp2_with fail
        go_ret
        exact ⟨rfl, HB.out⟩
end Go.Proofs.YtcblgbonijloiaaDoor
