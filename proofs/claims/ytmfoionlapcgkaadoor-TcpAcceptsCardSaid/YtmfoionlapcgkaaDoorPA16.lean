/- Contracts of the functions, part 16: AdqCont, AdqBnd, AdqNext. -/
import Derived.Test.YtmfoionlapcgkaaDoorPA15
/- Contracts of the program's layer 6: Contains, ValidPrefix. -/
namespace Go.Proofs.YtmfoionlapcgkaaDoor
open Go.ChangeShapes Go.WideShapes Go.ChangeAt Go.RowKit
set_option linter.unusedVariables false

/-- Is an address in a prefix? By the tests of the program. -/
def cntB (v1 : Bool) (h1 l1 : Nat) (k : Int) (v2 : Bool) (h2 l2 : Nat) : Bool :=
  decide (0 ≤ k ∧ k ≤ (width v2 : Nat)) && (v2 == v1 && (((mkH v2 k.toNat h2 : Nat) : Int) == (h1 : Int) && ((mkL v2 k.toNat l2 : Nat) : Int) == (l1 : Int)))
theorem below3 (w : World) (a b c : Obj) : Below w.heap.size w (((w.alloc a).alloc b).alloc c) := (below2 w a b).trans ((below_alloc6 _ c).mono (by simp; omega))
/-- Is a struct a prefix? -/
def vldP (v6 : Bool) (hi lo : Nat) (k : Int) : Bool := vldA v6 hi lo && cntB v6 hi lo k v6 hi lo
end Go.Proofs.YtmfoionlapcgkaaDoor

/- Contracts of the program's layer 6: Bounds. -/
namespace Go.Proofs.YtmfoionlapcgkaaDoor
open Go.ChangeShapes Go.WideShapes Go.ChangeAt Go.RowKit
set_option linter.unusedVariables false

theorem AB.al {w : World} {g : Nat} {v6 : Bool} {hi lo : Nat} (h : AB w g v6 hi lo) (o : Obj) : AB (w.alloc o) g v6 hi lo := h.kept (below_alloc6 w o) h.lt
/-- The six stores of a range. -/
def rset (w : World) (g : Nat) (v1 : Bool) (h1 l1 : Nat) (v2 : Bool) (h2 l2 : Nat) : World := (((((w.setCell ⟨g, 0, none⟩ (.bool v1)).setCell ⟨g, 1, none⟩ (.int .u64 h1)).setCell ⟨g, 2, none⟩ (.int .u64 l1)).setCell ⟨g, 3, none⟩ (.bool v2)).setCell ⟨g, 4, none⟩ (.int .u64 h2)).setCell ⟨g, 5, none⟩ (.int .u64 l2)
theorem rset_below {B : Nat} {a w : World} {g : Nat} (h : Below B a w) (hg : B ≤ g) (v1 : Bool) (h1 l1 : Nat) (v2 : Bool) (h2 l2 : Nat) : Below B a (rset w g v1 h1 l1 v2 h2 l2) := (((((h.setCell hg _).setCell hg _).setCell hg _).setCell hg _).setCell hg _).setCell hg _
theorem vldP_out {v6 : Bool} {hi lo k : Nat} (h : vldP v6 hi lo k = true) : vldA v6 hi lo = true ∧ k ≤ width v6 ∧ mkH v6 k hi = hi ∧ mkL v6 k lo = lo := by
  unfold vldP cntB at h
  rw [Bool.and_eq_true, Bool.and_eq_true, Bool.and_eq_true, Bool.and_eq_true, decide_eq_true_eq, beq_iff_eq, beq_iff_eq, beq_iff_eq, Int.toNat_natCast] at h
  obtain ⟨a, ⟨_, b⟩, _, c, d⟩ := h
  exact ⟨a, by omega, by omega, by omega⟩
end Go.Proofs.YtmfoionlapcgkaaDoor

/- Contracts of the program's layer 6: Next, Previous. -/
namespace Go.Proofs.YtmfoionlapcgkaaDoor
open Go.ChangeShapes Go.WideShapes Go.ChangeAt Go.RowKit
set_option linter.unusedVariables false

theorem vldP_whole (v6 : Bool) : vldP v6 0 0 ((0 : Nat) : Int) = true := by cases v6 <;> decide +kernel
theorem last_h (v6 : Bool) : lowO (frH v6 0) 0 = if v6 then 18446744073709551615 else 0 := by cases v6 <;> decide +kernel
theorem last_l (v6 : Bool) : lowO (frL v6 0) 0 = if v6 then 18446744073709551615 else 4294967295 := by cases v6 <;> decide +kernel
/-- Is an address the last one of its family? -/
def isLast (v6 : Bool) (hi lo : Nat) : Bool := v6 == v6 && ((hi : Int) == ((lowO (frH v6 0) 0 : Nat) : Int) && (lo : Int) == ((lowO (frL v6 0) 0 : Nat) : Int))
theorem last_true {v6 : Bool} {hi lo : Nat} (h : isLast v6 hi lo = true) : nxtA v6 hi lo = none := by
  unfold isLast at h
  rw [last_h, last_l] at h
  simp only [beq_self_eq_true, Bool.true_and, Bool.and_eq_true, beq_iff_eq] at h
  obtain ⟨a, b⟩ := h
  unfold nxtA
  cases v6 with
  | true =>
    rw [if_pos rfl] at a b
    rw [if_neg (by omega), if_pos rfl, if_neg (by omega)]
  | false =>
    rw [if_neg (by decide)] at a b
    rw [if_pos (by omega), if_pos ⟨rfl, by omega⟩]
theorem last_false {v6 : Bool} {hi lo : Nat} (h : isLast v6 hi lo = false) (hv : vldA v6 hi lo = true) (h1 : hi < 18446744073709551616) (h2 : lo < 18446744073709551616) :
    (lo + 1 < 18446744073709551616 ∧ nxtA v6 hi lo = some (v6, hi, lo + 1)) ∨ (lo + 1 = 18446744073709551616 ∧ hi + 1 < 18446744073709551616 ∧ nxtA v6 hi lo = some (v6, hi + 1, 0)) := by
  unfold isLast at h
  rw [last_h, last_l] at h
  simp only [beq_self_eq_true, Bool.true_and, Bool.and_eq_false_iff, beq_eq_false_iff_ne, ne_eq] at h
  unfold vldA at hv
  unfold nxtA
  cases v6 with
  | true =>
    rw [if_pos rfl, if_pos rfl] at h
    by_cases a : lo + 1 < 18446744073709551616
    · left
      rw [if_pos a, if_neg (by simp)]
      exact ⟨a, rfl⟩
    · right
      rw [if_neg a, if_pos rfl, if_pos (by omega)]
      exact ⟨by omega, by omega, rfl⟩
  | false =>
    simp only [Bool.false_eq_true, if_false] at h
    simp only [Bool.false_or, Bool.and_eq_true, beq_iff_eq, decide_eq_true_eq] at hv
    left
    rw [if_pos (by omega), if_neg (by intro e; omega)]
    exact ⟨by omega, rfl⟩
/-- Is an address the first one of its family? -/
def isFirst (v6 : Bool) (hi lo : Nat) : Bool := v6 == v6 && ((hi : Int) == 0 && (lo : Int) == 0)
theorem wrap_u64_down : IntKind.u64.wrap (-1) = 18446744073709551615 := by decide
end Go.Proofs.YtmfoionlapcgkaaDoor
