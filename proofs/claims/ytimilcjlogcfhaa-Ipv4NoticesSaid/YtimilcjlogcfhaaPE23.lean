/- Contracts of the functions, part 23: AdqCont, AdqBnd. -/
import Derived.Test.YtimilcjlogcfhaaPE22
/- Contracts of the program's layer 6: Contains, ValidPrefix. -/
namespace Go.Proofs.Ytimilcjlogcfhaa
open Go.ChangeShapes Go.WideShapes Go.ChangeAt Go.RowKit
set_option linter.unusedVariables false

/-- Is an address in a prefix? By the tests of the program. -/
def cntB (v1 : Bool) (h1 l1 : Nat) (k : Int) (v2 : Bool) (h2 l2 : Nat) : Bool :=
  decide (0 ≤ k ∧ k ≤ (width v2 : Nat)) && (v2 == v1 && (((mkH v2 k.toNat h2 : Nat) : Int) == (h1 : Int) && ((mkL v2 k.toNat l2 : Nat) : Int) == (l1 : Int)))
theorem below3 (w : World) (a b c : Obj) : Below w.heap.size w (((w.alloc a).alloc b).alloc c) := (below2 w a b).trans ((below_alloc6 _ c).mono (by simp; omega))
/-- Is a struct a prefix? -/
def vldP (v6 : Bool) (hi lo : Nat) (k : Int) : Bool := vldA v6 hi lo && cntB v6 hi lo k v6 hi lo
end Go.Proofs.Ytimilcjlogcfhaa

/- Contracts of the program's layer 6: Bounds. -/
namespace Go.Proofs.Ytimilcjlogcfhaa
open Go.ChangeShapes Go.WideShapes Go.ChangeAt Go.RowKit
set_option linter.unusedVariables false

theorem AB.al {w : World} {g : Nat} {v6 : Bool} {hi lo : Nat} (h : AB w g v6 hi lo) (o : Obj) : AB (w.alloc o) g v6 hi lo := h.kept (below_alloc6 w o) h.lt
/-- The six stores of a range. -/
def rset (w : World) (g : Nat) (v1 : Bool) (h1 l1 : Nat) (v2 : Bool) (h2 l2 : Nat) : World := (((((w.setCell ⟨g, 0, none⟩ (.bool v1)).setCell ⟨g, 1, none⟩ (.int .u64 h1)).setCell ⟨g, 2, none⟩ (.int .u64 l1)).setCell ⟨g, 3, none⟩ (.bool v2)).setCell ⟨g, 4, none⟩ (.int .u64 h2)).setCell ⟨g, 5, none⟩ (.int .u64 l2)
theorem rset_below {B : Nat} {a w : World} {g : Nat} (h : Below B a w) (hg : B ≤ g) (v1 : Bool) (h1 l1 : Nat) (v2 : Bool) (h2 l2 : Nat) : Below B a (rset w g v1 h1 l1 v2 h2 l2) := (((((h.setCell hg _).setCell hg _).setCell hg _).setCell hg _).setCell hg _).setCell hg _
theorem vldP_out {v6 : Bool} {hi lo k : Nat} (h : vldP v6 hi lo k = true) : vldA v6 hi lo = true ∧ k ≤ width v6 ∧ mkH v6 k hi = hi ∧ mkL v6 k lo = lo := by
  unfold vldP cntB at h
  rw [Bool.and_eq_true, Bool.and_eq_true, Bool.and_eq_true, Bool.and_eq_true, decide_eq_true_eq, beq_iff_eq, beq_iff_eq, beq_iff_eq, Int.toNat_natCast] at h
  obtain ⟨a, ⟨_, b⟩, _, c, d⟩ := h
  exact ⟨a, by omega, by omega, by omega⟩
end Go.Proofs.Ytimilcjlogcfhaa
