/- Contracts of the functions, part 17: SetMem, SetHas, SetRef0. -/
import Derived.Test.YtmfoionlapcgkaaDoorPA3
import Derived.Test.YtmfoionlapcgkaaDoorPA6
import Derived.Test.YtmfoionlapcgkaaDoorPA13
import Derived.Test.YtmfoionlapcgkaaDoorPA16
/- Lists of ranges in memory; results that are sets. -/
namespace Go.Proofs.YtmfoionlapcgkaaDoor
open Go.ChangeShapes Go.WideShapes Go.ChangeAt Go.RowKit
set_option linter.unusedVariables false

/-- A range as cells. -/
def rgC (r : Rg) : List Value := [.bool r.lo.v, .int .u64 r.lo.h, .int .u64 r.lo.l, .bool r.hi.v, .int .u64 r.hi.h, .int .u64 r.hi.l]
def ER : Enc Rg := ⟨6, by decide, rgC, fun _ => rfl, fun x v hv => by
  simp only [rgC, List.mem_cons, List.not_mem_nil, or_false] at hv
  rcases hv with rfl | rfl | rfl | rfl | rfl | rfl <;> rfl⟩
theorem rg_at {w w' : World} {g o k : Nat} {l : List Rg} {v1 v2 : Bool} {h1 l1 h2 l2 : Nat} (h : RowL ER w (some ⟨g, o, none⟩) l) (hs : l[k]? = some ⟨⟨v1, h1, l1⟩, ⟨v2, h2, l2⟩⟩) (hb : Below w.heap.size w w') :
    w'.cell? ⟨g, o + k * 6, none⟩ = some (.bool v1) ∧ w'.cell? ⟨g, o + k * 6 + 1, none⟩ = some (.int .u64 h1) ∧ w'.cell? ⟨g, o + k * 6 + 2, none⟩ = some (.int .u64 l1) ∧ w'.cell? ⟨g, o + k * 6 + 3, none⟩ = some (.bool v2) ∧ w'.cell? ⟨g, o + k * 6 + 4, none⟩ = some (.int .u64 h2) ∧ w'.cell? ⟨g, o + k * 6 + 5, none⟩ = some (.int .u64 l2) := by
  have H := h.at_ hs hb
  exact ⟨H 0 _ rfl, H 1 _ rfl, H 2 _ rfl, H 3 _ rfl, H 4 _ rfl, H 5 _ rfl⟩
/-- Where a slice begins. -/
theorem RowL.shape {α : Type} {E : Enc α} {w : World} {A : Option Addr} {l : List α} (h : RowL E w A l) (hp : 0 < l.length) : ∃ g o, A = some ⟨g, o, none⟩ ∧ g < w.heap.size := by
  obtain ⟨g, o, e, hg, _⟩ := h hp
  exact ⟨g, o, e, hg⟩
theorem okL_fits {L : List Rg} (h : GoodL L) : ∀ r ∈ L, r.fits := fun r hr => (h.1 r hr).2
theorem below_drewN7 {w w' : World} {B : Nat} (h : Below B w w') (q : Nat) : Below B w (w'.drewN q) := ⟨h.os, h.tape, h.output, h.size, h.block⟩
theorem below_drew7 {w w' : World} {B : Nat} (h : Below B w w') : Below B w w'.drew := ⟨h.os, h.tape, h.output, h.size, h.block⟩

end Go.Proofs.YtmfoionlapcgkaaDoor

/- Contracts of the program of layer 7: hasAddresses, isApart. -/
namespace Go.Proofs.YtmfoionlapcgkaaDoor
open Go.ChangeShapes Go.WideShapes Go.ChangeAt Go.RowKit
set_option linter.unusedVariables false

theorem someR_tests (a b : Ad) (f1 : a.fits) (f2 : b.fits) : someR ⟨a, b⟩ = (vA a && (vA b && (a.v == b.v && !decide (kA b < kA a)))) := by
  unfold someR
  rw [show decide (kA a ≤ kA b) = !decide (kA b < kA a) by rw [Bool.eq_iff_iff]; simp]
end Go.Proofs.YtmfoionlapcgkaaDoor

/- Contracts of the reference of layer 7: Fine, Before. -/
namespace Go.Proofs.YtmfoionlapcgkaaDoor
open Go.ChangeShapes Go.WideShapes Go.ChangeAt Go.RowKit
set_option linter.unusedVariables false

end Go.Proofs.YtmfoionlapcgkaaDoor
