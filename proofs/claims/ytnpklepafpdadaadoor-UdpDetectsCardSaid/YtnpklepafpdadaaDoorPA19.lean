/- Contracts of the functions, part 19: SetMem, Pick. -/
import Derived.Deep.QuietTactic
import Derived.Test.YtnpklepafpdadaaDoorPA4
import Derived.Test.YtnpklepafpdadaaDoorPA12
import Derived.Test.YtnpklepafpdadaaDoorPA13
import Derived.Test.YtnpklepafpdadaaDoorPA18
/- Lists of ranges in memory; results that are sets. -/
namespace Go.Proofs.YtnpklepafpdadaaDoor
open Go.ChangeShapes Go.WideShapes Go.ChangeAt Go.RowKit
set_option linter.unusedVariables false

/-- A range as cells. -/
def rgC (r : Rg) : List Value := [.bool r.lo.v, .int .u64 r.lo.h, .int .u64 r.lo.l, .bool r.hi.v, .int .u64 r.hi.h, .int .u64 r.hi.l]
def ER : Enc Rg := ⟨6, by decide, rgC, fun _ => rfl, fun x v hv => by
  simp only [rgC, List.mem_cons, List.not_mem_nil, or_false] at hv
  rcases hv with rfl | rfl | rfl | rfl | rfl | rfl <;> rfl⟩
theorem rg_at {w w' : World} {g o k : Nat} {l : List Rg} {v1 v2 : Bool} {h1 l1 h2 l2 : Nat} (h : RowL ER w (some ⟨g, o, none⟩) l) (hs : l[k]? = some ⟨⟨v1, h1, l1⟩, ⟨v2, h2, l2⟩⟩) (hb : Below w.heap.size w w') :
    w'.cell? ⟨g, o + k * 6, none⟩ = some (.bool v1) ∧ w'.cell? ⟨g, o + k * 6 + 1, none⟩ = some (.int .u64 h1) ∧ w'.cell? ⟨g, o + k * 6 + 2, none⟩ = some (.int .u64 l1) ∧ w'.cell? ⟨g, o + k * 6 + 3, none⟩ = some (.bool v2) ∧ w'.cell? ⟨g, o + k * 6 + 4, none⟩ = some (.int .u64 h2) ∧ w'.cell? ⟨g, o + k * 6 + 5, none⟩ = some (.int .u64 l2) := by
  have H := h.at_ hs hb
  exact ⟨H 0 _ rfl, H 1 _ rfl, H 2 _ rfl, H 3 _ rfl, H 4 _ rfl, H 5 _ rfl⟩
/-- Where a slice begins. -/
theorem RowL.shape {α : Type} {E : Enc α} {w : World} {A : Option Addr} {l : List α} (h : RowL E w A l) (hp : 0 < l.length) : ∃ g o, A = some ⟨g, o, none⟩ ∧ g < w.heap.size := by
  obtain ⟨g, o, e, hg, _⟩ := h hp
  exact ⟨g, o, e, hg⟩
theorem okL_fits {L : List Rg} (h : GoodL L) : ∀ r ∈ L, r.fits := fun r hr => (h.1 r hr).2
theorem below_drewN7 {w w' : World} {B : Nat} (h : Below B w w') (q : Nat) : Below B w (w'.drewN q) := ⟨h.os, h.tape, h.output, h.size, h.block⟩
theorem below_drew7 {w w' : World} {B : Nat} (h : Below B w w') : Below B w w'.drew := ⟨h.os, h.tape, h.output, h.size, h.block⟩

end Go.Proofs.YtnpklepafpdadaaDoor

/- A region that draws its order, whose calls make memory and whose guards may be false: one walk of the lexical order, over any class of worlds (Deep/Quiet's law), the class written as the worlds 'p u' of a function p. -/
namespace Go.Proofs.YtnpklepafpdadaaDoor
open Go.ChangeShapes Go.WideShapes Go.ChangeAt Go.RowKit
set_option linter.unusedVariables false

theorem wp_region_pick {P : Program} {id : Nat} {Q : Exit → Act → World → Prop} {a : Act} {w : World} {l : List Oper} (S : World → Prop) (hm : P.follows .mixedOrders = true) (hB : Region.lexB .any l.toArray = true) (hS : S w) (hD : S { w with drawn := w.drawn + 1 })
    (h : ∀ p : World → World, (∀ u, S (p u)) → (∀ W, S W → ∃ u, W = p u) → wpQuiet P l.toArray (fun w' => ∃ u, w' = p u) (fun a' => ∀ w', (∃ u, w' = p u) → Q .normal a' w') l a) : (Code.region id l.toArray true).wp P Q a w := by
  classical
  have h1 : ∀ u, S ((fun u => if S u then u else w) u) := fun u => by
    show S (if S u then u else w)
    split
    · assumption
    · exact hS
  have h2 : ∀ W, S W → ∃ u, W = (fun u => if S u then u else w) u := fun W hW => ⟨W, by show W = if S W then W else w; rw [if_pos hW]⟩
  exact wp_region_quiet (C := fun w' => ∃ u, w' = (fun u => if S u then u else w) u) hm hB (h2 _ hD) (by simpa using h _ h1 h2)
/-- A callee's contract, met in a world of the class. -/
theorem Calls.pick_of {P : Program} {f : FuncId} {args : Array Value} {S : World → Prop} {p : World → World} {u : World} {v : Value} (hq : ∀ W, S W → ∃ u, W = p u) (hs : ∀ W', Below (p u).heap.size (p u) W' → S W')
    (h : Calls P f args (p u) fun e w' => e = .returned v ∧ Below (p u).heap.size (p u) w') : Calls P f args (p u) fun e w'' => e = .returned v ∧ ∃ u', w'' = p u' :=
  h.mono fun _ _ ⟨he, hb⟩ => ⟨he, hq _ (hs _ hb)⟩
end Go.Proofs.YtnpklepafpdadaaDoor
