/- A region that draws its order, whose calls make memory and whose guards may be false: one walk of the lexical order, over any class of worlds (Deep/Quiet's law), the class written as the worlds 'p u' of a function p. -/
import Derived.Deep.QuietTactic
import Derived.Test.YtcblgbonijloiaaDoorAdrObj
namespace Go.Proofs.YtcblgbonijloiaaDoor
open Go.ChangeShapes Go.WideShapes Go.ChangeAt Go.RowKit
set_option linter.unusedVariables false

theorem wp_region_pick {P : Program} {id : Nat} {Q : Exit → Act → World → Prop} {a : Act} {w : World} {l : List Oper} (S : World → Prop) (hm : P.follows .mixedOrders = true) (hB : Region.lexB .any l.toArray = true) (hS : S w) (hD : S { w with drawn := w.drawn + 1 })
    (h : ∀ p : World → World, (∀ u, S (p u)) → (∀ W, S W → ∃ u, W = p u) → wpQuiet P l.toArray (fun w' => ∃ u, w' = p u) (fun a' => ∀ w', (∃ u, w' = p u) → Q .normal a' w') l a) : (Code.region id l.toArray true).wp P Q a w := by
  classical
  have h1 : ∀ u, S ((fun u => if S u then u else w) u) := fun u => by
    show S (if S u then u else w)
    split
    · assumption
    · exact hS
  have h2 : ∀ W, S W → ∃ u, W = (fun u => if S u then u else w) u := fun W hW => ⟨W, by show W = if S W then W else w; rw [if_pos hW]⟩
  exact wp_region_quiet (C := fun w' => ∃ u, w' = (fun u => if S u then u else w) u) hm hB (h2 _ hD) (by simpa using h _ h1 h2)
/-- A callee's contract, met in a world of the class. -/
theorem Calls.pick_of {P : Program} {f : FuncId} {args : Array Value} {S : World → Prop} {p : World → World} {u : World} {v : Value} (hq : ∀ W, S W → ∃ u, W = p u) (hs : ∀ W', Below (p u).heap.size (p u) W' → S W')
    (h : Calls P f args (p u) fun e w' => e = .returned v ∧ Below (p u).heap.size (p u) w') : Calls P f args (p u) fun e w'' => e = .returned v ∧ ∃ u', w'' = p u' :=
  h.mono fun _ _ ⟨he, hb⟩ => ⟨he, hq _ (hs _ hb)⟩
end Go.Proofs.YtcblgbonijloiaaDoor
