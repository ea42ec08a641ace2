/- Contracts of the functions, part 11: Row, EthREnc. -/
import Derived.Laws.Tables
import Derived.StillTailTactics
import Derived.Test.YtjjldolafnfpoaaPE7
/- A struct stored over another as ONE row (wpList_store_row): what becomes of memory. For a struct of many cells, where cell by cell runs away. -/
namespace Go.Proofs.Ytjjldolafnfpoaa
open Go.ChangeShapes Go.WideShapes Go.ChangeAt Go.RowKit
set_option linter.unusedVariables false

theorem below_row {B : Nat} {a w : World} (h : Below B a w) (g : Nat) (hg : B ≤ g) (cs : Array Value) : Below B a (w.setRow g cs) :=
  ⟨h.os, h.tape, h.output, by rw [setRow_size]; exact h.size, fun k hk => by rw [setRow_other _ _ _ _ (by omega)]; exact h.block k hk⟩
theorem Cells.row {w : World} {g : Nat} {t : TypeId} {cs : Array Value} (h : Cells w g t cs) (cs' : Array Value) : Cells (w.setRow g cs') g t cs' := setRow_heap w g cs cs' t (0, 0) h
theorem Cells.rowFar {w : World} {g b : Nat} {t : TypeId} {cs : Array Value} (h : Cells w g t cs) (hne : g ≠ b) (cs' : Array Value) : Cells (w.setRow b cs') g t cs := (setRow_other w b g cs' hne).trans h
theorem RowL.blocks {α : Type} {E : Enc α} {w w' : World} {A : Option Addr} {l : List α} (h : RowL E w A l) (hb : ∀ a, A = some a → w'.heap[a.block]? = w.heap[a.block]?) : RowL E w' A l := fun hp => by
  obtain ⟨g, o, e, h1, h2⟩ := h hp
  subst e
  have hbl := hb ⟨g, o, none⟩ rfl
  refine ⟨g, o, rfl, ?_, fun i x hx j v hj => by rw [World.cell?_of_block (w := w) (w' := w') (a := ⟨g, o + i * E.k + j, none⟩) hbl]; exact h2 i x hx j v hj⟩
  exact Decidable.byContradiction fun hn => by
    have e1 : w'.heap[g]? = none := Array.getElem?_eq_none (by omega)
    rw [e1] at hbl
    have e2 : w.heap[g]? = some w.heap[g] := Array.getElem?_eq_getElem h1
    rw [e2] at hbl
    cases hbl
theorem own_row {w : World} {base g : Nat} {e : TypeId} {size : Nat} {v : Value} {n : Nat} {xs : List Value} (h : w.ownsRow base e size v n xs) (hg : g < base) (cs : Array Value) : (w.setRow g cs).ownsRow base e size v n xs :=
  own_blocks h (fun b hb _ => setRow_other w g b cs (by omega))
end Go.Proofs.Ytjjldolafnfpoaa

/- Contract of the reference of layer 10: Encode. -/
namespace Go.Proofs.Ytjjldolafnfpoaa
open Go.ChangeShapes Go.WideShapes Go.ChangeAt Go.RowKit
set_option linter.unusedVariables false

theorem add_ok10 {P Q : ByteArray} {a b : Nat} (h1 : P.size ≤ a) (h2 : Q.size ≤ b) (h : a + b ≤ 1000000000) : (9223372036854775807 < P.size + Q.size) = False := by
  simp only [eq_iff_iff, iff_false]; omega
theorem app_le10 {P Q : ByteArray} {a b : Nat} (h1 : P.size ≤ a) (h2 : Q.size ≤ b) : (P ++ Q).size ≤ a + b := by
  rw [ByteArray.size_append]; omega
theorem bad_of {x : EthR} (h : badE x) : encE x = ([], 4) := by unfold encE; rw [if_pos h]
theorem box_cell {w0 w : World} {g : Nat} {t : TypeId} {cs : Array Value} (h : Cells w0 g t cs) (hb : Below w0.heap.size w0 w) (i : Nat) (v : Value) (hv : cs[i]? = some v) : w.cell? ⟨g, i, none⟩ = some v :=
  ((Cells.cell (Cells.kept h hb (Cells.lt h)) i).trans hv)
end Go.Proofs.Ytjjldolafnfpoaa
