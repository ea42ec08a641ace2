/- Contracts of the functions, part 11: IntMem, IntRVal. -/
import Derived.Deep.QuietTactic
import Derived.Deep.AppendLies
import Derived.OwnWalk
import Derived.BigQuiet
import Derived.Test.YtnpklepafpdadaaDoorPA4
import Derived.Test.YtnpklepafpdadaaDoorPA10
/- Lists of spans in memory; contracts of the reference of layer 5: cut, Contains. -/
namespace Go.Proofs.YtnpklepafpdadaaDoor
open Go.ChangeShapes Go.WideShapes Go.ChangeAt Go.RowKit
set_option linter.unusedVariables false

/-- A slice that reads as the spans l. -/
def SpL (w : World) (A : Option Addr) (l : List Spn) : Prop :=
  0 < l.length → ∃ g o, A = some ⟨g, o, none⟩ ∧ g < w.heap.size ∧ ∀ i s, l[i]? = some s → w.cell? ⟨g, o + i * 2, none⟩ = some (.int .i64 s.lo) ∧ w.cell? ⟨g, o + i * 2 + 1, none⟩ = some (.int .i64 s.hi)
theorem SpL.kept {w w' : World} {A : Option Addr} {l : List Spn} (h : SpL w A l) (hb : Below w.heap.size w w') : SpL w' A l := fun hp => by
  obtain ⟨g, o, e, hg, hc⟩ := h hp
  have hB := hb.block g hg
  refine ⟨g, o, e, Nat.lt_of_lt_of_le hg hb.size, fun i s hs => ?_⟩
  rw [World.cell?_of_block (w := w) (w' := w') (a := ⟨g, o + i * 2, none⟩) hB, World.cell?_of_block (w := w) (w' := w') (a := ⟨g, o + i * 2 + 1, none⟩) hB]
  exact hc i s hs
theorem SpL.drewN {w : World} {A : Option Addr} {l : List Spn} (h : SpL w A l) (q : Nat) : SpL (w.drewN q) A l := h
/-- Spans as cells. -/
def spC (s : Spn) : List Value := [.int .i64 s.lo, .int .i64 s.hi]
def spCells (l : List Spn) : List Value := l.flatMap spC
theorem spCells_length (l : List Spn) : (spCells l).length = l.length * 2 := by
  unfold spCells
  induction l with
  | nil => rfl
  | cons t r ih => rw [List.flatMap_cons, List.length_append, ih]; simp [spC]; omega
theorem spCells_snoc (l : List Spn) (s : Spn) : spCells (l ++ [s]) = spCells l ++ spC s := by simp [spCells]
theorem spCells_get : ∀ (l : List Spn) (i : Nat) (s : Spn), l[i]? = some s → (spCells l)[i * 2]? = some (.int .i64 s.lo) ∧ (spCells l)[i * 2 + 1]? = some (.int .i64 s.hi)
  | [], i, s, h => by simp at h
  | x :: r, 0, s, h => by
    simp at h
    subst h
    exact ⟨rfl, rfl⟩
  | x :: r, i + 1, s, h => by
    have ih := spCells_get r i s (by simpa using h)
    have e : spCells (x :: r) = spC x ++ spCells r := rfl
    rw [e, show (i + 1) * 2 + 1 = (i * 2 + 1) + 2 by omega, show (i + 1) * 2 = i * 2 + 2 by omega]
    exact ih
theorem below_alloc5 (w : World) (o : Obj) : Below w.heap.size w (w.alloc o) := (Below.refl _ w).alloc (Nat.le_refl _) _
theorem alloc_lt5 (w : World) (o : Obj) : w.heap.size < (w.alloc o).heap.size := (Array.getElem?_eq_some_iff.1 (heap_alloc_new w o)).1

end Go.Proofs.YtnpklepafpdadaaDoor

/- Sets of spans told by a test; contract of the reference of layer 5: Valid. -/
namespace Go.Proofs.YtnpklepafpdadaaDoor
open Go.ChangeShapes Go.WideShapes Go.ChangeAt Go.RowKit
set_option linter.unusedVariables false

/-- Where the next span may begin. -/
def nxt : Int → List Spn → Int
  | c, [] => c
  | _, s :: r => nxt (s.hi + 2) r
theorem nxt_snoc (s : Spn) : ∀ (l : List Spn) (c : Int), nxt c (l ++ [s]) = s.hi + 2
  | [], c => rfl
  | x :: r, c => nxt_snoc s r (x.hi + 2)
theorem okL_snoc {M : Int} (s : Spn) : ∀ (l : List Spn) (c : Int), okL M c (l ++ [s]) ↔ okL M c l ∧ nxt c l ≤ s.lo ∧ s.lo ≤ s.hi ∧ s.hi ≤ M
  | [], c => by simp [okL, nxt]
  | x :: r, c => by
    have ih := okL_snoc (M := M) s r (x.hi + 2)
    simp only [List.cons_append, okL, nxt, ih]
    constructor
    · rintro ⟨h1, h2, h3, h4, h5⟩; exact ⟨⟨h1, h2, h3, h4⟩, h5⟩
    · rintro ⟨⟨h1, h2, h3, h4⟩, h5⟩; exact ⟨h1, h2, h3, h4, h5⟩
theorem okL_front {M : Int} : ∀ (a b : List Spn) (c : Int), okL M c (a ++ b) → okL M c a
  | [], _, _, _ => trivial
  | x :: r, b, c, ⟨h1, h2, h3, h4⟩ => ⟨h1, h2, h3, okL_front r b _ h4⟩
/-- Is a list of spans a set? -/
def okB (M : Int) : Int → List Spn → Bool
  | _, [] => true
  | c, s :: r => decide (c ≤ s.lo) && decide (s.lo ≤ s.hi) && decide (s.hi ≤ M) && okB M (s.hi + 2) r
theorem okB_iff {M : Int} : ∀ (l : List Spn) (c : Int), okB M c l = true ↔ okL M c l
  | [], c => by simp [okB, okL]
  | s :: r, c => by
    have ih := okB_iff (M := M) r (s.hi + 2)
    simp only [okB, okL, Bool.and_eq_true, decide_eq_true_eq, ih]
    constructor
    · rintro ⟨⟨⟨h1, h2⟩, h3⟩, h4⟩; exact ⟨h1, h2, h3, h4⟩
    · rintro ⟨h1, h2, h3, h4⟩; exact ⟨⟨⟨h1, h2⟩, h3⟩, h4⟩
/-- One span further: the list falls, or goes on. -/
theorem okB_fall {M : Int} {l : List Spn} {k : Nat} {s : Spn} (hs : l[k]? = some s) (h : ¬ (nxt 0 (l.take k) ≤ s.lo ∧ s.lo ≤ s.hi ∧ s.hi ≤ M)) : okB M 0 l = false := by
  cases hb : okB M 0 l with
  | false => rfl
  | true =>
    exfalso
    rw [okB_iff] at hb
    obtain ⟨hk, e⟩ := List.getElem?_eq_some_iff.1 hs
    have e2 : l.take (k + 1) = l.take k ++ [s] := by rw [List.take_succ_eq_append_getElem hk, e]
    rw [← List.take_append_drop (k + 1) l] at hb
    have h2 := okL_front _ _ _ hb
    rw [e2, okL_snoc] at h2
    exact h h2.2
theorem okL_go {M : Int} {l : List Spn} {k : Nat} {s : Spn} (hs : l[k]? = some s) (h0 : okL M 0 (l.take k)) (h : nxt 0 (l.take k) ≤ s.lo ∧ s.lo ≤ s.hi ∧ s.hi ≤ M) : okL M 0 (l.take (k + 1)) := by
  obtain ⟨hk, e⟩ := List.getElem?_eq_some_iff.1 hs
  rw [List.take_succ_eq_append_getElem hk, e, okL_snoc]
  exact ⟨h0, h⟩
theorem nxt_take {l : List Spn} {k : Nat} {s : Spn} (hs : l[k]? = some s) (c : Int) : nxt c (l.take (k + 1)) = s.hi + 2 := by
  obtain ⟨hk, e⟩ := List.getElem?_eq_some_iff.1 hs
  rw [List.take_succ_eq_append_getElem hk, e, nxt_snoc]
theorem okL_hi {M : Int} {l : List Spn} {k : Nat} {s : Spn} (hs : l[k]? = some s) (h0 : okL M 0 (l.take (k + 1))) : 0 ≤ s.hi ∧ s.hi ≤ M := by
  obtain ⟨hk, e⟩ := List.getElem?_eq_some_iff.1 hs
  rw [List.take_succ_eq_append_getElem hk, e, okL_snoc] at h0
  have hin : anyS (l.take k ++ [s]) s.hi = true := by
    rw [anyS_append, Bool.or_eq_true]
    right
    simp [anyS, inS]
    omega
  have := okL_ge ((okL_snoc s _ 0).2 h0) hin
  omega

theorem nxt_pos {M : Int} : ∀ {l : List Spn} {c : Int}, 0 ≤ c → okL M c l → 0 ≤ nxt c l
  | [], _, h, _ => h
  | x :: r, _, h, ⟨h1, h2, _, h4⟩ => nxt_pos (c := x.hi + 2) (by omega) h4
theorem below_drewN5 {w w' : World} {B : Nat} (h : Below B w w') (q : Nat) : Below B w (w'.drewN q) := ⟨h.os, h.tape, h.output, h.size, h.block⟩

end Go.Proofs.YtnpklepafpdadaaDoor
