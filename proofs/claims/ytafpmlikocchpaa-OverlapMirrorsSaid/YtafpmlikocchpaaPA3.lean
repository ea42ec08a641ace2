/- Contracts of the functions, part 3: Reader, Elems, InRow. -/
import Derived.Deep.QuietTactic
import Derived.Deep.AppendLies
import Derived.OwnWalk
import Derived.Laws.OwnMore
import Derived.Laws.AppendOwnNone
import Derived.Maps.AppendAt
import Derived.Deep.Slices
import Derived.Deep.Strs
import Derived.Lib.SmallJoins
import Derived.Test.YtafpmlikocchpaaPA2
/- Contracts of the program's reader: next, Int, Take, Rest, Left, Err, NewReader. -/
namespace Go.Proofs.Ytafpmlikocchpaa
open Go.ChangeShapes Go.WideShapes Go.ChangeAt Go.RowKit
set_option linter.unusedVariables false

/-- Block g is just these cells. -/
def Cells (w : World) (g : Nat) (t : TypeId) (cs : Array Value) : Prop := w.heap[g]? = some (.cells cs t (0, 0))
theorem Cells.lt {w : World} {g : Nat} {t : TypeId} {cs : Array Value} (h : Cells w g t cs) : g < w.heap.size := (Array.getElem?_eq_some_iff.1 h).1
theorem Cells.cell {w : World} {g : Nat} {t : TypeId} {cs : Array Value} (h : Cells w g t cs) (i : Nat) : w.cell? ⟨g, i, none⟩ = cs[i]? := by
  have h' : w.heap[g]? = some (.cells cs t (0, 0)) := h
  simp [World.cell?, h']
theorem Cells.frozen {w : World} {g : Nat} {t : TypeId} {cs : Array Value} (h : Cells w g t cs) (i : Nat) : w.frozen? ⟨g, i, none⟩ = false := by
  have h' : w.heap[g]? = some (.cells cs t (0, 0)) := h
  simp [World.frozen?, h']
theorem Cells.set {w : World} {g : Nat} {t : TypeId} {cs : Array Value} (h : Cells w g t cs) (i : Nat) (u : Value) : Cells (w.setCell ⟨g, i, none⟩ u) g t (cs.setIfInBounds i u) := by
  have h' : w.heap[g]? = some (.cells cs t (0, 0)) := h
  show (w.setCell ⟨g, i, none⟩ u).heap[g]? = _
  simp [World.setCell, Array.getElem?_modify, h']
theorem Cells.only {w w' : World} {g : Nat} {t : TypeId} {cs : Array Value} {row : Option Nat} (h : Cells w g t cs) (hg : w.grownBy w' row) (hne : some g ≠ row) : Cells w' g t cs :=
  (hg.block g h.lt hne).trans h
theorem only_set (w : World) (g i : Nat) (u : Value) : w.grownBy (w.setCell ⟨g, i, none⟩ u) (some g) :=
  ⟨rfl, rfl, rfl, by simp [World.setCell], fun k _ hne => Below.heap_setCell w ⟨g, i, none⟩ u k (by intro e; exact hne (by rw [e]))⟩
theorem only_trans {a b c : World} {row : Option Nat} (h : a.grownBy b row) (k : b.grownBy c row) : a.grownBy c row :=
  ⟨k.os.trans h.os, k.tape.trans h.tape, k.output.trans h.output, Nat.le_trans h.size k.size, fun i hi hne => (k.block i (Nat.lt_of_lt_of_le hi h.size) hne).trans (h.block i hi hne)⟩
theorem only_refl (w : World) (row : Option Nat) : w.grownBy w row := ⟨rfl, rfl, rfl, Nat.le_refl _, fun _ _ _ => rfl⟩
theorem only_below {w w' : World} (h : Below w.heap.size w w') (row : Option Nat) : w.grownBy w' row := ⟨h.os, h.tape, h.output, h.size, fun k hk _ => h.block k hk⟩

/-- The bytes that a reader has left lie outside its own block. -/
def Left (w : World) (p : Nat) (A : Option Addr) (l : List UInt8) (cap : Nat) : Prop :=
  l.length ≤ cap ∧ (0 < l.length → ∃ g o, A = some ⟨g, o, none⟩ ∧ g ≠ p ∧ g < w.heap.size ∧
    ∀ j (hj : j < l.length), w.cell? ⟨g, o + j, none⟩ = some (.int .u8 (l[j].toNat : Int)) ∧ w.frozen? ⟨g, o + j, none⟩ = false)

theorem Left.only {w w' : World} {p : Nat} {A : Option Addr} {l : List UInt8} {cap : Nat} (h : Left w p A l cap) (hg : w.grownBy w' (some p)) : Left w' p A l cap := by
  refine ⟨h.1, fun hp => ?_⟩
  obtain ⟨g, o, e, hne, hlt, hc⟩ := h.2 hp
  have hb : w'.heap[g]? = w.heap[g]? := hg.block g hlt (by intro e; injection e with e; exact hne e)
  refine ⟨g, o, e, hne, Nat.lt_of_lt_of_le hlt hg.size, fun j hj => ?_⟩
  rw [World.cell?_of_block (w := w) (w' := w') (a := ⟨g, o + j, none⟩) hb, World.frozen?_of_block (w := w) (w' := w') (a := ⟨g, o + j, none⟩) hb]
  exact hc j hj
theorem Left.bs {w : World} {p : Nat} {A : Option Addr} {l : List UInt8} {cap : Nat} (h : Left w p A l cap) : BS w 0 (.slice A l.length cap) l :=
  ⟨A, cap, rfl, h.1, fun hp => by
    obtain ⟨g, o, e, _, hlt, hc⟩ := h.2 hp
    exact ⟨g, o, e, Nat.zero_le _, hlt, hc⟩⟩

theorem add_flat (g o n : Nat) : (⟨g, o, none⟩ : Addr).add n = ⟨g, o + n, none⟩ := by
  unfold Addr.add
  split
  · subst_vars; rfl
  · rfl
theorem Left.drop {w : World} {p : Nat} {A : Option Addr} {l : List UInt8} {cap : Nat} (h : Left w p A l cap) (n : Nat) (hn : n ≤ l.length) : Left w p (A.map (fun x => x.add n)) (l.drop n) (cap - n) := by
  refine ⟨by rw [List.length_drop]; have := h.1; omega, fun hp => ?_⟩
  rw [List.length_drop] at hp
  obtain ⟨g, o, rfl, hne, hlt, hc⟩ := h.2 (by omega)
  refine ⟨g, o + n, by rw [Option.map_some, add_flat], hne, hlt, fun j hj => ?_⟩
  rw [List.length_drop] at hj
  have := hc (n + j) (by omega)
  rw [List.getElem_drop, Nat.add_assoc]
  exact this
theorem Left.take {w : World} {p : Nat} {A : Option Addr} {l : List UInt8} {cap : Nat} (h : Left w p A l cap) (n : Nat) (hn : n ≤ l.length) : BS w 0 (.slice A n n) (l.take n) := by
  have hlen : (l.take n).length = n := by rw [List.length_take]; omega
  refine ⟨A, n, by rw [hlen], by rw [hlen]; exact Nat.le_refl _, fun hp => ?_⟩
  rw [hlen] at hp
  obtain ⟨g, o, rfl, _, hlt, hc⟩ := h.2 (by omega)
  refine ⟨g, o, rfl, Nat.zero_le _, hlt, fun j hj => ?_⟩
  rw [hlen] at hj
  have := hc j (by omega)
  rw [List.getElem_take]
  exact this

/-- How a reader answers a call of Int. -/
def intOk (l : List UInt8) (n : Int) : Prop := 1 ≤ n ∧ n ≤ 7 ∧ n ≤ l.length

/-- A step that writes block p alone keeps what lies below a number up to p. -/
theorem below_only {B : Nat} {a w w' : World} {p : Nat} (h : Below B a w) (hg : w.grownBy w' (some p)) (hp : B ≤ p) (hB : B ≤ w.heap.size) : Below B a w' :=
  h.grown hg hB (fun k hk => by injection hk with hk; omega)

theorem cells_new (w : World) (t : TypeId) (cs : Array Value) : Cells (w.alloc (.cells cs t)) w.heap.size t cs := heap_alloc_new w _

end Go.Proofs.Ytafpmlikocchpaa

/- Slices of elements of any fixed number of cells: how they read, how they are appended to; for any element. -/
namespace Go.Proofs.Ytafpmlikocchpaa
open Go.ChangeShapes Go.WideShapes Go.ChangeAt Go.RowKit
set_option linter.unusedVariables false

/-- How an element lies: its cells. -/
structure Enc (α : Type) where
  k : Nat
  pos : 0 < k
  c : α → List Value
  len : ∀ x, (c x).length = k
  one : ∀ x, ∀ v ∈ c x, v.oneCell' = true
variable {α : Type}
def Enc.cells (E : Enc α) (l : List α) : List Value := l.flatMap E.c
theorem Enc.cells_nil (E : Enc α) : E.cells [] = [] := rfl
theorem Enc.cells_cons (E : Enc α) (x : α) (l : List α) : E.cells (x :: l) = E.c x ++ E.cells l := rfl
theorem Enc.cells_append (E : Enc α) (a b : List α) : E.cells (a ++ b) = E.cells a ++ E.cells b := by simp [Enc.cells]
theorem Enc.cells_one (E : Enc α) (x : α) : E.cells [x] = E.c x := by simp [Enc.cells]
theorem Enc.cells_snoc (E : Enc α) (l : List α) (x : α) : E.cells (l ++ [x]) = E.cells l ++ E.c x := by rw [E.cells_append, E.cells_one]
theorem Enc.cells_length (E : Enc α) (l : List α) : (E.cells l).length = l.length * E.k := by
  induction l with
  | nil => simp [Enc.cells]
  | cons x r ih => rw [E.cells_cons, List.length_append, ih, E.len, List.length_cons, Nat.add_mul, Nat.one_mul, Nat.add_comm]
theorem Enc.cells_get (E : Enc α) : ∀ (l : List α) (i : Nat) (x : α) (j : Nat), l[i]? = some x → j < E.k → (E.cells l)[i * E.k + j]? = (E.c x)[j]?
  | [], i, x, j, h, _ => by simp at h
  | y :: r, 0, x, j, h, hj => by
    simp only [List.getElem?_cons_zero, Option.some.injEq] at h
    subst h
    rw [E.cells_cons, Nat.zero_mul, Nat.zero_add, List.getElem?_append_left (by rw [E.len]; exact hj)]
  | y :: r, i + 1, x, j, h, hj => by
    rw [E.cells_cons, List.getElem?_append_right (by rw [E.len, Nat.add_mul]; omega), E.len, show (i + 1) * E.k + j - E.k = i * E.k + j by rw [Nat.add_mul]; omega]
    exact E.cells_get r i x j (by simpa using h) hj
theorem Enc.cells_one' (E : Enc α) (l : List α) : ∀ u ∈ E.cells l, u.oneCell' = true := by
  intro u hu
  unfold Enc.cells at hu
  obtain ⟨s, _, hs⟩ := List.mem_flatMap.1 hu
  exact E.one s u hs
theorem Enc.cells_take (E : Enc α) : ∀ (l : List α) (n : Nat), (E.cells l).take (n * E.k) = E.cells (l.take n)
  | [], n => by simp [Enc.cells]
  | x :: r, 0 => by simp [Enc.cells]
  | x :: r, n + 1 => by
    rw [E.cells_cons, List.take_succ_cons, E.cells_cons, ← E.cells_take r n, List.take_append, E.len, show (n + 1) * E.k - E.k = n * E.k by rw [Nat.add_mul]; omega, List.take_of_length_le (by rw [E.len, Nat.add_mul]; omega)]
theorem Enc.cells_at (E : Enc α) : ∀ (l : List α) (j : Nat) (u : Value), (E.cells l)[j]? = some u → ∃ i x t, l[i]? = some x ∧ t < E.k ∧ j = i * E.k + t ∧ (E.c x)[t]? = some u
  | [], j, u, h => by simp [Enc.cells] at h
  | y :: r, j, u, h => by
    rw [E.cells_cons] at h
    by_cases hj : j < E.k
    · rw [List.getElem?_append_left (by rw [E.len]; exact hj)] at h
      exact ⟨0, y, j, rfl, hj, by omega, h⟩
    · rw [List.getElem?_append_right (by rw [E.len]; omega), E.len] at h
      obtain ⟨i, x, t, h1, h2, h3, h4⟩ := E.cells_at r (j - E.k) u h
      exact ⟨i + 1, x, t, by simpa using h1, h2, by rw [Nat.add_mul]; omega, h4⟩
/-- A slice that reads as the elements l. -/
def RowL (E : Enc α) (w : World) (A : Option Addr) (l : List α) : Prop :=
  0 < l.length → ∃ g o, A = some ⟨g, o, none⟩ ∧ g < w.heap.size ∧ ∀ i x, l[i]? = some x → ∀ j v, (E.c x)[j]? = some v → w.cell? ⟨g, o + i * E.k + j, none⟩ = some v
variable {E : Enc α}
theorem RowL.nil (w : World) (A : Option Addr) : RowL E w A [] := fun h => absurd h (by simp)
theorem RowL.kept {w w' : World} {A : Option Addr} {l : List α} (h : RowL E w A l) (hb : Below w.heap.size w w') : RowL E w' A l := fun hp => by
  obtain ⟨g, o, e, hg, hc⟩ := h hp
  refine ⟨g, o, e, Nat.lt_of_lt_of_le hg hb.size, fun i x hx j v hv => ?_⟩
  rw [World.cell?_of_block (w := w) (w' := w') (a := ⟨g, o + i * E.k + j, none⟩) (hb.block g hg)]
  exact hc i x hx j v hv
theorem RowL.drewN {w : World} {A : Option Addr} {l : List α} (h : RowL E w A l) (q : Nat) : RowL E (w.drewN q) A l := h
theorem RowL.only {w w' : World} {A : Option Addr} {l : List α} {b : Option Nat} (h : RowL E w A l) (hg : w.grownBy w' b) (hne : ∀ a, A = some a → some a.block ≠ b) : RowL E w' A l := fun hp => by
  obtain ⟨g, o, e, hg1, hc⟩ := h hp
  refine ⟨g, o, e, Nat.lt_of_lt_of_le hg1 hg.size, fun i x hx j v hv => ?_⟩
  rw [World.cell?_of_block (w := w) (w' := w') (a := ⟨g, o + i * E.k + j, none⟩) (hg.block g hg1 (hne _ e))]
  exact hc i x hx j v hv
theorem RowL.tail {w : World} {g o : Nat} {x : α} {r : List α} (h : RowL E w (some ⟨g, o, none⟩) (x :: r)) : RowL E w (some ⟨g, o + E.k, none⟩) r := fun hp => by
  obtain ⟨g', o', e, hg, hc⟩ := h (by simp)
  obtain ⟨rfl, rfl⟩ : g = g' ∧ o = o' := by simp only [Option.some.injEq, Addr.mk.injEq] at e; exact ⟨e.1, e.2.1⟩
  refine ⟨g, o + E.k, rfl, hg, fun i t ht j v hv => ?_⟩
  have := hc (i + 1) t (by simpa using ht) j v hv
  rwa [show o + (i + 1) * E.k + j = o + E.k + i * E.k + j by rw [Nat.add_mul]; omega] at this
/-- One element's cells, in every later world. -/
theorem RowL.at_ {w w' : World} {g o : Nat} {l : List α} {i : Nat} {x : α} (h : RowL E w (some ⟨g, o, none⟩) l) (hx : l[i]? = some x) (hb : Below w.heap.size w w') : ∀ j v, (E.c x)[j]? = some v → w'.cell? ⟨g, o + i * E.k + j, none⟩ = some v := by
  obtain ⟨g', o', e, hg, hc⟩ := (h.kept hb) (Nat.lt_of_le_of_lt (Nat.zero_le _) (List.getElem?_eq_some_iff.1 hx).1)
  obtain ⟨rfl, rfl⟩ : g = g' ∧ o = o' := by simp only [Option.some.injEq, Addr.mk.injEq] at e; exact ⟨e.1, e.2.1⟩
  exact hc i x hx
theorem addr_add7 (g o j : Nat) : (⟨g, o, none⟩ : Addr).add j = ⟨g, o + j, none⟩ := by
  unfold Addr.add
  split
  · simp_all
  · rfl
theorem RowL.news {w : World} {ad : Addr} {l : List α} (h : RowL E w (some ad) l) : ∀ j u, (E.cells l)[j]? = some u → w.cell? (ad.add j) = some u := fun j u hu => by
  obtain ⟨i, x, t, hx, ht, rfl, hv⟩ := E.cells_at l j u hu
  obtain ⟨g, o, e, hg, hc⟩ := h (Nat.lt_of_le_of_lt (Nat.zero_le _) (List.getElem?_eq_some_iff.1 hx).1)
  obtain rfl := Option.some.inj e
  rw [addr_add7, ← Nat.add_assoc]
  exact hc i x hx t u hv
/-- A slice that the call owns reads so. -/
theorem rowl_of_own {w : World} {base : Nat} {e : TypeId} {A : Option Addr} {n cap : Nat} {l : List α} (h : w.ownsRow base e E.k (.slice A n cap) n (E.cells l)) (hn : n = l.length) : RowL E w A l := fun hp => by
  subst hn
  rcases h.2 with ⟨_, h0⟩ | ⟨g, c, cur, hv, hg, hh, hnc, hcm, hs, ht⟩
  · omega
  · simp only [Value.slice.injEq, true_and] at hv
    obtain ⟨rfl, rfl⟩ := hv
    refine ⟨g, 0, rfl, (Array.getElem?_eq_some_iff.1 hh).1, fun i x hx j v hv => ?_⟩
    have hj : j < E.k := by
      have := (List.getElem?_eq_some_iff.1 hv).1
      rwa [E.len] at this
    have hi := (List.getElem?_eq_some_iff.1 hx).1
    have hlt : i * E.k + j < l.length * E.k := by
      have : (i + 1) * E.k ≤ l.length * E.k := Nat.mul_le_mul_right _ hi
      rw [Nat.add_mul] at this
      omega
    rw [Nat.zero_add, h.cellAt _ hlt, E.cells_get l i x j hx hj]
    exact hv
theorem own_blocks {w w' : World} {base : Nat} {e : TypeId} {size : Nat} {v : Value} {n : Nat} {xs : List Value} (h : w.ownsRow base e size v n xs) (hb : ∀ b, base ≤ b → b < w.heap.size → w'.heap[b]? = w.heap[b]?) : w'.ownsRow base e size v n xs := by
  refine ⟨h.1, ?_⟩
  rcases h.2 with hn | ⟨g, cap, cur, hv, hg, hh, rest⟩
  · exact .inl hn
  · exact .inr ⟨g, cap, cur, hv, hg, (hb g hg (Array.getElem?_eq_some_iff.1 hh).1).trans hh, rest⟩
theorem own_kept {w w' : World} {base B : Nat} {e : TypeId} {size : Nat} {v : Value} {n : Nat} {xs : List Value} (h : w.ownsRow base e size v n xs) (hb : Below B w w') (hB : w.heap.size ≤ B) : w'.ownsRow base e size v n xs :=
  own_blocks h fun b _ hl => hb.block b (Nat.lt_of_lt_of_le hl hB)
/-- What another row's growing leaves. -/
theorem own_only {w w' : World} {base : Nat} {e : TypeId} {size : Nat} {v : Value} {n : Nat} {xs : List Value} {b : Option Nat} (h : w.ownsRow base e size v n xs) (hg : w.grownBy w' b) (hne : ∀ c, v.ownBlock = some c → some c ≠ b) : w'.ownsRow base e size v n xs := by
  refine ⟨h.1, ?_⟩
  rcases h.2 with hn | ⟨g, cap, cur, hv, hb, hh, rest⟩
  · exact .inl hn
  · exact .inr ⟨g, cap, cur, hv, hb, (hg.block g (Array.getElem?_eq_some_iff.1 hh).1 (hne g (by rw [hv]; rfl))).trans hh, rest⟩
theorem own_mono {w : World} {base base' : Nat} {e : TypeId} {size : Nat} {v : Value} {n : Nat} {xs : List Value} (h : w.ownsRow base e size v n xs) (hb : base' ≤ base) : w.ownsRow base' e size v n xs := by
  refine ⟨h.1, ?_⟩
  rcases h.2 with hn | ⟨g, cap, cur, hv, hg, rest⟩
  · exact .inl hn
  · exact .inr ⟨g, cap, cur, hv, Nat.le_trans hb hg, rest⟩
theorem own_shape {w : World} {base : Nat} {e : TypeId} {size : Nat} {v : Value} {n : Nat} {xs : List Value} (h : w.ownsRow base e size v n xs) : ∃ A c, v = .slice A n c := by
  rcases h.2 with ⟨h1, h2⟩ | ⟨g, c, cur, h1, _⟩
  · subst h2; exact ⟨_, _, h1⟩
  · exact ⟨_, _, h1⟩
theorem own_cap {w : World} {base : Nat} {e : TypeId} {size : Nat} {A : Option Addr} {n c : Nat} {xs : List Value} (h : w.ownsRow base e size (.slice A n c) n xs) : n ≤ c ∧ c ≤ maxLen := by
  rcases h.2 with ⟨h1, h2⟩ | ⟨g, c', cur, h1, _, _, h2, h3, _⟩
  · simp only [Value.slice.injEq] at h1
    obtain ⟨_, h3, h4⟩ := h1
    subst h3 h4
    exact ⟨Nat.le_refl _, Nat.zero_le _⟩
  · simp only [Value.slice.injEq, true_and] at h1
    obtain ⟨_, rfl⟩ := h1
    exact ⟨h2, h3⟩
theorem own_none {w : World} {base : Nat} {e : TypeId} {size : Nat} {n c : Nat} {xs : List Value} (h : w.ownsRow base e size (.slice none n c) n xs) : n = 0 ∧ c = 0 := by
  rcases h.2 with ⟨h1, h2⟩ | ⟨g, c', cur, h1, _⟩
  · simp only [Value.slice.injEq, true_and] at h1
    exact ⟨h2, h1.2⟩
  · simp at h1
theorem own_start {w : World} {base : Nat} {e : TypeId} {size : Nat} {g o : Nat} {pt : Option Nat} {n c : Nat} {xs : List Value} (h : w.ownsRow base e size (.slice (some ⟨g, o, none⟩) n c) n xs) : o = 0 ∧ base ≤ g ∧ g < w.heap.size := by
  rcases h.2 with ⟨h1, h2⟩ | ⟨g', c', cur, h1, hb, hh, _⟩
  · simp at h1
  · simp only [Value.slice.injEq, Option.some.injEq, Addr.mk.injEq, and_true, true_and] at h1
    obtain ⟨⟨rfl, rfl⟩, _⟩ := h1
    exact ⟨rfl, hb, (Array.getElem?_eq_some_iff.1 hh).1⟩
/-- The last elements cut off: still owned. -/
theorem own_cut {w : World} {base : Nat} {e : TypeId} {A : Option Addr} {n m c : Nat} {l : List α} (h : w.ownsRow base e E.k (.slice A n c) n (E.cells l)) (hn : n = l.length) (hm : m ≤ n) : w.ownsRow base e E.k (.slice A m c) m (E.cells (l.take m)) := by
  subst hn
  refine ⟨by rw [E.cells_length, List.length_take, Nat.min_eq_left hm], ?_⟩
  rcases h.2 with ⟨h1, h2⟩ | ⟨g, c', cur, h1, hb, hh, hnc, hcm, hs, ht⟩
  · simp only [Value.slice.injEq] at h1
    obtain ⟨rfl, _, rfl⟩ := h1
    obtain rfl : m = 0 := by omega
    exact .inl ⟨rfl, rfl⟩
  · simp only [Value.slice.injEq, true_and] at h1
    obtain ⟨rfl, rfl⟩ := h1
    refine .inr ⟨g, c, cur, rfl, hb, hh, by omega, hcm, hs, ?_⟩
    rw [← E.cells_take, ← ht, List.take_take, Nat.min_eq_left (Nat.mul_le_mul_right _ hm)]
/-- An empty slice literal. -/
theorem own_empty (E : Enc α) (w : World) (e : TypeId) {base : Nat} (h : base ≤ w.heap.size) : (w.alloc (.cells #[] e)).ownsRow base e E.k (.slice (some ⟨w.heap.size, 0, none⟩) 0 0) 0 (E.cells []) :=
  ⟨by simp [Enc.cells], .inr ⟨w.heap.size, 0, #[], rfl, h, heap_alloc_new w _, Nat.le_refl _, Nat.zero_le _, by simp, by simp [Enc.cells]⟩⟩
/-- A block of whole elements, as a literal or the arguments of a call lay it. -/
theorem rowl_block {w : World} {B : Nat} {cs : Array Value} {t : TypeId} {fr : Nat × Nat} {l : List α} (h : w.heap[B]? = some (.cells cs t fr)) (hc : cs.toList = E.cells l) : RowL E w (some ⟨B, 0, none⟩) l := fun hp =>
  ⟨B, 0, rfl, (Array.getElem?_eq_some_iff.1 h).1, fun i x hx j v hv => by
    have hj : j < E.k := by
      have := (List.getElem?_eq_some_iff.1 hv).1
      rwa [E.len] at this
    rw [Nat.zero_add, cell_of_row w B _ cs t fr h]
    have := E.cells_get l i x j hx hj
    rw [← hc] at this
    rw [← hv, ← this]
    simp⟩
theorem heap2 (w : World) (a b : Obj) : ((w.alloc a).alloc b).heap[w.heap.size + 1]? = some b := by
  have := heap_alloc_new (w.alloc a) b
  rwa [show (w.alloc a).heap.size = w.heap.size + 1 by simp] at this
/-- What the program says of the types of a slice and its elements. -/
structure ElemTy (t e : TypeId) (k bytes : Nat) : Prop where
  und : Try.prog.underlying t = some (.slice e)
  info : ∃ i z, Try.prog.info? e = some i ∧ i.zero = some z ∧ i.size = k ∧ i.bytes = bytes ∧ z.cells.size = k
/-- append(out, x, ..): elements that lie in a block of their own, onto a slice that the call owns. -/
theorem wpList_push {t e : TypeId} {bytes : Nat} {w : World} {ops : Array Oper} {rest : List Oper} {o : Oper} {a : Act} {Q : Exit → Act → World → Prop} (T : ElemTy t e E.k bytes) (hgd : o.guard = none) (s x : Operand)
    (ho : o.op = .call { callee := .builtin .append, args := #[s, x], argTypes := #[t, t] })
    (base : Nat) (v : Value) (n : Nat) (l ys : List α) (hs : a.eval s = v) (hown : w.ownsRow base e E.k v n (E.cells l))
    (B m c : Nat) (cs : Array Value) (fr : Nat × Nat) (hx : a.eval x = .slice (some ⟨B, 0, none⟩) m c) (hB : w.heap[B]? = some (.cells cs e fr)) (hcs : cs.toList = E.cells ys) (hm : m = ys.length) (hm0 : 0 < m) (hn : n + m ≤ 1000000) (hby : bytes ≤ 1000) (hbase : base ≤ w.heap.size)
    (h : ∀ g cap w', w'.ownsRow base e E.k (.slice (some ⟨g, 0, none⟩) (n + m) cap) (n + m) (E.cells (l ++ ys)) → w.grownBy w' v.ownBlock → (v.ownBlock = some g ∨ g = w.heap.size) → g < w'.heap.size → wpList Try.prog ops Q rest (a.put o.dst (.slice (some ⟨g, 0, none⟩) (n + m) cap)) w') : wpList Try.prog ops Q (o :: rest) a w := by
  obtain ⟨i, z, h1, h2, h3, h4, h5⟩ := T.info
  refine wpList_append_lies w hgd s x t ho base e i z E.k bytes T.und h1 h2 h3 h4 h5 E.pos v n (E.cells l) hs hown ⟨B, 0, none⟩ m c (E.cells ys) hx (by rw [E.cells_length, hm]) (fun j u hu => World.news_of_block hB j u (by rw [hcs]; exact hu)) (E.cells_one' ys) hm0 (by unfold maxLen; omega) ?_ hbase _ rfl ?_
  · have : (n + m) * bytes ≤ 1000000 * 1000 := Nat.mul_le_mul hn hby
    omega
  · intro g cap w' a1 a2 a3 a4
    rw [← E.cells_append] at a1
    exact h g cap w' a1 a2 a3 a4
/-- append(out, l...) of a slice that reads as a list. -/
theorem wpList_cat {t e : TypeId} {bytes : Nat} {w : World} {ops : Array Oper} {rest : List Oper} {o : Oper} {a : Act} {Q : Exit → Act → World → Prop} (T : ElemTy t e E.k bytes) (hgd : o.guard = none) (s x : Operand)
    (ho : o.op = .call { callee := .builtin .append, args := #[s, x], argTypes := #[t, t] })
    (base : Nat) (v : Value) (n : Nat) (xs l : List α) (hs : a.eval s = v) (hown : w.ownsRow base e E.k v n (E.cells xs))
    (A : Option Addr) (m c : Nat) (hx : a.eval x = .slice A m c) (hm : m = l.length) (hA : A = none → c = 0) (hl : RowL E w A l) (hn : n + m ≤ 1000000) (hby : bytes ≤ 1000) (hbase : base ≤ w.heap.size)
    (h : ∀ A' c' w', w'.ownsRow base e E.k (.slice A' (n + m) c') (n + m) (E.cells (xs ++ l)) → w.grownBy w' v.ownBlock → wpList Try.prog ops Q rest (a.put o.dst (.slice A' (n + m) c')) w') : wpList Try.prog ops Q (o :: rest) a w := by
  obtain ⟨i, z, h1, h2, h3, h4, h5⟩ := T.info
  cases A with
  | none =>
    have hl0 : l = [] := by
      cases l with
      | nil => rfl
      | cons y r =>
        obtain ⟨g, o, e, _⟩ := hl (by simp)
        cases e
    subst hl0
    obtain rfl := hA rfl
    have hm0 : m = 0 := by simpa using hm
    subst hm0
    obtain ⟨A', c', rfl⟩ := own_shape hown
    refine wpList_append_own_none hgd s x t ho base e i E.k T.und h1 _ n (E.cells xs) hs hown hx ?_
    refine h A' c' w ?_ ⟨rfl, rfl, rfl, Nat.le_refl _, fun _ _ _ => rfl⟩
    simpa using hown
  | some ad =>
    refine wpList_append_own_at w hgd s x t ho base e i z E.k bytes T.und h1 h2 h3 h4 h5 E.pos v n (E.cells xs) hs hown ad m c (E.cells l) hx (by rw [E.cells_length, hm]) hl.news (E.cells_one' l) (by unfold maxLen; omega) ?_ hbase ?_
    · have : (n + m) * bytes ≤ 1000000 * 1000 := Nat.mul_le_mul hn hby
      omega
    · intro v' w' hown' hgr _ _
      obtain ⟨A', c', rfl⟩ := own_shape hown'
      rw [← E.cells_append] at hown'
      exact h A' c' w' hown' hgr
end Go.Proofs.Ytafpmlikocchpaa

/- Slices of elements as they come in: a row that reads as a list; strings. -/
namespace Go.Proofs.Ytafpmlikocchpaa
open Go.ChangeShapes Go.WideShapes Go.ChangeAt Go.RowKit
set_option linter.unusedVariables false

theorem choose_some {α : Type} [Inhabited α] {p : Nat → α → Prop} {m : Nat} (h : ∀ i, i < m → ∃ x, p i x) : ∃ f : Nat → α, ∀ i, i < m → p i (f i) := by
  classical
  exact ⟨fun i => if hi : i < m then (h i hi).choose else default, fun i hi => by simp only [dif_pos hi]; exact (h i hi).choose_spec⟩
theorem addr_twice (a : Addr) (x y : Nat) : (a.add x).add y = a.add (x + y) := by
  unfold Addr.add
  by_cases hx : x = 0 <;> by_cases hy : y = 0 <;> simp [hx, hy] <;> omega
/-- A slice that comes in, its elements opened one by one. -/
theorem in_row {H : Type} {enc : TypeId × Value → H} {α : Type} [Inhabited α] {E : Enc α} {P : α → Prop} {t e : TypeId} (ht : Try.prog.underlying t = some (.slice e)) (hk : Try.prog.cellsOf e = E.k)
    {W : World} {base : Nat} {sp : Nat → Bool} {held : Bool} (each : ∀ fuel (cs : List Value) (x : DataW H × List MemPlace), cs.length = E.k → DataW.trod enc Try.prog W base sp held fuel e cs = some x → ∃ q : α, P q ∧ cs = E.c q)
    {A : Option Addr} {n cap : Nat} {d : DataW H} {p : List MemPlace} (h : DataW.Trod enc Try.prog W base sp held t (.slice A n cap) d p) : ∃ l : List α, RowL E W A l ∧ n = l.length ∧ (A = none → cap = 0) ∧ n ≤ maxLen ∧ ∀ r ∈ l, P r := by
  obtain ⟨fuel, hf⟩ := h
  rcases Go.Deep.open_slice ht hf with ⟨hcs, _⟩ | ⟨a, l, c, m, k, D, Pl, hcs, _, hl, hm, hmm, _, hx⟩
  · simp [Value.cells] at hcs
    obtain ⟨rfl, rfl, rfl⟩ := hcs
    exact ⟨[], RowL.nil _ _, rfl, fun _ => rfl, by simp [maxLen], by simp⟩
  · simp [Value.cells] at hcs
    obtain ⟨rfl, rfl, rfl⟩ := hcs
    have hlm : n ≤ m := by rw [hmm]; split <;> omega
    have every : ∀ i, i < n → ∃ q : α, P q ∧ ∀ j v, (E.c q)[j]? = some v → W.cell? (a.add (i * E.k + j)) = some v := by
      intro i hi
      obtain ⟨cs', h1, h2⟩ := hx i (by omega)
      rw [hk] at h1
      obtain ⟨_, hlen, hcell⟩ := World.cells?_some h1
      obtain ⟨q, hq, rfl⟩ := each _ cs' _ hlen h2
      refine ⟨q, hq, fun j v hv => ?_⟩
      have hj : j < E.k := by rw [← E.len q]; exact (List.getElem?_eq_some_iff.1 hv).1
      have := hcell j hj
      rw [addr_twice] at this
      rw [this]
      exact hv
    obtain ⟨q, hq⟩ := choose_some every
    refine ⟨(List.range n).map q, fun hp => ?_, by simp, (fun e => by simp at e), by omega, fun r hr => ?_⟩
    · simp only [List.length_map, List.length_range] at hp
      obtain ⟨b, off, spot⟩ := a
      have hpos := E.pos
      obtain ⟨u, hu⟩ : ∃ u, (E.c (q 0))[0]? = some u := ⟨_, List.getElem?_eq_getElem (by rw [E.len]; exact hpos)⟩
      have h0 := (hq 0 hp).2 0 u hu
      have hspot : spot = none := by simpa [Addr.add] using World.cell?_spot h0
      subst hspot
      have hlt := World.block_lt_of_cell? W _ h0
      refine ⟨b, off, rfl, by simpa [Addr.add] using hlt, fun i x hx j v hv => ?_⟩
      rw [List.getElem?_map] at hx
      by_cases hi : i < n
      · rw [List.getElem?_range hi] at hx
        simp only [Option.map_some, Option.some.injEq] at hx
        subst hx
        have := (hq i hi).2 j v hv
        rw [addr_add7] at this
        rw [Nat.add_assoc]
        exact this
      · rw [List.getElem?_eq_none (by simpa using hi)] at hx
        simp at hx
    · obtain ⟨i, hi, rfl⟩ := List.mem_map.1 hr
      exact (hq i (List.mem_range.1 hi)).1
/-- A slice that is a field of what comes in. -/
theorem in_row_field {H : Type} {enc : TypeId × Value → H} {α : Type} [Inhabited α] {E : Enc α} {P : α → Prop} {t e : TypeId} (ht : Try.prog.underlying t = some (.slice e)) (hk : Try.prog.cellsOf e = E.k)
    {W : World} {base : Nat} {sp : Nat → Bool} {held : Bool} (each : ∀ fuel (cs : List Value) (x : DataW H × List MemPlace), cs.length = E.k → DataW.trod enc Try.prog W base sp held fuel e cs = some x → ∃ q : α, P q ∧ cs = E.c q)
    {fuel : Nat} {cs : List Value} {x : DataW H × List MemPlace} (h : DataW.trod enc Try.prog W base sp held fuel t cs = some x) : ∃ (A : Option Addr) (cap : Nat) (l : List α), cs = [.slice A l.length cap] ∧ RowL E W A l ∧ (A = none → cap = 0) ∧ l.length ≤ maxLen ∧ ∀ r ∈ l, P r := by
  obtain ⟨A, n, cap, rfl⟩ : ∃ A n cap, cs = [.slice A n cap] := by
    rcases Go.Deep.open_slice ht h with ⟨hcs, _⟩ | ⟨a, l, c, m, k, D, Pl, hcs, _⟩
    · exact ⟨_, _, _, hcs⟩
    · exact ⟨_, _, _, hcs⟩
  obtain ⟨l, h1, rfl, h3, h4, h5⟩ := in_row (E := E) (P := P) ht hk each (A := A) (n := n) (cap := cap) (d := x.1) (p := x.2) ⟨fuel, h⟩
  exact ⟨A, cap, l, rfl, h1, h3, h4, h5⟩
theorem arr5 {cs : Array Value} (h : cs.size = 5) : ∃ a b c d e, cs = #[a, b, c, d, e] := by
  obtain ⟨l⟩ := cs
  match l, h with
  | [a, b, c, d, e], _ => exact ⟨a, b, c, d, e, rfl⟩
end Go.Proofs.Ytafpmlikocchpaa
