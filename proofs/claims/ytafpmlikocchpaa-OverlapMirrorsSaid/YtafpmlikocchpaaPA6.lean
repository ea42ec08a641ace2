/- Contracts of the functions, part 6: Pick, Box, Elems2. -/
import Derived.Deep.QuietTactic
import Derived.Deep.RegionHeld3
import Derived.Test.YtafpmlikocchpaaPA3
import Derived.Test.YtafpmlikocchpaaPA5
/- A region that draws its order, whose calls make memory and whose guards may be false: one walk of the lexical order, over any class of worlds (Deep/Quiet's law), the class written as the worlds 'p u' of a function p. -/
namespace Go.Proofs.Ytafpmlikocchpaa
open Go.ChangeShapes Go.WideShapes Go.ChangeAt Go.RowKit
set_option linter.unusedVariables false

theorem wp_region_pick {P : Program} {id : Nat} {Q : Exit → Act → World → Prop} {a : Act} {w : World} {l : List Oper} (S : World → Prop) (hm : P.follows .mixedOrders = true) (hB : Region.lexB .any l.toArray = true) (hS : S w) (hD : S { w with drawn := w.drawn + 1 })
    (h : ∀ p : World → World, (∀ u, S (p u)) → (∀ W, S W → ∃ u, W = p u) → wpQuiet P l.toArray (fun w' => ∃ u, w' = p u) (fun a' => ∀ w', (∃ u, w' = p u) → Q .normal a' w') l a) : (Code.region id l.toArray true).wp P Q a w := by
  classical
  have h1 : ∀ u, S ((fun u => if S u then u else w) u) := fun u => by
    show S (if S u then u else w)
    split
    · assumption
    · exact hS
  have h2 : ∀ W, S W → ∃ u, W = (fun u => if S u then u else w) u := fun W hW => ⟨W, by show W = if S W then W else w; rw [if_pos hW]⟩
  exact wp_region_quiet (C := fun w' => ∃ u, w' = (fun u => if S u then u else w) u) hm hB (h2 _ hD) (by simpa using h _ h1 h2)
/-- A callee's contract, met in a world of the class. -/
theorem Calls.pick_of {P : Program} {f : FuncId} {args : Array Value} {S : World → Prop} {p : World → World} {u : World} {v : Value} (hq : ∀ W, S W → ∃ u, W = p u) (hs : ∀ W', Below (p u).heap.size (p u) W' → S W')
    (h : Calls P f args (p u) fun e w' => e = .returned v ∧ Below (p u).heap.size (p u) w') : Calls P f args (p u) fun e w'' => e = .returned v ∧ ∃ u', w'' = p u' :=
  h.mono fun _ _ ⟨he, hb⟩ => ⟨he, hq _ (hs _ hb)⟩
end Go.Proofs.Ytafpmlikocchpaa

/- Structs in boxes, of any type: stored whole, returned. -/
namespace Go.Proofs.Ytafpmlikocchpaa
open Go.ChangeShapes Go.WideShapes Go.ChangeAt Go.RowKit
set_option linter.unusedVariables false

/-- The stores of values, from cell k on. -/
def putB (w : World) (g : Nat) : Nat → List Value → World
  | _, [] => w
  | k, v :: r => putB (w.setCell ⟨g, k, none⟩ v) g (k + 1) r
theorem set_take {α : Type} (l : List α) (k : Nat) (v : α) (h : k < l.length) : (l.set k v).take (k + 1) = l.take k ++ [v] := by
  rw [List.take_succ_eq_append_getElem (by simpa using h), List.take_set_of_le (Nat.le_refl _)]
  simp
theorem cells_putB {t : TypeId} {g : Nat} : ∀ (vs : List Value) (k : Nat) (cs : Array Value) (w : World), Cells w g t cs → k + vs.length = cs.size → Cells (putB w g k vs) g t (cs.toList.take k ++ vs).toArray
  | [], k, cs, w, h, hk => by
    have : (cs.toList.take k ++ []).toArray = cs := by
      rw [List.append_nil, List.take_of_length_le (by simp at hk ⊢; omega)]
    rw [this]
    exact h
  | v :: r, k, cs, w, h, hk => by
    have h1 := cells_putB r (k + 1) (cs.setIfInBounds k v) (w.setCell ⟨g, k, none⟩ v) (Cells.set h k v) (by simp at hk ⊢; omega)
    have e : (cs.setIfInBounds k v).toList.take (k + 1) ++ r = cs.toList.take k ++ v :: r := by
      rw [Array.toList_setIfInBounds, set_take _ _ _ (by simp at hk ⊢; omega)]
      simp
    rw [e] at h1
    exact h1
/-- A struct stored over another. -/
theorem Cells.put {t : TypeId} {g : Nat} {cs : Array Value} {w : World} (h : Cells w g t cs) (vs : List Value) (hl : vs.length = cs.size) : Cells (putB w g 0 vs) g t vs.toArray := by
  have := cells_putB vs 0 cs w h (by omega)
  rwa [List.take_zero, List.nil_append] at this
theorem putB_below {B : Nat} {a : World} {g : Nat} (hg : B ≤ g) : ∀ (vs : List Value) (k : Nat) (w : World), Below B a w → Below B a (putB w g k vs)
  | [], _, _, h => h
  | v :: r, k, w, h => putB_below hg r (k + 1) (w.setCell ⟨g, k, none⟩ v) (h.setCell hg _)
theorem putB_far {g b : Nat} (hne : b ≠ g) : ∀ (vs : List Value) (k : Nat) (w : World), (putB w g k vs).heap[b]? = w.heap[b]?
  | [], _, _ => rfl
  | v :: r, k, w => (putB_far hne r (k + 1) (w.setCell ⟨g, k, none⟩ v)).trans (Below.heap_setCell w ⟨g, k, none⟩ v b hne)
theorem putB_size {g : Nat} : ∀ (vs : List Value) (k : Nat) (w : World), (putB w g k vs).heap.size = w.heap.size
  | [], _, _ => rfl
  | v :: r, k, w => by rw [putB, putB_size r (k + 1)]; simp [World.setCell]
theorem Cells.kept {t : TypeId} {w w' : World} {g B : Nat} {cs : Array Value} (h : Cells w g t cs) (hb : Below B w w') (hg : g < B) : Cells w' g t cs := (hb.block _ hg).trans h
theorem Cells.drew {t : TypeId} {w : World} {g : Nat} {cs : Array Value} (h : Cells w g t cs) : Cells w.drew g t cs := h
theorem Cells.far {t : TypeId} {w : World} {g b i : Nat} {cs : Array Value} (h : Cells w g t cs) (hne : g ≠ b) (u : Value) : Cells (w.setCell ⟨b, i, none⟩ u) g t cs := (Below.heap_setCell w ⟨b, i, none⟩ u g hne).trans h
/-- What the program says of a struct's type. -/
structure BoxTy (t : TypeId) (n : Nat) : Prop where
  und : ∃ fs, Try.prog.underlying t = some (.struct fs)
  size : (Try.prog.info? t).map (·.size) = some n
theorem res_box1 {t : TypeId} {cs : Array Value} (T : BoxTy t cs.size) {fn : Func} {p : Tmp} (h : fn.results = #[.cell p t]) (tmps : Array Value) (w : World) {g : Nat} (hp : tmps.getD p undef = .pointer (some ⟨g, 0, none⟩)) (ht : Cells w g t cs) :
    (results fn tmps).run Try.prog w = .ok (.agg cs) w := by
  obtain ⟨⟨fs, h1⟩, h3⟩ := T
  have hp' : tmps[p]?.getD undef = .pointer (some ⟨g, 0, none⟩) := by simpa using hp
  simp [results, h, hp', asAddr, run_loadVar_row w g t t cs (0, 0) (.struct fs) ht h1 rfl h3]
theorem res_box2 {t : TypeId} {cs : Array Value} (T : BoxTy t cs.size) {fn : Func} {p u : Tmp} (h : fn.results = #[.cell p t, .tmp u]) (tmps : Array Value) (w : World) {g : Nat} (hp : tmps.getD p undef = .pointer (some ⟨g, 0, none⟩)) (ht : Cells w g t cs) :
    (results fn tmps).run Try.prog w = .ok (.tuple #[.agg cs, tmps.getD u undef]) w := by
  obtain ⟨⟨fs, h1⟩, h3⟩ := T
  have hp' : tmps[p]?.getD undef = .pointer (some ⟨g, 0, none⟩) := by simpa using hp
  simp [results, h, hp', asAddr, run_loadVar_row w g t t cs (0, 0) (.struct fs) ht h1 rfl h3]
theorem res_box3 {t : TypeId} {cs : Array Value} (T : BoxTy t cs.size) {fn : Func} {p u v : Tmp} (h : fn.results = #[.cell p t, .tmp u, .tmp v]) (tmps : Array Value) (w : World) {g : Nat} (hp : tmps.getD p undef = .pointer (some ⟨g, 0, none⟩)) (ht : Cells w g t cs) :
    (results fn tmps).run Try.prog w = .ok (.tuple #[.agg cs, tmps.getD u undef, tmps.getD v undef]) w := by
  obtain ⟨⟨fs, h1⟩, h3⟩ := T
  have hp' : tmps[p]?.getD undef = .pointer (some ⟨g, 0, none⟩) := by simpa using hp
  simp [results, h, hp', asAddr, run_loadVar_row w g t t cs (0, 0) (.struct fs) ht h1 rfl h3]
theorem alloc2_0 (w : World) (a b : Obj) : ((w.alloc a).alloc b).heap[w.heap.size]? = some a :=
  ((below_alloc6 (w.alloc a) b).block w.heap.size (by simp)).trans (heap_alloc_new w a)
theorem alloc2_below (w : World) (a b : Obj) : Below w.heap.size w ((w.alloc a).alloc b) := (below_alloc6 w a).trans ((below_alloc6 _ b).mono (by simp))
/-- Ints as elements. -/
def EInt : Enc Int := ⟨1, by decide, fun x => [.int .i64 x], fun _ => rfl, fun s v hv => by
  simp only [List.mem_cons, List.not_mem_nil, or_false] at hv
  subst hv
  rfl⟩
theorem EInt.at_ {w0 w : World} {g ob : Nat} {l : List Int} {k : Nat} {x : Int} (h : RowL EInt w0 (some ⟨g, ob, none⟩) l) (hx : l[k]? = some x) (hb : Below w0.heap.size w0 w) : w.cell? ⟨g, ob + k, none⟩ = some (.int .i64 x) := by
  have := RowL.at_ h hx hb 0 _ rfl
  rwa [show ob + k * EInt.k + 0 = ob + k from by show ob + k * 1 + 0 = ob + k; omega] at this
theorem RowL.shapeA {α : Type} {E : Enc α} {w : World} {A : Option Addr} {l : List α} (h : RowL E w A l) (hp : 0 < l.length) : ∃ g ob, A = some ⟨g, ob, none⟩ ∧ g < w.heap.size := by
  obtain ⟨g, ob, e, hg, _⟩ := h hp
  exact ⟨g, ob, e, hg⟩
theorem own_blk_in {w : World} {base : Nat} {e : TypeId} {size : Nat} {v : Value} {n : Nat} {xs : List Value} (h : w.ownsRow base e size v n xs) : ∀ c, v.ownBlock = some c → base ≤ c ∧ c < w.heap.size := fun c hc => by
  rcases h.2 with ⟨h1, h2⟩ | ⟨g, cap, cur, hv, hb, hh, _⟩
  · rw [h1] at hc; cases hc
  · rw [hv] at hc
    obtain rfl := Option.some.inj hc
    exact ⟨hb, (Array.getElem?_eq_some_iff.1 hh).1⟩
/-- A store below the base leaves a row that the call owns. -/
theorem own_setb {w : World} {base g i : Nat} {e : TypeId} {size : Nat} {v : Value} {n : Nat} {xs : List Value} (h : w.ownsRow base e size v n xs) (hg : g < base) (u : Value) : (w.setCell ⟨g, i, none⟩ u).ownsRow base e size v n xs :=
  own_blocks h (fun b hb _ => Below.heap_setCell w ⟨g, i, none⟩ u b (fun e => by simp only at e; omega))
theorem own_putb {base g : Nat} {e : TypeId} {size : Nat} {v : Value} {n : Nat} {xs : List Value} {w : World} (h : w.ownsRow base e size v n xs) (hg : g < base) (vs : List Value) (k : Nat) : (putB w g k vs).ownsRow base e size v n xs :=
  own_blocks h (fun b hb _ => putB_far (by omega) vs k w)
end Go.Proofs.Ytafpmlikocchpaa

/- append at a step of a region that draws: elements of any fixed number of cells. -/
namespace Go.Proofs.Ytafpmlikocchpaa
open Go.ChangeShapes Go.WideShapes Go.ChangeAt Go.RowKit
set_option linter.unusedVariables false
variable {α : Type} {E : Enc α}

/-- append(out, x, ..) at a step of a region that draws: elements that lie in a block of their own, onto a slice that the call owns. -/
theorem step_push {t e : TypeId} {bytes : Nat} {w : World} {ops : Array Oper} {o : Oper} {a : Act} {K : Act → World → Prop} {Q : Exit → Act → World → Prop} {F : Prop} (T : ElemTy t e E.k bytes) (hgd : o.guard = none) (s x : Operand)
    (ho : o.op = .call { callee := .builtin .append, args := #[s, x], argTypes := #[t, t] })
    (base : Nat) (v : Value) (n : Nat) (l ys : List α) (hs : a.eval s = v) (hown : w.ownsRow base e E.k v n (E.cells l))
    (B m c : Nat) (cs : Array Value) (fr : Nat × Nat) (hx : a.eval x = .slice (some ⟨B, 0, none⟩) m c) (hB : w.heap[B]? = some (.cells cs e fr)) (hcs : cs.toList = E.cells ys) (hm : m = ys.length) (hm0 : 0 < m) (hn : n + m ≤ 1000000) (hby : bytes ≤ 1000) (hbase : base ≤ w.heap.size)
    (h : ∀ g cap w', w'.ownsRow base e E.k (.slice (some ⟨g, 0, none⟩) (n + m) cap) (n + m) (E.cells (l ++ ys)) → w.grownBy w' v.ownBlock → (v.ownBlock = some g ∨ g = w.heap.size) → g < w'.heap.size → K (a.put o.dst (.slice (some ⟨g, 0, none⟩) (n + m) cap)) w') :
    if Region.wanted o (yielded ops a.tmps) = true then Oper.wp Try.prog o a w K Q else F := by
  obtain ⟨i, z, h1, h2, h3, h4, h5⟩ := T.info
  refine step_append_lies w hgd s x t ho base e i z E.k bytes T.und h1 h2 h3 h4 h5 E.pos v n (E.cells l) hs hown ⟨B, 0, none⟩ m c (E.cells ys) hx (by rw [E.cells_length, hm]) (fun j u hu => World.news_of_block hB j u (by rw [hcs]; exact hu)) (E.cells_one' ys) hm0 (by unfold maxLen; omega) ?_ hbase _ rfl ?_
  · have : (n + m) * bytes ≤ 1000000 * 1000 := Nat.mul_le_mul hn hby
    omega
  · intro g cap w' a1 a2 a3 a4
    rw [← E.cells_append] at a1
    exact h g cap w' a1 a2 a3 a4
end Go.Proofs.Ytafpmlikocchpaa
