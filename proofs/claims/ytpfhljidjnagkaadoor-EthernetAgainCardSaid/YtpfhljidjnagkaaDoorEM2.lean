/- Contracts of the functions, part 2: AdrObj, Pick, Box, Elems2, EthMem, EthTab, EthRDec, RdB, EthPDec, EthPDw. -/
import Derived.Laws.StructEq
import Derived.Deep.QuietTactic
import Derived.BigQuiet
import Derived.OwnWalk
import Derived.Deep.RegionHeld3
import Derived.Deep.RegionLaw
import Derived.Test.YtpfhljidjnagkaaDoorEM1
/- Addresses in memory; contracts of the reference of layer 6: Valid, Width, Compare, Next, Previous. -/
namespace Go.Proofs.YtpfhljidjnagkaaDoor
open Go.ChangeShapes Go.WideShapes Go.ChangeAt Go.RowKit
set_option linter.unusedVariables false

theorem below_alloc6 (w : World) (o : Obj) : Below w.heap.size w (w.alloc o) := (Below.refl _ w).alloc (Nat.le_refl _) _
theorem alloc_lt6 (w : World) (o : Obj) : w.heap.size < (w.alloc o).heap.size := (Array.getElem?_eq_some_iff.1 (heap_alloc_new w o)).1
theorem below_drewN6 {w w' : World} {B : Nat} (h : Below B w w') (q : Nat) : Below B w (w'.drewN q) := ⟨h.os, h.tape, h.output, h.size, h.block⟩
/-- Is a struct an address? -/
def vldA (v6 : Bool) (hi lo : Nat) : Bool := v6 || (hi == 0 && decide (lo < 4294967296))
/-- The order of addresses, by the tests of the reference: p, q: the upper halves ascend, are equal; r, s: the lower ones. -/
def cmpB (b1 b2 p q r s : Bool) : Int :=
  if (b1 == b2 && (q && s)) = true then 0
  else if (!b1 && b2 || (b1 == b2 && (p || (q && r)))) = true then -1 else 1
def cmpA (b1 : Bool) (h1 l1 : Nat) (b2 : Bool) (h2 l2 : Nat) : Int := cmpB b1 b2 (decide ((h1 : Int) < (h2 : Int))) ((h1 : Int) == (h2 : Int)) (decide ((l1 : Int) < (l2 : Int))) ((l1 : Int) == (l2 : Int))
end Go.Proofs.YtpfhljidjnagkaaDoor

/- A region that draws its order, whose calls make memory and whose guards may be false: one walk of the lexical order, over any class of worlds (Deep/Quiet's law), the class written as the worlds 'p u' of a function p. -/
namespace Go.Proofs.YtpfhljidjnagkaaDoor
open Go.ChangeShapes Go.WideShapes Go.ChangeAt Go.RowKit
set_option linter.unusedVariables false

theorem wp_region_pick {P : Program} {id : Nat} {Q : Exit → Act → World → Prop} {a : Act} {w : World} {l : List Oper} (S : World → Prop) (hm : P.follows .mixedOrders = true) (hB : Region.lexB .any l.toArray = true) (hS : S w) (hD : S { w with drawn := w.drawn + 1 })
    (h : ∀ p : World → World, (∀ u, S (p u)) → (∀ W, S W → ∃ u, W = p u) → wpQuiet P l.toArray (fun w' => ∃ u, w' = p u) (fun a' => ∀ w', (∃ u, w' = p u) → Q .normal a' w') l a) : (Code.region id l.toArray true).wp P Q a w := by
  classical
  have h1 : ∀ u, S ((fun u => if S u then u else w) u) := fun u => by
    show S (if S u then u else w)
    split
    · assumption
    · exact hS
  have h2 : ∀ W, S W → ∃ u, W = (fun u => if S u then u else w) u := fun W hW => ⟨W, by show W = if S W then W else w; rw [if_pos hW]⟩
  exact wp_region_quiet (C := fun w' => ∃ u, w' = (fun u => if S u then u else w) u) hm hB (h2 _ hD) (by simpa using h _ h1 h2)
/-- A callee's contract, met in a world of the class. -/
theorem Calls.pick_of {P : Program} {f : FuncId} {args : Array Value} {S : World → Prop} {p : World → World} {u : World} {v : Value} (hq : ∀ W, S W → ∃ u, W = p u) (hs : ∀ W', Below (p u).heap.size (p u) W' → S W')
    (h : Calls P f args (p u) fun e w' => e = .returned v ∧ Below (p u).heap.size (p u) w') : Calls P f args (p u) fun e w'' => e = .returned v ∧ ∃ u', w'' = p u' :=
  h.mono fun _ _ ⟨he, hb⟩ => ⟨he, hq _ (hs _ hb)⟩
end Go.Proofs.YtpfhljidjnagkaaDoor

/- Structs in boxes, of any type: stored whole, returned. -/
namespace Go.Proofs.YtpfhljidjnagkaaDoor
open Go.ChangeShapes Go.WideShapes Go.ChangeAt Go.RowKit
set_option linter.unusedVariables false

/-- The stores of values, from cell k on. -/
def putB (w : World) (g : Nat) : Nat → List Value → World
  | _, [] => w
  | k, v :: r => putB (w.setCell ⟨g, k, none⟩ v) g (k + 1) r
theorem set_take {α : Type} (l : List α) (k : Nat) (v : α) (h : k < l.length) : (l.set k v).take (k + 1) = l.take k ++ [v] := by
  rw [List.take_succ_eq_append_getElem (by simpa using h), List.take_set_of_le (Nat.le_refl _)]
  simp
theorem cells_putB {t : TypeId} {g : Nat} : ∀ (vs : List Value) (k : Nat) (cs : Array Value) (w : World), Cells w g t cs → k + vs.length = cs.size → Cells (putB w g k vs) g t (cs.toList.take k ++ vs).toArray
  | [], k, cs, w, h, hk => by
    have : (cs.toList.take k ++ []).toArray = cs := by
      rw [List.append_nil, List.take_of_length_le (by simp at hk ⊢; omega)]
    rw [this]
    exact h
  | v :: r, k, cs, w, h, hk => by
    have h1 := cells_putB r (k + 1) (cs.setIfInBounds k v) (w.setCell ⟨g, k, none⟩ v) (Cells.set h k v) (by simp at hk ⊢; omega)
    have e : (cs.setIfInBounds k v).toList.take (k + 1) ++ r = cs.toList.take k ++ v :: r := by
      rw [Array.toList_setIfInBounds, set_take _ _ _ (by simp at hk ⊢; omega)]
      simp
    rw [e] at h1
    exact h1
/-- A struct stored over another. -/
theorem Cells.put {t : TypeId} {g : Nat} {cs : Array Value} {w : World} (h : Cells w g t cs) (vs : List Value) (hl : vs.length = cs.size) : Cells (putB w g 0 vs) g t vs.toArray := by
  have := cells_putB vs 0 cs w h (by omega)
  rwa [List.take_zero, List.nil_append] at this
theorem putB_below {B : Nat} {a : World} {g : Nat} (hg : B ≤ g) : ∀ (vs : List Value) (k : Nat) (w : World), Below B a w → Below B a (putB w g k vs)
  | [], _, _, h => h
  | v :: r, k, w, h => putB_below hg r (k + 1) (w.setCell ⟨g, k, none⟩ v) (h.setCell hg _)
theorem putB_far {g b : Nat} (hne : b ≠ g) : ∀ (vs : List Value) (k : Nat) (w : World), (putB w g k vs).heap[b]? = w.heap[b]?
  | [], _, _ => rfl
  | v :: r, k, w => (putB_far hne r (k + 1) (w.setCell ⟨g, k, none⟩ v)).trans (Below.heap_setCell w ⟨g, k, none⟩ v b hne)
theorem putB_size {g : Nat} : ∀ (vs : List Value) (k : Nat) (w : World), (putB w g k vs).heap.size = w.heap.size
  | [], _, _ => rfl
  | v :: r, k, w => by rw [putB, putB_size r (k + 1)]; simp [World.setCell]
theorem Cells.kept {t : TypeId} {w w' : World} {g B : Nat} {cs : Array Value} (h : Cells w g t cs) (hb : Below B w w') (hg : g < B) : Cells w' g t cs := (hb.block _ hg).trans h
theorem Cells.drew {t : TypeId} {w : World} {g : Nat} {cs : Array Value} (h : Cells w g t cs) : Cells w.drew g t cs := h
theorem Cells.far {t : TypeId} {w : World} {g b i : Nat} {cs : Array Value} (h : Cells w g t cs) (hne : g ≠ b) (u : Value) : Cells (w.setCell ⟨b, i, none⟩ u) g t cs := (Below.heap_setCell w ⟨b, i, none⟩ u g hne).trans h
/-- What the program says of a struct's type. -/
structure BoxTy (t : TypeId) (n : Nat) : Prop where
  und : ∃ fs, Tryd.prog.underlying t = some (.struct fs)
  size : (Tryd.prog.info? t).map (·.size) = some n
theorem res_box1 {t : TypeId} {cs : Array Value} (T : BoxTy t cs.size) {fn : Func} {p : Tmp} (h : fn.results = #[.cell p t]) (tmps : Array Value) (w : World) {g : Nat} (hp : tmps.getD p undef = .pointer (some ⟨g, 0, none⟩)) (ht : Cells w g t cs) :
    (results fn tmps).run Tryd.prog w = .ok (.agg cs) w := by
  obtain ⟨⟨fs, h1⟩, h3⟩ := T
  have hp' : tmps[p]?.getD undef = .pointer (some ⟨g, 0, none⟩) := by simpa using hp
  simp [results, h, hp', asAddr, run_loadVar_row w g t t cs (0, 0) (.struct fs) ht h1 rfl h3]
theorem res_box2 {t : TypeId} {cs : Array Value} (T : BoxTy t cs.size) {fn : Func} {p u : Tmp} (h : fn.results = #[.cell p t, .tmp u]) (tmps : Array Value) (w : World) {g : Nat} (hp : tmps.getD p undef = .pointer (some ⟨g, 0, none⟩)) (ht : Cells w g t cs) :
    (results fn tmps).run Tryd.prog w = .ok (.tuple #[.agg cs, tmps.getD u undef]) w := by
  obtain ⟨⟨fs, h1⟩, h3⟩ := T
  have hp' : tmps[p]?.getD undef = .pointer (some ⟨g, 0, none⟩) := by simpa using hp
  simp [results, h, hp', asAddr, run_loadVar_row w g t t cs (0, 0) (.struct fs) ht h1 rfl h3]
theorem res_box3 {t : TypeId} {cs : Array Value} (T : BoxTy t cs.size) {fn : Func} {p u v : Tmp} (h : fn.results = #[.cell p t, .tmp u, .tmp v]) (tmps : Array Value) (w : World) {g : Nat} (hp : tmps.getD p undef = .pointer (some ⟨g, 0, none⟩)) (ht : Cells w g t cs) :
    (results fn tmps).run Tryd.prog w = .ok (.tuple #[.agg cs, tmps.getD u undef, tmps.getD v undef]) w := by
  obtain ⟨⟨fs, h1⟩, h3⟩ := T
  have hp' : tmps[p]?.getD undef = .pointer (some ⟨g, 0, none⟩) := by simpa using hp
  simp [results, h, hp', asAddr, run_loadVar_row w g t t cs (0, 0) (.struct fs) ht h1 rfl h3]
theorem alloc2_0 (w : World) (a b : Obj) : ((w.alloc a).alloc b).heap[w.heap.size]? = some a :=
  ((below_alloc6 (w.alloc a) b).block w.heap.size (by simp)).trans (heap_alloc_new w a)
theorem alloc2_below (w : World) (a b : Obj) : Below w.heap.size w ((w.alloc a).alloc b) := (below_alloc6 w a).trans ((below_alloc6 _ b).mono (by simp))
/-- Ints as elements. -/
def EInt : Enc Int := ⟨1, by decide, fun x => [.int .i64 x], fun _ => rfl, fun s v hv => by
  simp only [List.mem_cons, List.not_mem_nil, or_false] at hv
  subst hv
  rfl⟩
theorem EInt.at_ {w0 w : World} {g ob : Nat} {l : List Int} {k : Nat} {x : Int} (h : RowL EInt w0 (some ⟨g, ob, none⟩) l) (hx : l[k]? = some x) (hb : Below w0.heap.size w0 w) : w.cell? ⟨g, ob + k, none⟩ = some (.int .i64 x) := by
  have := RowL.at_ h hx hb 0 _ rfl
  rwa [show ob + k * EInt.k + 0 = ob + k from by show ob + k * 1 + 0 = ob + k; omega] at this
theorem RowL.shapeA {α : Type} {E : Enc α} {w : World} {A : Option Addr} {l : List α} (h : RowL E w A l) (hp : 0 < l.length) : ∃ g ob, A = some ⟨g, ob, none⟩ ∧ g < w.heap.size := by
  obtain ⟨g, ob, e, hg, _⟩ := h hp
  exact ⟨g, ob, e, hg⟩
theorem own_blk_in {w : World} {base : Nat} {e : TypeId} {size : Nat} {v : Value} {n : Nat} {xs : List Value} (h : w.ownsRow base e size v n xs) : ∀ c, v.ownBlock = some c → base ≤ c ∧ c < w.heap.size := fun c hc => by
  rcases h.2 with ⟨h1, h2⟩ | ⟨g, cap, cur, hv, hb, hh, _⟩
  · rw [h1] at hc; cases hc
  · rw [hv] at hc
    obtain rfl := Option.some.inj hc
    exact ⟨hb, (Array.getElem?_eq_some_iff.1 hh).1⟩
/-- A store below the base leaves a row that the call owns. -/
theorem own_setb {w : World} {base g i : Nat} {e : TypeId} {size : Nat} {v : Value} {n : Nat} {xs : List Value} (h : w.ownsRow base e size v n xs) (hg : g < base) (u : Value) : (w.setCell ⟨g, i, none⟩ u).ownsRow base e size v n xs :=
  own_blocks h (fun b hb _ => Below.heap_setCell w ⟨g, i, none⟩ u b (fun e => by simp only at e; omega))
theorem own_putb {base g : Nat} {e : TypeId} {size : Nat} {v : Value} {n : Nat} {xs : List Value} {w : World} (h : w.ownsRow base e size v n xs) (hg : g < base) (vs : List Value) (k : Nat) : (putB w g k vs).ownsRow base e size v n xs :=
  own_blocks h (fun b hb _ => putB_far (by omega) vs k w)
end Go.Proofs.YtpfhljidjnagkaaDoor

/- append at a step of a region that draws: elements of any fixed number of cells. -/
namespace Go.Proofs.YtpfhljidjnagkaaDoor
open Go.ChangeShapes Go.WideShapes Go.ChangeAt Go.RowKit
set_option linter.unusedVariables false
variable {α : Type} {E : Enc α}

/-- append(out, x, ..) at a step of a region that draws: elements that lie in a block of their own, onto a slice that the call owns. -/
theorem step_push {t e : TypeId} {bytes : Nat} {w : World} {ops : Array Oper} {o : Oper} {a : Act} {K : Act → World → Prop} {Q : Exit → Act → World → Prop} {F : Prop} (T : ElemTy t e E.k bytes) (hgd : o.guard = none) (s x : Operand)
    (ho : o.op = .call { callee := .builtin .append, args := #[s, x], argTypes := #[t, t] })
    (base : Nat) (v : Value) (n : Nat) (l ys : List α) (hs : a.eval s = v) (hown : w.ownsRow base e E.k v n (E.cells l))
    (B m c : Nat) (cs : Array Value) (fr : Nat × Nat) (hx : a.eval x = .slice (some ⟨B, 0, none⟩) m c) (hB : w.heap[B]? = some (.cells cs e fr)) (hcs : cs.toList = E.cells ys) (hm : m = ys.length) (hm0 : 0 < m) (hn : n + m ≤ 1000000) (hby : bytes ≤ 1000) (hbase : base ≤ w.heap.size)
    (h : ∀ g cap w', w'.ownsRow base e E.k (.slice (some ⟨g, 0, none⟩) (n + m) cap) (n + m) (E.cells (l ++ ys)) → w.grownBy w' v.ownBlock → (v.ownBlock = some g ∨ g = w.heap.size) → g < w'.heap.size → K (a.put o.dst (.slice (some ⟨g, 0, none⟩) (n + m) cap)) w') :
    if Region.wanted o (yielded ops a.tmps) = true then Oper.wp Tryd.prog o a w K Q else F := by
  obtain ⟨i, z, h1, h2, h3, h4, h5⟩ := T.info
  refine step_append_lies w hgd s x t ho base e i z E.k bytes T.und h1 h2 h3 h4 h5 E.pos v n (E.cells l) hs hown ⟨B, 0, none⟩ m c (E.cells ys) hx (by rw [E.cells_length, hm]) (fun j u hu => World.news_of_block hB j u (by rw [hcs]; exact hu)) (E.cells_one' ys) hm0 (by unfold maxLen; omega) ?_ hbase _ rfl ?_
  · have : (n + m) * bytes ≤ 1000000 * 1000 := Nat.mul_le_mul hn hby
    omega
  · intro g cap w' a1 a2 a3 a4
    rw [← E.cells_append] at a1
    exact h g cap w' a1 a2 a3 a4
end Go.Proofs.YtpfhljidjnagkaaDoor

/- Frames in memory. -/
namespace Go.Proofs.YtpfhljidjnagkaaDoor
open Go.ChangeShapes Go.WideShapes Go.ChangeAt Go.RowKit
set_option linter.unusedVariables false

theorem info_int10 : (Tryd.prog.info? 3).map (fun i => (i.zero, i.size, i.bytes)) = some (some (.int .i64 0), 1, 8) := by kernel_rfl
theorem intTy10 : ElemTy 24 3 1 8 :=
  ⟨Tryd.underlying24, by
    obtain ⟨i, h1, h2, h3, h4⟩ := info_parts info_int10
    exact ⟨i, _, h1, h2, h3, h4, rfl⟩⟩
theorem ethTy : BoxTy 26 5 := ⟨⟨_, Tryd.underlying26⟩, by kernel_rfl⟩
/-- A frame's cells. -/
def ethC (x : EthR) (A : Option Addr) (c : Nat) : Array Value := #[.int .u64 (x.dst : Int), .int .u64 (x.src : Int), .slice A x.vl.length c, .int .i64 x.ty, .string (str x.pay)]
/-- What Decode leaves. -/
def DecP (w : World) (R : EthR × Nat) (e : Ending) (w' : World) : Prop :=
  ∃ A cap, e = .returned (.tuple #[.agg #[.int .u64 (R.1.dst : Int), .int .u64 (R.1.src : Int), .slice A R.1.vl.length cap, .int .i64 R.1.ty, .string (str R.1.pay)], .int .i64 (R.2 : Int)]) ∧ RowL EInt w' A R.1.vl ∧ (A = none → cap = 0) ∧ Below w.heap.size w w'
/-- Value, met by text. -/
theorem val_any (s : ByteArray) (L : List UInt8) (h : s = str L) (hl : L.length ≤ 7) (w : World) :
    Calls Tryd.prog 23 #[.string s] w fun e w' => e = .returned (.int .i64 (num L : Nat)) ∧ w = w' := by
  subst h
  have := value_any (str L) w (by rw [str_size]; exact hl)
  rwa [str_toList] at this
/-- Put of a number that fits. -/
theorem putB_any (k n : Nat) (N Z : Int) (hN : (n : Int) = N) (hZ : (k : Int) = Z) (hk : 1 ≤ k) (hk7 : k ≤ 7) (hn : n < 256 ^ k) (w : World) :
    Calls Tryd.prog 27 #[.int .i64 N, .int .i64 Z] w fun e w' => e = .returned (.string (str (beL k n))) ∧ Below w.heap.size w w' := by
  subst hN hZ
  obtain ⟨j, rfl⟩ : ∃ j, k = j + 1 := ⟨k - 1, by omega⟩
  have := rput_yes j (n : Int) ((j + 1 : Nat) : Int) w (by omega) (by omega) (by omega) (by rw [Int.toNat_natCast]; exact hn)
  rwa [Int.toNat_natCast] at this
theorem rtag_any (t : Nat) (w : World) (ht : t < 9223372036854775808) :
    Calls Tryd.prog 24 #[.int .i64 (t : Int)] w fun e w' => e = .returned (.bool (decide (tgN t))) ∧ w = w' := by
  by_cases h1 : t = 33024
  · subst h1
    go_enter Tryd.func24, Tryd.ntmps24
    go_wp2_with fail
    go_ret
    exact ⟨rfl, rfl⟩
  · have e1 : ((t : Int) == 33024) = false := by rw [beq_eq_false_iff_ne]; omega
    have n1 : ¬ (t : Int) = 33024 := by omega
    by_cases h2 : t = 34984
    · subst h2
      go_enter Tryd.func24, Tryd.ntmps24
      go_wp2_with fail
      go_ret
      exact ⟨rfl, rfl⟩
    · have e2 : ((t : Int) == 34984) = false := by rw [beq_eq_false_iff_ne]; omega
      have n2 : ¬ (t : Int) = 34984 := by omega
      have h3 : decide (tgN t) = false := decide_eq_false (by unfold tgN; omega)
      rw [h3]
      clear h1 h2 h3
      go_enter Tryd.func24, Tryd.ntmps24
      go_wp2_with fail
      go_ret
      exact ⟨rfl, rfl⟩
end Go.Proofs.YtpfhljidjnagkaaDoor

/- The table of tag types in memory; isTagType of the program. -/
namespace Go.Proofs.YtpfhljidjnagkaaDoor
open Go.ChangeShapes Go.WideShapes Go.ChangeAt Go.RowKit
set_option linter.unusedVariables false

theorem lt_of_cell10 {w : World} {g i : Nat} {v : Value} (h : w.cell? ⟨g, i, none⟩ = some v) : g < w.heap.size := by
  apply Decidable.byContradiction
  intro hn
  have : w.heap[g]? = none := Array.getElem?_eq_none (by omega)
  simp [World.cell?, this] at h
/-- The table of tag types. -/
structure TG (w : World) : Prop where
  t0 : w.cell? ⟨0, 0, none⟩ = some (.int .i64 33024)
  t1 : w.cell? ⟨0, 1, none⟩ = some (.int .i64 34984)
theorem TG.kept {w w' : World} (h : TG w) (hb : Below w.heap.size w w') : TG w' := by
  have hlt := lt_of_cell10 h.t0
  have e : ∀ i, w'.cell? ⟨0, i, none⟩ = w.cell? ⟨0, i, none⟩ := fun i => World.cell?_of_block (hb.block _ hlt)
  exact ⟨(e 0).trans h.t0, (e 1).trans h.t1⟩
/-- .. and behind what writes blocks at or above a number B above the table's. -/
theorem TG.on {B : Nat} {w w' : World} (h : TG w) (hb : Below B w w') (hB : w.heap.size ≤ B) : TG w' := h.kept (hb.mono hB)
theorem TG.drew {w : World} (h : TG w) : TG w.drew := ⟨h.t0, h.t1⟩
/-- A tag type, as a number of the program. -/
def tgI (t : Int) : Prop := t = 33024 ∨ t = 34984
instance (t : Int) : Decidable (tgI t) := inferInstanceAs (Decidable (t = 33024 ∨ t = 34984))
theorem tgI_nat (t : Nat) : tgI (t : Int) ↔ tgN t := by unfold tgI tgN; omega
set_option maxHeartbeats 2000000 in
set_option maxRecDepth 20000 in
theorem ptag_any (t : Int) (w : World) (h : TG w) :
    Calls Tryd.prog 20 #[.int .i64 t] w fun e w' => e = .returned (.bool (decide (tgI t))) ∧ w = w' := by
  have t0 := h.t0
  have t1 := h.t1
  have i0 : ∀ W, (Instr.index 47 (.agg #[.int .i64 33024, .int .i64 34984]) (.int .i64 0)).run Tryd.prog W = .ok (.int .i64 33024) W := fun _ => by kernel_rfl
  have i1 : ∀ W, (Instr.index 47 (.agg #[.int .i64 33024, .int .i64 34984]) (.int .i64 1)).run Tryd.prog W = .ok (.int .i64 34984) W := fun _ => by kernel_rfl
  by_cases h0 : t = 33024
  · subst h0
    have hd : decide (tgI 33024) = true := by decide
    rw [hd]
    clear hd
    go_enter Tryd.func20, Tryd.ntmps20
    go_wp2_with fail
    go_loopw [6] (fun v6 wr => v6 = .int .i64 0 ∧ w = wr) (fun v6 _ => 2 - (intOf v6).toNat)
    case atStart => exact ⟨rfl, rfl⟩
    case round =>
      obtain ⟨rfl, rfl⟩ := hrel
      go_wp2_with fail
      go_ret
      exact ⟨rfl, rfl⟩
  · have e0 : (t == (33024 : Int)) = false := by rw [beq_eq_false_iff_ne]; exact h0
    by_cases h1 : t = 34984
    · subst h1
      have hd : decide (tgI 34984) = true := by decide
      rw [hd]
      clear hd h0
      go_enter Tryd.func20, Tryd.ntmps20
      go_wp2_with fail
      go_loopw [6] (fun v6 wr => (v6 = .int .i64 0 ∨ v6 = .int .i64 1) ∧ w = wr) (fun v6 _ => 2 - (intOf v6).toNat)
      case atStart => exact ⟨.inl rfl, rfl⟩
      case round =>
        obtain ⟨hv, rfl⟩ := hrel
        rcases hv with rfl | rfl
        · go_wp2_with fail
          go_roundw
          case rel => exact ⟨.inr rfl, by trivial⟩
          case measure => simp [intOf]
        · go_wp2_with fail
          go_ret
          exact ⟨rfl, rfl⟩
    · have e1 : (t == (34984 : Int)) = false := by rw [beq_eq_false_iff_ne]; exact h1
      have hd : decide (tgI t) = false := decide_eq_false (by unfold tgI; omega)
      rw [hd]
      clear hd
      go_enter Tryd.func20, Tryd.ntmps20
      go_wp2_with fail
      go_loopw [6] (fun v6 wr => (v6 = .int .i64 0 ∨ v6 = .int .i64 1 ∨ v6 = .int .i64 2) ∧ w = wr) (fun v6 _ => 2 - (intOf v6).toNat)
      case atStart => exact ⟨.inl rfl, rfl⟩
      case round =>
        obtain ⟨hv, rfl⟩ := hrel
        rcases hv with rfl | rfl | rfl
        · go_wp2_with fail
          go_roundw
          case rel => exact ⟨.inr (.inl rfl), by trivial⟩
          case measure => simp [intOf]
        · go_wp2_with fail
          go_roundw
          case rel => exact ⟨.inr (.inr rfl), by trivial⟩
          case measure => simp [intOf]
        · go_wp2_with fail
          go_ret
          exact ⟨rfl, rfl⟩
end Go.Proofs.YtpfhljidjnagkaaDoor

/- Contract of the reference of layer 10: Decode. -/
namespace Go.Proofs.YtpfhljidjnagkaaDoor
open Go.ChangeShapes Go.WideShapes Go.ChangeAt Go.RowKit
set_option linter.unusedVariables false

theorem extract_str10 (s : ByteArray) (L : List UInt8) (h : s = str L) (a b : Nat) : s.extract a b = str ((L.drop a).take (b - a)) := by
  subst h
  have : str ((str L).extract a b).data.toList = (str L).extract a b := str_of _
  rw [← this]
  congr 1
  have e := str_toList L
  simp only [ByteArray.data_extract, Array.toList_extract, List.extract_eq_take_drop, e]
/-- What is left to decode. -/
def DecS (S : List UInt8) (D : Nat × List Int × Nat × List UInt8) (v : List Int) (p : Nat) : Prop := p = 12 + 4 * v.length ∧ v.length ≤ 2 ∧ D = decV (3 - v.length) (S.drop p) v
theorem DecS.cases {S : List UInt8} {D : Nat × List Int × Nat × List UInt8} {v : List Int} {p : Nat} (h : DecS S D v p) :
    (S.length < p + 2 ∧ D = (1, [], 0, [])) ∨ (p + 2 ≤ S.length ∧
      ((tgN (num ((S.drop p).take 2)) ∧ ((v.length = 2 ∧ D = (9, [], 0, [])) ∨ (v.length ≠ 2 ∧ S.length < p + 2 + 2 ∧ D = (1, [], 0, [])) ∨ (v.length ≠ 2 ∧ p + 4 ≤ S.length ∧ DecS S D (v ++ [((num ((S.drop (p + 2)).take 2) % 4096 : Nat) : Int)]) (p + 4)))) ∨
       (¬ tgN (num ((S.drop p).take 2)) ∧ ((num ((S.drop p).take 2) < 1536 ∧ D = (2, [], 0, [])) ∨ (1536 ≤ num ((S.drop p).take 2) ∧ D = (0, v, num ((S.drop p).take 2), S.drop (p + 2))))))) := by
  obtain ⟨hp, hv, hD⟩ := h
  obtain ⟨f, hf⟩ : ∃ f, 3 - v.length = f + 1 := ⟨2 - v.length, by omega⟩
  rw [hf, decV, List.length_drop] at hD
  by_cases h1 : S.length < p + 2
  · exact .inl ⟨h1, by rw [hD, if_pos (by omega)]⟩
  · refine .inr ⟨by omega, ?_⟩
    rw [if_neg (by omega)] at hD
    by_cases h2 : tgN (num ((S.drop p).take 2))
    · refine .inl ⟨h2, ?_⟩
      rw [if_pos h2] at hD
      by_cases h3 : v.length = 2
      · exact .inl ⟨h3, by rw [hD, if_pos h3]⟩
      · rw [if_neg h3] at hD
        rw [List.length_drop, List.length_drop] at hD
        by_cases h4 : S.length < p + 2 + 2
        · exact .inr (.inl ⟨h3, h4, by rw [hD, if_pos (by omega)]⟩)
        · refine .inr (.inr ⟨h3, by omega, by rw [List.length_append]; simp; omega, by rw [List.length_append]; simp; omega, ?_⟩)
          rw [if_neg (by omega)] at hD
          have e1 : 3 - (v ++ [((num ((S.drop (p + 2)).take 2) % 4096 : Nat) : Int)]).length = f := by rw [List.length_append]; simp; omega
          have e2 : ((S.drop p).drop 2).drop 2 = S.drop (p + 4) := by rw [List.drop_drop, List.drop_drop]
          have e3 : (S.drop p).drop 2 = S.drop (p + 2) := List.drop_drop ..
          rw [e1, hD, e2, e3]
    · refine .inr ⟨h2, ?_⟩
      rw [if_neg h2] at hD
      by_cases h3 : num ((S.drop p).take 2) < 1536
      · exact .inl ⟨h3, by rw [hD, if_pos h3]⟩
      · rw [if_neg h3, List.drop_drop] at hD
        exact .inr ⟨by omega, hD⟩
/-- The result. -/
def outE (S : List UInt8) (D : Nat × List Int × Nat × List UInt8) : EthR × Nat := if D.1 ≠ 0 then (zeroE, D.1) else (⟨num (S.take 6), num ((S.drop 6).take 6), D.2.1, D.2.2.1, D.2.2.2⟩, 0)
theorem decE_out {S : List UInt8} (h : ¬ S.length < 14) : decE S = outE S (decV 3 (S.drop 12) []) := by unfold decE outE; rw [if_neg h]
theorem ethZ (w : World) (g : Nat) {cs : Array Value} (h : Cells w g 26 cs) (hl : cs.size = 5) : Cells (putB w g 0 [.int .u64 0, .int .u64 0, .slice none 0 0, .int .i64 0, .string ⟨#[]⟩]) g 26 #[.int .u64 0, .int .u64 0, .slice none 0 0, .int .i64 0, .string ⟨#[]⟩] := h.put _ (by simp [hl])
set_option maxHeartbeats 4000000 in
set_option maxRecDepth 20000 in
theorem rdec10_any (S : List UInt8) (w : World) (hs : S.length ≤ 1000000) :
    Calls Tryd.prog 10 #[.string (str S)] w (DecP w (decE S)) := by
  have hsz : (str S).size = S.length := str_size S
  obtain ⟨s, hS⟩ : ∃ s, s = str S := ⟨_, rfl⟩
  rw [← hS] at hsz ⊢
  obtain ⟨R, hR⟩ : ∃ R, R = decE S := ⟨_, rfl⟩
  rw [← hR]
  have HB0 := Lib.hid (below_alloc6 w (.cells #[.int .u64 0, .int .u64 0, .slice none 0 0, .int .i64 0, .string ⟨#[]⟩] 26))
  have HG0 := Lib.hid (show Cells (w.alloc (.cells #[.int .u64 0, .int .u64 0, .slice none 0 0, .int .i64 0, .string ⟨#[]⟩] 26)) w.heap.size 26 #[.int .u64 0, .int .u64 0, .slice none 0 0, .int .i64 0, .string ⟨#[]⟩] from heap_alloc_new w _)
  have HERR := Lib.hid (fun (wz : World) (er : Nat) (E : Int) (hE : (er : Int) = E) (hr : R = (zeroE, er)) (hb : Below w.heap.size w wz) => show DecP w R (.returned (.tuple #[.agg #[.int .u64 0, .int .u64 0, .slice none 0 0, .int .i64 0, .string ⟨#[]⟩], .int .i64 E])) wz from by
    subst hE
    rw [hr]
    exact ⟨none, 0, rfl, RowL.nil _ _, fun _ => rfl, hb⟩)
  by_cases h14 : S.length < 14
  · have hR2 := Lib.hid (show R = (zeroE, 1) by rw [hR]; unfold decE; rw [if_pos h14])
    have d14 : decide ((s.size : Int) < 14) = true := by simp; omega
    have n14 : (s.size : Int) < 14 := by omega
    clear hR hS hsz h14
    go_enter Tryd.func10, Tryd.ntmps10
    go_wp2_with fail
    refine bodyPost_ret (res_box2 ethTy rfl _ _ rfl HG0.out) rfl ?_
    exact HERR.out _ 1 1 rfl hR2.out HB0.out
  · rw [decE_out h14] at hR
    obtain ⟨D, hD⟩ : ∃ D, D = decV 3 (S.drop 12) [] := ⟨_, rfl⟩
    rw [← hD] at hR
    have HD0 := Lib.hid (show DecS S D [] 12 from ⟨rfl, by simp, hD⟩)
    have HRR := Lib.hid hR
    have HSS := Lib.hid hS
    have HSZ := Lib.hid hsz
    have d14 : decide ((s.size : Int) < 14) = false := by simp; omega
    have n14 : ¬ (s.size : Int) < 14 := by omega
    have n14' : 14 ≤ s.size := by omega
    have i6 : (6 : Int) ≤ (s.size : Int) := by omega
    have i12 : (12 : Int) ≤ (s.size : Int) := by omega
    have hs6 : s.size ≤ 1000000 := by omega
    have hl1 : (S.take 6).length = 6 := by rw [List.length_take]; omega
    have hl2 : ((S.drop 6).take 6).length = 6 := by rw [List.length_take, List.length_drop]; omega
    have hn1 := num_lt (S.take 6)
    have hn2 := num_lt ((S.drop 6).take 6)
    rw [hl1] at hn1
    rw [hl2] at hn2
    have HV1 := Lib.hid (fun (W : World) => val_any (s.extract 0 6) (S.take 6) (by rw [extract_str10 s S hS, List.drop_zero]) (by omega) W)
    have HV2 := Lib.hid (fun (W : World) => val_any (s.extract 6 12) ((S.drop 6).take 6) (extract_str10 s S hS 6 12) (by omega) W)
    clear hl1 hl2 hR hD hS hsz h14 hs
    obtain ⟨a, ha⟩ : ∃ a, a = num (S.take 6) := ⟨_, rfl⟩
    obtain ⟨b, hb⟩ : ∃ b, b = num ((S.drop 6).take 6) := ⟨_, rfl⟩
    rw [← ha] at hn1 HV1
    rw [← hb] at hn2 HV2
    have HAB := Lib.hid (And.intro ha hb)
    clear ha hb
    have hn1' : a < 281474976710656 := by omega
    have hn2' : b < 281474976710656 := by omega
    have ua : IntKind.u64.wrap (a : Int) = (a : Int) := by rw [IntKind.wrap_u64]; omega
    have ub : IntKind.u64.wrap (b : Int) = (b : Int) := by rw [IntKind.wrap_u64]; omega
    clear hn1 hn2
    go_enter Tryd.func10, Tryd.ntmps10
    go_wp2_with fail
    go_region_held3 (fun _ => True) (trivial) (first
      | (go_at_call_of 23 (Value.string (s.extract 0 6)); refine (HV1.out _).mono ?_; rintro e w5 ⟨rfl, rfl⟩)
      | (go_at_call_of 23 (Value.string (s.extract 6 12)); refine (HV2.out _).mono ?_; rintro e w5 ⟨rfl, rfl⟩))
    all_goals
      obtain ⟨W1, hW1⟩ : ∃ W, W = ((w.alloc (.cells #[.int .u64 0, .int .u64 0, .slice none 0 0, .int .i64 0, .string ⟨#[]⟩] 26)).alloc (.cells #[.int .u64 (a : Int), .int .u64 (b : Int), .slice none 0 0, .int .i64 0, .string ⟨#[]⟩] 26)).drew := ⟨_, rfl⟩
      obtain ⟨gx, hgx⟩ : ∃ g, g = w.heap.size + 1 := ⟨_, rfl⟩
      obtain ⟨g0, hg0⟩ : ∃ g, g = w.heap.size := ⟨_, rfl⟩
      have HX1 := Lib.hid (show Cells W1 gx 26 #[.int .u64 (a : Int), .int .u64 (b : Int), .slice none 0 0, .int .i64 0, .string ⟨#[]⟩] by rw [hW1, hgx]; exact heap2 w _ _)
      have HG1 := Lib.hid (show Cells W1 g0 26 #[.int .u64 0, .int .u64 0, .slice none 0 0, .int .i64 0, .string ⟨#[]⟩] by rw [hW1, hg0]; exact alloc2_0 w _ _)
      have HB1 := Lib.hid (show Below w.heap.size w W1 by rw [hW1]; have hb2 := alloc2_below w (.cells #[.int .u64 0, .int .u64 0, .slice none 0 0, .int .i64 0, .string ⟨#[]⟩] 26) (.cells #[.int .u64 (a : Int), .int .u64 (b : Int), .slice none 0 0, .int .i64 0, .string ⟨#[]⟩] 26); exact ⟨hb2.os, hb2.tape, hb2.output, hb2.size, hb2.block⟩)
      have HGX := Lib.hid (show g0 < gx by omega)
      have HG0E := Lib.hid (show w.heap.size ≤ g0 by omega)
      rw [← hW1, ← hgx, ← hg0]
      clear hW1 hgx hg0 HB0 HG0 ua ub d14 n14 i6 i12 HV1 HV2
      go_wp2_with fail
      go_loopw [5] (fun v5 wr => ∃ (p n : Nat) (v : List Int) (A' : Option Addr) (c' : Nat), v5 = .int .i64 p ∧ p ≤ s.size ∧ p ≤ 20 ∧ n ≤ 2 ∧ Hid (n = v.length) ∧ Hid (DecS S D v p) ∧ Hid (Cells wr gx 26 #[.int .u64 (a : Int), .int .u64 (b : Int), .slice A' n c', .int .i64 0, .string ⟨#[]⟩]) ∧ Hid (Cells wr g0 26 #[.int .u64 0, .int .u64 0, .slice none 0 0, .int .i64 0, .string ⟨#[]⟩]) ∧ Hid (wr.ownsRow (gx + 1) 3 1 (.slice A' n c') n (EInt.cells v)) ∧ Hid (Below w.heap.size w wr)) (fun v5 _ => 24 - (intOf v5).toNat)
      case atStart => exact ⟨12, 0, [], none, 0, rfl, by omega, by omega, by omega, Lib.hid rfl, HD0, HX1, HG1, Lib.hid (World.ownsRow_nil _ _ _ _), HB1⟩
      case round =>
        clear HX1 HG1 HB1 HD0
        obtain ⟨p, n, v, A', c', rfl, hp, hp20, hn2, HN, HDS, HX, HG, HO, HB⟩ := hrel
        obtain ⟨p2, hp2⟩ : ∃ p2, p2 = p + 2 := ⟨_, rfl⟩
        obtain ⟨p4, hp4⟩ : ∃ p4, p4 = p2 + 2 := ⟨_, rfl⟩
        obtain ⟨q, hq⟩ : ∃ q, q = s.size - p := ⟨_, rfl⟩
        have hqi : (s.size : Int) - (p : Int) = (q : Int) := by omega
        have p2i : (p : Int) + 2 = (p2 : Int) := by omega
        have p4i : (p2 : Int) + 2 = (p4 : Int) := by omega
        have hp0 : (0 : Int) ≤ (p : Int) := by omega
        have hp20' : (0 : Int) ≤ (p2 : Int) := by omega
        have hg0l := HG.out.lt
        have f0 := Cells.frozen HG.out 0
        have f1 := Cells.frozen HG.out 1
        have f2 := Cells.frozen HG.out 2
        have f3 := Cells.frozen HG.out 3
        have f4 := Cells.frozen HG.out 4
        have e0 := (Cells.cell HG.out 0).trans (show _ = some (Value.int .u64 0) from rfl)
        have e1 := (Cells.cell HG.out 1).trans (show _ = some (Value.int .u64 0) from rfl)
        have e2 := (Cells.cell HG.out 2).trans (show _ = some (Value.slice none 0 0) from rfl)
        have e3 := (Cells.cell HG.out 3).trans (show _ = some (Value.int .i64 0) from rfl)
        have e4 := (Cells.cell HG.out 4).trans (show _ = some (Value.string ⟨#[]⟩) from rfl)
        have hcs := HDS.out.cases
        rw [← HSZ.out, show p + 4 = p + 2 + 2 from rfl, ← hp2, ← hp4] at hcs
        have HP2 := Lib.hid hp2
        clear hp2 hp4
        rcases hcs with ⟨hlt, hD⟩ | ⟨hge, hcs⟩
        · have hR1 := Lib.hid (show R = (zeroE, 1) by rw [HRR.out, hD]; rfl)
          have dq : decide ((q : Int) < 2) = true := by simp; have := HP2.out; omega
          have nq : (q : Int) < 2 := by have := HP2.out; omega
          clear hD hlt hq HDS
          go_wp2_with fail
          refine bodyPost_ret (res_box2 ethTy rfl _ _ rfl (HG.out.put [.int .u64 0, .int .u64 0, .slice none 0 0, .int .i64 0, .string ⟨#[]⟩] rfl)) rfl ?_
          exact HERR.out _ 1 1 rfl hR1.out (putB_below HG0E.out [.int .u64 0, .int .u64 0, .slice none 0 0, .int .i64 0, .string ⟨#[]⟩] 0 _ HB.out)
        · have dq : decide ((q : Int) < 2) = false := by simp; have := HP2.out; omega
          have nq : ¬ (q : Int) < 2 := by have := HP2.out; omega
          have hpp2 : p ≤ p2 := by have := HP2.out; omega
          have hpp2i : (p : Int) ≤ (p2 : Int) := by omega
          have hp2s : (p2 : Int) ≤ (s.size : Int) := by omega
          have hexl : ((S.drop p).take 2).length = 2 := by rw [List.length_take, List.length_drop, ← HSZ.out]; have := HP2.out; omega
          have htl := num_lt ((S.drop p).take 2)
          rw [hexl] at htl
          have HVT := Lib.hid (fun (W : World) => val_any (s.extract p p2) ((S.drop p).take 2) (by rw [extract_str10 s S HSS.out, show p2 - p = 2 by have := HP2.out; omega]) (by omega) W)
          obtain ⟨T, hT⟩ : ∃ T, T = num ((S.drop p).take 2) := ⟨_, rfl⟩
          rw [← hT] at htl hcs HVT
          have ht5 : T < 65536 := by omega
          have HTG := Lib.hid (fun (W : World) => rtag_any T W (by omega))
          clear hexl htl hT hq HDS
          rcases hcs with ⟨htg, hcs⟩ | ⟨htg, hcs⟩
          · have htd : decide (tgN T) = true := decide_eq_true htg
            rw [htd] at HTG
            clear htd htg
            obtain ⟨q2, hq2⟩ : ∃ q2, q2 = s.size - p2 := ⟨_, rfl⟩
            have hqi2 : (s.size : Int) - (p2 : Int) = (q2 : Int) := by omega
            have x2 := (Cells.cell HX.out 2).trans (show _ = some (Value.slice A' n c') from rfl)
            have hgxl := HX.out.lt
            rcases hcs with ⟨h2, hD⟩ | ⟨h2, hlt, hD⟩ | ⟨h2, hge4, hDS⟩
            · have hR1 := Lib.hid (show R = (zeroE, 9) by rw [HRR.out, hD]; rfl)
              obtain rfl : n = 2 := HN.out.trans h2
              clear hD h2 hq2
              go_wp2_with fail
              refine (HVT.out _).mono ?_
              rintro e w5 ⟨rfl, rfl⟩
              go_wp2_with fail
              refine (HTG.out _).mono ?_
              rintro e w5 ⟨rfl, rfl⟩
              go_wp2_with fail
              refine bodyPost_ret (res_box2 ethTy rfl _ _ rfl (HG.out.put [.int .u64 0, .int .u64 0, .slice none 0 0, .int .i64 0, .string ⟨#[]⟩] rfl)) rfl ?_
              exact HERR.out _ 9 9 rfl hR1.out (putB_below HG0E.out [.int .u64 0, .int .u64 0, .slice none 0 0, .int .i64 0, .string ⟨#[]⟩] 0 _ HB.out)
            · have hR1 := Lib.hid (show R = (zeroE, 1) by rw [HRR.out, hD]; rfl)
              have n2 : ¬ (n : Int) = 2 := by have := HN.out; omega
              have e2n : ((n : Int) == 2) = false := by rw [beq_eq_false_iff_ne]; exact n2
              have dq2 : decide ((q2 : Int) < 2) = true := by simp; omega
              have nq2 : (q2 : Int) < 2 := by omega
              clear hD h2 hlt hq2
              go_wp2_with fail
              refine (HVT.out _).mono ?_
              rintro e w5 ⟨rfl, rfl⟩
              go_wp2_with fail
              refine (HTG.out _).mono ?_
              rintro e w5 ⟨rfl, rfl⟩
              go_wp2_with fail
              refine bodyPost_ret (res_box2 ethTy rfl _ _ rfl (HG.out.put [.int .u64 0, .int .u64 0, .slice none 0 0, .int .i64 0, .string ⟨#[]⟩] rfl)) rfl ?_
              exact HERR.out _ 1 1 rfl hR1.out (putB_below HG0E.out [.int .u64 0, .int .u64 0, .slice none 0 0, .int .i64 0, .string ⟨#[]⟩] 0 _ HB.out)
            · have n2 : ¬ (n : Int) = 2 := by have := HN.out; omega
              have e2n : ((n : Int) == 2) = false := by rw [beq_eq_false_iff_ne]; exact n2
              have n1 : n ≤ 1 := by have := HN.out; omega
              have dq2 : decide ((q2 : Int) < 2) = false := by simp; omega
              have nq2 : ¬ (q2 : Int) < 2 := by omega
              have hpp4 : (p2 : Int) ≤ (p4 : Int) := by omega
              have hp4s : (p4 : Int) ≤ (s.size : Int) := by omega
              have hp4n : p4 ≤ s.size := by omega
              have hpp4n : p2 ≤ p4 := by omega
              have hdv := hDS.2.1
              rw [List.length_append] at hdv
              have hexl : ((S.drop p2).take 2).length = 2 := by rw [List.length_take, List.length_drop, ← HSZ.out]; omega
              have htl := num_lt ((S.drop p2).take 2)
              rw [hexl] at htl
              have HVX := Lib.hid (fun (W : World) => val_any (s.extract p2 p4) ((S.drop p2).take 2) (by rw [extract_str10 s S HSS.out, show p4 - p2 = 2 by omega]) (by omega) W)
              obtain ⟨X, hX⟩ : ∃ X, X = num ((S.drop p2).take 2) := ⟨_, rfl⟩
              rw [← hX] at htl hDS HVX
              obtain ⟨M, hM⟩ : ∃ M, M = X % 4096 := ⟨_, rfl⟩
              have hMi : (X : Int) % 4096 = (M : Int) := by omega
              rw [← hM] at hDS
              have HDN := Lib.hid hDS
              have HP24 := Lib.hid (show p4 = p2 + 2 by omega)
              have hp420 : p4 ≤ 20 := by have h1 := HDN.out.1; have h2 := HDN.out.2.1; omega
              have hX5 : X < 65536 := by omega
              have hgg := HGX.out
              have z2 := Cells.frozen HX.out 2
              have wp4 : IntKind.i64.wrap (p4 : Int) = (p4 : Int) := by rw [IntKind.wrap_i64]; omega
              have wp24 : IntKind.i64.wrap ((p2 : Int) + 2) = (p4 : Int) := by rw [IntKind.wrap_i64]; omega
              clear hDS hdv hexl htl hX hM h2 hge4 hq2 f0 f1 f2 f3 f4 e0 e1 e2 e3 e4
              go_wp2_with fail
              refine (HVT.out _).mono ?_
              rintro e w5 ⟨rfl, rfl⟩
              go_wp2_with fail
              refine (HTG.out _).mono ?_
              rintro e w5 ⟨rfl, rfl⟩
              go_wp2_with fail
              have HTM := Lib.hid (show (X : Int).tmod 4096 = (M : Int) by rw [Int.tmod_eq_emod_of_nonneg (by omega)]; exact hMi)
              have HOA := Lib.hid ((HO.out.alloc (.cells #[.int .i64 ((X : Int).tmod 4096)] 3)).drew)
              have HBA := Lib.hid (show gx + 1 ≤ ((wr.alloc (.cells #[.int .i64 ((X : Int).tmod 4096)] 3)).drew).heap.size by
                have h1 := HX.out.lt
                have h2 : ((wr.alloc (.cells #[.int .i64 ((X : Int).tmod 4096)] 3)).drew).heap.size = wr.heap.size + 1 := by
                  show (wr.alloc _).heap.size = _
                  simp
                omega)
              go_region_law (first
                | (go_simp; refine (HVX.out _).mono ?_; rintro e w5 ⟨rfl, rfl⟩; dsimp only)
                | (refine step_push (E := EInt) intTy10 (by rfl) _ _ (by rfl) (gx + 1) (.slice A' n c') n v [((X : Int).tmod 4096)] (by rfl) HOA.out wr.heap.size 1 1 #[.int .i64 ((X : Int).tmod 4096)] (0, 0) (by rfl) (heap_alloc_new wr _) rfl rfl (by omega) (by omega) (by decide) HBA.out ?_; intro g2 cap2 wz hown hgrow hat hlt2; have hx9 := Cells.only (Cells.drew (Cells.kept HX.out (below_alloc6 wr (.cells #[.int .i64 ((X : Int).tmod 4096)] 3)) hgxl)) hgrow (fun e => by have h7 := (own_blk_in HO.out _ e.symm).1; omega); have i2 := (Cells.cell hx9 2).trans (show _ = some (Value.slice A' n c') from rfl); have j2 := Cells.frozen hx9 2; have jl := Cells.lt hx9))
              all_goals
                have hG9 := Cells.only (Cells.drew (Cells.kept HG.out (below_alloc6 wr (.cells #[.int .i64 ((X : Int).tmod 4096)] 3)) hg0l)) hgrow (fun e => by have h7 := (own_blk_in HO.out _ e.symm).1; omega)
                have HX9 := Lib.hid (Cells.set hx9 2 (.slice (some ⟨g2, 0, none⟩) (n + 1) cap2))
                have HG9 := Lib.hid (Cells.far hG9 (show g0 ≠ gx by omega) (i := 2) (.slice (some ⟨g2, 0, none⟩) (n + 1) cap2))
                have HO9 := Lib.hid (own_setb (i := 2) (show wz.ownsRow (gx + 1) 3 1 (.slice (some ⟨g2, 0, none⟩) (n + 1) cap2) (n + 1) (EInt.cells (v ++ [((X : Int).tmod 4096)])) from hown) (Nat.lt_succ_self gx) (.slice (some ⟨g2, 0, none⟩) (n + 1) cap2))
                have hB9 := (HB.out.alloc HB.out.size (.cells #[.int .i64 ((X : Int).tmod 4096)] 3)).grown (show (wr.alloc (.cells #[.int .i64 ((X : Int).tmod 4096)] 3)).grownBy wz _ from ⟨hgrow.os, hgrow.tape, hgrow.output, hgrow.size, hgrow.block⟩) (by have := HB.out.size; simp; omega) (fun j hj => by have h7 := (own_blk_in HO.out _ hj).1; have := HG0E.out; omega)
                have HB9 := Lib.hid (hB9.setCell (p := ⟨gx, 2, none⟩) (by have := HG0E.out; simp only; omega) (.slice (some ⟨g2, 0, none⟩) (n + 1) cap2))
                rw [HTM.out] at HO9
                have HNN := Lib.hid (show n + 1 = (v ++ [(M : Int)]).length by rw [List.length_append, HN.out]; rfl)
                clear hown hgrow hat hlt2 hG9 hB9 hx9 i2 j2 jl HX HG HO HB x2 z2 hgg
                go_wp2_with fail
                go_roundw
                case rel => exact ⟨p4, n + 1, v ++ [(M : Int)], some ⟨g2, 0, none⟩, cap2, rfl, hp4n, hp420, by omega, HNN, HDN, HX9, HG9, HO9, HB9⟩
                case measure => have := HP24.out; have := HP2.out; simp [intOf]; omega
          · have htd : decide (tgN T) = false := decide_eq_false htg
            rw [htd] at HTG
            clear htd htg
            rcases hcs with ⟨hlt, hD⟩ | ⟨hge2, hD⟩
            · have hR1 := Lib.hid (show R = (zeroE, 2) by rw [HRR.out, hD]; rfl)
              have dT : decide ((T : Int) < 1536) = true := by simp; omega
              have nT : (T : Int) < 1536 := by omega
              clear hD hlt
              go_wp2_with fail
              refine (HVT.out _).mono ?_
              rintro e w5 ⟨rfl, rfl⟩
              go_wp2_with fail
              refine (HTG.out _).mono ?_
              rintro e w5 ⟨rfl, rfl⟩
              go_wp2_with fail
              refine bodyPost_ret (res_box2 ethTy rfl _ _ rfl (HG.out.put [.int .u64 0, .int .u64 0, .slice none 0 0, .int .i64 0, .string ⟨#[]⟩] rfl)) rfl ?_
              exact HERR.out _ 2 2 rfl hR1.out (putB_below HG0E.out [.int .u64 0, .int .u64 0, .slice none 0 0, .int .i64 0, .string ⟨#[]⟩] 0 _ HB.out)
            · have dT : decide ((T : Int) < 1536) = false := by simp; omega
              have nT : ¬ (T : Int) < 1536 := by omega
              have HEX := Lib.hid (show s.extract p2 s.size = str (S.drop p2) by rw [extract_str10 s S HSS.out, List.take_of_length_le (by rw [List.length_drop, ← HSZ.out]; exact Nat.le_refl _)])
              have HFIN := Lib.hid (show R = (⟨a, b, v, (T : Int), S.drop p2⟩, 0) by rw [HRR.out, hD, HAB.out.1, HAB.out.2]; rfl)
              have x0 := (Cells.cell HX.out 0).trans (show _ = some (Value.int .u64 (a : Int)) from rfl)
              have x1 := (Cells.cell HX.out 1).trans (show _ = some (Value.int .u64 (b : Int)) from rfl)
              have x2 := (Cells.cell HX.out 2).trans (show _ = some (Value.slice A' n c') from rfl)
              have x3 := (Cells.cell HX.out 3).trans (show _ = some (Value.int .i64 0) from rfl)
              have x4 := (Cells.cell HX.out 4).trans (show _ = some (Value.string ⟨#[]⟩) from rfl)
              have z0 := Cells.frozen HX.out 0
              have z1 := Cells.frozen HX.out 1
              have z2 := Cells.frozen HX.out 2
              have z3 := Cells.frozen HX.out 3
              have z4 := Cells.frozen HX.out 4
              have hgxl := HX.out.lt
              have hne : gx ≠ g0 := by have := HGX.out; omega
              have hne' : g0 ≠ gx := by have := HGX.out; omega
              clear hD hge2
              go_wp2_with fail
              refine (HVT.out _).mono ?_
              rintro e w5 ⟨rfl, rfl⟩
              go_wp2_with fail
              refine (HTG.out _).mono ?_
              rintro e w5 ⟨rfl, rfl⟩
              go_wp2_with fail
              obtain rfl := HN.out
              refine bodyPost_ret (res_box2 ethTy rfl _ _ rfl ((Cells.far (Cells.far HG.out hne' _) hne' _).put [.int .u64 (a : Int), .int .u64 (b : Int), .slice A' v.length c', .int .i64 (T : Int), .string (s.extract p2 s.size)] rfl)) rfl ?_
              rw [HFIN.out]
              have hgg := HGX.out
              have hge0 := HG0E.out
              refine ⟨A', c', by rw [HEX.out]; rfl, ?_, ?_, ?_⟩
              · exact rowl_of_own (E := EInt) (own_putb (own_setb (own_setb HO.out (by omega) _) (by omega) _) (by omega) [.int .u64 (a : Int), .int .u64 (b : Int), .slice A' v.length c', .int .i64 (T : Int), .string (s.extract p2 s.size)] 0) rfl
              · intro hA
                have ho := HO.out
                subst hA
                exact (own_none ho).2
              · exact putB_below hge0 [.int .u64 (a : Int), .int .u64 (b : Int), .slice A' v.length c', .int .i64 (T : Int), .string (s.extract p2 s.size)] 0 _ ((HB.out.setCell (p := ⟨gx, 3, none⟩) (show w.heap.size ≤ gx by omega) _).setCell (p := ⟨gx, 4, none⟩) (show w.heap.size ≤ gx by omega) _)
end Go.Proofs.YtpfhljidjnagkaaDoor

/- The program's reader, all of whose blocks lie below a number B: so it stands apart from whatever the caller makes later. -/
namespace Go.Proofs.YtpfhljidjnagkaaDoor
open Go.ChangeShapes Go.WideShapes Go.ChangeAt Go.RowKit
set_option linter.unusedVariables false

/-- A reader at block p below B. -/
def RdB (w : World) (B p : Nat) (l : List UInt8) (err : Int) : Prop :=
  ∃ A cap, p < B ∧ Cells w p 58 #[.slice A l.length cap, .int .i64 err] ∧ Left w p A l cap ∧ (0 < l.length → ∀ a, A = some a → a.block < B)
theorem RdB.rd {w : World} {B p : Nat} {l : List UInt8} {err : Int} (h : RdB w B p l err) : Rd w p l err := by
  obtain ⟨A, cap, _, h1, h2, _⟩ := h
  exact ⟨A, cap, h1, h2⟩
theorem RdB.lt {w : World} {B p : Nat} {l : List UInt8} {err : Int} (h : RdB w B p l err) : p < B := by
  obtain ⟨A, cap, h0, _⟩ := h
  exact h0
theorem RdB.of {w : World} {p : Nat} {l : List UInt8} {err : Int} (h : Rd w p l err) : RdB w w.heap.size p l err := by
  obtain ⟨A, cap, h1, h2⟩ := h
  refine ⟨A, cap, h1.lt, h1, h2, fun hp a ha => ?_⟩
  obtain ⟨g, o, e, _, hlt, _⟩ := h2.2 hp
  rw [e] at ha
  obtain rfl := Option.some.inj ha
  exact hlt
theorem RdB.mono {w : World} {B B' p : Nat} {l : List UInt8} {err : Int} (h : RdB w B p l err) (hB : B ≤ B') : RdB w B' p l err := by
  obtain ⟨A, cap, h0, h1, h2, h3⟩ := h
  exact ⟨A, cap, by omega, h1, h2, fun hp a ha => by have := h3 hp a ha; omega⟩
/-- Whatever writes at or above B. -/
theorem RdB.blocks {w w' : World} {B p : Nat} {l : List UInt8} {err : Int} (h : RdB w B p l err) (hz : w.heap.size ≤ w'.heap.size) (hb : ∀ b, b < B → w'.heap[b]? = w.heap[b]?) : RdB w' B p l err := by
  obtain ⟨A, cap, h0, h1, h2, h3⟩ := h
  refine ⟨A, cap, h0, (hb p h0).trans h1, ⟨h2.1, fun hp => ?_⟩, h3⟩
  obtain ⟨g, o, e, hne, hlt, hc⟩ := h2.2 hp
  have hgB : g < B := h3 hp _ e
  refine ⟨g, o, e, hne, by omega, fun j hj => ?_⟩
  rw [World.cell?_of_block (w := w) (w' := w') (a := ⟨g, o + j, none⟩) (hb g hgB), World.frozen?_of_block (w := w) (w' := w') (a := ⟨g, o + j, none⟩) (hb g hgB)]
  exact hc j hj
theorem RdB.set {w : World} {B p g i : Nat} {l : List UInt8} {err : Int} (h : RdB w B p l err) (hg : B ≤ g) (v : Value) : RdB (w.setCell ⟨g, i, none⟩ v) B p l err :=
  h.blocks (by simp [World.setCell]) (fun b hb => Below.heap_setCell w ⟨g, i, none⟩ v b (by simp only; omega))
theorem RdB.kept {w w' : World} {B p : Nat} {l : List UInt8} {err : Int} (h : RdB w B p l err) (hb : Below w.heap.size w w') (hB : B ≤ w.heap.size) : RdB w' B p l err :=
  h.blocks hb.size (fun b hlt => hb.block b (by omega))
theorem RdB.grown {w w' : World} {B p : Nat} {l : List UInt8} {err : Int} {row : Option Nat} (h : RdB w B p l err) (hg : w.grownBy w' row) (hB : B ≤ w.heap.size) (hr : ∀ g, row = some g → B ≤ g) : RdB w' B p l err :=
  h.blocks hg.size (fun b hlt => hg.block b (by omega) (by intro e; have := hr b e.symm; omega))
theorem nextB_short (B p : Nat) (l : List UInt8) (n : Int) (w : World) (h : RdB w B p l 0) (hm : l.length ≤ 9223372036854775807) (hn : (l.length : Int) < n) :
    Calls Tryd.prog 32 #[.pointer (some ⟨p, 0, none⟩), .int .i64 n, .bool true] w fun e w' => e = .returned (.slice none 0 0) ∧ RdB w' B p l 1 ∧ w.grownBy w' (some p) := by
  obtain ⟨A, cap, h0, hc, hl, h3⟩ := h
  have c0 := hc.cell 0
  have c1 := hc.cell 1
  have f1 := hc.frozen 1
  simp at c0 c1
  have H3 := Lib.hid h3
  clear h3
  go_enter Tryd.func32, Tryd.ntmps32
  go_wp2_with fail
  go_ret
  exact ⟨rfl, ⟨A, cap, h0, hc.set 1 _, hl.only (only_set ..), H3.out⟩, only_set ..⟩
theorem add_block (a : Addr) (n : Nat) : (a.add n).block = a.block := by
  unfold Addr.add
  split <;> rfl
theorem nextB_ok (B p : Nat) (l : List UInt8) (n : Nat) (w : World) (h : RdB w B p l 0) (hm : l.length ≤ 9223372036854775807) (hn : n ≤ l.length) :
    Calls Tryd.prog 32 #[.pointer (some ⟨p, 0, none⟩), .int .i64 n, .bool true] w fun e w' => ∃ A, e = .returned (.slice A n n) ∧ BS w' 0 (.slice A n n) (l.take n) ∧ RdB w' B p (l.drop n) 0 ∧ w.grownBy w' (some p) := by
  obtain ⟨A, cap, h0, hc, hl, h3⟩ := h
  have c0 := hc.cell 0
  have c1 := hc.cell 1
  have f0 := hc.frozen 0
  have hcap := hl.1
  have H3 := Lib.hid h3
  clear h3
  simp at c0 c1
  by_cases hcn : cap = n
  · obtain rfl : cap = l.length := by omega
    subst hcn
    go_enter Tryd.func32, Tryd.ntmps32
    go_wp2_with fail
    go_ret
    have hx := hc.set 0 (.slice A 0 0)
    exact ⟨A, rfl, ((hl.only (only_set w p 0 _)).take _ (Nat.le_refl _)), ⟨A, 0, h0, by simpa using hx, ⟨by simp, by simp⟩, by simp⟩, only_set ..⟩
  · go_enter Tryd.func32, Tryd.ntmps32
    go_wp2_with fail
    go_ret
    have hx := hc.set 0 (.slice (A.map fun x => x.add n) (l.length - n) (cap - n))
    rw [← List.length_drop] at hx
    refine ⟨A, rfl, ((hl.only (only_set w p 0 _)).take _ hn), ⟨_, _, h0, by rw [List.length_drop] at *; exact hx, (hl.drop n hn).only (only_set ..), fun hp a ha => ?_⟩, only_set ..⟩
    rw [List.length_drop] at hp
    obtain ⟨a0, h1, h2⟩ := Option.map_eq_some_iff.1 ha
    have := H3.out (by omega) a0 h1
    rw [← h2, add_block]
    exact this
/-- What a call of Int reads: the number, what is left, the error. -/
def rdI (l : List UInt8) (err n : Nat) : Nat × List UInt8 × Nat := if err ≠ 0 then (0, l, err) else if l.length < n then (0, l, 1) else (num (l.take n), l.drop n, 0)
theorem rdI_lt (l : List UInt8) (err n : Nat) : (rdI l err n).1 < 256 ^ n := by
  have h : 0 < 256 ^ n := Nat.pow_pos (by decide)
  unfold rdI
  split
  · exact h
  · split
    · exact h
    · have := num_lt (l.take n)
      rwa [show (l.take n).length = n by rw [List.length_take]; omega] at this
theorem rdI_len (l : List UInt8) (err n : Nat) : (rdI l err n).2.1.length ≤ l.length := by
  unfold rdI
  split
  · exact Nat.le_refl _
  · split
    · exact Nat.le_refl _
    · rw [List.length_drop]; omega
theorem next_any_err (B p n : Nat) (l : List UInt8) (err : Nat) (w : World) (h : RdB w B p l (err : Int)) (he : err ≠ 0) (h1 : 1 ≤ n) (h7 : n ≤ 7) :
    Calls Tryd.prog 19 #[.pointer (some ⟨p, 0, none⟩), .int .i64 (n : Int)] w fun e w' => e = .returned (.int .i64 ((0 : Nat) : Int)) ∧ RdB w' B p l (err : Int) ∧ w.grownBy w' (some p) := by
  have he' : (err : Int) ≠ 0 := by omega
  have HNX := Lib.hid (fun (W : World) (hh : Rd W p l (err : Int)) => next_err p l (err : Int) (n : Int) true W hh he')
  have HR := Lib.hid h
  clear h he he'
  go_enter Tryd.func19, Tryd.ntmps19
  go_wp2_with fail
  refine (valid_yes n _ (by omega) (by omega)).mono ?_
  rintro e w1 ⟨rfl, rfl⟩
  go_wp2_with fail
  refine (HNX.out _ HR.out.rd).mono ?_
  rintro e w1 ⟨rfl, rfl⟩
  go_wp2_with fail
  refine (number_any none 0 0 [] _ (bs_nil _ _) (by simp)).mono ?_
  rintro e w1 ⟨rfl, rfl⟩
  go_wp2_with fail
  go_ret
  exact ⟨rfl, HR.out, only_refl ..⟩
set_option maxHeartbeats 2000000 in
theorem intB_any (B p n : Nat) (N : Int) (hN : (n : Int) = N) (l : List UInt8) (err : Nat) (w : World) (h : RdB w B p l (err : Int)) (hm : l.length ≤ 9223372036854775807) (h1 : 1 ≤ n) (h7 : n ≤ 7) :
    Calls Tryd.prog 19 #[.pointer (some ⟨p, 0, none⟩), .int .i64 N] w fun e w' => e = .returned (.int .i64 ((rdI l err n).1 : Int)) ∧ RdB w' B p (rdI l err n).2.1 ((rdI l err n).2.2 : Int) ∧ w.grownBy w' (some p) := by
  subst hN
  unfold rdI
  by_cases he : err ≠ 0
  · rw [if_pos he]
    refine (next_any_err B p n l err w h he (by omega) (by omega)).mono ?_
    exact fun e w' h => h
  · obtain rfl : err = 0 := by omega
    rw [if_neg (by simp)]
    by_cases hs : l.length < n
    · rw [if_pos hs]
      go_enter Tryd.func19, Tryd.ntmps19
      go_wp2_with fail
      refine (valid_yes n _ (by omega) (by omega)).mono ?_
      rintro e w1 ⟨rfl, rfl⟩
      go_wp2_with fail
      refine (nextB_short B p l n _ h hm (by omega)).mono ?_
      rintro e w1 ⟨rfl, h1, hg1⟩
      go_wp2_with fail
      refine (number_any none 0 0 [] _ (bs_nil _ _) (by simp)).mono ?_
      rintro e w2 ⟨rfl, rfl⟩
      go_wp2_with fail
      go_ret
      exact ⟨rfl, h1, hg1⟩
    · rw [if_neg hs]
      have hlen : (l.take n).length = n := by rw [List.length_take]; omega
      have HL := Lib.hid hlen
      clear hlen
      have hn : n ≤ l.length := by omega
      clear hs
      go_enter Tryd.func19, Tryd.ntmps19
      go_wp2_with fail
      refine (valid_yes n _ (by omega) (by omega)).mono ?_
      rintro e w1 ⟨rfl, rfl⟩
      go_wp2_with fail
      refine (nextB_ok B p l n _ h hm hn).mono ?_
      rintro e w1 ⟨A, rfl, hbs, h2, hg1⟩
      go_wp2_with fail
      have hc := number_any A n 0 (l.take n) w1 (by rw [HL.out]; exact hbs) (by rw [HL.out]; exact h7)
      rw [HL.out] at hc
      refine hc.mono ?_
      rintro e w2 ⟨rfl, rfl⟩
      go_wp2_with fail
      go_ret
      exact ⟨rfl, h2, hg1⟩
end Go.Proofs.YtpfhljidjnagkaaDoor

/- Contract of the program of layer 10: Decode. -/
namespace Go.Proofs.YtpfhljidjnagkaaDoor
open Go.ChangeShapes Go.WideShapes Go.ChangeAt Go.RowKit
set_option linter.unusedVariables false

/-! ### How far the reading is -/
def InvD (S : List UInt8) (R : EthR × Nat) (a b t : Nat) (v : List Int) (l : List UInt8) (err : Nat) : Prop :=
  (err = 1 ∧ t = 0 ∧ R = (zeroE, 1)) ∨ (err = 0 ∧ ∃ D p, a = num (S.take 6) ∧ b = num ((S.drop 6).take 6) ∧ R = outE S D ∧ DecS S D v p ∧ p + 2 ≤ S.length ∧ t = num ((S.drop p).take 2) ∧ l = S.drop (p + 2))
theorem rdI_bad (l : List UInt8) (n : Nat) : rdI l 1 n = (0, l, 1) := by unfold rdI; rw [if_pos (by decide)]
theorem rdI_short {l : List UInt8} {n : Nat} (h : l.length < n) : rdI l 0 n = (0, l, 1) := by unfold rdI; rw [if_neg (by simp), if_pos h]
theorem rdI_ok {l : List UInt8} {n : Nat} (h : ¬ l.length < n) : rdI l 0 n = (num (l.take n), l.drop n, 0) := by unfold rdI; rw [if_neg (by simp), if_neg h]
theorem InvD.start (S : List UInt8) : InvD S (decE S) (rdI S 0 6).1 (rdI (rdI S 0 6).2.1 (rdI S 0 6).2.2 6).1
    (rdI (rdI (rdI S 0 6).2.1 (rdI S 0 6).2.2 6).2.1 (rdI (rdI S 0 6).2.1 (rdI S 0 6).2.2 6).2.2 2).1 []
    (rdI (rdI (rdI S 0 6).2.1 (rdI S 0 6).2.2 6).2.1 (rdI (rdI S 0 6).2.1 (rdI S 0 6).2.2 6).2.2 2).2.1
    (rdI (rdI (rdI S 0 6).2.1 (rdI S 0 6).2.2 6).2.1 (rdI (rdI S 0 6).2.1 (rdI S 0 6).2.2 6).2.2 2).2.2 := by
  by_cases h14 : S.length < 14
  · have hR : decE S = (zeroE, 1) := by unfold decE; rw [if_pos h14]
    rw [hR]
    by_cases h6 : S.length < 6
    · rw [rdI_short h6]
      simp only [rdI_bad]
      exact .inl ⟨rfl, rfl, rfl⟩
    · rw [rdI_ok h6]
      by_cases h12 : S.length < 12
      · rw [rdI_short (show (S.drop 6).length < 6 by rw [List.length_drop]; omega)]
        simp only [rdI_bad]
        exact .inl ⟨rfl, rfl, rfl⟩
      · rw [rdI_ok (show ¬ (S.drop 6).length < 6 by rw [List.length_drop]; omega)]
        simp only
        rw [rdI_short (show ((S.drop 6).drop 6).length < 2 by rw [List.length_drop, List.length_drop]; omega)]
        exact .inl ⟨rfl, rfl, rfl⟩
  · rw [rdI_ok (show ¬ S.length < 6 by omega)]
    simp only
    rw [rdI_ok (show ¬ (S.drop 6).length < 6 by rw [List.length_drop]; omega)]
    simp only
    rw [rdI_ok (show ¬ ((S.drop 6).drop 6).length < 2 by rw [List.length_drop, List.length_drop]; omega)]
    simp only
    refine .inr ⟨rfl, decV 3 (S.drop 12) [], 12, rfl, rfl, decE_out h14, ⟨rfl, by simp, rfl⟩, by omega, ?_, ?_⟩
    · rw [List.drop_drop]
    · rw [List.drop_drop, List.drop_drop]
theorem outE_err (S : List UInt8) (n : Nat) (h : n ≠ 0) : outE S (n, [], 0, []) = (zeroE, n) := by unfold outE; rw [if_pos h]
theorem InvD.tag {S : List UInt8} {R : EthR × Nat} {a b t : Nat} {v : List Int} {l : List UInt8} {err : Nat} (h : InvD S R a b t v l err) (ht : tgN t) :
    err = 0 ∧ (v.length = 2 → R = (zeroE, 9)) ∧ (v.length ≠ 2 → InvD S R a b (rdI (rdI l 0 2).2.1 (rdI l 0 2).2.2 2).1 (v ++ [(((rdI l 0 2).1 % 4096 : Nat) : Int)]) (rdI (rdI l 0 2).2.1 (rdI l 0 2).2.2 2).2.1 (rdI (rdI l 0 2).2.1 (rdI l 0 2).2.2 2).2.2) := by
  rcases h with ⟨_, h0, _⟩ | ⟨h0, D, p, ha, hb, hR, hD, hp, htt, hl⟩
  · subst h0
    exact absurd ht (by decide)
  · refine ⟨h0, ?_⟩
    rcases hD.cases with ⟨hlt, _⟩ | ⟨_, hcs⟩
    · omega
    · rw [← htt] at hcs
      rcases hcs with ⟨_, hcs⟩ | ⟨hn, _⟩
      · rcases hcs with ⟨h2, hDD⟩ | ⟨h2, hlt, hDD⟩ | ⟨h2, hge, hDS⟩
        · exact ⟨fun _ => by rw [hR, hDD, outE_err S 9 (by decide)], fun hh => absurd h2 hh⟩
        · refine ⟨fun hh => absurd hh h2, fun _ => ?_⟩
          rw [rdI_short (show l.length < 2 by rw [hl, List.length_drop]; omega)]
          simp only [rdI_bad]
          exact .inl ⟨rfl, rfl, by rw [hR, hDD, outE_err S 1 (by decide)]⟩
        · refine ⟨fun hh => absurd hh h2, fun _ => ?_⟩
          rw [rdI_ok (show ¬ l.length < 2 by rw [hl, List.length_drop]; omega)]
          simp only
          have hl4 : l.drop 2 = S.drop (p + 4) := by rw [hl, List.drop_drop]
          rw [hl4]
          have hDS' : DecS S D (v ++ [((num (l.take 2) % 4096 : Nat) : Int)]) (p + 4) := by rw [hl]; exact hDS
          by_cases h6 : S.length < p + 4 + 2
          · rw [rdI_short (show (S.drop (p + 4)).length < 2 by rw [List.length_drop]; omega)]
            rcases hDS'.cases with ⟨_, hDD⟩ | ⟨hge2, _⟩
            · exact .inl ⟨rfl, rfl, by rw [hR, hDD, outE_err S 1 (by decide)]⟩
            · omega
          · rw [rdI_ok (show ¬ (S.drop (p + 4)).length < 2 by rw [List.length_drop]; omega)]
            exact .inr ⟨rfl, D, p + 4, ha, hb, hR, hDS', by omega, rfl, by rw [List.drop_drop]⟩
      · exact absurd ht hn
theorem InvD.stop {S : List UInt8} {R : EthR × Nat} {a b t : Nat} {v : List Int} {l : List UInt8} {err : Nat} (h : InvD S R a b t v l err) (ht : ¬ tgN t) :
    (err = 1 ∧ R = (zeroE, 1)) ∨ (err = 0 ∧ t < 1536 ∧ R = (zeroE, 2)) ∨ (err = 0 ∧ 1536 ≤ t ∧ R = (⟨a, b, v, (t : Int), l⟩, 0)) := by
  rcases h with ⟨h1, _, h0⟩ | ⟨h0, D, p, ha, hb, hR, hD, hp, htt, hl⟩
  · exact .inl ⟨h1, h0⟩
  · rcases hD.cases with ⟨hlt, _⟩ | ⟨_, hcs⟩
    · omega
    · rw [← htt] at hcs
      rcases hcs with ⟨hn, _⟩ | ⟨_, hcs⟩
      · exact absurd hn ht
      · rcases hcs with ⟨hlt, hDD⟩ | ⟨hge, hDD⟩
        · exact .inr (.inl ⟨h0, hlt, by rw [hR, hDD, outE_err S 2 (by decide)]⟩)
        · exact .inr (.inr ⟨h0, hge, by rw [hR, hDD, ha, hb, hl]; rfl⟩)
/-! ### Memory -/
def zE : Array Value := #[.int .u64 0, .int .u64 0, .slice none 0 0, .int .i64 0, .string ⟨#[]⟩]
/-- The state of Decode in memory: the reader, the frame that grows, the box of the result. -/
structure PD (wb W : World) (g0 gx p a b : Nat) (A : Option Addr) (n c t : Nat) (v : List Int) (l : List UInt8) (err : Nat) : Prop where
  rd : RdB W gx p l (err : Int)
  x : Cells W gx 26 #[.int .u64 (a : Int), .int .u64 (b : Int), .slice A n c, .int .i64 (t : Int), .string ⟨#[]⟩]
  g : Cells W g0 26 zE
  own : W.ownsRow (gx + 1) 3 1 (.slice A n c) n (EInt.cells v)
  nl : n = v.length
  bel : Below wb.heap.size wb W
  lo : wb.heap.size ≤ g0
  lp : g0 < p
  ll : l.length ≤ 1000000
variable {wb W W' : World} {g0 gx p a b n c t err : Nat} {A : Option Addr} {v : List Int} {l l' : List UInt8}
theorem PD.grown {err' : Nat} (h : PD wb W g0 gx p a b A n c t v l err) (hg : W.grownBy W' (some p)) (hr : RdB W' gx p l' (err' : Int)) (hl : l'.length ≤ l.length) : PD wb W' g0 gx p a b A n c t v l' err' := by
  have hpg := h.rd.lt
  have hlo := h.lo
  have hlp := h.lp
  refine ⟨hr, h.x.only hg (by intro e; injection e with e; omega), h.g.only hg (by intro e; injection e with e; omega), own_only h.own hg (fun j hj e => ?_), h.nl, below_only h.bel hg (by omega) h.bel.size, h.lo, h.lp, Nat.le_trans hl h.ll⟩
  injection e with e
  have := (own_blk_in h.own _ hj).1
  omega
theorem PD.drew (h : PD wb W g0 gx p a b A n c t v l err) : PD wb W.drew g0 gx p a b A n c t v l err :=
  ⟨h.rd, h.x, h.g, h.own.drew, h.nl, h.bel.drew, h.lo, h.lp, h.ll⟩
theorem PD.ggx (h : PD wb W g0 gx p a b A n c t v l err) : g0 < gx := by have := h.rd.lt; have := h.lp; omega
theorem PD.setA (h : PD wb W g0 gx p a b A n c t v l err) (a' : Nat) : PD wb (W.setCell ⟨gx, 0, none⟩ (.int .u64 (a' : Int))) g0 gx p a' b A n c t v l err := by
  have hg := h.ggx
  have hlo := h.lo
  exact ⟨h.rd.set (Nat.le_refl _) _, by simpa using h.x.set 0 (.int .u64 (a' : Int)), h.g.far (by omega) _, own_setb h.own (Nat.lt_succ_self _) _, h.nl, h.bel.setCell (p := ⟨gx, 0, none⟩) (by simp only; omega) _, h.lo, h.lp, h.ll⟩
theorem PD.setB (h : PD wb W g0 gx p a b A n c t v l err) (b' : Nat) : PD wb (W.setCell ⟨gx, 1, none⟩ (.int .u64 (b' : Int))) g0 gx p a b' A n c t v l err := by
  have hg := h.ggx
  have hlo := h.lo
  exact ⟨h.rd.set (Nat.le_refl _) _, by simpa using h.x.set 1 (.int .u64 (b' : Int)), h.g.far (by omega) _, own_setb h.own (Nat.lt_succ_self _) _, h.nl, h.bel.setCell (p := ⟨gx, 1, none⟩) (by simp only; omega) _, h.lo, h.lp, h.ll⟩
theorem PD.setT (h : PD wb W g0 gx p a b A n c t v l err) (t' : Nat) : PD wb (W.setCell ⟨gx, 3, none⟩ (.int .i64 (t' : Int))) g0 gx p a b A n c t' v l err := by
  have hg := h.ggx
  have hlo := h.lo
  exact ⟨h.rd.set (Nat.le_refl _) _, by simpa using h.x.set 3 (.int .i64 (t' : Int)), h.g.far (by omega) _, own_setb h.own (Nat.lt_succ_self _) _, h.nl, h.bel.setCell (p := ⟨gx, 3, none⟩) (by simp only; omega) _, h.lo, h.lp, h.ll⟩
/-- Behind an append that is not stored yet. -/
theorem PD.mid (h : PD wb W g0 gx p a b A n c t v l err) {o : Obj} {wz : World} (hg : (W.alloc o).grownBy wz (Value.slice A n c).ownBlock) : Cells wz gx 26 #[.int .u64 (a : Int), .int .u64 (b : Int), .slice A n c, .int .i64 (t : Int), .string ⟨#[]⟩] :=
  (Cells.kept h.x (below_alloc6 W o) h.x.lt).only hg (fun e => by have := (own_blk_in h.own _ e.symm).1; omega)
theorem PD.push (h : PD wb W g0 gx p a b A n c t v l err) {o : Obj} {wz : World} {g2 c2 : Nat} {y : Int} (hg : (W.alloc o).grownBy wz (Value.slice A n c).ownBlock)
    (ho : wz.ownsRow (gx + 1) 3 1 (.slice (some ⟨g2, 0, none⟩) (n + 1) c2) (n + 1) (EInt.cells (v ++ [y]))) :
    PD wb (wz.setCell ⟨gx, 2, none⟩ (.slice (some ⟨g2, 0, none⟩) (n + 1) c2)) g0 gx p a b (some ⟨g2, 0, none⟩) (n + 1) c2 t (v ++ [y]) l err := by
  have hgx := h.ggx
  have hlo := h.lo
  have hxl := h.x.lt
  have hwz : (W.alloc o).heap.size = W.heap.size + 1 := by simp
  have hB := below_alloc6 W o
  have hr : ∀ j, (Value.slice A n c).ownBlock = some j → gx + 1 ≤ j := fun j hj => (own_blk_in h.own _ hj).1
  have hbz := h.bel.size
  refine ⟨((h.rd.kept hB (by omega)).grown hg (by omega) (fun j hj => by have := hr j hj; omega)).set (Nat.le_refl _) _, ?_, ?_, own_setb ho (Nat.lt_succ_self _) _, by rw [List.length_append, h.nl]; rfl, ?_, h.lo, h.lp, h.ll⟩
  · simpa using (h.mid hg).set 2 (.slice (some ⟨g2, 0, none⟩) (n + 1) c2)
  · exact Cells.far ((Cells.kept h.g hB (by omega)).only hg (fun e => by have := hr _ e.symm; omega)) (by omega) _
  · exact ((h.bel.trans (hB.mono h.bel.size)).grown hg (by omega) (fun j hj => by have := hr j hj; omega)).setCell (p := ⟨gx, 2, none⟩) (by simp only; omega) _
theorem PD.int (h : PD wb W g0 gx p a b A n c t v l err) (k : Nat) (K : Int) (hK : (k : Int) = K) (h1 : 1 ≤ k) (h7 : k ≤ 7) :
    Calls Tryd.prog 19 #[.pointer (some ⟨p, 0, none⟩), .int .i64 K] W fun e w' => e = .returned (.int .i64 ((rdI l err k).1 : Int)) ∧ PD wb w' g0 gx p a b A n c t v (rdI l err k).2.1 (rdI l err k).2.2 :=
  (intB_any gx p k K hK l err W h.rd (by have := h.ll; omega) h1 h7).mono fun e w' ⟨h2, h3, h4⟩ => ⟨h2, h.grown h4 h3 (rdI_len _ _ _)⟩
theorem PD.c2 (h : PD wb W g0 gx p a b A n c t v l err) : W.cell? ⟨gx, 2, none⟩ = some (.slice A n c) := (h.x.cell 2).trans rfl
theorem PD.c3 (h : PD wb W g0 gx p a b A n c t v l err) : W.cell? ⟨gx, 3, none⟩ = some (.int .i64 (t : Int)) := (h.x.cell 3).trans rfl
/-- How many tags the frame at block g has. -/
def tagsAt (w : World) (g : Nat) : Nat := match (w.cell? ⟨g, 2, none⟩).getD undef with
  | .slice _ n _ => n
  | _ => 0
theorem PD.tagsAt (h : PD wb W g0 gx p a b A n c t v l err) : tagsAt W gx = n := by
  unfold Go.Proofs.YtpfhljidjnagkaaDoor.tagsAt
  rw [h.c2]; rfl
theorem PD.init {w1 : World} {S : List UInt8} (hb : Below (w1.alloc (.cells zE 26)).heap.size (w1.alloc (.cells zE 26)) W) (hp : (w1.alloc (.cells zE 26)).heap.size ≤ p) (hr : Rd W p S 0) (hS : S.length ≤ 1000000) :
    PD w1 (W.alloc (.cells zE 26)) w1.heap.size W.heap.size p 0 0 none 0 0 0 [] S 0 := by
  have hz : (w1.alloc (.cells zE 26)).heap.size = w1.heap.size + 1 := by simp
  have h0 : Cells (w1.alloc (.cells zE 26)) w1.heap.size 26 zE := heap_alloc_new w1 _
  have hB := below_alloc6 W (.cells zE 26)
  have h1 := Cells.kept h0 hb h0.lt
  refine ⟨(RdB.of hr).kept hB (Nat.le_refl _), heap_alloc_new W _, Cells.kept h1 hB h1.lt, World.ownsRow_nil _ _ _ _, rfl, ?_, Nat.le_refl _, by omega, hS⟩
  exact ((below_alloc6 w1 _).trans (hb.mono (by omega))).trans (hB.mono (by have := hb.size; omega))
end Go.Proofs.YtpfhljidjnagkaaDoor

/- Contract of the program of layer 10: the walk of Decode. -/
namespace Go.Proofs.YtpfhljidjnagkaaDoor
open Go.ChangeShapes Go.WideShapes Go.ChangeAt Go.RowKit
set_option linter.unusedVariables false

theorem PD.after {wb W W' : World} {g0 gx p a b n c t err : Nat} {A : Option Addr} {v : List Int} {l : List UInt8} (h : PD wb W g0 gx p a b A n c t v l err) (hg : W.grownBy W' (some p)) :
    Cells W' gx 26 #[.int .u64 (a : Int), .int .u64 (b : Int), .slice A n c, .int .i64 (t : Int), .string ⟨#[]⟩] ∧ Cells W' g0 26 zE ∧ W'.ownsRow (gx + 1) 3 1 (.slice A n c) n (EInt.cells v) ∧ Below wb.heap.size wb W' := by
  have hpg := h.rd.lt
  have hlo := h.lo
  have hlp := h.lp
  refine ⟨h.x.only hg (by intro e; injection e with e; omega), h.g.only hg (by intro e; injection e with e; omega), own_only h.own hg (fun j hj e => ?_), below_only h.bel hg (by omega) h.bel.size⟩
  injection e with e
  have := (own_blk_in h.own _ hj).1
  omega
theorem tgd (t : Nat) : decide (tgI (t : Int)) = decide (tgN t) := by
  by_cases h : tgN t
  · rw [decide_eq_true h, decide_eq_true ((tgI_nat t).2 h)]
  · rw [decide_eq_false h, decide_eq_false (fun e => h ((tgI_nat t).1 e))]
set_option maxHeartbeats 4000000 in
set_option maxRecDepth 20000 in
theorem pdec10_any (S : List UInt8) (w : World) (hs : S.length ≤ 1000000) (ht : TG w) :
    Calls Tryd.prog 9 #[.string (str S)] w (DecP w (decE S)) := by
  have hIS := InvD.start S
  obtain ⟨R, hR⟩ : ∃ R, R = decE S := ⟨_, rfl⟩
  rw [← hR] at hIS ⊢
  have HTG := Lib.hid (fun (W : World) (hb : Below w.heap.size w W) => ht.kept hb)
  have HERR := Lib.hid (fun (wz : World) (er : Nat) (E : Int) (hE : (er : Int) = E) (hr : R = (zeroE, er)) (hb : Below w.heap.size w wz) => show DecP w R (.returned (.tuple #[.agg #[.int .u64 0, .int .u64 0, .slice none 0 0, .int .i64 0, .string ⟨#[]⟩], .int .i64 E])) wz from by
    subst hE
    rw [hr]
    exact ⟨none, 0, rfl, RowL.nil _ _, fun _ => rfl, hb⟩)
  have HNEW := Lib.hid (fun (W : World) => show Calls Tryd.prog 18 #[.string (str S)] W fun e w' => ∃ p, e = .returned (.pointer (some ⟨p, 0, none⟩)) ∧ W.heap.size ≤ p ∧ Rd w' p S 0 ∧ Below W.heap.size W w' from by
    have := new_any (str S) W
    rwa [str_toList] at this)
  generalize str S = s at *
  have hlt1 := rdI_lt S 0 6
  generalize hq1 : rdI S 0 6 = q1 at *
  obtain ⟨a, l1, e1⟩ := q1
  simp only at hIS hlt1
  have hlt2 := rdI_lt l1 e1 6
  generalize hq2 : rdI l1 e1 6 = q2 at *
  obtain ⟨b, l2, e2⟩ := q2
  simp only at hIS hlt2
  have hlt3 := rdI_lt l2 e2 2
  generalize hq3 : rdI l2 e2 2 = q3 at *
  obtain ⟨t0, l3, e3⟩ := q3
  simp only at hIS hlt3
  have HQ1 := Lib.hid hq1
  have HQ2 := Lib.hid hq2
  have HQ3 := Lib.hid hq3
  have HI := Lib.hid hIS
  have ha : a < 281474976710656 := by omega
  have hb : b < 281474976710656 := by omega
  have ht0 : t0 < 65536 := by omega
  have ua : IntKind.u64.wrap (a : Int) = (a : Int) := by rw [IntKind.wrap_u64]; omega
  have ub : IntKind.u64.wrap (b : Int) = (b : Int) := by rw [IntKind.wrap_u64]; omega
  have HSL := Lib.hid hs
  clear hIS hR ht hs hlt1 hlt2 hlt3 hq1 hq2 hq3
  go_enter Tryd.func9, Tryd.ntmps9
  go_wp2_with fail
  refine (HNEW.out _).mono ?_
  rintro e w1 ⟨p, rfl, hp, hrd, hbw⟩
  obtain ⟨W2, hW2⟩ : ∃ W, W = w1.alloc (.cells #[.int .u64 0, .int .u64 0, .slice none 0 0, .int .i64 0, .string ⟨#[]⟩] 26) := ⟨_, rfl⟩
  obtain ⟨gx, hgx⟩ : ∃ g, g = w1.heap.size := ⟨_, rfl⟩
  obtain ⟨g0, hg0⟩ : ∃ g, g = w.heap.size := ⟨_, rfl⟩
  have H0 := Lib.hid (show PD w W2 g0 gx p 0 0 none 0 0 0 [] S 0 by rw [hW2, hgx, hg0]; exact PD.init hbw hp hrd HSL.out)
  clear hp hrd hbw HNEW HSL
  go_wp2_with fail
  rw [← hW2, ← hgx, ← hg0]
  clear hW2 hgx hg0
  refine (H0.out.int 6 6 rfl (by decide) (by decide)).mono ?_
  rintro e w3 ⟨rfl, h3⟩
  rw [HQ1.out] at h3 ⊢
  have H3 := Lib.hid (show PD w w3 g0 gx p 0 0 none 0 0 0 [] l1 e1 from h3)
  clear h3 H0 HQ1
  dsimp only
  have x0 := (Cells.cell H3.out.x 0).trans (show _ = some (Value.int .u64 ((0 : Nat) : Int)) from rfl)
  have z0 := Cells.frozen H3.out.x 0
  have hgl := H3.out.x.lt
  go_wp2_with fail
  have H4 := Lib.hid (H3.out.setA a)
  clear x0 z0 hgl H3
  generalize w3.setCell ⟨gx, 0, none⟩ (.int .u64 (a : Int)) = w4 at *
  refine (H4.out.int 6 6 rfl (by decide) (by decide)).mono ?_
  rintro e w5 ⟨rfl, h5⟩
  rw [HQ2.out] at h5 ⊢
  have H5 := Lib.hid (show PD w w5 g0 gx p a 0 none 0 0 0 [] l2 e2 from h5)
  clear h5 H4 HQ2
  dsimp only
  have x1 := (Cells.cell H5.out.x 1).trans (show _ = some (Value.int .u64 ((0 : Nat) : Int)) from rfl)
  have z1 := Cells.frozen H5.out.x 1
  have hgl := H5.out.x.lt
  go_wp2_with fail
  have H6 := Lib.hid (H5.out.setB b)
  clear x1 z1 hgl H5
  generalize w5.setCell ⟨gx, 1, none⟩ (.int .u64 (b : Int)) = w6 at *
  refine (H6.out.int 2 2 rfl (by decide) (by decide)).mono ?_
  rintro e w7 ⟨rfl, h7⟩
  rw [HQ3.out] at h7 ⊢
  have H7 := Lib.hid (show PD w w7 g0 gx p a b none 0 0 0 [] l3 e3 from h7)
  clear h7 H6 HQ3
  dsimp only
  have x3 := (Cells.cell H7.out.x 3).trans (show _ = some (Value.int .i64 ((0 : Nat) : Int)) from rfl)
  have z3 := Cells.frozen H7.out.x 3
  have hgl := H7.out.x.lt
  go_wp2_with fail
  have H8 := Lib.hid (H7.out.setT t0)
  clear x3 z3 hgl H7 ua ub
  generalize w7.setCell ⟨gx, 3, none⟩ (.int .i64 (t0 : Int)) = w8 at *
  go_loopw [20] (fun _ wr => ∃ (n c t err : Nat) (A : Option Addr) (v : List Int) (l : List UInt8), n ≤ 2 ∧ t < 65536 ∧ Hid (PD w wr g0 gx p a b A n c t v l err) ∧ Hid (InvD S R a b t v l err)) (fun _ wr => 3 - tagsAt wr gx)
  case atStart => exact ⟨0, 0, t0, e3, none, [], l3, by omega, ht0, H8, HI⟩
  case round =>
    clear H8 HI ht0
    obtain ⟨n, c, t, err, A, v, l, hn2, htl, HP, HI⟩ := hrel
    have c3 := HP.out.c3
    have hta := ptag_any (t : Int) wr (HTG.out wr HP.out.bel)
    rw [tgd] at hta
    by_cases htg : tgN t
    · obtain ⟨he0, hv2, hvn⟩ := HI.out.tag htg
      subst he0
      rw [decide_eq_true htg] at hta
      have HTA := Lib.hid hta
      have c2 := HP.out.c2
      clear htg hta HI
      by_cases h2 : n = 2
      · have hR1 := Lib.hid (hv2 (by rw [← HP.out.nl]; exact h2))
        subst h2
        have e0 := (Cells.cell HP.out.g 0).trans (show _ = some (Value.int .u64 0) from rfl)
        have f0 := Cells.frozen HP.out.g 0
        have e1 := (Cells.cell HP.out.g 1).trans (show _ = some (Value.int .u64 0) from rfl)
        have f1 := Cells.frozen HP.out.g 1
        have e2 := (Cells.cell HP.out.g 2).trans (show _ = some (Value.slice none 0 0) from rfl)
        have f2 := Cells.frozen HP.out.g 2
        have e3 := (Cells.cell HP.out.g 3).trans (show _ = some (Value.int .i64 0) from rfl)
        have f3 := Cells.frozen HP.out.g 3
        have e4 := (Cells.cell HP.out.g 4).trans (show _ = some (Value.string ⟨#[]⟩) from rfl)
        have f4 := Cells.frozen HP.out.g 4
        have hg0l := Cells.lt HP.out.g
        clear hv2 hvn
        go_wp2_with fail
        refine HTA.out.mono ?_
        rintro e w5 ⟨rfl, rfl⟩
        go_wp2_with fail
        refine bodyPost_ret (res_box2 ethTy rfl _ _ rfl (HP.out.g.put [.int .u64 0, .int .u64 0, .slice none 0 0, .int .i64 0, .string ⟨#[]⟩] rfl)) rfl ?_
        exact HERR.out _ 9 9 rfl hR1.out (putB_below HP.out.lo [.int .u64 0, .int .u64 0, .slice none 0 0, .int .i64 0, .string ⟨#[]⟩] 0 _ HP.out.bel)
      · have HIN := Lib.hid (hvn (by rw [← HP.out.nl]; exact h2))
        have n2 : ¬ (n : Int) = 2 := by omega
        have e2n : ((n : Int) == 2) = false := by rw [beq_eq_false_iff_ne]; exact n2
        have hn1 : n ≤ 1 := by omega
        have HPR := Lib.hid (fun (W : World) (h : PD w W g0 gx p a b A n c t v l 0) => h.int 2 2 rfl (by decide) (by decide))
        have hx16 := rdI_lt l 0 2
        generalize rdI l 0 2 = q at *
        obtain ⟨X, m1, r1⟩ := q
        have hx16' : X < 65536 := hx16
        have HPR2 := Lib.hid (fun (W : World) (h : PD w W g0 gx p a b A n c t v l 0) => show Calls Tryd.prog 19 #[.pointer (some ⟨p, 0, none⟩), .int .i64 2] W fun e w' => e = .returned (.int .i64 (X : Int)) ∧ PD w w' g0 gx p a b A n c t v m1 r1 from HPR.out W h)
        have hin : InvD S R a b (rdI m1 r1 2).1 (v ++ [((X % 4096 : Nat) : Int)]) (rdI m1 r1 2).2.1 (rdI m1 r1 2).2.2 := HIN.out
        have ht16 := rdI_lt m1 r1 2
        have HPS := Lib.hid (fun (W : World) (A' : Option Addr) (n' c' : Nat) (v' : List Int) (h : PD w W g0 gx p a b A' n' c' t v' m1 r1) => h.int 2 2 rfl (by decide) (by decide))
        generalize rdI m1 r1 2 = q2 at *
        obtain ⟨t2, m2, r2⟩ := q2
        have ht16' : t2 < 65536 := ht16
        have HPS2 := Lib.hid (fun (W : World) (A' : Option Addr) (n' c' : Nat) (v' : List Int) (h : PD w W g0 gx p a b A' n' c' t v' m1 r1) => show Calls Tryd.prog 19 #[.pointer (some ⟨p, 0, none⟩), .int .i64 2] W fun e w' => e = .returned (.int .i64 (t2 : Int)) ∧ PD w w' g0 gx p a b A' n' c' t v' m2 r2 from HPS.out W A' n' c' v' h)
        have HIN2 := Lib.hid (show InvD S R a b t2 (v ++ [((X % 4096 : Nat) : Int)]) m2 r2 from hin)
        obtain ⟨M, hM⟩ : ∃ M, M = X % 4096 := ⟨_, rfl⟩
        rw [← hM] at HIN2
        have hMi : (X : Int) % 4096 = (M : Int) := by omega
        have HTM := Lib.hid (show (X : Int).tmod 4096 = (M : Int) by rw [Int.tmod_eq_emod_of_nonneg (by omega)]; exact hMi)
        clear hv2 hvn h2 HIN HPR hx16 hin ht16 HPS hM
        go_wp2_with fail
        refine HTA.out.mono ?_
        rintro e w5 ⟨rfl, rfl⟩
        go_wp2_with fail
        have HPD := Lib.hid HP.out.drew
        go_region_law (first
          | (go_simp; refine (HPR2.out _ HPD.out).mono ?_; rintro e w5 ⟨rfl, h5⟩; have y2 := h5.c2; have y3 := h5.x.lt; dsimp only)
          | (refine step_push (E := EInt) intTy10 (by rfl) _ _ (by rfl) (gx + 1) (.slice A n c) n v [((X : Int).tmod 4096)] (by rfl) (h5.own.alloc (.cells #[.int .i64 ((X : Int).tmod 4096)] 3)) w5.heap.size 1 1 #[.int .i64 ((X : Int).tmod 4096)] (0, 0) (by rfl) (heap_alloc_new w5 _) rfl rfl (by omega) (by omega) (by decide) (by have h9 := h5.x.lt; simp; omega) ?_; intro g2 cap2 wz hown hgrow hat hlt2; have hx9 := h5.mid hgrow; have i2 := (Cells.cell hx9 2).trans (show _ = some (Value.slice A n c) from rfl); have j2 := Cells.frozen hx9 2; have jl := Cells.lt hx9))
        all_goals
          have hp9 := h5.push hgrow hown
          rw [HTM.out] at hp9
          have HP9 := Lib.hid hp9
          clear hp9 hown hgrow hat hlt2 hx9 i2 j2 jl h5 y2 y3 c2 c3 HPD
          go_wp2_with fail
          refine (HPS2.out _ _ _ _ _ HP9.out).mono ?_
          rintro e w6 ⟨rfl, h6⟩
          have x3 := (Cells.cell h6.x 3).trans (show _ = some (Value.int .i64 (t : Int)) from rfl)
          have z3 := Cells.frozen h6.x 3
          have hgl := h6.x.lt
          have HP6 := Lib.hid h6
          clear h6 HP9
          go_wp2_with fail
          go_roundw
          case rel => exact ⟨n + 1, cap2, t2, r2, some ⟨g2, 0, none⟩, v ++ [(M : Int)], m2, by omega, ht16', Lib.hid (HP6.out.setT t2), HIN2⟩
          case measure =>
            have h1 := (HP6.out.setT t2).tagsAt
            have h2 := HP.out.tagsAt
            rw [h1, h2]
            omega
    · have hst := HI.out.stop htg
      rw [decide_eq_false htg] at hta
      have HTA := Lib.hid hta
      have HER := Lib.hid (fun (W : World) (h : PD w W g0 gx p a b A n c t v l err) => err_any p l (err : Int) W h.rd.rd)
      have e0 := (Cells.cell HP.out.g 0).trans (show _ = some (Value.int .u64 0) from rfl)
      have f0 := Cells.frozen HP.out.g 0
      have e1 := (Cells.cell HP.out.g 1).trans (show _ = some (Value.int .u64 0) from rfl)
      have f1 := Cells.frozen HP.out.g 1
      have e2 := (Cells.cell HP.out.g 2).trans (show _ = some (Value.slice none 0 0) from rfl)
      have f2 := Cells.frozen HP.out.g 2
      have e3 := (Cells.cell HP.out.g 3).trans (show _ = some (Value.int .i64 0) from rfl)
      have f3 := Cells.frozen HP.out.g 3
      have e4 := (Cells.cell HP.out.g 4).trans (show _ = some (Value.string ⟨#[]⟩) from rfl)
      have f4 := Cells.frozen HP.out.g 4
      have hg0l := Cells.lt HP.out.g
      clear htg hta HI
      rcases hst with ⟨h1, hr⟩ | ⟨h1, hlt, hr⟩ | ⟨h1, hge, hr⟩
      · have hR1 := Lib.hid hr
        subst h1
        clear hr
        go_wp2_with fail
        refine HTA.out.mono ?_
        rintro e w5 ⟨rfl, rfl⟩
        go_wp2_with fail
        refine (HER.out _ HP.out).mono ?_
        rintro e w5 ⟨rfl, rfl⟩
        go_wp2_with fail
        refine bodyPost_ret (res_box2 ethTy rfl _ _ rfl (HP.out.g.put [.int .u64 0, .int .u64 0, .slice none 0 0, .int .i64 0, .string ⟨#[]⟩] rfl)) rfl ?_
        exact HERR.out _ 1 1 rfl hR1.out (putB_below HP.out.lo [.int .u64 0, .int .u64 0, .slice none 0 0, .int .i64 0, .string ⟨#[]⟩] 0 _ HP.out.bel)
      · have hR1 := Lib.hid hr
        subst h1
        have dT : decide ((t : Int) < 1536) = true := by simp; omega
        have nT : (t : Int) < 1536 := by omega
        clear hr hlt
        go_wp2_with fail
        refine HTA.out.mono ?_
        rintro e w5 ⟨rfl, rfl⟩
        go_wp2_with fail
        refine (HER.out _ HP.out).mono ?_
        rintro e w5 ⟨rfl, rfl⟩
        go_wp2_with fail
        refine bodyPost_ret (res_box2 ethTy rfl _ _ rfl (HP.out.g.put [.int .u64 0, .int .u64 0, .slice none 0 0, .int .i64 0, .string ⟨#[]⟩] rfl)) rfl ?_
        exact HERR.out _ 2 2 rfl hR1.out (putB_below HP.out.lo [.int .u64 0, .int .u64 0, .slice none 0 0, .int .i64 0, .string ⟨#[]⟩] 0 _ HP.out.bel)
      · have HFIN := Lib.hid hr
        subst h1
        have dT : decide ((t : Int) < 1536) = false := by simp; omega
        have nT : ¬ (t : Int) < 1536 := by omega
        have HRS := Lib.hid (rest_ok p l wr HP.out.rd.rd (by have := HP.out.ll; omega))
        clear hr hge
        go_wp2_with fail
        refine HTA.out.mono ?_
        rintro e w5 ⟨rfl, rfl⟩
        go_wp2_with fail
        refine (HER.out _ HP.out).mono ?_
        rintro e w5 ⟨rfl, rfl⟩
        go_wp2_with fail
        refine HRS.out.mono ?_
        rintro e w6 ⟨rfl, _, hg6⟩
        obtain ⟨k1, k2, k3, k4⟩ := HP.out.after hg6
        have HX := Lib.hid k1
        have HG := Lib.hid k2
        have HO := Lib.hid k3
        have HB := Lib.hid k4
        have hne : gx ≠ g0 := by have := HP.out.ggx; omega
        have hne' : g0 ≠ gx := by have := HP.out.ggx; omega
        have HGG := Lib.hid HP.out.ggx
        have HLO := Lib.hid HP.out.lo
        have HNL := Lib.hid HP.out.nl
        clear k1 k2 k3 k4 hg6 HRS c3 e0 e1 e2 e3 e4 f0 f1 f2 f3 f4 hg0l
        have x0 := (Cells.cell HX.out 0).trans (show _ = some (Value.int .u64 (a : Int)) from rfl)
        have x1 := (Cells.cell HX.out 1).trans (show _ = some (Value.int .u64 (b : Int)) from rfl)
        have x2 := (Cells.cell HX.out 2).trans (show _ = some (Value.slice A n c) from rfl)
        have x3 := (Cells.cell HX.out 3).trans (show _ = some (Value.int .i64 (t : Int)) from rfl)
        have x4 := (Cells.cell HX.out 4).trans (show _ = some (Value.string ⟨#[]⟩) from rfl)
        have z0 := Cells.frozen HX.out 0
        have z1 := Cells.frozen HX.out 1
        have z2 := Cells.frozen HX.out 2
        have z3 := Cells.frozen HX.out 3
        have z4 := Cells.frozen HX.out 4
        have hgxl := HX.out.lt
        have e0 := (Cells.cell HG.out 0).trans (show _ = some (Value.int .u64 0) from rfl)
        have f0 := Cells.frozen HG.out 0
        have e1 := (Cells.cell HG.out 1).trans (show _ = some (Value.int .u64 0) from rfl)
        have f1 := Cells.frozen HG.out 1
        have e2 := (Cells.cell HG.out 2).trans (show _ = some (Value.slice none 0 0) from rfl)
        have f2 := Cells.frozen HG.out 2
        have e3 := (Cells.cell HG.out 3).trans (show _ = some (Value.int .i64 0) from rfl)
        have f3 := Cells.frozen HG.out 3
        have e4 := (Cells.cell HG.out 4).trans (show _ = some (Value.string ⟨#[]⟩) from rfl)
        have f4 := Cells.frozen HG.out 4
        have hg0l := Cells.lt HG.out
        clear HP
        go_wp2_with fail
        obtain rfl := HNL.out
        refine bodyPost_ret (res_box2 ethTy rfl _ _ rfl ((Cells.far HG.out hne' _).put [.int .u64 (a : Int), .int .u64 (b : Int), .slice A v.length c, .int .i64 (t : Int), .string (str l)] rfl)) rfl ?_
        rw [HFIN.out]
        have hgg := HGG.out
        have hge0 := HLO.out
        refine ⟨A, c, rfl, ?_, ?_, ?_⟩
        · exact rowl_of_own (E := EInt) (own_putb (own_setb HO.out (by omega) _) (by omega) [.int .u64 (a : Int), .int .u64 (b : Int), .slice A v.length c, .int .i64 (t : Int), .string (str l)] 0) rfl
        · intro hA
          have ho := HO.out
          subst hA
          exact (own_none ho).2
        · exact putB_below hge0 [.int .u64 (a : Int), .int .u64 (b : Int), .slice A v.length c, .int .i64 (t : Int), .string (str l)] 0 _ (HB.out.setCell (p := ⟨gx, 4, none⟩) (show w.heap.size ≤ gx by omega) _)
end Go.Proofs.YtpfhljidjnagkaaDoor
