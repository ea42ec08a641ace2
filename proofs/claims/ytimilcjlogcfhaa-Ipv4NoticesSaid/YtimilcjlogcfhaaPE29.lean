/- Contracts of the functions, part 29: Row, Ip4Lst. -/
import Derived.Laws.Tables
import Derived.StillTailTactics
import Derived.Test.YtimilcjlogcfhaaPE8
import Derived.Test.YtimilcjlogcfhaaPE17
/- A struct stored over another as ONE row (wpList_store_row): what becomes of memory. For a struct of many cells, where cell by cell runs away. -/
namespace Go.Proofs.Ytimilcjlogcfhaa
open Go.ChangeShapes Go.WideShapes Go.ChangeAt Go.RowKit
set_option linter.unusedVariables false

theorem below_row {B : Nat} {a w : World} (h : Below B a w) (g : Nat) (hg : B ≤ g) (cs : Array Value) : Below B a (w.setRow g cs) :=
  ⟨h.os, h.tape, h.output, by rw [setRow_size]; exact h.size, fun k hk => by rw [setRow_other _ _ _ _ (by omega)]; exact h.block k hk⟩
theorem Cells.row {w : World} {g : Nat} {t : TypeId} {cs : Array Value} (h : Cells w g t cs) (cs' : Array Value) : Cells (w.setRow g cs') g t cs' := setRow_heap w g cs cs' t (0, 0) h
theorem Cells.rowFar {w : World} {g b : Nat} {t : TypeId} {cs : Array Value} (h : Cells w g t cs) (hne : g ≠ b) (cs' : Array Value) : Cells (w.setRow b cs') g t cs := (setRow_other w b g cs' hne).trans h
theorem RowL.blocks {α : Type} {E : Enc α} {w w' : World} {A : Option Addr} {l : List α} (h : RowL E w A l) (hb : ∀ a, A = some a → w'.heap[a.block]? = w.heap[a.block]?) : RowL E w' A l := fun hp => by
  obtain ⟨g, o, e, h1, h2⟩ := h hp
  subst e
  have hbl := hb ⟨g, o, none⟩ rfl
  refine ⟨g, o, rfl, ?_, fun i x hx j v hj => by rw [World.cell?_of_block (w := w) (w' := w') (a := ⟨g, o + i * E.k + j, none⟩) hbl]; exact h2 i x hx j v hj⟩
  exact Decidable.byContradiction fun hn => by
    have e1 : w'.heap[g]? = none := Array.getElem?_eq_none (by omega)
    rw [e1] at hbl
    have e2 : w.heap[g]? = some w.heap[g] := Array.getElem?_eq_getElem h1
    rw [e2] at hbl
    cases hbl
theorem own_row {w : World} {base g : Nat} {e : TypeId} {size : Nat} {v : Value} {n : Nat} {xs : List Value} (h : w.ownsRow base e size v n xs) (hg : g < base) (cs : Array Value) : (w.setRow g cs).ownsRow base e size v n xs :=
  own_blocks h (fun b hb _ => setRow_other w g b cs (by omega))
end Go.Proofs.Ytimilcjlogcfhaa

/- Lists of IPv4 packets in memory. -/
namespace Go.Proofs.Ytimilcjlogcfhaa
open Go.ChangeShapes Go.WideShapes Go.ChangeAt Go.RowKit
set_option linter.unusedVariables false

/-- A packet as an element: with where its options lie. -/
abbrev IpE := Ip4R × Option Addr × Nat
def EIp : Enc IpE := ⟨15, by decide, fun x => [.int .i64 x.1.tos, .int .i64 x.1.id, .int .i64 x.1.ttl, .int .i64 x.1.proto, .bool x.1.dont, .bool x.1.more, .int .i64 x.1.off, .bool x.1.src.v6, .int .u64 (x.1.src.hi : Int), .int .u64 (x.1.src.lo : Int), .bool x.1.dst.v6, .int .u64 (x.1.dst.hi : Int), .int .u64 (x.1.dst.lo : Int), .slice x.2.1 x.1.ops.length x.2.2, .string (str x.1.pay)], fun _ => rfl, fun x v hv => by
  simp only [List.mem_cons, List.not_mem_nil, or_false] at hv
  rcases hv with rfl | rfl | rfl | rfl | rfl | rfl | rfl | rfl | rfl | rfl | rfl | rfl | rfl | rfl | rfl <;> rfl⟩
theorem info_ip : (Try.prog.info? 28).map (fun i => (i.zero, i.size, i.bytes)) = some (some (.agg #[.int .i64 0, .int .i64 0, .int .i64 0, .int .i64 0, .bool false, .bool false, .int .i64 0, .bool false, .int .u64 0, .int .u64 0, .bool false, .int .u64 0, .int .u64 0, .slice none 0 0, .string ⟨#[]⟩]), 15, 136) := by kernel_rfl
theorem ipsTy : ElemTy 40 28 15 136 :=
  ⟨Try.underlying40, by
    obtain ⟨i, h1, h2, h3, h4⟩ := info_parts info_ip
    exact ⟨i, _, h1, h2, h3, h4, rfl⟩⟩
/-- The options of the packets of a list, apart from the list's own row v. -/
def OpsIn (w : World) (v : Value) (es : List IpE) : Prop :=
  ∀ x ∈ es, (x.2.1 = none → x.2.2 = 0) ∧ RowL EOpt w x.2.1 x.1.ops ∧ (0 < x.1.ops.length → ∀ a, x.2.1 = some a → v.ownBlock ≠ some a.block)
theorem OpsIn.nil (w : World) (v : Value) : OpsIn w v [] := fun x hx => by cases hx
theorem OpsIn.kept {w w' : World} {v : Value} {es : List IpE} (h : OpsIn w v es) (hb : Below w.heap.size w w') : OpsIn w' v es := fun x hx => by
  obtain ⟨h1, h2, h3⟩ := h x hx
  exact ⟨h1, h2.kept hb, h3⟩
theorem OpsIn.push {w w1 w3 : World} {v : Value} {es : List IpE} {x : IpE} {o : Obj} {g n c : Nat} (h : OpsIn w v es) (hj : ∀ j, v.ownBlock = some j → j < w.heap.size) (hb : Below w.heap.size w w1)
    (h0 : x.2.1 = none → x.2.2 = 0) (hr : RowL EOpt w1 x.2.1 x.1.ops) (hf : ∀ a, x.2.1 = some a → w.heap.size ≤ a.block)
    (hg : (w1.alloc o).grownBy w3 v.ownBlock) (hat : v.ownBlock = some g ∨ g = (w1.alloc o).heap.size) : OpsIn w3 (.slice (some ⟨g, 0, none⟩) n c) (es ++ [x]) := by
  have hz : (w1.alloc o).heap.size = w1.heap.size + 1 := by simp
  have hb2 := below_alloc6 w1 o
  have hsz := hb.size
  have hnew : ∀ a : Addr, v.ownBlock ≠ some a.block → a.block < w1.heap.size → (Value.slice (some ⟨g, 0, none⟩) n c).ownBlock ≠ some a.block := fun a h1 h2 e => by
    have e' : g = a.block := Option.some.inj e
    rcases hat with h3 | h3
    · exact h1 (by rw [h3, e'])
    · omega
  have hlt : ∀ {W : World} {A : Option Addr} {l : List OpR}, RowL EOpt W A l → 0 < l.length → ∀ a, A = some a → a.block < W.heap.size := fun h hp a ha => by
    obtain ⟨g', o', e, hl, _⟩ := h hp
    rw [ha] at e
    rw [Option.some.inj e]
    exact hl
  intro y hy
  rcases List.mem_append.1 hy with hy | hy
  · obtain ⟨h1, h2, h3⟩ := h y hy
    refine ⟨h1, ?_, fun hp a ha => hnew a (h3 hp a ha) (by have := hlt h2 hp a ha; omega)⟩
    intro hp
    exact (((h2.kept hb).kept hb2).only hg (fun a ha e => h3 hp a ha e.symm)) hp
  · obtain rfl := List.mem_singleton.1 hy
    have hne : ∀ a, y.2.1 = some a → v.ownBlock ≠ some a.block := fun a ha e => by
      have h1 := hj _ e
      have h2 := hf a ha
      omega
    exact ⟨h0, (hr.kept hb2).only hg (fun a ha e => hne a ha e.symm), fun hp a ha => hnew a (hne a ha) (hlt hr hp a ha)⟩
/-- What Split leaves. -/
def SplP (w : World) (R : List Ip4R × Nat) (e : Ending) (w' : World) : Prop :=
  ∃ A c es, e = .returned (.tuple #[.slice A R.1.length c, .int .i64 (R.2 : Int)]) ∧ es.map (·.1) = R.1 ∧ RowL EIp w' A es ∧ (∀ x ∈ es, (x.2.1 = none → x.2.2 = 0) ∧ RowL EOpt w' x.2.1 x.1.ops) ∧ (A = none → c = 0) ∧ Below w.heap.size w w'
theorem SplP.err {w w' : World} {R : List Ip4R × Nat} {E : Int} {n : Nat} (h : R = ([], n)) (hE : (n : Int) = E) (hb : Below w.heap.size w w') : SplP w R (.returned (.tuple #[.slice none 0 0, .int .i64 E])) w' := by
  subst h hE
  exact ⟨none, 0, [], rfl, rfl, RowL.nil _ _, (fun x hx => by cases hx), (fun _ => rfl), hb⟩
theorem partI_ops (p : Ip4R) (d : List UInt8) (o : Int) (m : Bool) (a : Nat) : (partI p d o m a).ops = opsAt p.ops a := rfl
/-- How far the splitting is: f rounds are left. -/
def SplS (p : Ip4R) (size : Nat) (R : List Ip4R × Nat) (es : List IpE) (at_ : Nat) : Prop :=
  ∃ f, p.pay.length < at_ + (f + 1) * 8 ∧ R = match (partsI p size (f + 1) at_).map (fun l => es.map (·.1) ++ l) with
    | none => ([], 4)
    | some l => (l, 0)
theorem SplS.none {p : Ip4R} {size : Nat} {R : List Ip4R × Nat} {es : List IpE} {at_ : Nat} (h : SplS p size R es at_) (h1 : 65528 < p.off + at_) : R = ([], 4) := by
  obtain ⟨f, _, hR⟩ := h
  rw [hR, partsI, if_pos h1]
  rfl
theorem SplS.last {p : Ip4R} {size : Nat} {R : List Ip4R × Nat} {es : List IpE} {at_ : Nat} (h : SplS p size R es at_) (h1 : ¬ 65528 < p.off + at_) (h2 : p.pay.length - at_ ≤ size) : R = (es.map (·.1) ++ [partI p (p.pay.drop at_) (p.off + at_) p.more at_], 0) := by
  obtain ⟨f, _, hR⟩ := h
  rw [hR, partsI, if_neg h1, if_pos h2]
  rfl
theorem SplS.next {p : Ip4R} {size : Nat} {R : List Ip4R × Nat} {es : List IpE} {at_ : Nat} (h : SplS p size R es at_) (h1 : ¬ 65528 < p.off + at_) (h2 : ¬ p.pay.length - at_ ≤ size) (h8 : 8 ≤ size) {x : IpE} (hx : x.1 = partI p ((p.pay.drop at_).take size) (p.off + at_) true at_) : SplS p size R (es ++ [x]) (at_ + size) := by
  obtain ⟨f, hf, hR⟩ := h
  cases f with
  | zero => omega
  | succ f =>
    refine ⟨f, by omega, ?_⟩
    rw [hR, partsI, if_neg h1, if_neg h2, List.map_append, List.map_singleton, hx]
    cases partsI p size (f + 1) (at_ + size) with
    | none => rfl
    | some l => simp
theorem SplS.start {p : Ip4R} {size : Int} (h1 : ¬ (size < 8 ∨ size % 8 ≠ 0)) (h2 : ¬ (encI p).2 ≠ 0) (h3 : ¬ (p.pay.length : Int) ≤ size) (h4 : ¬ p.dont = true) : SplS p size.toNat (splitI p size) [] 0 := by
  refine ⟨p.pay.length, by omega, ?_⟩
  unfold splitI
  rw [if_neg h1, if_neg h2, if_neg h3, if_neg h4]
  cases partsI p size.toNat (p.pay.length + 1) 0 with
  | none => rfl
  | some l => simp
end Go.Proofs.Ytimilcjlogcfhaa
