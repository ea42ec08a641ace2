/- Contracts of the functions, part 9: Elems2, EthMem. -/
import Derived.Deep.RegionHeld3
import Derived.Test.YtimilcjlogcfhaaPE1
import Derived.Test.YtimilcjlogcfhaaPE5
import Derived.Test.YtimilcjlogcfhaaPE6
import Derived.Test.YtimilcjlogcfhaaPE8
/- append at a step of a region that draws: elements of any fixed number of cells. -/
namespace Go.Proofs.Ytimilcjlogcfhaa
open Go.ChangeShapes Go.WideShapes Go.ChangeAt Go.RowKit
set_option linter.unusedVariables false
variable {α : Type} {E : Enc α}

/-- append(out, x, ..) at a step of a region that draws: elements that lie in a block of their own, onto a slice that the call owns. -/
theorem step_push {t e : TypeId} {bytes : Nat} {w : World} {ops : Array Oper} {o : Oper} {a : Act} {K : Act → World → Prop} {Q : Exit → Act → World → Prop} {F : Prop} (T : ElemTy t e E.k bytes) (hgd : o.guard = none) (s x : Operand)
    (ho : o.op = .call { callee := .builtin .append, args := #[s, x], argTypes := #[t, t] })
    (base : Nat) (v : Value) (n : Nat) (l ys : List α) (hs : a.eval s = v) (hown : w.ownsRow base e E.k v n (E.cells l))
    (B m c : Nat) (cs : Array Value) (fr : Nat × Nat) (hx : a.eval x = .slice (some ⟨B, 0, none⟩) m c) (hB : w.heap[B]? = some (.cells cs e fr)) (hcs : cs.toList = E.cells ys) (hm : m = ys.length) (hm0 : 0 < m) (hn : n + m ≤ 1000000) (hby : bytes ≤ 1000) (hbase : base ≤ w.heap.size)
    (h : ∀ g cap w', w'.ownsRow base e E.k (.slice (some ⟨g, 0, none⟩) (n + m) cap) (n + m) (E.cells (l ++ ys)) → w.grownBy w' v.ownBlock → (v.ownBlock = some g ∨ g = w.heap.size) → g < w'.heap.size → K (a.put o.dst (.slice (some ⟨g, 0, none⟩) (n + m) cap)) w') :
    if Region.wanted o (yielded ops a.tmps) = true then Oper.wp Try.prog o a w K Q else F := by
  obtain ⟨i, z, h1, h2, h3, h4, h5⟩ := T.info
  refine step_append_lies w hgd s x t ho base e i z E.k bytes T.und h1 h2 h3 h4 h5 E.pos v n (E.cells l) hs hown ⟨B, 0, none⟩ m c (E.cells ys) hx (by rw [E.cells_length, hm]) (fun j u hu => World.news_of_block hB j u (by rw [hcs]; exact hu)) (E.cells_one' ys) hm0 (by unfold maxLen; omega) ?_ hbase _ rfl ?_
  · have : (n + m) * bytes ≤ 1000000 * 1000 := Nat.mul_le_mul hn hby
    omega
  · intro g cap w' a1 a2 a3 a4
    rw [← E.cells_append] at a1
    exact h g cap w' a1 a2 a3 a4
end Go.Proofs.Ytimilcjlogcfhaa

/- Frames in memory. -/
namespace Go.Proofs.Ytimilcjlogcfhaa
open Go.ChangeShapes Go.WideShapes Go.ChangeAt Go.RowKit
set_option linter.unusedVariables false

theorem info_int10 : (Try.prog.info? 3).map (fun i => (i.zero, i.size, i.bytes)) = some (some (.int .i64 0), 1, 8) := by kernel_rfl
/-- A frame's cells. -/
def ethC (x : EthR) (A : Option Addr) (c : Nat) : Array Value := #[.int .u64 (x.dst : Int), .int .u64 (x.src : Int), .slice A x.vl.length c, .int .i64 x.ty, .string (str x.pay)]
/-- What Decode leaves. -/
def DecP (w : World) (R : EthR × Nat) (e : Ending) (w' : World) : Prop :=
  ∃ A cap, e = .returned (.tuple #[.agg #[.int .u64 (R.1.dst : Int), .int .u64 (R.1.src : Int), .slice A R.1.vl.length cap, .int .i64 R.1.ty, .string (str R.1.pay)], .int .i64 (R.2 : Int)]) ∧ RowL EInt w' A R.1.vl ∧ (A = none → cap = 0) ∧ Below w.heap.size w w'
/-- Value, met by text. -/
theorem val_any (s : ByteArray) (L : List UInt8) (h : s = str L) (hl : L.length ≤ 7) (w : World) :
    Calls Try.prog 71 #[.string s] w fun e w' => e = .returned (.int .i64 (num L : Nat)) ∧ w = w' := by
  subst h
  have := value_any (str L) w (by rw [str_size]; exact hl)
  rwa [str_toList] at this
/-- Put of a number that fits. -/
theorem putB_any (k n : Nat) (N Z : Int) (hN : (n : Int) = N) (hZ : (k : Int) = Z) (hk : 1 ≤ k) (hk7 : k ≤ 7) (hn : n < 256 ^ k) (w : World) :
    Calls Try.prog 43 #[.int .i64 N, .int .i64 Z] w fun e w' => e = .returned (.string (str (beL k n))) ∧ Below w.heap.size w w' := by
  subst hN hZ
  obtain ⟨j, rfl⟩ : ∃ j, k = j + 1 := ⟨k - 1, by omega⟩
  have := rput_yes j (n : Int) ((j + 1 : Nat) : Int) w (by omega) (by omega) (by omega) (by rw [Int.toNat_natCast]; exact hn)
  rwa [Int.toNat_natCast] at this
end Go.Proofs.Ytimilcjlogcfhaa
