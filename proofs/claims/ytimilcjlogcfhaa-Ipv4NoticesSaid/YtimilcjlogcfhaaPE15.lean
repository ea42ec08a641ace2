/- Contracts of the functions, part 15: Ip4Frg, AdrNext. -/
import Derived.Test.YtimilcjlogcfhaaPE7
import Derived.Test.YtimilcjlogcfhaaPE14
/- Contracts of the reference of layer 11: Fragment. -/
namespace Go.Proofs.Ytimilcjlogcfhaa
open Go.ChangeShapes Go.WideShapes Go.ChangeAt Go.RowKit
set_option linter.unusedVariables false

theorem alloc2_1 (w : World) (a b : Obj) : ((w.alloc a).alloc b).heap[w.heap.size + 1]? = some b := by
  have := heap_alloc_new (w.alloc a) b
  rwa [show (w.alloc a).heap.size = w.heap.size + 1 by simp] at this
theorem frgTy : BoxTy 38 12 := ⟨⟨_, Try.underlying38⟩, by kernel_rfl⟩
set_option maxHeartbeats 4000000 in
set_option maxRecDepth 20000 in
theorem rfragment11_any (tos id ttl proto off : Int) (dont more sv dv : Bool) (sh sl dh dl : Nat) (n : Nat) (A : Option Addr) (c : Nat) (D : ByteArray) (w : World) :
    Calls Try.prog 18 #[.agg #[.int .i64 tos, .int .i64 id, .int .i64 ttl, .int .i64 proto, .bool dont, .bool more, .int .i64 off, .bool sv, .int .u64 (sh : Int), .int .u64 (sl : Int), .bool dv, .int .u64 (dh : Int), .int .u64 (dl : Int), .slice A n c, .string D]] w fun e w' => e = .returned (.agg #[.bool sv, .int .u64 (sh : Int), .int .u64 (sl : Int), .bool dv, .int .u64 (dh : Int), .int .u64 (dl : Int), .int .i64 proto, .int .i64 id, .int .i64 ttl, .int .i64 off, .bool more, .string D]) ∧ Below w.heap.size w w' := by
  have HB0 := Lib.hid (below_alloc6 w (.cells #[.int .i64 tos, .int .i64 id, .int .i64 ttl, .int .i64 proto, .bool dont, .bool more, .int .i64 off, .bool sv, .int .u64 (sh : Int), .int .u64 (sl : Int), .bool dv, .int .u64 (dh : Int), .int .u64 (dl : Int), .slice A n c, .string D] 28))
  go_enter Try.func18, Try.ntmps18
  go_wp2_with fail
  exact bodyPost_ret (res_box1 (g := w.heap.size + 1) (cs := #[.bool sv, .int .u64 (sh : Int), .int .u64 (sl : Int), .bool dv, .int .u64 (dh : Int), .int .u64 (dl : Int), .int .i64 proto, .int .i64 id, .int .i64 ttl, .int .i64 off, .bool more, .string D]) frgTy rfl _ _ rfl (alloc2_1 _ _ _)) rfl ⟨rfl, HB0.out.alloc HB0.out.size _⟩
end Go.Proofs.Ytimilcjlogcfhaa

/- Contracts of the reference of layer 6: Next, Previous. -/
namespace Go.Proofs.Ytimilcjlogcfhaa
open Go.ChangeShapes Go.WideShapes Go.ChangeAt Go.RowKit
set_option linter.unusedVariables false

/-- An address, or none, as a result with its flag. -/
def aRes : Option (Bool × Nat × Nat) → Value
  | some (v6, hi, lo) => .tuple #[.agg #[.bool v6, .int .u64 hi, .int .u64 lo], .bool true]
  | none => .tuple #[.agg #[.bool false, .int .u64 0, .int .u64 0], .bool false]
def nxtA (v6 : Bool) (hi lo : Nat) : Option (Bool × Nat × Nat) :=
  if lo + 1 < 18446744073709551616 then (if v6 = false ∧ lo + 1 = 4294967296 then none else some (v6, hi, lo + 1))
  else if v6 then (if hi + 1 < 18446744073709551616 then some (v6, hi + 1, 0) else none) else some (v6, hi, 0)
def prvA (v6 : Bool) (hi lo : Nat) : Option (Bool × Nat × Nat) :=
  if lo = 0 then (if hi = 0 then none else some (v6, hi - 1, 18446744073709551615)) else some (v6, hi, lo - 1)
theorem zero_addr (w : World) : AB (w.alloc (.cells #[.bool false, .int .u64 0, .int .u64 0] 25)) w.heap.size false 0 0 := ab_new w false 0 0
theorem ab2 (w : World) (o : Obj) (v6 : Bool) (hi lo : Nat) : AB ((w.alloc o).alloc (.cells #[.bool v6, .int .u64 hi, .int .u64 lo] 25)) (w.heap.size + 1) v6 hi lo := by
  have := ab_new (w.alloc o) v6 hi lo
  rwa [show (w.alloc o).heap.size = w.heap.size + 1 by simp] at this
theorem below2 (w : World) (a b : Obj) : Below w.heap.size w ((w.alloc a).alloc b) := (below_alloc6 w a).trans ((below_alloc6 _ b).mono (by simp))
theorem wrap_u64_up {n : Nat} (h : n + 1 = 18446744073709551616) : IntKind.u64.wrap ((n : Int) + 1) = 0 := by
  simp [IntKind.wrap, IntKind.bits, IntKind.signed]; omega
theorem wrap_u64_in {n : Int} (h0 : 0 ≤ n) (h : n < 18446744073709551616) : IntKind.u64.wrap n = n := by
  simp [IntKind.wrap, IntKind.bits, IntKind.signed]; omega
end Go.Proofs.Ytimilcjlogcfhaa
