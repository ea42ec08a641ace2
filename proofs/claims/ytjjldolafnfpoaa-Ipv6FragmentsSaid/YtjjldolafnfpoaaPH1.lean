/- Contracts of the functions, further part 1: Ip4Adr, Ip4Rou, Ip4Frg, Ip4FEq. -/
import Derived.Laws.StructEq
import Derived.Test.YtjjldolafnfpoaaPE13
import Derived.Test.YtjjldolafnfpoaaPE6
/- Contracts of the reference of layer 11: address, Routed. -/
namespace Go.Proofs.Ytjjldolafnfpoaa
open Go.ChangeShapes Go.WideShapes Go.ChangeAt Go.RowKit
set_option linter.unusedVariables false

theorem vld_a4 (v6 : Bool) (hi lo : Nat) : (vldA v6 hi lo && !v6) = decide (a4 ⟨v6, hi, lo⟩) := by
  unfold vldA a4
  cases v6
  · simp only [Bool.false_or, Bool.not_false, Bool.and_true, true_and]
    by_cases h : hi = 0 <;> by_cases k : lo < 4294967296 <;> simp [h, k]
  · simp
set_option maxHeartbeats 4000000 in
set_option maxRecDepth 20000 in
theorem routed_next {l : List OpR} {k : Nat} {x : OpR} (hx : l[k]? = some x) : (l.take (k + 1)).any (fun x => isRoute x.kd) = ((l.take k).any (fun x => isRoute x.kd) || isRoute x.kd) := by
  obtain ⟨hk, e⟩ := List.getElem?_eq_some_iff.1 hx
  rw [List.take_succ_eq_append_getElem hk, e, List.any_append]
  simp
end Go.Proofs.Ytjjldolafnfpoaa

/- Contracts of the reference of layer 11: Routed. -/
namespace Go.Proofs.Ytjjldolafnfpoaa
open Go.ChangeShapes Go.WideShapes Go.ChangeAt Go.RowKit
set_option linter.unusedVariables false

/-- A packet as an argument. -/
def ipV (p : Ip4R) (n : Nat) (A : Option Addr) (c : Nat) (D : ByteArray) : Value := .agg (ipC p n A c D)
theorem isRoute_dec (k : Int) (e : k = 131 ∨ k = 137) : isRoute k = true := by
  rcases e with rfl | rfl <;> decide
theorem isRoute_not (k : Int) (h : k ≠ 131) (g : k ≠ 137) : isRoute k = false := by
  unfold isRoute
  simp [h, g]
end Go.Proofs.Ytjjldolafnfpoaa

/- Contracts of the reference of layer 11: Fragment. -/
namespace Go.Proofs.Ytjjldolafnfpoaa
open Go.ChangeShapes Go.WideShapes Go.ChangeAt Go.RowKit
set_option linter.unusedVariables false

theorem alloc2_1 (w : World) (a b : Obj) : ((w.alloc a).alloc b).heap[w.heap.size + 1]? = some b := by
  have := heap_alloc_new (w.alloc a) b
  rwa [show (w.alloc a).heap.size = w.heap.size + 1 by simp] at this
theorem frgTy : BoxTy 44 12 := ⟨⟨_, Try.underlying44⟩, by kernel_rfl⟩
end Go.Proofs.Ytjjldolafnfpoaa

/- The comparison of two equal fragments. -/
namespace Go.Proofs.Ytjjldolafnfpoaa
open Go.ChangeShapes Go.WideShapes Go.ChangeAt Go.RowKit
set_option linter.unusedVariables false

theorem frg_guard : Try.prog.eqGuardType Try.prog.depth 44 = false := by kernel_rfl
set_option maxHeartbeats 4000000 in
set_option maxRecDepth 20000 in
theorem frg_eql (sv dv more : Bool) (sh sl dh dl proto id ttl off : Int) (P : ByteArray) (W : World) :
    (binOp .eql 44 (.agg #[.bool sv, .int .u64 sh, .int .u64 sl, .bool dv, .int .u64 dh, .int .u64 dl, .int .i64 proto, .int .i64 id, .int .i64 ttl, .int .i64 off, .bool more, .string P]) (.agg #[.bool sv, .int .u64 sh, .int .u64 sl, .bool dv, .int .u64 dh, .int .u64 dl, .int .i64 proto, .int .i64 id, .int .i64 ttl, .int .i64 off, .bool more, .string P])).run Try.prog W = .ok (.bool true) W := by
  have u3 := Try.underlying23
  have a3 := Try.isAgg23
  have z3 := Try.sizeOf23
  have u2 := Try.underlying3
  have a2 := Try.isAgg3
  have z2 := Try.sizeOf3
  have u9 := Try.underlying4
  have a9 := Try.isAgg4
  have z9 := Try.sizeOf4
  have u7 := Try.underlying9
  have a7 := Try.isAgg9
  have z7 := Try.sizeOf9
  have u8 := Try.underlying25
  have a8 := Try.isAgg25
  have z8 := Try.sizeOf25
  have hS : Try.prog.underlying 44 = some (.struct (Try.prog.fieldsOf 44)) := by kernel_rfl
  have hp : Try.prog.stoodInHeld 44 = false := by kernel_rfl
  have hS2 : Try.prog.underlying 25 = some (.struct (Try.prog.fieldsOf 25)) := by kernel_rfl
  have hp2 : Try.prog.stoodInHeld 25 = false := by kernel_rfl
  rw [run_eql_struct, show (10000 : Nat) = 9998 + 1 + 1 from rfl, run_equalIn_agg W (9998 + 1) 44 _ _ hS hp]
  simp only [Program.fieldsOf, Try.underlying44]
  go_simp
end Go.Proofs.Ytjjldolafnfpoaa
