/- The comparison of two tokens. -/
import Derived.Test.YtcakdgfkepdpkaaLexScan
import Derived.Laws.StructEq
namespace Go.Proofs.Ytcakdgfkepdpkaa
open Go.ChangeShapes Go.WideShapes Go.ChangeAt Go.RowKit

theorem tok_guard : Try.prog.eqGuardType Try.prog.depth 36 = false := by kernel_rfl
theorem tok_eql (k k' a a' : Int) (t t' : ByteArray) (W : World) :
    (binOp .eql 36 (.agg #[.int .i64 k, .string t, .int .i64 a]) (.agg #[.int .i64 k', .string t', .int .i64 a'])).run Try.prog W = .ok (.bool (k == k' && (t.toList == t'.toList && a == a'))) W := by
  have u3 := Try.underlying3
  have a3 := Try.isAgg3
  have z3 := Try.sizeOf3
  have u9 := Try.underlying9
  have a9 := Try.isAgg9
  have z9 := Try.sizeOf9
  have hS : Try.prog.underlying 36 = some (.struct (Try.prog.fieldsOf 36)) := by kernel_rfl
  have hp : Try.prog.stoodInHeld 36 = false := by kernel_rfl
  rw [run_eql_struct, show (10000 : Nat) = 9999 + 1 from rfl, run_equalIn_agg W 9999 36 _ _ hS hp]
  simp only [Program.fieldsOf, Try.underlying36]
  go_simp
  cases h1 : (k == k') <;> cases h2 : (t.toList == t'.toList) <;> cases h3 : (a == a') <;> simp_all
theorem tok_neq (k k' a a' : Int) (t t' : ByteArray) (W : World) :
    (binOp .neq 36 (.agg #[.int .i64 k, .string t, .int .i64 a]) (.agg #[.int .i64 k', .string t', .int .i64 a'])).run Try.prog W = .ok (.bool (!(k == k' && (t.toList == t'.toList && a == a')))) W := by
  have u3 := Try.underlying3
  have a3 := Try.isAgg3
  have z3 := Try.sizeOf3
  have u9 := Try.underlying9
  have a9 := Try.isAgg9
  have z9 := Try.sizeOf9
  have hS : Try.prog.underlying 36 = some (.struct (Try.prog.fieldsOf 36)) := by kernel_rfl
  have hp : Try.prog.stoodInHeld 36 = false := by kernel_rfl
  rw [run_neq_struct, show (10000 : Nat) = 9999 + 1 from rfl, run_equalIn_agg W 9999 36 _ _ hS hp]
  simp only [Program.fieldsOf, Try.underlying36]
  go_simp
  cases h1 : (k == k') <;> cases h2 : (t.toList == t'.toList) <;> cases h3 : (a == a') <;> simp_all
end Go.Proofs.Ytcakdgfkepdpkaa
