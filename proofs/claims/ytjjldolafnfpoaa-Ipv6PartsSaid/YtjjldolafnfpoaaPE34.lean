/- Contracts of the functions, part 34: Eu8. -/
import Derived.Test.YtjjldolafnfpoaaPE2
import Derived.Test.YtjjldolafnfpoaaPE3
import Derived.Test.YtjjldolafnfpoaaPE4
/- Bytes as elements of a row that the call owns; Put of the program, of a number that fits. -/
namespace Go.Proofs.Ytjjldolafnfpoaa
open Go.ChangeShapes Go.WideShapes Go.ChangeAt Go.RowKit
set_option linter.unusedVariables false

/-- Bytes as elements. -/
def EU8 : Enc UInt8 := ⟨1, by decide, fun x => [.int .u8 (x.toNat : Int)], fun _ => rfl, fun s v hv => by
  simp only [List.mem_cons, List.not_mem_nil, or_false] at hv
  subst hv
  rfl⟩
theorem u8Ty10 : ElemTy 83 5 1 1 :=
  ⟨Try.underlying83, by
    obtain ⟨i, h1, h2, h3, h4⟩ := info_parts info5
    exact ⟨i, _, h1, h2, h3, h4, rfl⟩⟩
theorem eu8_cells (l : List UInt8) : EU8.cells l = cellsOf l := by
  induction l with
  | nil => rfl
  | cons a r ih => rw [Enc.cells_cons, ih]; rfl
/-- Put of the program, of a number that fits. -/
theorem pputB_any (k n : Nat) (N Z : Int) (hN : (n : Int) = N) (hZ : (k : Int) = Z) (hk : 1 ≤ k) (hk7 : k ≤ 7) (hn : n < 256 ^ k) (hn9 : n ≤ 9223372036854775807) (w : World) :
    Calls Try.prog 33 #[.int .i64 N, .int .i64 Z] w fun e w' => e = .returned (.string (str (beL k n))) ∧ Below w.heap.size w w' := by
  subst hN hZ
  have := put_yes (n : Int) (k : Int) w (by omega) (by omega) (by omega) (by omega) (by rw [Int.toNat_natCast, Int.toNat_natCast]; exact hn)
  rwa [Int.toNat_natCast, Int.toNat_natCast] at this
end Go.Proofs.Ytjjldolafnfpoaa
