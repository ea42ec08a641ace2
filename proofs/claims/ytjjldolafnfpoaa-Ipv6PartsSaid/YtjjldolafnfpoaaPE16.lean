/- Contracts of the functions, part 16: Ip4RDec. -/
import Derived.Laws.Tables
import Derived.StillTailTactics
import Derived.Test.YtjjldolafnfpoaaPE11
import Derived.Test.YtjjldolafnfpoaaPE13
import Derived.Test.YtjjldolafnfpoaaPE15
/- Contract of the reference of layer 11: Decode. -/
namespace Go.Proofs.Ytjjldolafnfpoaa
open Go.ChangeShapes Go.WideShapes Go.ChangeAt Go.RowKit
set_option linter.unusedVariables false

/-- FromBytes of four bytes, met by text. -/
theorem from4_any (D : ByteArray) (L : List UInt8) (h : D = str L) (hl : L.length = 4) (w : World) :
    Calls Try.prog 28 #[.string D] w fun e w' => e = .returned (.tuple #[.agg #[.bool false, .int .u64 0, .int .u64 (num L : Nat)], .int .i64 0]) ∧ Below w.heap.size w w' := by
  subst h
  refine (rfrom6_false (str L) w (by rw [str_size]; exact hl)).mono ?_
  rintro e w' ⟨⟨hi, lo, rfl, hf⟩, hb⟩
  rw [str_toList, str_size] at hf
  obtain ⟨h1, h2⟩ := (show hi = 0 ∧ lo = num (L.take L.length) from hf)
  rw [List.take_length] at h2
  subst h1 h2
  exact ⟨rfl, hb⟩
/-- What Decode leaves. -/
def Dec4P (w : World) (R : Ip4R × Nat) (e : Ending) (w' : World) : Prop :=
  ∃ A cap, e = .returned (.tuple #[.agg #[.int .i64 R.1.tos, .int .i64 R.1.id, .int .i64 R.1.ttl, .int .i64 R.1.proto, .bool R.1.dont, .bool R.1.more, .int .i64 R.1.off, .bool R.1.src.v6, .int .u64 (R.1.src.hi : Int), .int .u64 (R.1.src.lo : Int), .bool R.1.dst.v6, .int .u64 (R.1.dst.hi : Int), .int .u64 (R.1.dst.lo : Int), .slice A R.1.ops.length cap, .string (str R.1.pay)], .int .i64 (R.2 : Int)]) ∧ RowL EOpt w' A R.1.ops ∧ (A = none → cap = 0) ∧ Below w.heap.size w w'
def zC4 : Array Value := #[.int .i64 0, .int .i64 0, .int .i64 0, .int .i64 0, .bool false, .bool false, .int .i64 0, .bool false, .int .u64 0, .int .u64 0, .bool false, .int .u64 0, .int .u64 0, .slice none 0 0, .string ⟨#[]⟩]
theorem s0_at {s : ByteArray} {S : List UInt8} (h : s = str S) (i : Nat) (h1 : i < s.size) : s[i].toNat = byt S i := by
  subst h
  have h2 : i < S.length := by rw [str_size] at h1; exact h1
  unfold byt
  rw [List.getD_eq_getElem?_getD, List.getElem?_eq_getElem h2]
  show ((str S).data[i]).toNat = _
  simp [str]
theorem dec4_err {w wz : World} {R : Ip4R × Nat} {er : Nat} {E : Int} (hE : (er : Int) = E) (hr : R = (zeroI, er)) (hb : Below w.heap.size w wz) :
    Dec4P w R (.returned (.tuple #[.agg #[.int .i64 0, .int .i64 0, .int .i64 0, .int .i64 0, .bool false, .bool false, .int .i64 0, .bool false, .int .u64 0, .int .u64 0, .bool false, .int .u64 0, .int .u64 0, .slice none 0 0, .string ⟨#[]⟩], .int .i64 E])) wz := by
  subst hE hr
  exact ⟨none, 0, rfl, RowL.nil _ _, fun _ => rfl, hb⟩
theorem cdrew11 (w : World) (a : Addr) : w.drew.cell? a = w.cell? a := rfl
theorem cfar11 {g b : Nat} (h : b ≠ g) (w : World) (i j : Nat) (v : Value) : (w.setCell ⟨g, i, none⟩ v).cell? ⟨b, j, none⟩ = w.cell? ⟨b, j, none⟩ :=
  World.cell?_of_block (Below.heap_setCell w ⟨g, i, none⟩ v b h)
end Go.Proofs.Ytjjldolafnfpoaa
