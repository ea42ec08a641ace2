/- Contracts of the functions, part 13: Ip4Opt, Csum, AdrGrp. -/
import Derived.Deep.RegionLaw
import Derived.Test.YtjjldolafnfpoaaPE2
import Derived.Test.YtjjldolafnfpoaaPE4
import Derived.Test.YtjjldolafnfpoaaPE9
import Derived.Test.YtjjldolafnfpoaaPE10
/- Contracts of the reference of layer 11: Kinds, Need, Written, Options, address. -/
namespace Go.Proofs.Ytjjldolafnfpoaa
open Go.ChangeShapes Go.WideShapes Go.ChangeAt Go.RowKit
set_option linter.unusedVariables false

instance (l : List OpR) : Decidable (okK l) := inferInstanceAs (Decidable (∀ x ∈ l, 2 ≤ x.kd ∧ x.kd ≤ 255))
theorem okK_next {l : List OpR} {k : Nat} {x : OpR} (h : okK (l.take k)) (hx : l[k]? = some x) (h1 : 2 ≤ x.kd) (h2 : x.kd ≤ 255) : okK (l.take (k + 1)) := by
  obtain ⟨hk, e⟩ := List.getElem?_eq_some_iff.1 hx
  rw [List.take_succ_eq_append_getElem hk, e]
  intro y hy
  rcases List.mem_append.1 hy with hy | hy
  · exact h y hy
  · rw [List.mem_singleton] at hy
    subst hy
    exact ⟨h1, h2⟩
theorem wrOs_next {l : List OpR} {k : Nat} {x : OpR} (hx : l[k]? = some x) : wrOs (l.take (k + 1)) = wrOs (l.take k) ++ wrO x := by
  obtain ⟨hk, e⟩ := List.getElem?_eq_some_iff.1 hx
  rw [List.take_succ_eq_append_getElem hk, e, wrOs_snoc]
theorem wrOs_take (l : List OpR) (k : Nat) : (wrOs (l.take k)).length ≤ (wrOs l).length := by
  have : wrOs l = wrOs (l.take k) ++ wrOs (l.drop k) := by unfold wrOs; rw [← List.flatMap_append, List.take_append_drop]
  rw [this, List.length_append]
  omega
/-! ### Written -/
def strOf11 : Value → ByteArray
  | .string s => s
  | _ => ⟨#[]⟩
theorem u8c (n : Int) : ((IntKind.u8.wrap n).toNat < 256) := by rw [IntKind.wrap_u8]; omega
/-- Two bytes in a new block, as a string. -/
theorem two_str (w : World) (a b : Nat) (ha : a < 256) (hb : b < 256) : (convert 83 9 (.slice (some ⟨w.heap.size, 0, none⟩) 2 2)).run Try.prog (w.alloc (.cells #[.int .u8 (a : Int), .int .u8 (b : Int)] 5)) = .ok (.string (str [UInt8.ofNat a, UInt8.ofNat b])) (w.alloc (.cells #[.int .u8 (a : Int), .int .u8 (b : Int)] 5)) := by
  refine bs_string (l := [UInt8.ofNat a, UInt8.ofNat b]) (base := 0) ⟨some ⟨w.heap.size, 0, none⟩, 2, rfl, Nat.le_refl _, fun _ => ⟨w.heap.size, 0, rfl, Nat.zero_le _, alloc_lt6 w _, fun j hj => ?_⟩⟩
  have hX : Cells (w.alloc (.cells #[.int .u8 (a : Int), .int .u8 (b : Int)] 5)) w.heap.size 5 #[.int .u8 (a : Int), .int .u8 (b : Int)] := heap_alloc_new w _
  refine ⟨?_, by rw [Nat.zero_add]; exact Cells.frozen hX j⟩
  rw [Nat.zero_add, Cells.cell hX j]
  match j, hj with
  | 0, _ => simp [u8n ha]
  | 1, _ => simp [u8n hb]
theorem extract_str11 (s : ByteArray) (L : List UInt8) (h : s = str L) (a b : Nat) : s.extract a b = str ((L.drop a).take (b - a)) := by
  subst h
  have : str ((str L).extract a b).data.toList = (str L).extract a b := str_of _
  rw [← this]
  congr 1
  have e := str_toList L
  simp only [ByteArray.data_extract, Array.toList_extract, List.extract_eq_take_drop, e]
/-! ### Options -/
/-- What Options leaves. -/
def OptP (w : World) (o : Option (List OpR)) (e : Ending) (w' : World) : Prop := match o with
  | none => e = .returned (.tuple #[.slice none 0 0, .bool false]) ∧ Below w.heap.size w w'
  | some l => ∃ A c, e = .returned (.tuple #[.slice A l.length c, .bool true]) ∧ RowL EOpt w' A l ∧ (A = none → c = 0) ∧ (∀ a, A = some a → w.heap.size ≤ a.block) ∧ Below w.heap.size w w'
end Go.Proofs.Ytjjldolafnfpoaa

/- Contracts: the Internet checksum of the program and of the reference. -/
namespace Go.Proofs.Ytjjldolafnfpoaa
open Go.ChangeShapes Go.WideShapes Go.ChangeAt Go.RowKit

/-- 'n & 65535'. -/
theorem low16 (n : Int) : bits .and .i64 n 65535 = n % 65536 := by
  have e : (BitVec.ofInt 64 65535).toNat = 65535 := by decide
  have e2 : ((BitVec.ofInt 64 n).toNat : Int) = n % 18446744073709551616 := by
    rw [BitVec.toNat_ofInt]
    have : (0 : Int) ≤ n % 18446744073709551616 := Int.emod_nonneg _ (by decide)
    omega
  show IntKind.i64.wrap ((BitVec.ofInt 64 n &&& BitVec.ofInt 64 65535).toNat : Int) = _
  rw [BitVec.toNat_and, e, show (65535 : Nat) = 2 ^ 16 - 1 from rfl, Nat.and_two_pow_sub_one_eq_mod, IntKind.wrap_i64]
  omega

/-- What Update answers. -/
def upd (s b a : Int) : Int := 65535 - oc (oc (65535 - s % 65536) (65535 - b % 65536)) (a % 65536)
theorem oc_le {a b : Int} (h0 : 0 ≤ a) (h1 : a ≤ 65535) (h2 : 0 ≤ b) (h3 : b ≤ 65535) : 0 ≤ oc a b ∧ oc a b ≤ 65535 := by
  unfold oc; split <;> omega
theorem low_id {a : Int} (h0 : 0 ≤ a) (h1 : a ≤ 65535) : a % 65536 = a := by omega

end Go.Proofs.Ytjjldolafnfpoaa

/- Contracts of the reference of layer 6: group. -/
namespace Go.Proofs.Ytjjldolafnfpoaa
open Go.ChangeShapes Go.WideShapes Go.ChangeAt Go.RowKit
set_option linter.unusedVariables false

/-- What the reference's group answers. -/
def grpI (s : By) : Int := match grpS s with
  | none => -1
  | some n => n
theorem pow16_le {k : Nat} (h : k < 4) : 16 ^ k ≤ 4096 := by
  calc 16 ^ k ≤ 16 ^ 3 := Nat.pow_le_pow_right (by omega) (by omega)
    _ = 4096 := rfl
end Go.Proofs.Ytjjldolafnfpoaa
