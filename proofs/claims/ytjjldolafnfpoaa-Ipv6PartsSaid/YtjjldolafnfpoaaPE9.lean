/- Contracts of the functions, part 9: AdrDec, AdrSplit, CapRNum. -/
import Derived.Deep.AppendLies
import Derived.Deep.RegionHeld3
import Derived.Laws.OwnMore
import Derived.Test.YtjjldolafnfpoaaPE2
import Derived.Test.YtjjldolafnfpoaaPE8
/- Contract of the reference of layer 6: Decimal. -/
namespace Go.Proofs.Ytjjldolafnfpoaa
open Go.ChangeShapes Go.WideShapes Go.ChangeAt Go.RowKit
set_option linter.unusedVariables false

theorem drop_at6 (s : ByteArray) (k : Nat) (h : k < s.size) : s.data.toList.drop k = s[k] :: s.data.toList.drop (k + 1) := by
  rw [List.drop_eq_getElem_cons (by simpa using h)]; rfl
end Go.Proofs.Ytjjldolafnfpoaa

/- Contract of the reference of layer 6: Split (a list of strings in memory). -/
namespace Go.Proofs.Ytjjldolafnfpoaa
open Go.ChangeShapes Go.WideShapes Go.ChangeAt Go.RowKit
set_option linter.unusedVariables false

theorem extract_str6 (s : ByteArray) (a b : Nat) : s.extract a b = str ((s.data.toList.drop a).take (b - a)) := by
  apply ByteArray.ext
  apply Array.ext'
  rw [Lib.extract_data]
  simp [str]
theorem toList_length6 (s : ByteArray) : s.data.toList.length = s.size := by show s.data.toList.length = s.data.size; simp only [Array.length_toList]
def strC (L : List By) : List Value := L.map fun p => .string (str p)
theorem strC_snoc (L : List By) (p : By) : strC (L ++ [p]) = strC L ++ [.string (str p)] := by simp [strC]
theorem info_str6 : (Try.prog.info? 9).map (fun i => (i.zero, i.size, i.bytes)) = some (some (.string ⟨#[]⟩), 1, 16) := by kernel_rfl
/-- What is still to come at index k, the piece under way having begun at f. -/
def restS (c : UInt8) (s : By) (f k : Nat) : List By := if k ≤ s.length then splitGo c ((s.drop f).take (k - f)) (s.drop k) else []
theorem restS_zero (c : UInt8) (s : By) : restS c s 0 0 = splitL c s := by
  rw [restS, if_pos (Nat.zero_le _)]; rfl
theorem restS_end (c : UInt8) (s : By) (f k : Nat) (h : k = s.length) (k1 : Nat) (hk1 : k1 = k + 1) : restS c s f k = [(s.drop f).take (k - f)] ++ restS c s k1 k1 := by
  have hd : s.drop k = [] := List.drop_of_length_le (by omega)
  rw [restS, if_pos (by omega), hd, splitGo, restS, if_neg (by omega)]; rfl
theorem restS_at (c : UInt8) (s : By) (f k : Nat) (h : k < s.length) (hc : s[k] = c) (k1 : Nat) (hk1 : k1 = k + 1) : restS c s f k = [(s.drop f).take (k - f)] ++ restS c s k1 k1 := by
  rw [restS, if_pos (by omega), List.drop_eq_getElem_cons h, splitGo, if_pos hc, restS, if_pos (by omega), Nat.sub_self, List.take_zero, hk1]; rfl
theorem restS_on (c : UInt8) (s : By) (f k : Nat) (h : k < s.length) (hf : f ≤ k) (hc : s[k] ≠ c) (k1 : Nat) (hk1 : k1 = k + 1) : restS c s f k = restS c s f k1 := by
  rw [restS, if_pos (by omega), List.drop_eq_getElem_cons h, splitGo, if_neg hc, restS, if_pos (by omega), hk1]
  congr 1
  rw [show k + 1 - f = (k - f) + 1 by omega, List.take_succ_eq_append_getElem (by rw [List.length_drop]; omega), List.getElem_drop]
  congr 3; omega
theorem restS_over (c : UInt8) (s : By) (f k : Nat) (h : ¬ k ≤ s.length) : restS c s f k = [] := by rw [restS, if_neg h]
end Go.Proofs.Ytjjldolafnfpoaa

/- Contracts of the reference of layer 9: number, put. -/
namespace Go.Proofs.Ytjjldolafnfpoaa
open Go.ChangeShapes Go.WideShapes Go.ChangeAt Go.RowKit
set_option linter.unusedVariables false

set_option maxRecDepth 20000 in
theorem or_i64 (a b : Nat) (h1 : a * 256 + b < 9223372036854775808) (h2 : b < 256) : bits .or .i64 ((a : Int) * 256) (b : Int) = ((a * 256 + b : Nat) : Int) := by
  have nn : ∀ x : Nat, x < 18446744073709551616 → (BitVec.ofInt 64 (x : Int)).toNat = x := fun x hx => by
    rw [BitVec.ofInt_natCast, BitVec.toNat_ofNat]
    exact Nat.mod_eq_of_lt (by omega)
  have e : a * 256 ||| b = a * 256 + b := by
    have h := Nat.shiftLeft_add_eq_or_of_lt (i := 8) (b := b) (by omega) a
    rw [Nat.shiftLeft_eq, show 2 ^ 8 = 256 from rfl] at h
    omega
  rw [show ((a : Int) * 256) = ((a * 256 : Nat) : Int) by omega]
  show IntKind.i64.wrap ((BitVec.ofInt 64 ((a * 256 : Nat) : Int) ||| BitVec.ofInt 64 (b : Int)).toNat : Int) = _
  have ha : a * 256 < 18446744073709551616 := by omega
  have hb : b < 18446744073709551616 := by omega
  rw [BitVec.toNat_or, nn (a * 256) ha, nn b hb, e, IntKind.wrap_i64]
  omega
/-- The bytes that make a number, first the greatest. -/
def bigC (big : Bool) (S : List UInt8) (p n : Nat) : List UInt8 := if big then (S.drop p).take n else ((S.drop p).take n).reverse
theorem bigC_num (big : Bool) (S : List UInt8) (p n : Nat) : numC big S p n = num (bigC big S p n) := rfl
theorem bigC_len {big : Bool} {S : List UInt8} {p n : Nat} (h : p + n ≤ S.length) : (bigC big S p n).length = n := by
  unfold bigC
  split
  · rw [List.length_take, List.length_drop]; omega
  · rw [List.length_reverse, List.length_take, List.length_drop]; omega
theorem bigC_get {big : Bool} {S : List UInt8} {p n i : Nat} (h : p + n ≤ S.length) (hi : i < n) (hk : (if big then p + i else p + n - 1 - i) < S.length) : (bigC big S p n)[i]? = some (S[if big then p + i else p + n - 1 - i]) := by
  unfold bigC
  cases big with
  | true =>
    simp only [if_true, List.getElem?_take_of_lt hi, List.getElem?_drop]
    exact List.getElem?_eq_getElem _
  | false =>
    simp only [Bool.false_eq_true, if_false]
    have hl : ((S.drop p).take n).length = n := by rw [List.length_take, List.length_drop]; omega
    rw [List.getElem?_reverse (by rw [hl]; exact hi), hl, List.getElem?_take_of_lt (by omega), List.getElem?_drop]
    rw [show p + (n - 1 - i) = p + n - 1 - i by omega]
    exact List.getElem?_eq_getElem _
theorem num_take {l : List UInt8} {i : Nat} {c : UInt8} (h : l[i]? = some c) : num (l.take (i + 1)) = num (l.take i) * 256 + c.toNat := by
  obtain ⟨hi, e⟩ := List.getElem?_eq_some_iff.1 h
  rw [List.take_succ_eq_append_getElem hi, e, num_snoc]
/-- The bytes of a number, as cells. -/
theorem cells_snoc9 (M : List UInt8) (c : UInt8) (X : Nat) (h : X = c.toNat) : cellsOf M ++ [.int .u8 (X : Int)] = cellsOf (M ++ [c]) := by rw [h]; simp [cellsOf]
end Go.Proofs.Ytjjldolafnfpoaa
