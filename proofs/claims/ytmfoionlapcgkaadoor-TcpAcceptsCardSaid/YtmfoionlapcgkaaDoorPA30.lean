/- Contracts of the functions, part 30: AdqStr, Ip4PSt, UdpRSum. -/
import Derived.Deep.Cut
import Derived.BigQuiet
import Derived.Test.YtmfoionlapcgkaaDoorPA4
import Derived.Test.YtmfoionlapcgkaaDoorPA7
import Derived.Test.YtmfoionlapcgkaaDoorPA9
import Derived.Test.YtmfoionlapcgkaaDoorPA10
import Derived.Test.YtmfoionlapcgkaaDoorPA16
import Derived.Test.YtmfoionlapcgkaaDoorPA18
import Derived.Test.YtmfoionlapcgkaaDoorPA28
import Derived.Test.YtmfoionlapcgkaaDoorPA29
/- Contracts of the program's layer 6: eightBytes, numberOf, Bytes, FromBytes. -/
namespace Go.Proofs.YtmfoionlapcgkaaDoor
open Go.ChangeShapes Go.WideShapes Go.ChangeAt Go.RowKit
set_option linter.unusedVariables false

/-- The bytes of an address. -/
def adrB (v6 : Bool) (hi lo : Nat) : By := if v6 then (leL 8 hi).reverse ++ (leL 8 lo).reverse else (leL 4 lo).reverse
theorem adrB_length (v6 : Bool) (hi lo : Nat) : (adrB v6 hi lo).length = if v6 then 16 else 4 := by
  unfold adrB; split <;> simp [leL_length]
theorem leL_add : ∀ (a b n : Nat), leL (a + b) n = leL a n ++ leL b (n / 256 ^ a) := by
  intro a b n
  apply List.ext_getElem
  · simp [leL_length]
  · intro i h1 h2
    rw [leL_get]
    by_cases hi : i < a
    · rw [List.getElem_append_left (by rw [leL_length]; exact hi), leL_get]
    · rw [List.getElem_append_right (by rw [leL_length]; omega), leL_get, leL_length, Nat.div_div_eq_div_mul, ← Nat.pow_add, show a + (i - a) = i by omega]
theorem adrB_tail (lo : Nat) : (str (leL 8 lo).reverse).extract 4 (str (leL 8 lo).reverse).size = str (leL 4 lo).reverse := by
  apply ByteArray.ext
  apply Array.ext'
  rw [Lib.extract_data, str_size, List.length_reverse, leL_length, str_toList, str_toList, show (8 : Nat) = 4 + 4 from rfl, leL_add, List.reverse_append]
  rw [List.drop_append_of_le_length (by simp [leL_length]), List.drop_eq_nil_of_le (by simp [leL_length]), List.nil_append, List.take_of_length_le (by simp [leL_length])]
theorem ret_str6 {a b : ByteArray} (h : a = b) : Ending.returned (.string a) = .returned (.string b) := by rw [h]
/-- What FromBytes answers. -/
def fbRes (l : By) : Value :=
  if l.length = 4 then .tuple #[.agg #[.bool false, .int .u64 0, .int .u64 (num l : Nat)], .int .i64 0]
  else if l.length = 16 then .tuple #[.agg #[.bool true, .int .u64 (num (l.take 8) : Nat), .int .u64 (num (l.drop 8) : Nat)], .int .i64 0]
  else .tuple #[.agg #[.bool false, .int .u64 0, .int .u64 0], .int .i64 2]
theorem extract_toList6 (s : ByteArray) (a b : Nat) : (s.extract a b).data.toList = (s.data.toList.drop a).take (b - a) := Lib.extract_data s a b
end Go.Proofs.YtmfoionlapcgkaaDoor

/- The program of layer 11: what readStart reads, and its state in memory. -/
namespace Go.Proofs.YtmfoionlapcgkaaDoor
open Go.ChangeShapes Go.WideShapes Go.ChangeAt Go.RowKit
set_option linter.unusedVariables false

/-! ### What is read -/
def rdT (l : List UInt8) (err n : Nat) : List UInt8 × List UInt8 × Nat := if err ≠ 0 then ([], l, err) else if l.length < n then ([], l, 1) else (l.take n, l.drop n, 0)
theorem rdT_len (l : List UInt8) (err n : Nat) : (rdT l err n).2.1.length ≤ l.length := by
  unfold rdT
  split
  · exact Nat.le_refl _
  · split
    · exact Nat.le_refl _
    · rw [List.length_drop]; omega
theorem rdT_part (l : List UInt8) (err n : Nat) : (rdT l err n).1.length = n ∨ (rdT l err n).1.length = 0 := by
  unfold rdT
  split
  · exact .inr rfl
  · split
    · exact .inr rfl
    · exact .inl (by rw [List.length_take]; omega)
theorem rdI_ok11 {l : List UInt8} {n : Nat} (h : ¬ l.length < n) : rdI l 0 n = (num (l.take n), l.drop n, 0) := by unfold rdI; rw [if_neg (by simp), if_neg h]
theorem rdT_ok11 {l : List UInt8} {n : Nat} (h : ¬ l.length < n) : rdT l 0 n = (l.take n, l.drop n, 0) := by unfold rdT; rw [if_neg (by simp), if_neg h]
theorem rdI_step {N pos : Nat} {l l' : List UInt8} {err k v e : Nat} (h : err = 1 ∨ (err = 0 ∧ l.length + pos = N)) (hr : rdI l err k = (v, l', e)) : e = 1 ∨ (e = 0 ∧ l'.length + (pos + k) = N) := by
  unfold rdI at hr
  rcases h with rfl | ⟨rfl, h⟩
  · rw [if_pos (by decide)] at hr
    injection hr with _ hr
    injection hr with _ hr
    exact .inl hr.symm
  · rw [if_neg (by simp)] at hr
    by_cases hs : l.length < k
    · rw [if_pos hs] at hr
      injection hr with _ hr
      injection hr with _ hr
      exact .inl hr.symm
    · rw [if_neg hs] at hr
      injection hr with _ hr
      injection hr with h1 h2
      exact .inr ⟨h2.symm, by rw [← h1, List.length_drop]; omega⟩
theorem rdT_step {N pos : Nat} {l l' v : List UInt8} {err k e : Nat} (h : err = 1 ∨ (err = 0 ∧ l.length + pos = N)) (hr : rdT l err k = (v, l', e)) : e = 1 ∨ (e = 0 ∧ l'.length + (pos + k) = N) := by
  unfold rdT at hr
  rcases h with rfl | ⟨rfl, h⟩
  · rw [if_pos (by decide)] at hr
    injection hr with _ hr
    injection hr with _ hr
    exact .inl hr.symm
  · rw [if_neg (by simp)] at hr
    by_cases hs : l.length < k
    · rw [if_pos hs] at hr
      injection hr with _ hr
      injection hr with _ hr
      exact .inl hr.symm
    · rw [if_neg hs] at hr
      injection hr with _ hr
      injection hr with h1 h2
      exact .inr ⟨h2.symm, by rw [← h1, List.length_drop]; omega⟩
theorem num_byt (S : List UInt8) (i : Nat) (h : i < S.length) : num ((S.drop i).take 1) = byt S i := by
  have e : S.getD i 0 = S[i] := by rw [List.getD_eq_getElem?_getD, List.getElem?_eq_getElem h]; rfl
  rw [List.drop_eq_getElem_cons h, List.take_succ_cons, List.take_zero]
  unfold byt
  rw [e]
  simp [num]
theorem drop20 (S : List UInt8) (i k : Nat) (h : i + k ≤ 20) : ((S.take 20).drop i).take k = (S.drop i).take k := by
  rw [List.drop_take, List.take_take]
  congr 1
  omega
/-- The values of a whole start. -/
def StartV (S : List UInt8) (c0 tos tot id wd ttl pr : Nat) (T1 T2 : List UInt8) : Prop :=
  c0 = byt S 0 ∧ tos = byt S 1 ∧ tot = nm2 S 2 ∧ id = nm2 S 4 ∧ wd = nm2 S 6 ∧ ttl = byt S 8 ∧ pr = byt S 9 ∧ T1.length = 4 ∧ num T1 = nm4 S 12 ∧ T2.length = 4 ∧ num T2 = nm4 S 16
theorem start_fin {S l1 l2 l3 l4 l5 l6 l7 l8 l9 l10 T1 T2 : List UInt8} {c0 tos tot id wd ttl pr ck e1 e2 e3 e4 e5 e6 e7 e8 e9 e10 : Nat}
    (h1 : rdI (S.take 20) 0 1 = (c0, l1, e1)) (h2 : rdI l1 e1 1 = (tos, l2, e2)) (h3 : rdI l2 e2 2 = (tot, l3, e3)) (h4 : rdI l3 e3 2 = (id, l4, e4)) (h5 : rdI l4 e4 2 = (wd, l5, e5)) (h6 : rdI l5 e5 1 = (ttl, l6, e6)) (h7 : rdI l6 e6 1 = (pr, l7, e7)) (h8 : rdI l7 e7 2 = (ck, l8, e8))
    (h9 : rdT l8 e8 4 = (T1, l9, e9)) (h10 : rdT l9 e9 4 = (T2, l10, e10)) : (S.length < 20 ∧ e10 = 1) ∨ (20 ≤ S.length ∧ e10 = 0 ∧ StartV S c0 tos tot id wd ttl pr T1 T2) := by
  by_cases hs : S.length < 20
  · refine .inl ⟨hs, ?_⟩
    have a := rdT_step (rdT_step (rdI_step (rdI_step (rdI_step (rdI_step (rdI_step (rdI_step (rdI_step (rdI_step (N := (S.take 20).length) (pos := 0) (.inr ⟨rfl, rfl⟩) h1) h2) h3) h4) h5) h6) h7) h8) h9) h10
    rcases a with a | ⟨_, a⟩
    · exact a
    · rw [List.length_take] at a
      omega
  · refine .inr ⟨by omega, ?_⟩
    have hl : (S.take 20).length = 20 := by rw [List.length_take]; omega
    rw [rdI_ok11 (by omega)] at h1
    obtain ⟨rfl, rfl, rfl⟩ := (by simpa only [Prod.mk.injEq] using h1 : _ ∧ _ ∧ _)
    rw [rdI_ok11 (by simp only [List.length_drop]; omega)] at h2
    obtain ⟨rfl, rfl, rfl⟩ := (by simpa only [Prod.mk.injEq] using h2 : _ ∧ _ ∧ _)
    rw [rdI_ok11 (by simp only [List.length_drop]; omega)] at h3
    obtain ⟨rfl, rfl, rfl⟩ := (by simpa only [Prod.mk.injEq] using h3 : _ ∧ _ ∧ _)
    rw [rdI_ok11 (by simp only [List.length_drop]; omega)] at h4
    obtain ⟨rfl, rfl, rfl⟩ := (by simpa only [Prod.mk.injEq] using h4 : _ ∧ _ ∧ _)
    rw [rdI_ok11 (by simp only [List.length_drop]; omega)] at h5
    obtain ⟨rfl, rfl, rfl⟩ := (by simpa only [Prod.mk.injEq] using h5 : _ ∧ _ ∧ _)
    rw [rdI_ok11 (by simp only [List.length_drop]; omega)] at h6
    obtain ⟨rfl, rfl, rfl⟩ := (by simpa only [Prod.mk.injEq] using h6 : _ ∧ _ ∧ _)
    rw [rdI_ok11 (by simp only [List.length_drop]; omega)] at h7
    obtain ⟨rfl, rfl, rfl⟩ := (by simpa only [Prod.mk.injEq] using h7 : _ ∧ _ ∧ _)
    rw [rdI_ok11 (by simp only [List.length_drop]; omega)] at h8
    obtain ⟨rfl, rfl, rfl⟩ := (by simpa only [Prod.mk.injEq] using h8 : _ ∧ _ ∧ _)
    rw [rdT_ok11 (by simp only [List.length_drop]; omega)] at h9
    obtain ⟨rfl, rfl, rfl⟩ := (by simpa only [Prod.mk.injEq] using h9 : _ ∧ _ ∧ _)
    rw [rdT_ok11 (by simp only [List.length_drop]; omega)] at h10
    obtain ⟨rfl, rfl, rfl⟩ := (by simpa only [Prod.mk.injEq] using h10 : _ ∧ _ ∧ _)
    refine ⟨rfl, ?_⟩
    unfold StartV
    simp only [List.drop_drop]
    refine ⟨?_, ?_, ?_, ?_, ?_, ?_, ?_, ?_, ?_, ?_, ?_⟩
    · exact (congrArg num (drop20 S 0 1 (by omega))).trans (num_byt S 0 (by omega))
    · exact (congrArg num (drop20 S 1 1 (by omega))).trans (num_byt S 1 (by omega))
    · exact congrArg num (drop20 S 2 2 (by omega))
    · exact congrArg num (drop20 S 4 2 (by omega))
    · exact congrArg num (drop20 S 6 2 (by omega))
    · exact (congrArg num (drop20 S 8 1 (by omega))).trans (num_byt S 8 (by omega))
    · exact (congrArg num (drop20 S 9 1 (by omega))).trans (num_byt S 9 (by omega))
    · simp only [List.length_take, List.length_drop]; omega
    · exact congrArg num (drop20 S 12 4 (by omega))
    · simp only [List.length_take, List.length_drop]; omega
    · exact congrArg num (drop20 S 16 4 (by omega))
/-! ### Take and FromBytes -/
def adN (L : List UInt8) : Nat × Nat := if L.length = 4 then (num L, 0) else (0, 2)
theorem adN_lt (L : List UInt8) : (adN L).1 < 4294967296 := by
  unfold adN
  split
  · next h => have := num_lt L; rw [h] at this; exact this
  · decide
/-! ### The state in memory -/
def zS : Array Value := #[.int .i64 0, .int .i64 0, .int .i64 0, .bool false, .int .i64 0, .int .i64 0, .int .i64 0, .int .i64 0, .bool false, .bool false, .int .i64 0, .bool false, .int .u64 0, .int .u64 0, .bool false, .int .u64 0, .int .u64 0, .slice none 0 0, .string ⟨#[]⟩]
variable {wb W W' : World} {g0 gx p err : Nat} {cs : Array Value} {l l' : List UInt8}
/-! ### Bits -/
theorem and_pow (n k : Nat) (h : n < 2 ^ 63) (hk : k ≤ 60) : bits .and .i64 (n : Int) ((2 ^ k : Nat) : Int) = ((n / 2 ^ k % 2 * 2 ^ k : Nat) : Int) := by
  have hk63 : 2 ^ k ≤ 2 ^ 60 := Nat.pow_le_pow_right (by decide) hk
  have e : n &&& 2 ^ k = n / 2 ^ k % 2 * 2 ^ k := by
    apply Nat.eq_of_testBit_eq
    intro j
    rw [Nat.testBit_and, Nat.testBit_two_pow, Nat.testBit_mul_two_pow]
    by_cases hj : k = j
    · subst hj
      simp [Nat.testBit_eq_decide_div_mod_eq]
    · rw [decide_eq_false hj, Bool.and_false]
      by_cases hjk : k ≤ j
      · have : (n / 2 ^ k % 2).testBit (j - k) = false := Nat.testBit_lt_two_pow (Nat.lt_of_lt_of_le (Nat.mod_lt _ (by decide)) (by
          have : 2 ^ 1 ≤ 2 ^ (j - k) := Nat.pow_le_pow_right (by decide) (by omega)
          exact this))
        rw [this, Bool.and_false]
      · rw [decide_eq_false hjk, Bool.false_and]
  have ht : (2 : Nat) ^ IntKind.i64.bits = 18446744073709551616 := by decide
  show IntKind.i64.wrap (((((n : Int) % ((2 : Nat) ^ IntKind.i64.bits : Nat)).toNat &&& (((2 ^ k : Nat) : Int) % ((2 : Nat) ^ IntKind.i64.bits : Nat)).toNat) : Nat) : Int) = _
  rw [ht]
  have hle : n / 2 ^ k % 2 * 2 ^ k ≤ 2 ^ 60 := by
    have : n / 2 ^ k % 2 ≤ 1 := by omega
    calc n / 2 ^ k % 2 * 2 ^ k ≤ 1 * 2 ^ k := Nat.mul_le_mul_right _ this
      _ ≤ 2 ^ 60 := by omega
  generalize n / 2 ^ k % 2 * 2 ^ k = X at *
  generalize 2 ^ k = P at *
  have e1 : ((n : Int) % (18446744073709551616 : Nat)).toNat = n := by omega
  have e2 : ((P : Int) % (18446744073709551616 : Nat)).toNat = P := by omega
  rw [e1, e2, e]
  exact IntWalk.i64_in _ (by omega)
theorem and_bit (n k : Nat) (h : n < 2 ^ 63) (hk : k ≤ 60) : (bits .and .i64 (n : Int) ((2 ^ k : Nat) : Int) != 0) = decide (n / 2 ^ k % 2 = 1) := by
  rw [and_pow n k h hk]
  have hp : 0 < 2 ^ k := Nat.pow_pos (by decide)
  by_cases hb : n / 2 ^ k % 2 = 1
  · rw [hb, decide_eq_true rfl, bne_iff_ne]
    omega
  · rw [decide_eq_false hb, show n / 2 ^ k % 2 = 0 by omega]
    simp
theorem and15_i64 (n : Nat) (h : n < 2 ^ 63) : bits .and .i64 (n : Int) 15 = ((n % 16 : Nat) : Int) := by
  have ht : (2 : Nat) ^ IntKind.i64.bits = 18446744073709551616 := by decide
  show IntKind.i64.wrap (((((n : Int) % ((2 : Nat) ^ IntKind.i64.bits : Nat)).toNat &&& ((15 : Int) % ((2 : Nat) ^ IntKind.i64.bits : Nat)).toNat) : Nat) : Int) = _
  rw [ht]
  have e1 : ((n : Int) % (18446744073709551616 : Nat)).toNat = n := by omega
  have e2 : ((15 : Int) % (18446744073709551616 : Nat)).toNat = 2 ^ 4 - 1 := by decide
  rw [e1, e2, Nat.and_two_pow_sub_one_eq_mod]
  exact IntWalk.i64_in _ (by omega)
end Go.Proofs.YtmfoionlapcgkaaDoor

/- Contracts of the reference of layer 13: Fit, Sum. -/
namespace Go.Proofs.YtmfoionlapcgkaaDoor
open Go.ChangeShapes Go.WideShapes Go.ChangeAt Go.RowKit
set_option linter.unusedVariables false

end Go.Proofs.YtmfoionlapcgkaaDoor
