/- From the library's words (Split, Cut, Join, Repeat, Itoa) to the plain mathematics of addresses: no Go in sight. -/
import Derived.Test.YtcblgbonijloiaaDoorAdrMath
import Derived.Lib.Split
import Derived.Lib.SplitLaws
import Derived.Lib.CutLaws
import Derived.Lib.IndexMore
import Derived.Lib.Join
import Derived.Lib.Repeat
import Derived.Lib.ItoaNum
namespace Go.Proofs.YtcblgbonijloiaaDoor
set_option linter.unusedVariables false

theorem neg1 (i : Nat) : ((i : Int) == -1) = false := by
  rw [beq_eq_false_iff_ne]; omega
theorem neg2 (i : Nat) : ((i : Int) + 1 == -1) = false := by
  rw [beq_eq_false_iff_ne]; omega
theorem digits_num : ∀ (n : Nat), Lib.decDigits n = numL n := by
  intro n
  induction n using Nat.strongRecOn with
  | _ n ih =>
    rw [Lib.decDigits, numL]
    by_cases h : n < 10
    · rw [dif_pos h, if_pos (by omega)]; rfl
    · rw [dif_neg h, if_neg (by omega), ih (n / 10) (by omega)]; rfl
theorem itoa_num (n : Nat) : Lib.itoa (n : Int) = numL n := by
  unfold Lib.itoa
  rw [if_neg (by omega), Int.toNat_natCast, digits_num]
theorem join_joinC (c : UInt8) : ∀ l : List By, Lib.join l [c] = joinC c l
  | [] => rfl
  | [p] => by rw [Lib.join_one]; rfl
  | p :: q :: r => by
    rw [joinC, ← join_joinC c (q :: r)]
    simp [Lib.join, List.intercalate, List.intersperse]
theorem repeat_zero (k : Nat) : Lib.repeatL [0] k = List.replicate k 0 := by
  have := Lib.repeatL_replicate 0 1 k
  rw [Nat.mul_one] at this
  exact this
/-! ### Split -/
def addH (p : By) : List By → List By
  | [] => []
  | a :: r => (p ++ a) :: r
theorem splitGo_cur (c : UInt8) : ∀ (s cur : By), splitGo c cur s = addH cur (splitGo c [] s)
  | [], cur => by simp [splitGo, addH]
  | x :: r, cur => by
    rw [splitGo, splitGo]
    split
    · simp [addH]
    · rw [splitGo_cur c r (cur ++ [x]), splitGo_cur c r ([] ++ [x])]
      cases splitGo c [] r with
      | nil => rfl
      | cons a q => simp [addH]
theorem index_one_cons (x c : UInt8) (r : By) : Lib.index (x :: r) [c] = if x = c then 0 else if Lib.index r [c] == -1 then -1 else Lib.index r [c] + 1 := by
  rw [Lib.index]
  by_cases h : x = c
  · subst h; simp
  · rw [if_neg h, if_neg (by simp; exact fun e => h e.symm)]
theorem splitK_ne {x c : UInt8} (h : x ≠ c) (k : Nat) (r : By) : Lib.splitK [c] 0 k (x :: r) = addH [x] (Lib.splitK [c] 0 k r) := by
  cases k with
  | zero => rfl
  | succ k =>
    rw [Lib.splitK, Lib.splitK, index_one_cons, if_neg h]
    by_cases h1 : Lib.index r [c] = -1
    · rw [h1]; rfl
    · have hg := Lib.index_ge r [c]
      obtain ⟨i, hi⟩ := Int.eq_ofNat_of_zero_le (a := Lib.index r [c]) (by omega)
      rw [hi]
      have e1 := neg1 i
      have e2 := neg2 i
      have e3 : ((i : Int) + 1).toNat = i + 1 := by omega
      simp only [e1, e2, e3, Bool.false_eq_true, if_false, Int.toNat_natCast]
      rfl
theorem split_lib (c : UInt8) : ∀ s : By, Lib.splitK [c] 0 (Lib.count s [c]) s = splitL c s
  | [] => by
    rw [Lib.count_one]
    rfl
  | x :: r => by
    have ih := split_lib c r
    unfold splitL at ih ⊢
    rw [splitGo]
    by_cases h : x = c
    · subst h
      rw [if_pos rfl, Lib.count_cons_eq, Nat.add_comm, Lib.splitK, index_one_cons, if_pos rfl, ← ih]
      rfl
    · rw [if_neg h, Lib.count_cons_ne x c r h, splitK_ne h, ih, splitGo_cur c r ([] ++ [x])]
      rfl
/-- The pieces that Split makes, as lists of bytes. -/
theorem split_bytes (c : UInt8) (s : ByteArray) : (Lib.splitB ⟨#[c]⟩ 0 (Lib.countB s ⟨#[c]⟩) s).map (·.data.toList) = splitL c s.data.toList := by
  rw [Lib.splitB_data, ← split_lib]
theorem split_length (c : UInt8) (s : ByteArray) : (Lib.splitB ⟨#[c]⟩ 0 (Lib.countB s ⟨#[c]⟩) s).length = Lib.countB s ⟨#[c]⟩ + 1 :=
  Lib.splitB_all ⟨#[c]⟩ (Nat.le_refl 1) 0 _ s rfl
/-! ### Cut -/
theorem cut_one (c : UInt8) : ∀ s : By, Lib.cut s [c] = match cutAt c s with | (a, some b) => (a, b, true) | (a, none) => (a, [], false)
  | [] => rfl
  | x :: r => by
    have ih := cut_one c r
    unfold Lib.cut at ih ⊢
    rw [index_one_cons, cutAt]
    by_cases h : x = c
    · rw [if_pos h, if_pos h]; rfl
    · rw [if_neg h, if_neg h]
      by_cases h1 : Lib.index r [c] = -1
      · rw [h1] at ih ⊢
        rw [if_neg (by decide)] at ih
        cases hq : cutAt c r with
        | mk a o =>
          rw [hq] at ih
          cases o with
          | none =>
            have e := congrArg Prod.fst ih
            simp only at e
            subst e; rfl
          | some b => have := congrArg (fun p => p.2.2) ih; simp at this
      · have hg := Lib.index_ge r [c]
        obtain ⟨i, hi⟩ := Int.eq_ofNat_of_zero_le (a := Lib.index r [c]) (by omega)
        rw [hi] at ih ⊢
        have e1 := neg1 i
        have e3 : ((i : Int) + 1).toNat = i + 1 := by omega
        rw [if_pos (by omega)] at ih
        simp only [e1, Bool.false_eq_true, if_false, Int.toNat_natCast] at ih ⊢
        rw [if_pos (by omega), e3]
        cases hq : cutAt c r with
        | mk a o =>
          rw [hq] at ih
          cases o with
          | none => have := congrArg (fun p => p.2.2) ih; simp at this
          | some b =>
            have ea := congrArg Prod.fst ih
            have eb := congrArg (fun p => p.2.1) ih
            simp only at ea eb
            subst ea eb
            simp [List.take_succ_cons]
theorem index_two_nil (x : UInt8) : Lib.index [x] [58, 58] = -1 := by
  rw [Lib.index, if_neg (by simp)]
  rfl
theorem index_two_cons (x y : UInt8) (r : By) : Lib.index (x :: y :: r) [58, 58] = if x = 58 ∧ y = 58 then 0 else if Lib.index (y :: r) [58, 58] == -1 then -1 else Lib.index (y :: r) [58, 58] + 1 := by
  rw [Lib.index]
  by_cases h : x = 58 ∧ y = 58
  · obtain ⟨rfl, rfl⟩ := h
    rw [if_pos (by simp), if_pos ⟨rfl, rfl⟩]
  · rw [if_neg h, if_neg (by simp; exact fun e1 e2 => h ⟨e1.symm, e2.symm⟩)]
theorem cut_two : ∀ s : By, Lib.cut s [58, 58] = match cutGap s with | some (a, b) => (a, b, true) | none => (s, [], false)
  | [] => rfl
  | [x] => by
    unfold Lib.cut
    rw [index_two_nil]
    rfl
  | x :: y :: r => by
    have ih := cut_two (y :: r)
    unfold Lib.cut at ih ⊢
    have h2 := index_two_cons x y r
    rw [cutGap]
    by_cases h : x = 58 ∧ y = 58
    · rw [if_pos h] at h2 ⊢
      rw [h2]; rfl
    · rw [if_neg h] at h2 ⊢
      rw [h2]
      clear h2
      generalize hz : Lib.index (y :: r) [58, 58] = z at *
      have hg := Lib.index_ge (y :: r) [58, 58]
      rw [hz] at hg
      by_cases h1 : z = -1
      · subst h1
        rw [if_neg (by decide)] at ih
        cases hq : cutGap (y :: r) with
        | none => rfl
        | some p =>
          rw [hq] at ih
          have := congrArg (fun p => p.2.2) ih; simp at this
      · obtain ⟨i, rfl⟩ := Int.eq_ofNat_of_zero_le (a := z) (by omega)
        have e1 := neg1 i
        have e3 : ((i : Int) + 1).toNat = i + 1 := by omega
        rw [if_pos (by omega)] at ih
        simp only [e1, Bool.false_eq_true, if_false, Int.toNat_natCast] at ih ⊢
        rw [if_pos (by omega), e3]
        cases hq : cutGap (y :: r) with
        | none => rw [hq] at ih; have := congrArg (fun p => p.2.2) ih; simp at this
        | some p =>
          obtain ⟨a, b⟩ := p
          rw [hq] at ih
          have ea := congrArg Prod.fst ih
          have eb := congrArg (fun p => p.2.1) ih
          simp only at ea eb
          subst ea eb
          simp only [Option.map_some, List.take_succ_cons, List.length_cons, List.length_nil]
          rw [show i + 1 + (0 + 1 + 1) = (i + (0 + 1 + 1)) + 1 by omega, List.drop_succ_cons]
theorem has_one (c : UInt8) : ∀ s : By, decide (0 ≤ Lib.indexByte s c) = decide (c ∈ s)
  | [] => by simp [Lib.indexByte]
  | x :: r => by
    have ih := has_one c r
    rw [Lib.indexByte]
    by_cases h : x = c
    · subst h; simp
    · rw [if_neg (by simpa using h)]
      have hm : decide (c ∈ x :: r) = decide (c ∈ r) := by
        rw [decide_eq_decide, List.mem_cons]
        constructor
        · rintro (e | e)
          · exact absurd e.symm h
          · exact e
        · exact Or.inr
      rw [hm, ← ih]
      have hg := Lib.indexByte_ge r c
      by_cases h1 : Lib.indexByte r c = -1
      · rw [h1]; rfl
      · rw [if_neg (by simpa using h1), decide_eq_decide]
        omega
end Go.Proofs.YtcblgbonijloiaaDoor
