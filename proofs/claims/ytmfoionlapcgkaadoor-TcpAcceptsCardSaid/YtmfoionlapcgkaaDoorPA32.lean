/- Contracts of the functions, part 32: EthRDec. -/
import Derived.Deep.RegionLaw
import Derived.Test.YtmfoionlapcgkaaDoorPA7
/- Contract of the reference of layer 10: Decode. -/
namespace Go.Proofs.YtmfoionlapcgkaaDoor
open Go.ChangeShapes Go.WideShapes Go.ChangeAt Go.RowKit
set_option linter.unusedVariables false

theorem extract_str10 (s : ByteArray) (L : List UInt8) (h : s = str L) (a b : Nat) : s.extract a b = str ((L.drop a).take (b - a)) := by
  subst h
  have : str ((str L).extract a b).data.toList = (str L).extract a b := str_of _
  rw [← this]
  congr 1
  have e := str_toList L
  simp only [ByteArray.data_extract, Array.toList_extract, List.extract_eq_take_drop, e]
/-- What is left to decode. -/
def DecS (S : List UInt8) (D : Nat × List Int × Nat × List UInt8) (v : List Int) (p : Nat) : Prop := p = 12 + 4 * v.length ∧ v.length ≤ 2 ∧ D = decV (3 - v.length) (S.drop p) v
theorem DecS.cases {S : List UInt8} {D : Nat × List Int × Nat × List UInt8} {v : List Int} {p : Nat} (h : DecS S D v p) :
    (S.length < p + 2 ∧ D = (1, [], 0, [])) ∨ (p + 2 ≤ S.length ∧
      ((tgN (num ((S.drop p).take 2)) ∧ ((v.length = 2 ∧ D = (9, [], 0, [])) ∨ (v.length ≠ 2 ∧ S.length < p + 2 + 2 ∧ D = (1, [], 0, [])) ∨ (v.length ≠ 2 ∧ p + 4 ≤ S.length ∧ DecS S D (v ++ [((num ((S.drop (p + 2)).take 2) % 4096 : Nat) : Int)]) (p + 4)))) ∨
       (¬ tgN (num ((S.drop p).take 2)) ∧ ((num ((S.drop p).take 2) < 1536 ∧ D = (2, [], 0, [])) ∨ (1536 ≤ num ((S.drop p).take 2) ∧ D = (0, v, num ((S.drop p).take 2), S.drop (p + 2))))))) := by
  obtain ⟨hp, hv, hD⟩ := h
  obtain ⟨f, hf⟩ : ∃ f, 3 - v.length = f + 1 := ⟨2 - v.length, by omega⟩
  rw [hf, decV, List.length_drop] at hD
  by_cases h1 : S.length < p + 2
  · exact .inl ⟨h1, by rw [hD, if_pos (by omega)]⟩
  · refine .inr ⟨by omega, ?_⟩
    rw [if_neg (by omega)] at hD
    by_cases h2 : tgN (num ((S.drop p).take 2))
    · refine .inl ⟨h2, ?_⟩
      rw [if_pos h2] at hD
      by_cases h3 : v.length = 2
      · exact .inl ⟨h3, by rw [hD, if_pos h3]⟩
      · rw [if_neg h3] at hD
        rw [List.length_drop, List.length_drop] at hD
        by_cases h4 : S.length < p + 2 + 2
        · exact .inr (.inl ⟨h3, h4, by rw [hD, if_pos (by omega)]⟩)
        · refine .inr (.inr ⟨h3, by omega, by rw [List.length_append]; simp; omega, by rw [List.length_append]; simp; omega, ?_⟩)
          rw [if_neg (by omega)] at hD
          have e1 : 3 - (v ++ [((num ((S.drop (p + 2)).take 2) % 4096 : Nat) : Int)]).length = f := by rw [List.length_append]; simp; omega
          have e2 : ((S.drop p).drop 2).drop 2 = S.drop (p + 4) := by rw [List.drop_drop, List.drop_drop]
          have e3 : (S.drop p).drop 2 = S.drop (p + 2) := List.drop_drop ..
          rw [e1, hD, e2, e3]
    · refine .inr ⟨h2, ?_⟩
      rw [if_neg h2] at hD
      by_cases h3 : num ((S.drop p).take 2) < 1536
      · exact .inl ⟨h3, by rw [hD, if_pos h3]⟩
      · rw [if_neg h3, List.drop_drop] at hD
        exact .inr ⟨by omega, hD⟩
/-- The result. -/
def outE (S : List UInt8) (D : Nat × List Int × Nat × List UInt8) : EthR × Nat := if D.1 ≠ 0 then (zeroE, D.1) else (⟨num (S.take 6), num ((S.drop 6).take 6), D.2.1, D.2.2.1, D.2.2.2⟩, 0)
theorem decE_out {S : List UInt8} (h : ¬ S.length < 14) : decE S = outE S (decV 3 (S.drop 12) []) := by unfold decE outE; rw [if_neg h]
end Go.Proofs.YtmfoionlapcgkaaDoor
