/- Contracts of the functions, part 29: Ip6Fin. -/
import Derived.Test.YtjjldolafnfpoaaPE5
/- Plain mathematics of IPv6 packets: lengths, for the laws. -/
namespace Go.Proofs.Ytjjldolafnfpoaa
set_option linter.unusedVariables false

theorem decX_exts (S : List UInt8) : (decX S).1.exts.length ≤ 8 := by
  by_cases h : (decX S).2 = 0
  · obtain ⟨t, _, _, _, h8, _⟩ := enc_dec6 (S := S) (p := (decX S).1) (by rw [← h])
    exact h8
  · rw [decX_bad h]
    exact Nat.zero_le _
theorem encX_bad {p : Ip6R} (h : (encX p).2 ≠ 0) : (encX p).1 = [] := by
  unfold encX at h ⊢
  split
  · rfl
  · split
    · rfl
    · split
      · rfl
      · split
        · rfl
        · split
          · rfl
          · rename_i h1 h2 h3 h4 h5
            rw [if_neg h1, if_neg h2, if_neg h3, if_neg h4, if_neg h5] at h
            exact absurd rfl h
theorem partsX_len (p : Ip6R) (size : Nat) (id : Int) : ∀ (f a : Nat), (partsX p size id f a).1.length ≤ f ∧ ∀ y ∈ (partsX p size id f a).1, y.exts = p.exts
  | 0, a => by rw [partsX]; exact ⟨Nat.le_refl _, fun y hy => by cases hy⟩
  | f + 1, a => by
    obtain ⟨i1, i2⟩ := partsX_len p size id f (a + size)
    rw [partsX]
    split
    · exact ⟨Nat.zero_le _, fun y hy => by cases hy⟩
    · split
      · split
        · exact ⟨Nat.zero_le _, fun y hy => by cases hy⟩
        · refine ⟨by rw [List.length_cons]; omega, fun y hy => ?_⟩
          rcases List.mem_cons.1 hy with rfl | hy
          · rfl
          · exact i2 y hy
      · refine ⟨by simp, fun y hy => ?_⟩
        obtain rfl := List.mem_singleton.1 hy
        rfl
theorem split6_len (p : Ip6R) (size id : Int) : (splitX p size id).1.length ≤ p.pay.length + 1 ∧ ∀ y ∈ (splitX p size id).1, y.exts.length ≤ p.exts.length := by
  unfold splitX
  split
  · exact ⟨by simp, fun y hy => by cases hy⟩
  · split
    · exact ⟨by simp, fun y hy => by cases hy⟩
    · split
      · exact ⟨by simp, fun y hy => by cases hy⟩
      · obtain ⟨h1, h2⟩ := partsX_len p size.toNat id (p.pay.length + 1) 0
        exact ⟨h1, fun y hy => by rw [h2 y hy]; exact Nat.le_refl _⟩
end Go.Proofs.Ytjjldolafnfpoaa
