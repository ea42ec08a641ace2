/- A prefix holds what lies between its bounds: plain facts for the laws. -/
import Derived.Test.YtcblgbonijloiaaDoorAwk06b
import Derived.Test.YtcblgbonijloiaaDoorAwk06c
import Derived.Test.YtcblgbonijloiaaDoorAwk06d
namespace Go.Proofs.YtcblgbonijloiaaDoor
open Go.ChangeShapes Go.WideShapes Go.ChangeAt Go.RowKit
set_option linter.unusedVariables false

theorem lowZ_lowO (k n : Nat) : lowZ k (lowO k n) = lowZ k n := by
  unfold lowZ lowO
  have h0 := Nat.two_pow_pos k
  rw [Nat.add_comm, Nat.add_mul_div_right _ _ h0, Nat.div_eq_of_lt (by omega), Nat.zero_add]
/-- The last address of a prefix. -/
def lastH (v : Bool) (k hi : Nat) : Nat := lowO (frH v k) (mkH v k hi)
def lastL (v : Bool) (k lo : Nat) : Nat := lowO (frL v k) (mkL v k lo)
theorem last_lt {v : Bool} {k hi lo : Nat} (h1 : hi < 18446744073709551616) (h2 : lo < 18446744073709551616) : lastH v k hi < 18446744073709551616 ∧ lastL v k lo < 18446744073709551616 :=
  ⟨lowO_lt (Nat.lt_of_le_of_lt (lowZ_le _ _) h1) (frH_le _ _), lowO_lt (Nat.lt_of_le_of_lt (lowZ_le _ _) h2) (frL_le _ _)⟩
theorem cont_first {v : Bool} {k hi lo : Nat} (hk : k ≤ width v) : cntB v (mkH v k hi) (mkL v k lo) k v (mkH v k hi) (mkL v k lo) = true := by
  unfold cntB
  rw [decide_eq_true ⟨by omega, by omega⟩, Int.toNat_natCast]
  unfold mkH mkL
  rw [lowZ_lowZ, lowZ_lowZ]
  simp
theorem cont_last {v : Bool} {k hi lo : Nat} (hk : k ≤ width v) : cntB v (mkH v k hi) (mkL v k lo) k v (lastH v k hi) (lastL v k lo) = true := by
  unfold cntB
  rw [decide_eq_true ⟨by omega, by omega⟩, Int.toNat_natCast]
  unfold lastH lastL mkH mkL
  rw [lowZ_lowO, lowZ_lowO, lowZ_lowZ, lowZ_lowZ]
  simp
theorem keyA_num (v : Bool) (h l : Nat) : keyA v h l = (if v then 340282366920938463463374607431768211456 else 0) + numA h l := by
  have h64 : (2 : Nat) ^ 64 = 18446744073709551616 := by decide
  unfold keyA numA
  rw [h64]
theorem cont_between {va vb : Bool} {k xa za xb zb : Nat} (hk : k ≤ width va) (hxa : xa < 18446744073709551616) (hza : za < 18446744073709551616) (hxb : xb < 18446744073709551616) (hzb : zb < 18446744073709551616) :
    cntB va (mkH va k xa) (mkL va k za) k vb xb zb = (decide (cmpA va (mkH va k xa) (mkL va k za) vb xb zb ≤ 0) && decide (cmpA vb xb zb va (lastH va k xa) (lastL va k za) ≤ 0)) := by
  have hm := mk_lt (v := va) (k := k) hxa hza
  have hl := last_lt (v := va) (k := k) hxa hza
  have e1 : cmpA va (mkH va k xa) (mkL va k za) vb xb zb = sgn (keyA va (mkH va k xa) (mkL va k za)) (keyA vb xb zb) := cmpA_key _ _ _ _ _ _ hm.1 hm.2 hxb hzb
  have e2 : cmpA vb xb zb va (lastH va k xa) (lastL va k za) = sgn (keyA vb xb zb) (keyA va (lastH va k xa) (lastL va k za)) := cmpA_key _ _ _ _ _ _ hxb hzb hl.1 hl.2
  have s1 := sgn_cases (keyA va (mkH va k xa) (mkL va k za)) (keyA vb xb zb)
  have s2 := sgn_cases (keyA vb xb zb) (keyA va (lastH va k xa) (lastL va k za))
  rw [← cont_eq hm.2 hxb hzb (fun h => by rw [← h]; exact hk), e1, e2]
  rw [Bool.eq_iff_iff, Bool.and_eq_true, Bool.and_eq_true, beq_iff_eq, decide_eq_true_eq, decide_eq_true_eq, decide_eq_true_eq]
  have hlow : numA (mkH va k xa) (mkL va k za) = cutN (width va) k (numA xa za) := low_cut va k hza
  have hhi : numA (lastH va k xa) (lastL va k za) = fillN (width va) k (numA xa za) := by
    have h := low_fill va k (hi := mkH va k xa) hm.2
    rw [hlow] at h
    unfold lastH lastL
    rw [h]
    unfold fillN
    rw [cutN_cutN]
  rw [keyA_num, keyA_num] at s1 s2
  rw [keyA_num, keyA_num, keyA_num]
  have n1 := numA_lt hm.1 hm.2
  have n2 := numA_lt hl.1 hl.2
  have n3 := numA_lt hxb hzb
  have h128 : (2 : Nat) ^ 128 = 340282366920938463463374607431768211456 := by decide
  rw [h128] at n1 n2 n3
  by_cases hv : va = vb
  · subst hv
    have hb := cutN_between (w := width va) (bits := k) (n := numA xa za) (m := numA xb zb)
    rw [hlow] at s1 ⊢
    rw [hhi] at s2 ⊢
    rw [hb]
    generalize cutN (width va) k (numA xa za) = A at *
    generalize fillN (width va) k (numA xa za) = B at *
    generalize (if va = true then (340282366920938463463374607431768211456 : Nat) else 0) = O at *
    constructor
    · rintro ⟨-, h1, h2⟩; omega
    · rintro ⟨h1, h2⟩; exact ⟨rfl, by omega, by omega⟩
  · constructor
    · rintro ⟨h, -⟩; exact absurd h hv
    · rintro ⟨h1, h2⟩
      cases va <;> cases vb <;> simp only [Bool.false_eq_true, if_false, if_true, not_true_eq_false] at * <;> omega
end Go.Proofs.YtcblgbonijloiaaDoor
