/- The order of addresses as an order of numbers: plain facts for the laws. -/
import Derived.Test.YtcblgbonijloiaaDoorAwk06
namespace Go.Proofs.YtcblgbonijloiaaDoor
open Go.ChangeShapes Go.WideShapes Go.ChangeAt Go.RowKit
set_option linter.unusedVariables false

/-- An address as a number: IPv4 first, then IPv6. -/
def keyA (v : Bool) (h l : Nat) : Nat := (if v then 340282366920938463463374607431768211456 else 0) + (18446744073709551616 * h + l)
theorem cmp_same (v p q r s : Bool) : cmpB v v p q r s = if (q && s) = true then 0 else if (p || (q && r)) = true then -1 else 1 := by
  cases v <;> cases p <;> cases q <;> cases r <;> cases s <;> rfl
theorem cmpA_key (v1 : Bool) (h1 l1 : Nat) (v2 : Bool) (h2 l2 : Nat) (a1 : h1 < 18446744073709551616) (b1 : l1 < 18446744073709551616) (a2 : h2 < 18446744073709551616) (b2 : l2 < 18446744073709551616) :
    cmpA v1 h1 l1 v2 h2 l2 = if keyA v1 h1 l1 = keyA v2 h2 l2 then 0 else if keyA v1 h1 l1 < keyA v2 h2 l2 then -1 else 1 := by
  unfold cmpA
  by_cases hv : v1 = v2
  · subst hv
    rw [cmp_same]
    have hk1 : keyA v1 h1 l1 = keyA v1 h2 l2 ↔ h1 = h2 ∧ l1 = l2 := by unfold keyA; omega
    have hk2 : keyA v1 h1 l1 < keyA v1 h2 l2 ↔ h1 < h2 ∨ (h1 = h2 ∧ l1 < l2) := by unfold keyA; omega
    have e1 : ((((h1 : Int) == (h2 : Int)) && ((l1 : Int) == (l2 : Int))) = true) ↔ (h1 = h2 ∧ l1 = l2) := by
      rw [Bool.and_eq_true, beq_iff_eq, beq_iff_eq]; omega
    have e2 : ((decide ((h1 : Int) < (h2 : Int)) || (((h1 : Int) == (h2 : Int)) && decide ((l1 : Int) < (l2 : Int)))) = true) ↔ (h1 < h2 ∨ (h1 = h2 ∧ l1 < l2)) := by
      rw [Bool.or_eq_true, Bool.and_eq_true, beq_iff_eq, decide_eq_true_eq, decide_eq_true_eq]; omega
    by_cases c1 : h1 = h2 ∧ l1 = l2
    · rw [if_pos (e1.2 c1), if_pos (hk1.2 c1)]
    · rw [if_neg (fun h => c1 (e1.1 h)), if_neg (fun h => c1 (hk1.1 h))]
      by_cases c2 : h1 < h2 ∨ (h1 = h2 ∧ l1 < l2)
      · rw [if_pos (e2.2 c2), if_pos (hk2.2 c2)]
      · rw [if_neg (fun h => c2 (e2.1 h)), if_neg (fun h => c2 (hk2.1 h))]
  · cases v1 <;> cases v2
    · exact absurd rfl hv
    · have hk : keyA false h1 l1 < keyA true h2 l2 := by unfold keyA; simp only [Bool.false_eq_true, if_false, if_true]; omega
      rw [if_neg (by omega), if_pos hk]; rfl
    · have hk : keyA false h2 l2 < keyA true h1 l1 := by unfold keyA; simp only [Bool.false_eq_true, if_false, if_true]; omega
      rw [if_neg (by omega), if_neg (by omega)]; rfl
    · exact absurd rfl hv
/-- The address behind an address. -/
theorem nxt_facts {v : Bool} {h l : Nat} (a1 : h < 18446744073709551616) (b1 : l < 18446744073709551616) (hv : vldA v h l = true) {v' : Bool} {h' l' : Nat} (hn : nxtA v h l = some (v', h', l')) :
    v' = v ∧ h' < 18446744073709551616 ∧ l' < 18446744073709551616 ∧ prvA v' h' l' = some (v, h, l) ∧ keyA v' h' l' = keyA v h l + 1 := by
  unfold nxtA at hn
  by_cases c : l + 1 < 18446744073709551616
  · rw [if_pos c] at hn
    split at hn
    · cases hn
    · obtain ⟨rfl, e⟩ := Prod.mk.inj (Option.some.inj hn)
      obtain ⟨rfl, rfl⟩ := Prod.mk.inj e
      refine ⟨rfl, a1, c, ?_, by unfold keyA; omega⟩
      unfold prvA
      rw [if_neg (by omega), Nat.add_sub_cancel]
  · rw [if_neg c] at hn
    cases v with
    | false =>
      unfold vldA at hv
      simp only [Bool.false_or, Bool.and_eq_true, beq_iff_eq, decide_eq_true_eq] at hv
      omega
    | true =>
      rw [if_pos rfl] at hn
      split at hn
      · rename_i c2
        obtain ⟨rfl, e⟩ := Prod.mk.inj (Option.some.inj hn)
        obtain ⟨rfl, rfl⟩ := Prod.mk.inj e
        refine ⟨rfl, c2, by omega, ?_, by unfold keyA; omega⟩
        unfold prvA
        rw [if_pos rfl, if_neg (by omega), Nat.add_sub_cancel, show l = 18446744073709551615 by omega]
      · cases hn
theorem key_inj {v1 : Bool} {h1 l1 : Nat} {v2 : Bool} {h2 l2 : Nat} (a1 : h1 < 18446744073709551616) (b1 : l1 < 18446744073709551616) (a2 : h2 < 18446744073709551616) (b2 : l2 < 18446744073709551616) : keyA v1 h1 l1 = keyA v2 h2 l2 ↔ (v1 == v2 && ((h1 : Int) == (h2 : Int) && (l1 : Int) == (l2 : Int))) = true := by
  rw [Bool.and_eq_true, Bool.and_eq_true, beq_iff_eq, beq_iff_eq, beq_iff_eq]
  unfold keyA
  cases v1 <;> cases v2 <;> simp only [Bool.false_eq_true, if_false, if_true, true_and, false_and, iff_false, reduceCtorEq] <;> omega
def sgn (a b : Nat) : Int := if a = b then 0 else if a < b then -1 else 1
theorem sgn_cases (a b : Nat) : (a = b ∧ sgn a b = 0) ∨ (a < b ∧ sgn a b = -1) ∨ (b < a ∧ sgn a b = 1) := by
  unfold sgn
  by_cases h : a = b
  · exact .inl ⟨h, if_pos h⟩
  · rw [if_neg h]
    by_cases h2 : a < b
    · exact .inr (.inl ⟨h2, if_pos h2⟩)
    · exact .inr (.inr ⟨by omega, if_neg h2⟩)
theorem ord3 (va : Bool) (xa za : Nat) (vb : Bool) (xb zb : Nat) (vc : Bool) (xc zc : Nat) (hxa : xa < 18446744073709551616) (hza : za < 18446744073709551616) (hxb : xb < 18446744073709551616) (hzb : zb < 18446744073709551616) (hxc : xc < 18446744073709551616) (hzc : zc < 18446744073709551616) :
    (((cmpA va xa za vb xb zb == 0) : Bool) = (va == vb && ((xa : Int) == (xb : Int) && (za : Int) == (zb : Int)))) ∧ cmpA va xa za vb xb zb = -cmpA vb xb zb va xa za ∧ (-1 ≤ cmpA vb xb zb va xa za ∧ cmpA vb xb zb va xa za ≤ 1) ∧ (0 < cmpA va xa za vb xb zb ∨ 0 < cmpA vb xb zb vc xc zc ∨ cmpA va xa za vc xc zc ≤ 0) := by
  have hinj := key_inj (v1 := va) (v2 := vb) hxa hza hxb hzb
  have e1 : cmpA va xa za vb xb zb = sgn (keyA va xa za) (keyA vb xb zb) := cmpA_key va xa za vb xb zb hxa hza hxb hzb
  have e2 : cmpA vb xb zb va xa za = sgn (keyA vb xb zb) (keyA va xa za) := cmpA_key vb xb zb va xa za hxb hzb hxa hza
  have e3 : cmpA vb xb zb vc xc zc = sgn (keyA vb xb zb) (keyA vc xc zc) := cmpA_key vb xb zb vc xc zc hxb hzb hxc hzc
  have e4 : cmpA va xa za vc xc zc = sgn (keyA va xa za) (keyA vc xc zc) := cmpA_key va xa za vc xc zc hxa hza hxc hzc
  rw [e1, e2, e3, e4]
  clear e1 e2 e3 e4
  generalize keyA va xa za = A at *
  generalize keyA vb xb zb = B at *
  generalize keyA vc xc zc = C at *
  have s1 := sgn_cases A B
  have s2 := sgn_cases B A
  have s3 := sgn_cases B C
  have s4 := sgn_cases A C
  refine ⟨?_, by omega, by omega, by omega⟩
  rw [Bool.eq_iff_iff, ← hinj, beq_iff_eq]
  omega
theorem ordn {va : Bool} {xa za : Nat} {vn : Bool} {xn zn : Nat} (vb : Bool) (xb zb : Nat) (hxa : xa < 18446744073709551616) (hza : za < 18446744073709551616) (hxb : xb < 18446744073709551616) (hzb : zb < 18446744073709551616) (hv : vldA va xa za = true) (hn : nxtA va xa za = some (vn, xn, zn)) :
    cmpA va xa za vn xn zn = -1 ∧ cmpA vn xn zn va xa za = 1 ∧ (cmpA va xa za vb xb zb < 0 → cmpA vn xn zn vb xb zb ≤ 0) := by
  obtain ⟨n1, hxn, hzn, n4, n5⟩ := nxt_facts hxa hza hv hn
  have e1 : cmpA va xa za vn xn zn = sgn (keyA va xa za) (keyA vn xn zn) := cmpA_key va xa za vn xn zn hxa hza hxn hzn
  have e2 : cmpA vn xn zn va xa za = sgn (keyA vn xn zn) (keyA va xa za) := cmpA_key vn xn zn va xa za hxn hzn hxa hza
  have e3 : cmpA va xa za vb xb zb = sgn (keyA va xa za) (keyA vb xb zb) := cmpA_key va xa za vb xb zb hxa hza hxb hzb
  have e4 : cmpA vn xn zn vb xb zb = sgn (keyA vn xn zn) (keyA vb xb zb) := cmpA_key vn xn zn vb xb zb hxn hzn hxb hzb
  rw [e1, e2, e3, e4, n5]
  clear e1 e2 e3 e4 n4 n5
  generalize keyA va xa za = A at *
  generalize keyA vb xb zb = B at *
  have s1 := sgn_cases A (A + 1)
  have s2 := sgn_cases (A + 1) A
  have s3 := sgn_cases A B
  have s4 := sgn_cases (A + 1) B
  exact ⟨by omega, by omega, by omega⟩
end Go.Proofs.YtcblgbonijloiaaDoor
