/- Contracts of the functions, part 4: EthMath, Ones, Ip4Math. -/
import Derived.Below
import Derived.Test.YtafpmlikocchpaaPA1
/- Plain mathematics of Ethernet frames: no Go in sight. -/
namespace Go.Proofs.Ytafpmlikocchpaa
set_option linter.unusedVariables false

/-- A frame: destination, source, tags, type, payload. -/
structure EthR where
  dst : Nat
  src : Nat
  vl : List Int
  ty : Int
  pay : List UInt8
def zeroE : EthR := ⟨0, 0, [], 0, []⟩
/-- k bytes of n, most significant first. -/
def beL (k n : Nat) : List UInt8 := (leL k n).reverse
theorem beL_len (k n : Nat) : (beL k n).length = k := by unfold beL; rw [List.length_reverse, leL_length]
theorem num_beL (k n : Nat) (h : n < 256 ^ k) : num (beL k n) = n := by unfold beL; rw [num_reverse_leL, Nat.mod_eq_of_lt h]
theorem beL_num (l : List UInt8) (k : Nat) (h : l.length = k) : beL k (num l) = l := by
  have := leL_num l.reverse
  rw [List.reverse_reverse, List.length_reverse, h] at this
  unfold beL
  rw [this, List.reverse_reverse]
def tgN (t : Nat) : Prop := t = 33024 ∨ t = 34984
instance (t : Nat) : Decidable (tgN t) := inferInstanceAs (Decidable (t = 33024 ∨ t = 34984))
/-- From the tags on: the error, the tags, the type, the payload. -/
def decV : Nat → List UInt8 → List Int → Nat × List Int × Nat × List UInt8
  | 0, _, _ => (9, [], 0, [])
  | f + 1, r, v =>
    if r.length < 2 then (1, [], 0, [])
    else if tgN (num (r.take 2)) then
      (if v.length = 2 then (9, [], 0, [])
      else if (r.drop 2).length < 2 then (1, [], 0, [])
      else decV f ((r.drop 2).drop 2) (v ++ [((num ((r.drop 2).take 2) % 4096 : Nat) : Int)]))
    else if num (r.take 2) < 1536 then (2, [], 0, [])
    else (0, v, num (r.take 2), r.drop 2)
def decE (s : List UInt8) : EthR × Nat :=
  if s.length < 14 then (zeroE, 1)
  else if (decV 3 (s.drop 12) []).1 ≠ 0 then (zeroE, (decV 3 (s.drop 12) []).1)
  else (⟨num (s.take 6), num ((s.drop 6).take 6), (decV 3 (s.drop 12) []).2.1, (decV 3 (s.drop 12) []).2.2.1, (decV 3 (s.drop 12) []).2.2.2⟩, 0)
def tagB (n i : Nat) (v : Int) : List UInt8 := beL 2 (if i + 1 = n then 33024 else 34984) ++ beL 2 v.toNat
/-- The first k tags of v. -/
def tagsB (v : List Int) (k : Nat) : List UInt8 := (List.range k).flatMap (fun i => tagB v.length i (v.getD i 0))
theorem tagB_len (n i : Nat) (v : Int) : (tagB n i v).length = 4 := by unfold tagB; rw [List.length_append, beL_len, beL_len]
theorem tagsB_len (v : List Int) : ∀ k, (tagsB v k).length = 4 * k
  | 0 => rfl
  | k + 1 => by
    have h := tagsB_len v k
    unfold tagsB at h ⊢
    rw [List.range_succ, List.flatMap_append, List.length_append, h]
    simp [tagB_len]
    omega
theorem tagsB_next {v : List Int} {k : Nat} {x : Int} (h : v[k]? = some x) : tagsB v (k + 1) = tagsB v k ++ tagB v.length k x := by
  unfold tagsB
  rw [List.range_succ, List.flatMap_append]
  simp [List.getD, h]
def badE (x : EthR) : Prop := 281474976710656 ≤ x.dst ∨ 281474976710656 ≤ x.src ∨ (∃ v ∈ x.vl, v < 0 ∨ 4095 < v) ∨ x.ty < 1536 ∨ 65535 < x.ty ∨ tgN x.ty.toNat
instance (x : EthR) : Decidable (badE x) := inferInstanceAs (Decidable (_ ∨ _))
def bodyE (x : EthR) : List UInt8 := beL 6 x.dst ++ beL 6 x.src ++ tagsB x.vl x.vl.length ++ (beL 2 x.ty.toNat ++ x.pay)
def encE (x : EthR) : List UInt8 × Nat :=
  if badE x then ([], 4) else if 2 < x.vl.length then ([], 9) else if 4096 < (bodyE x).length then ([], 3) else (bodyE x, 0)
theorem bodyE_len (x : EthR) : (bodyE x).length = 14 + 4 * x.vl.length + x.pay.length := by
  unfold bodyE
  simp only [List.length_append, beL_len, tagsB_len]
  omega
/-! ### Decoding inverts encoding -/
theorem decV_tag {f t a : Nat} {r : List UInt8} {v : List Int} (ht : tgN t) (ha : a < 65536) (hv : v.length ≠ 2) : decV (f + 1) (beL 2 t ++ (beL 2 a ++ r)) v = decV f r (v ++ [((a % 4096 : Nat) : Int)]) := by
  have h2 : (beL 2 t ++ (beL 2 a ++ r)).take 2 = beL 2 t := by rw [List.take_left' (beL_len 2 t)]
  have h3 : (beL 2 t ++ (beL 2 a ++ r)).drop 2 = beL 2 a ++ r := by rw [List.drop_left' (beL_len 2 t)]
  have h4 : (beL 2 a ++ r).take 2 = beL 2 a := by rw [List.take_left' (beL_len 2 a)]
  have h5 : (beL 2 a ++ r).drop 2 = r := by rw [List.drop_left' (beL_len 2 a)]
  have ht2 : t < 65536 := by rcases ht with h | h <;> omega
  have l1 : (beL 2 t ++ (beL 2 a ++ r)).length = 4 + r.length := by simp only [List.length_append, beL_len]; omega
  have l2 : (beL 2 a ++ r).length = 2 + r.length := by simp only [List.length_append, beL_len]
  rw [decV, h2, h3, h4, h5, num_beL 2 t (by omega), num_beL 2 a (by omega), if_neg (by omega), if_pos ht, if_neg hv, if_neg (by omega)]
theorem decV_type {f t : Nat} {r : List UInt8} {v : List Int} (ht : ¬ tgN t) (h1 : 1536 ≤ t) (h0 : t < 65536) : decV (f + 1) (beL 2 t ++ r) v = (0, v, t, r) := by
  have h2 : (beL 2 t ++ r).take 2 = beL 2 t := by rw [List.take_left' (beL_len 2 t)]
  have h3 : (beL 2 t ++ r).drop 2 = r := by rw [List.drop_left' (beL_len 2 t)]
  have l2 : (beL 2 t ++ r).length = 2 + r.length := by simp only [List.length_append, beL_len]
  rw [decV, h2, h3, num_beL 2 t (by omega), if_neg (by omega), if_neg ht, if_neg (by omega)]
theorem encE_ok {x : EthR} {s : List UInt8} (h : encE x = (s, 0)) : ¬ badE x ∧ x.vl.length ≤ 2 ∧ s = bodyE x ∧ (bodyE x).length ≤ 4096 := by
  unfold encE at h
  split at h
  · simp at h
  · split at h
    · simp at h
    · split at h
      · simp at h
      · rename_i h1 h2 h3
        exact ⟨h1, by omega, (Prod.mk.injEq .. ▸ h : _ ∧ _).1.symm, by omega⟩
theorem dec_enc {x : EthR} {s : List UInt8} (h : encE x = (s, 0)) : decE s = (x, 0) ∧ s.length = 14 + 4 * x.vl.length + x.pay.length := by
  obtain ⟨hb, hv, rfl, hl⟩ := encE_ok h
  obtain ⟨d, sr, v, ty, p⟩ := x
  unfold badE at hb
  simp only [not_or] at hb hv
  obtain ⟨b1, b2, b3, b4, b5, b6⟩ := hb
  have b3' : ∀ y ∈ v, 0 ≤ y ∧ y ≤ 4095 := fun y hy => by
    have hh : ¬ (y < 0 ∨ 4095 < y) := fun h => b3 ⟨y, hy, h⟩
    omega
  clear b3
  obtain ⟨t, rfl⟩ : ∃ t : Nat, ty = (t : Int) := ⟨ty.toNat, by omega⟩
  rw [Int.toNat_natCast] at b6
  have hbody : bodyE ⟨d, sr, v, (t : Int), p⟩ = beL 6 d ++ (beL 6 sr ++ (tagsB v v.length ++ (beL 2 t ++ p))) := by
    unfold bodyE
    rw [Int.toNat_natCast]
    simp only [List.append_assoc]
  have hV : decV 3 (tagsB v v.length ++ (beL 2 t ++ p)) [] = (0, v, t, p) := by
    match v, hv, b3' with
    | [], _, _ => exact decV_type b6 (by omega) (by omega)
    | [a], _, h =>
      have ha := h a (by simp)
      have e : tagsB [a] 1 = beL 2 33024 ++ beL 2 a.toNat := by simp [tagsB, tagB]
      show decV 3 (tagsB [a] 1 ++ _) [] = _
      rw [e, List.append_assoc, decV_tag (.inl rfl) (by omega) (by simp), decV_type b6 (by omega) (by omega)]
      rw [show ((a.toNat % 4096 : Nat) : Int) = a by omega]
      rfl
    | [a, b], _, h =>
      have ha := h a (by simp)
      have hb := h b (by simp)
      have e : tagsB [a, b] 2 = (beL 2 34984 ++ beL 2 a.toNat) ++ (beL 2 33024 ++ beL 2 b.toNat) := by simp [tagsB, tagB, List.range_succ]
      show decV 3 (tagsB [a, b] 2 ++ _) [] = _
      rw [e]
      simp only [List.append_assoc]
      rw [decV_tag (.inr rfl) (by omega) (by simp), decV_tag (.inl rfl) (by omega) (by simp), decV_type b6 (by omega) (by omega)]
      rw [show ((a.toNat % 4096 : Nat) : Int) = a by omega, show ((b.toNat % 4096 : Nat) : Int) = b by omega]
      rfl
    | a :: b :: c :: r, hv, _ => simp at hv
  refine ⟨?_, bodyE_len _⟩
  have hlen := bodyE_len ⟨d, sr, v, (t : Int), p⟩
  rw [hbody] at hlen ⊢
  have d6 : (beL 6 d ++ (beL 6 sr ++ (tagsB v v.length ++ (beL 2 t ++ p)))).drop 6 = beL 6 sr ++ (tagsB v v.length ++ (beL 2 t ++ p)) := List.drop_left' (beL_len 6 d)
  have d12 : (beL 6 d ++ (beL 6 sr ++ (tagsB v v.length ++ (beL 2 t ++ p)))).drop 12 = tagsB v v.length ++ (beL 2 t ++ p) := by
    rw [show (12 : Nat) = 6 + 6 from rfl, ← List.drop_drop, d6, List.drop_left' (beL_len 6 sr)]
  have t6 : (beL 6 d ++ (beL 6 sr ++ (tagsB v v.length ++ (beL 2 t ++ p)))).take 6 = beL 6 d := List.take_left' (beL_len 6 d)
  unfold decE
  rw [if_neg (by omega), d12, d6, t6, hV, if_neg (by simp), List.take_left' (beL_len 6 sr), num_beL 6 d (by omega), num_beL 6 sr (by omega)]
/-! ### Encoding what was decoded -/
theorem decV_ok : ∀ (f : Nat) (r : List UInt8) (v v' : List Int) (t : Nat) (p : List UInt8), v.length + f = 3 → decV f r v = (0, v', t, p) →
    ∃ u : List Int, v' = v ++ u ∧ v'.length ≤ 2 ∧ 4 * u.length + 2 ≤ r.length ∧ t = num ((r.drop (4 * u.length)).take 2) ∧ p = r.drop (4 * u.length + 2) ∧ ¬ tgN t ∧ 1536 ≤ t ∧ ∀ y ∈ u, 0 ≤ y ∧ y ≤ 4095
  | 0, r, v, v', t, p, _, h => by simp [decV] at h
  | f + 1, r, v, v', t, p, hf, h => by
    rw [decV] at h
    by_cases h1 : r.length < 2
    · rw [if_pos h1] at h; simp at h
    · rw [if_neg h1] at h
      by_cases h2 : tgN (num (r.take 2))
      · rw [if_pos h2] at h
        by_cases h3 : v.length = 2
        · rw [if_pos h3] at h; simp at h
        · rw [if_neg h3] at h
          by_cases h4 : (r.drop 2).length < 2
          · rw [if_pos h4] at h; simp at h
          · rw [if_neg h4] at h
            obtain ⟨u, rfl, a1, a2, a3, a4, a5, a6, a7⟩ := decV_ok f _ _ v' t p (by rw [List.length_append]; simp; omega) h
            rw [List.length_drop] at h4
            rw [List.drop_drop, List.length_drop] at a2
            rw [List.drop_drop, List.drop_drop] at a3 a4
            refine ⟨((num ((r.drop 2).take 2) % 4096 : Nat) : Int) :: u, by simp, a1, by rw [List.length_cons]; omega, ?_, ?_, a5, a6, ?_⟩
            · rw [a3, List.length_cons, show 2 + (2 + 4 * u.length) = 4 * (u.length + 1) by omega]
            · rw [a4, List.length_cons, show 2 + (2 + (4 * u.length + 2)) = 4 * (u.length + 1) + 2 by omega]
            · intro y hy
              rcases List.mem_cons.1 hy with rfl | hy
              · omega
              · exact a7 y hy
      · rw [if_neg h2] at h
        by_cases h3 : num (r.take 2) < 1536
        · rw [if_pos h3] at h; simp at h
        · rw [if_neg h3] at h
          simp only [Prod.mk.injEq, true_and] at h
          obtain ⟨rfl, rfl, rfl⟩ := h
          exact ⟨[], by simp, by omega, by simp; omega, by simp, by simp, h2, by omega, by simp⟩
theorem enc_dec {s : List UInt8} {x : EthR} (h : decE s = (x, 0)) (hs : s.length ≤ 4096) : ∃ t, encE x = (t, 0) ∧ t.length = s.length ∧ t.take 12 = s.take 12 ∧ x.vl.length ≤ 2 ∧ 12 + 4 * x.vl.length ≤ s.length ∧ t.drop (12 + 4 * x.vl.length) = s.drop (12 + 4 * x.vl.length) := by
  unfold decE at h
  by_cases h14 : s.length < 14
  · rw [if_pos h14] at h; simp at h
  · rw [if_neg h14] at h
    by_cases hd : (decV 3 (s.drop 12) []).1 = 0
    · rw [if_neg (by omega)] at h
      simp only [Prod.mk.injEq, and_true] at h
      obtain ⟨u, a0, a1, a2, a3, a4, a5, a6, a7⟩ := decV_ok 3 (s.drop 12) [] (decV 3 (s.drop 12) []).2.1 (decV 3 (s.drop 12) []).2.2.1 (decV 3 (s.drop 12) []).2.2.2 rfl (by rw [← hd])
      rw [List.nil_append] at a0
      generalize (decV 3 (s.drop 12) []).2.1 = v at *
      generalize (decV 3 (s.drop 12) []).2.2.1 = t at *
      generalize (decV 3 (s.drop 12) []).2.2.2 = p at *
      subst a0 h
      rw [List.length_drop] at a2
      rw [List.drop_drop] at a3 a4
      have l6 : (s.take 6).length = 6 := by rw [List.length_take]; omega
      have l6' : ((s.drop 6).take 6).length = 6 := by rw [List.length_take, List.length_drop]; omega
      have n6 := num_lt (s.take 6)
      have n6' := num_lt ((s.drop 6).take 6)
      rw [l6] at n6
      rw [l6'] at n6'
      have lt2 : ((s.drop (12 + 4 * v.length)).take 2).length = 2 := by rw [List.length_take, List.length_drop]; omega
      have nt := num_lt ((s.drop (12 + 4 * v.length)).take 2)
      rw [lt2, ← a3] at nt
      have hnb : ¬ badE ⟨num (s.take 6), num ((s.drop 6).take 6), v, (t : Int), p⟩ := by
        unfold badE
        simp only [not_or]
        refine ⟨by omega, by omega, ?_, by omega, by omega, by rw [Int.toNat_natCast]; exact a5⟩
        rintro ⟨y, hy, hh⟩
        have := a7 y hy
        omega
      have hbl := bodyE_len ⟨num (s.take 6), num ((s.drop 6).take 6), v, (t : Int), p⟩
      have hpl : p.length = s.length - (12 + (4 * v.length + 2)) := by rw [a4, List.length_drop]
      simp only at hbl a1 ⊢
      have hen : encE ⟨num (s.take 6), num ((s.drop 6).take 6), v, (t : Int), p⟩ = (bodyE ⟨num (s.take 6), num ((s.drop 6).take 6), v, (t : Int), p⟩, 0) := by
        unfold encE
        rw [if_neg hnb, if_neg (by simp only; omega), if_neg (by omega)]
      have hbe : bodyE ⟨num (s.take 6), num ((s.drop 6).take 6), v, (t : Int), p⟩ = s.take 12 ++ (tagsB v v.length ++ s.drop (12 + 4 * v.length)) := by
        unfold bodyE
        simp only [Int.toNat_natCast]
        rw [beL_num _ 6 l6, beL_num _ 6 l6', a3, beL_num _ 2 lt2, a4]
        have e1 : s.take 6 ++ (s.drop 6).take 6 = s.take 12 := by rw [show (12 : Nat) = 6 + 6 from rfl, List.take_add]
        have e2 : (s.drop (12 + 4 * v.length)).take 2 ++ s.drop (12 + (4 * v.length + 2)) = s.drop (12 + 4 * v.length) := by
          have h9 := List.take_append_drop 2 (s.drop (12 + 4 * v.length))
          rw [List.drop_drop] at h9
          rw [show 12 + (4 * v.length + 2) = (12 + 4 * v.length) + 2 by omega]
          exact h9
        rw [e1, e2, List.append_assoc]
      have l12 : (s.take 12).length = 12 := by rw [List.length_take]; omega
      refine ⟨_, hen, by rw [hbl]; omega, ?_, by omega, by omega, ?_⟩
      · rw [hbe, List.take_left' l12]
      · rw [hbe, ← List.append_assoc, List.drop_left' (by rw [List.length_append, l12, tagsB_len])]
    · rw [if_pos hd] at h
      simp only [Prod.mk.injEq] at h
      exact absurd h.2 hd
theorem decV_vl : ∀ (f : Nat) (r : List UInt8) (v : List Int), v.length + f ≤ 3 → (decV f r v).2.1.length ≤ 3
  | 0, r, v, h => by simp [decV]
  | f + 1, r, v, h => by
    rw [decV]
    split
    · simp
    · split
      · split
        · simp
        · split
          · simp
          · exact decV_vl f _ _ (by rw [List.length_append]; simp; omega)
      · split
        · simp
        · show v.length ≤ 3
          omega
theorem decE_vl (s : List UInt8) : (decE s).1.vl.length ≤ 3 := by
  unfold decE
  split
  · simp [zeroE]
  · split
    · simp [zeroE]
    · exact decV_vl 3 _ [] (by simp)
end Go.Proofs.Ytafpmlikocchpaa

/- Plain mathematics of the ones' complement sum: no Go in sight. -/
namespace Go.Proofs.Ytafpmlikocchpaa

/-- The ones' complement sum of two numbers from 0 to 65535. -/
def oc (a b : Int) : Int := if 65535 < a + b then a + b - 65535 else a + b
/-- What the ones' complement sum of words is whose plain sum is n. -/
def rep (n : Nat) : Nat := if n = 0 then 0 else (n - 1) % 65535 + 1
/-- The first word. -/
def wdL : List UInt8 → Nat
  | [] => 0
  | [a] => a.toNat * 256
  | a :: b :: _ => a.toNat * 256 + b.toNat
/-- The plain sum of the words. -/
def wsum : List UInt8 → Nat
  | [] => 0
  | [a] => a.toNat * 256
  | a :: b :: l => (a.toNat * 256 + b.toNat) + wsum l
/-- The Internet checksum. -/
def csum (l : List UInt8) : Nat := 65535 - rep (wsum l)

theorem rep_le (n : Nat) : rep n ≤ 65535 := by unfold rep; split <;> omega
theorem rep_zero : rep 0 = 0 := rfl
theorem csum_le (l : List UInt8) : csum l ≤ 65535 := by unfold csum; omega
theorem oc_rep (n w : Nat) (h : w ≤ 65535) : oc (rep n) w = (rep (n + w) : Nat) := by
  unfold oc rep
  split <;> split <;> split <;> omega
theorem rep_mod (n : Nat) : rep n % 65535 = n % 65535 := by unfold rep; split <;> omega
theorem wdL_le (l : List UInt8) : wdL l ≤ 65535 := by
  unfold wdL
  split
  · omega
  · rename_i a; have := a.toNat_lt; omega
  · rename_i a b _; have := a.toNat_lt; have := b.toNat_lt; omega
theorem wsum_step (l : List UInt8) : wsum l = wdL l + wsum (l.drop 2) := by
  match l with
  | [] => simp [wsum, wdL]
  | [_] => simp [wsum, wdL]
  | _ :: _ :: _ => simp [wsum, wdL]
theorem wsum_append : ∀ (a b : List UInt8), a.length % 2 = 0 → wsum (a ++ b) = wsum a + wsum b
  | [], b, _ => by simp [wsum]
  | [_], _, h => by simp at h
  | x :: y :: l, b, h => by
    have h' : l.length % 2 = 0 := by simp at h; omega
    have := wsum_append l b h'
    simp only [List.cons_append, wsum, this]
    omega
theorem wd_two (s : ByteArray) (k : Nat) (h : k + 1 < s.size) : wdL (s.data.toList.drop k) = s[k].toNat * 256 + s[k + 1].toNat := by
  have hl : s.data.toList.length = s.size := by simp
  rw [List.drop_eq_getElem_cons (by omega), List.drop_eq_getElem_cons (by omega)]
  rfl
theorem wd_one (s : ByteArray) (k : Nat) (h : k < s.size) (h2 : s.size ≤ k + 1) : wdL (s.data.toList.drop k) = s[k].toNat * 256 := by
  have hl : s.data.toList.length = s.size := by simp
  rw [List.drop_eq_getElem_cons (by omega), List.drop_eq_nil_of_le (by omega)]
  rfl
end Go.Proofs.Ytafpmlikocchpaa

/- Plain mathematics of IPv4 packets: no Go in sight. -/
namespace Go.Proofs.Ytafpmlikocchpaa
set_option linter.unusedVariables false

/-- An option: its kind, its data. -/
structure OpR where
  kd : Int
  dat : List UInt8
/-- An address as it stands in a struct. -/
structure AdR where
  v6 : Bool
  hi : Nat
  lo : Nat
structure Ip4R where
  tos : Int
  id : Int
  ttl : Int
  proto : Int
  dont : Bool
  more : Bool
  off : Int
  src : AdR
  dst : AdR
  ops : List OpR
  pay : List UInt8
def zeroI : Ip4R := ⟨0, 0, 0, 0, false, false, 0, ⟨false, 0, 0⟩, ⟨false, 0, 0⟩, [], []⟩
/-! ### Options -/
/-- The options in some bytes; none: they are malformed. -/
def optsD : List UInt8 → Option (List OpR)
  | [] => some []
  | [k] => if k.toNat = 0 then some [] else if k.toNat = 1 then some [] else none
  | k :: n :: t => if k.toNat = 0 then some [] else if k.toNat = 1 then optsD (n :: t)
      else if n.toNat < 2 ∨ t.length < n.toNat - 2 then none else (optsD (t.drop (n.toNat - 2))).map (fun l => ⟨(k.toNat : Int), t.take (n.toNat - 2)⟩ :: l)
termination_by s => s.length
decreasing_by
  · simp
  · simp; omega
theorem optsD_end (S : List UInt8) (i : Nat) (h : S.length ≤ i) : optsD (S.drop i) = some [] := by
  rw [List.drop_eq_nil_of_le h, optsD]
theorem optsD_zero {S : List UInt8} {i : Nat} (h : i < S.length) (h0 : S[i].toNat = 0) : optsD (S.drop i) = some [] := by
  rw [List.drop_eq_getElem_cons h]
  cases e : S.drop (i + 1) with
  | nil => rw [optsD, if_pos h0]
  | cons a t => rw [optsD, if_pos h0]
theorem optsD_one {S : List UInt8} {i : Nat} (h : i < S.length) (h1 : S[i].toNat = 1) : optsD (S.drop i) = optsD (S.drop (i + 1)) := by
  rw [List.drop_eq_getElem_cons h]
  cases e : S.drop (i + 1) with
  | nil =>
    have e1 : optsD [S[i]] = some [] := by rw [optsD, if_neg (by omega), if_pos h1]
    rw [e1, optsD]
  | cons a t => rw [optsD, if_neg (by omega), if_pos h1]
theorem optsD_last {S : List UInt8} {i : Nat} (h : i < S.length) (h0 : S[i].toNat ≠ 0) (h1 : S[i].toNat ≠ 1) (hl : S.length ≤ i + 1) : optsD (S.drop i) = none := by
  rw [List.drop_eq_getElem_cons h, List.drop_eq_nil_of_le hl, optsD, if_neg h0, if_neg h1]
theorem optsD_bad {S : List UInt8} {i : Nat} (h : i + 1 < S.length) (h0 : S[i].toNat ≠ 0) (h1 : S[i].toNat ≠ 1) (hb : S[i + 1].toNat < 2 ∨ S.length < i + S[i + 1].toNat) : optsD (S.drop i) = none := by
  rw [List.drop_eq_getElem_cons (by omega), List.drop_eq_getElem_cons h, optsD, if_neg h0, if_neg h1, if_pos]
  rw [List.length_drop]
  omega
theorem optsD_opt {S : List UInt8} {i : Nat} (h : i + 1 < S.length) (h0 : S[i].toNat ≠ 0) (h1 : S[i].toNat ≠ 1) (hb : 2 ≤ S[i + 1].toNat) (hc : i + S[i + 1].toNat ≤ S.length) :
    optsD (S.drop i) = (optsD (S.drop (i + S[i + 1].toNat))).map (fun l => ⟨(S[i].toNat : Int), (S.drop (i + 2)).take (S[i + 1].toNat - 2)⟩ :: l) := by
  rw [List.drop_eq_getElem_cons (by omega), List.drop_eq_getElem_cons h, optsD, if_neg h0, if_neg h1, if_neg (by rw [List.length_drop]; omega), List.drop_drop]
  have e : i + 1 + 1 + (S[i + 1].toNat - 2) = i + S[i + 1].toNat := by omega
  rw [e]
def wrO (x : OpR) : List UInt8 := UInt8.ofNat x.kd.toNat :: UInt8.ofNat (2 + x.dat.length) :: x.dat
def wrOs (l : List OpR) : List UInt8 := l.flatMap wrO
theorem wrO_len (x : OpR) : (wrO x).length = 2 + x.dat.length := by unfold wrO; simp; omega
theorem wrOs_cons (x : OpR) (r : List OpR) : wrOs (x :: r) = wrO x ++ wrOs r := rfl
theorem wrOs_snoc (l : List OpR) (x : OpR) : wrOs (l ++ [x]) = wrOs l ++ wrO x := by unfold wrOs; simp
def padN (n : Nat) : Nat := (4 - n % 4) % 4
def wrP (l : List OpR) : List UInt8 := wrOs l ++ List.replicate (padN (wrOs l).length) 0
theorem wrP_len (l : List OpR) : (wrP l).length = (wrOs l).length + padN (wrOs l).length ∧ (wrP l).length % 4 = 0 := by
  have : (wrP l).length = (wrOs l).length + padN (wrOs l).length := by unfold wrP; simp
  refine ⟨this, ?_⟩
  rw [this]
  unfold padN
  omega
/-- The kinds are permitted. -/
def okK (l : List OpR) : Prop := ∀ x ∈ l, 2 ≤ x.kd ∧ x.kd ≤ 255
theorem optsD_pad (k : Nat) : optsD (List.replicate k 0) = some [] := by
  match k with
  | 0 => rw [List.replicate_zero, optsD]
  | 1 => rw [show List.replicate 1 (0 : UInt8) = [0] from rfl, optsD, if_pos (show (0 : UInt8).toNat = 0 from rfl)]
  | k + 2 => rw [List.replicate_succ, List.replicate_succ, optsD, if_pos (show (0 : UInt8).toNat = 0 from rfl)]
theorem u8n {n : Nat} (h : n < 256) : (UInt8.ofNat n).toNat = n := by rw [UInt8.toNat_ofNat']; omega
theorem opts_round (k : Nat) : ∀ (l : List OpR), okK l → (∀ x ∈ l, x.dat.length ≤ 253) → optsD (wrOs l ++ List.replicate k 0) = some l
  | [], _, _ => by show optsD ([] ++ _) = _; rw [List.nil_append]; exact optsD_pad k
  | x :: r, hk, hl => by
    have h1 := hk x (by simp)
    have h2 := hl x (by simp)
    have ih := opts_round k r (fun y hy => hk y (by simp [hy])) (fun y hy => hl y (by simp [hy]))
    have ek : (UInt8.ofNat x.kd.toNat).toNat = x.kd.toNat := u8n (by omega)
    have en : (UInt8.ofNat (2 + x.dat.length)).toNat = 2 + x.dat.length := u8n (by omega)
    rw [wrOs_cons, List.append_assoc]
    show optsD (UInt8.ofNat x.kd.toNat :: UInt8.ofNat (2 + x.dat.length) :: (x.dat ++ (wrOs r ++ List.replicate k 0))) = _
    rw [optsD, ek, en, if_neg (by omega), if_neg (by omega), if_neg (by rw [List.length_append]; omega), show 2 + x.dat.length - 2 = x.dat.length by omega, List.drop_left, List.take_left, ih]
    simp only [Option.map_some, Option.some.injEq, List.cons.injEq, and_true]
    rw [Int.toNat_of_nonneg (by omega)]
theorem opts_ok : ∀ (n : Nat) (s : List UInt8) (l : List OpR), s.length ≤ n → optsD s = some l → okK l ∧ (wrOs l).length ≤ s.length ∧ ∀ x ∈ l, x.dat.length ≤ 253
  | n, [], l, _, h => by
    rw [optsD] at h
    obtain rfl := Option.some.inj h
    exact ⟨fun x hx => (by cases hx), by simp [wrOs], fun x hx => (by cases hx)⟩
  | n, [k], l, _, h => by
    rw [optsD] at h
    have hl : l = [] := by
      split at h
      · exact (Option.some.inj h).symm
      · split at h
        · exact (Option.some.inj h).symm
        · cases h
    subst hl
    exact ⟨fun x hx => (by cases hx), by simp [wrOs], fun x hx => (by cases hx)⟩
  | 0, k :: m :: t, l, hn, h => by simp at hn
  | n + 1, k :: m :: t, l, hn, h => by
    rw [optsD] at h
    split at h
    · obtain rfl := Option.some.inj h
      exact ⟨fun x hx => (by cases hx), by simp [wrOs], fun x hx => (by cases hx)⟩
    · rename_i h0
      split at h
      · obtain ⟨g1, g2, g3⟩ := opts_ok n (m :: t) l (by simp at hn ⊢; omega) h
        exact ⟨g1, by simp at g2 ⊢; omega, g3⟩
      · rename_i h1
        split at h
        · cases h
        · rename_i h2
          cases e : optsD (t.drop (m.toNat - 2)) with
          | none => rw [e] at h; cases h
          | some r =>
            rw [e] at h
            obtain rfl := Option.some.inj h
            obtain ⟨g1, g2, g3⟩ := opts_ok n (t.drop (m.toNat - 2)) r (by rw [List.length_drop]; simp at hn; omega) e
            have hk := k.toNat_lt
            have hm := m.toNat_lt
            have ht : (t.take (m.toNat - 2)).length = m.toNat - 2 := by rw [List.length_take]; omega
            refine ⟨fun x hx => ?_, ?_, fun x hx => ?_⟩
            · rcases List.mem_cons.1 hx with rfl | hx
              · simp only; omega
              · exact g1 x hx
            · rw [wrOs_cons, List.length_append, wrO_len, ht]
              rw [List.length_drop] at g2
              simp only [List.length_cons]
              omega
            · rcases List.mem_cons.1 hx with rfl | hx
              · simp only [ht]; omega
              · exact g3 x hx
/-! ### Packets -/
def byt (S : List UInt8) (i : Nat) : Nat := (S.getD i 0).toNat
def nm2 (S : List UInt8) (i : Nat) : Nat := num ((S.drop i).take 2)
def nm4 (S : List UInt8) (i : Nat) : Nat := num ((S.drop i).take 4)
def hdL (S : List UInt8) : Nat := byt S 0 % 16 * 4
def outI (S : List UInt8) (l : List OpR) : Ip4R :=
  ⟨byt S 1, nm2 S 4, byt S 8, byt S 9, decide (nm2 S 6 / 16384 % 2 = 1), decide (nm2 S 6 / 8192 % 2 = 1), ((nm2 S 6 % 8192 * 8 : Nat) : Int), ⟨false, 0, nm4 S 12⟩, ⟨false, 0, nm4 S 16⟩, l, (S.take (nm2 S 2)).drop (hdL S)⟩
def decI (S : List UInt8) : Ip4R × Nat :=
  if S.length < 20 then (zeroI, 1)
  else if byt S 0 / 16 ≠ 4 ∨ hdL S < 20 then (zeroI, 2)
  else if S.length < hdL S ∨ S.length < nm2 S 2 then (zeroI, 1)
  else if nm2 S 2 < hdL S then (zeroI, 2)
  else if csum (S.take (hdL S)) ≠ 0 then (zeroI, 8)
  else match optsD ((S.take (hdL S)).drop 20) with
    | none => (zeroI, 2)
    | some l => if 32768 ≤ nm2 S 6 then (zeroI, 2) else (outI S l, 0)
def a4 (a : AdR) : Prop := a.v6 = false ∧ a.hi = 0 ∧ a.lo < 4294967296
instance (a : AdR) : Decidable (a4 a) := inferInstanceAs (Decidable (_ ∧ _))
def badI (p : Ip4R) : Prop := (p.tos < 0 ∨ 255 < p.tos) ∨ (p.ttl < 0 ∨ 255 < p.ttl) ∨ (p.proto < 0 ∨ 255 < p.proto) ∨ (p.id < 0 ∨ 65535 < p.id) ∨ (p.off < 0 ∨ 65528 < p.off ∨ p.off % 8 ≠ 0) ∨ ¬ a4 p.src ∨ ¬ a4 p.dst ∨ ∃ x ∈ p.ops, x.kd < 2 ∨ 255 < x.kd
instance (p : Ip4R) : Decidable (badI p) := inferInstanceAs (Decidable (_ ∨ _))
def flagsI (p : Ip4R) : Nat := p.off.toNat / 8 + (if p.dont then 16384 else 0) + (if p.more then 8192 else 0)
def hlI (p : Ip4R) : Nat := 20 + (wrP p.ops).length
def totI (p : Ip4R) : Nat := hlI p + p.pay.length
def preI (p : Ip4R) : List UInt8 := UInt8.ofNat (64 + hlI p / 4) :: UInt8.ofNat p.tos.toNat :: (beL 2 (totI p) ++ (beL 2 p.id.toNat ++ (beL 2 (flagsI p) ++ [UInt8.ofNat p.ttl.toNat, UInt8.ofNat p.proto.toNat])))
def postI (p : Ip4R) : List UInt8 := beL 4 p.src.lo ++ (beL 4 p.dst.lo ++ wrP p.ops)
def sumI (p : Ip4R) : Nat := csum (preI p ++ (beL 2 0 ++ postI p))
def headI (p : Ip4R) : List UInt8 := preI p ++ (beL 2 (sumI p) ++ postI p)
def encI (p : Ip4R) : List UInt8 × Nat :=
  if badI p then ([], 4) else if 40 < (wrOs p.ops).length then ([], 3) else if 65535 < totI p then ([], 3) else (headI p ++ p.pay, 0)
theorem preI_len (p : Ip4R) : (preI p).length = 10 := by unfold preI; simp [beL_len]
theorem postI_len (p : Ip4R) : (postI p).length = 8 + (wrP p.ops).length := by unfold postI; simp [beL_len]; omega
theorem headI_len (p : Ip4R) : (headI p).length = hlI p := by unfold headI hlI; rw [List.length_append, List.length_append, preI_len, beL_len, postI_len]; omega
/-! ### The checksum -/
theorem wsum_be2 {n : Nat} (h : n ≤ 65535) : wsum (beL 2 n) = n := by
  unfold beL
  simp only [leL, List.reverse_cons, List.reverse_nil, List.nil_append, List.cons_append, wsum]
  rw [UInt8.toNat_ofNat', UInt8.toNat_ofNat']
  omega
theorem csum_fill {a b : List UInt8} (ha : a.length % 2 = 0) : csum (a ++ (beL 2 (csum (a ++ (beL 2 0 ++ b))) ++ b)) = 0 := by
  have hle := csum_le (a ++ (beL 2 0 ++ b))
  have h0 : wsum (a ++ (beL 2 0 ++ b)) = wsum a + wsum b := by rw [wsum_append _ _ ha, wsum_append _ _ (by rw [beL_len]), wsum_be2 (by omega)]; omega
  have h1 : wsum (a ++ (beL 2 (csum (a ++ (beL 2 0 ++ b))) ++ b)) = wsum a + wsum b + csum (a ++ (beL 2 0 ++ b)) := by
    rw [wsum_append _ _ ha, wsum_append _ _ (by rw [beL_len]), wsum_be2 hle]; omega
  unfold csum at h1 ⊢
  rw [h1, h0]
  have hr := rep_le (wsum a + wsum b)
  have hoc := oc_rep (wsum a + wsum b) (65535 - rep (wsum a + wsum b)) (by omega)
  unfold oc at hoc
  rw [if_neg (by omega)] at hoc
  omega
theorem headI_sum (p : Ip4R) : csum (headI p) = 0 := csum_fill (by rw [preI_len])
theorem csum_zero {l : List UInt8} (h : csum l = 0) : wsum l % 65535 = 0 := by
  unfold csum rep at h
  split at h
  · omega
  · omega
/-! ### Reading what was written -/
theorem byt_lt (S : List UInt8) (i : Nat) : byt S i < 256 := u8_lt _
theorem nm2_lt (S : List UInt8) (i : Nat) : nm2 S i < 65536 := by
  have h1 : ((S.drop i).take 2).length ≤ 2 := by rw [List.length_take]; omega
  exact Nat.lt_of_lt_of_le (num_lt _) (Nat.pow_le_pow_right (by omega) h1 : 256 ^ _ ≤ 256 ^ 2)
theorem nm4_lt (S : List UInt8) (i : Nat) : nm4 S i < 4294967296 := by
  have h1 : ((S.drop i).take 4).length ≤ 4 := by rw [List.length_take]; omega
  exact Nat.lt_of_lt_of_le (num_lt _) (Nat.pow_le_pow_right (by omega) h1 : 256 ^ _ ≤ 256 ^ 4)
theorem nm2_at {a b : List UInt8} {i v : Nat} (hi : i = a.length) (hv : v ≤ 65535) : nm2 (a ++ (beL 2 v ++ b)) i = v := by
  unfold nm2
  subst hi
  rw [List.drop_left, List.take_left' (beL_len 2 v), num_beL 2 v (by omega)]
theorem nm4_at {a b : List UInt8} {i v : Nat} (hi : i = a.length) (hv : v < 4294967296) : nm4 (a ++ (beL 4 v ++ b)) i = v := by
  unfold nm4
  subst hi
  rw [List.drop_left, List.take_left' (beL_len 4 v), num_beL 4 v (by omega)]
theorem byt_at {a b : List UInt8} {i : Nat} {c : UInt8} (hi : i = a.length) : byt (a ++ (c :: b)) i = c.toNat := by
  unfold byt
  subst hi
  rw [List.getD_eq_getElem?_getD, List.getElem?_append_right (Nat.le_refl _), Nat.sub_self]
  rfl
/-- The bytes of an encoded packet, piece by piece. -/
structure Enc4 (p : Ip4R) (S : List UInt8) : Prop where
  b0 : byt S 0 = 64 + hlI p / 4
  b1 : byt S 1 = p.tos.toNat
  f2 : nm2 S 2 = totI p
  f4 : nm2 S 4 = p.id.toNat
  f6 : nm2 S 6 = flagsI p
  b8 : byt S 8 = p.ttl.toNat
  b9 : byt S 9 = p.proto.toNat
  s4 : nm4 S 12 = p.src.lo
  d4 : nm4 S 16 = p.dst.lo
theorem flags_le {p : Ip4R} (h : ¬ badI p) : flagsI p ≤ 32767 := by
  unfold badI at h
  simp only [not_or] at h
  obtain ⟨-, -, -, -, ⟨h1, h2, h3⟩, -⟩ := h
  unfold flagsI
  split <;> split <;> omega
theorem need_pad {n : Nat} (h : n ≤ 40) : n + padN n ≤ 40 := by unfold padN; omega
theorem enc4 {p : Ip4R} (h : ¬ badI p) (ho : (wrOs p.ops).length ≤ 40) (ht : totI p ≤ 65535) (T : List UInt8) : Enc4 p (headI p ++ T) := by
  have hf := flags_le h
  have hw := (wrP_len p.ops).1
  have hw4 := (wrP_len p.ops).2
  have hpd := need_pad ho
  have hh : hlI p ≤ 60 ∧ 20 ≤ hlI p ∧ hlI p % 4 = 0 := by unfold hlI; omega
  unfold badI at h
  simp only [not_or, Classical.not_not] at h
  obtain ⟨⟨h1, h2⟩, ⟨h3, h4⟩, ⟨h5, h6⟩, ⟨h7, h8⟩, -, hs, hd, -⟩ := h
  have e : ∀ X, headI p ++ X = UInt8.ofNat (64 + hlI p / 4) :: UInt8.ofNat p.tos.toNat :: (beL 2 (totI p) ++ (beL 2 p.id.toNat ++ (beL 2 (flagsI p) ++ (UInt8.ofNat p.ttl.toNat :: UInt8.ofNat p.proto.toNat :: (beL 2 (sumI p) ++ (beL 4 p.src.lo ++ (beL 4 p.dst.lo ++ (wrP p.ops ++ X)))))))) := fun X => by
    unfold headI preI postI
    simp
  rw [e]
  refine ⟨?_, ?_, ?_, ?_, ?_, ?_, ?_, ?_, ?_⟩
  · exact (byt_at (a := []) rfl).trans (u8n (by omega))
  · exact (byt_at (a := [UInt8.ofNat (64 + hlI p / 4)]) rfl).trans (u8n (by omega))
  · exact nm2_at (a := [UInt8.ofNat (64 + hlI p / 4), UInt8.ofNat p.tos.toNat]) rfl ht
  · have := nm2_at (a := UInt8.ofNat (64 + hlI p / 4) :: UInt8.ofNat p.tos.toNat :: beL 2 (totI p)) (b := beL 2 (flagsI p) ++ (UInt8.ofNat p.ttl.toNat :: UInt8.ofNat p.proto.toNat :: (beL 2 (sumI p) ++ (beL 4 p.src.lo ++ (beL 4 p.dst.lo ++ (wrP p.ops ++ T)))))) (i := 4) (v := p.id.toNat) (by simp [beL_len]) (by omega)
    simpa using this
  · have := nm2_at (a := UInt8.ofNat (64 + hlI p / 4) :: UInt8.ofNat p.tos.toNat :: (beL 2 (totI p) ++ beL 2 p.id.toNat)) (b := UInt8.ofNat p.ttl.toNat :: UInt8.ofNat p.proto.toNat :: (beL 2 (sumI p) ++ (beL 4 p.src.lo ++ (beL 4 p.dst.lo ++ (wrP p.ops ++ T))))) (i := 6) (v := flagsI p) (by simp [beL_len]) (by omega)
    simpa using this
  · have := byt_at (a := UInt8.ofNat (64 + hlI p / 4) :: UInt8.ofNat p.tos.toNat :: (beL 2 (totI p) ++ (beL 2 p.id.toNat ++ beL 2 (flagsI p)))) (b := UInt8.ofNat p.proto.toNat :: (beL 2 (sumI p) ++ (beL 4 p.src.lo ++ (beL 4 p.dst.lo ++ (wrP p.ops ++ T))))) (i := 8) (c := UInt8.ofNat p.ttl.toNat) (by simp [beL_len])
    rw [u8n (by omega)] at this
    simpa using this
  · have := byt_at (a := UInt8.ofNat (64 + hlI p / 4) :: UInt8.ofNat p.tos.toNat :: (beL 2 (totI p) ++ (beL 2 p.id.toNat ++ (beL 2 (flagsI p) ++ [UInt8.ofNat p.ttl.toNat])))) (b := beL 2 (sumI p) ++ (beL 4 p.src.lo ++ (beL 4 p.dst.lo ++ (wrP p.ops ++ T)))) (i := 9) (c := UInt8.ofNat p.proto.toNat) (by simp [beL_len])
    rw [u8n (by omega)] at this
    simpa using this
  · have := nm4_at (a := UInt8.ofNat (64 + hlI p / 4) :: UInt8.ofNat p.tos.toNat :: (beL 2 (totI p) ++ (beL 2 p.id.toNat ++ (beL 2 (flagsI p) ++ ([UInt8.ofNat p.ttl.toNat, UInt8.ofNat p.proto.toNat] ++ beL 2 (sumI p)))))) (b := beL 4 p.dst.lo ++ (wrP p.ops ++ T)) (i := 12) (v := p.src.lo) (by simp [beL_len]) hs.2.2
    simpa using this
  · have := nm4_at (a := UInt8.ofNat (64 + hlI p / 4) :: UInt8.ofNat p.tos.toNat :: (beL 2 (totI p) ++ (beL 2 p.id.toNat ++ (beL 2 (flagsI p) ++ ([UInt8.ofNat p.ttl.toNat, UInt8.ofNat p.proto.toNat] ++ (beL 2 (sumI p) ++ beL 4 p.src.lo)))))) (b := wrP p.ops ++ T) (i := 16) (v := p.dst.lo) (by simp [beL_len]) hd.2.2
    simpa using this
theorem encI_ok {p : Ip4R} {s : List UInt8} (h : encI p = (s, 0)) : ¬ badI p ∧ (wrOs p.ops).length ≤ 40 ∧ totI p ≤ 65535 ∧ s = headI p ++ p.pay := by
  unfold encI at h
  split at h
  · simp at h
  · split at h
    · simp at h
    · split at h
      · simp at h
      · rename_i h1 h2 h3
        exact ⟨h1, by omega, by omega, (Prod.mk.injEq .. ▸ h : _ ∧ _).1.symm⟩
theorem wrOs_dat {l : List OpR} {n : Nat} (h : (wrOs l).length ≤ n) : ∀ x ∈ l, 2 + x.dat.length ≤ n := by
  induction l generalizing n with
  | nil => intro x hx; cases hx
  | cons y r ih =>
    rw [wrOs_cons, List.length_append, wrO_len] at h
    intro x hx
    rcases List.mem_cons.1 hx with rfl | hx
    · omega
    · have := ih (n := n) (by omega) x hx
      exact this
/-- DECODING INVERTS ENCODING. -/
theorem dec_enc4 {p : Ip4R} {s : List UInt8} (h : encI p = (s, 0)) (T : List UInt8) : decI (s ++ T) = (p, 0) ∧ s.length = totI p ∧ totI p ≤ 65535 := by
  obtain ⟨hb, ho, ht, rfl⟩ := encI_ok h
  have hl : (headI p ++ p.pay).length = totI p := by rw [List.length_append, headI_len]; rfl
  refine ⟨?_, hl, ht⟩
  rw [List.append_assoc]
  have E := enc4 hb ho ht (p.pay ++ T)
  have hf := flags_le hb
  have hw4 := (wrP_len p.ops).2
  have hw := (wrP_len p.ops).1
  have hpd := need_pad ho
  have hh : hlI p ≤ 60 ∧ 20 ≤ hlI p ∧ hlI p % 4 = 0 := by unfold hlI; omega
  have hHD : hdL (headI p ++ (p.pay ++ T)) = hlI p := by unfold hdL; rw [E.b0]; omega
  have hTL : hlI p ≤ totI p := by unfold totI; omega
  have hSL : (headI p ++ (p.pay ++ T)).length = totI p + T.length := by rw [← List.append_assoc, List.length_append, hl]
  have hTK : (headI p ++ (p.pay ++ T)).take (hlI p) = headI p := by rw [← headI_len p, List.take_left]
  have hTT : (headI p ++ (p.pay ++ T)).take (totI p) = headI p ++ p.pay := by rw [← List.append_assoc, ← hl, List.take_left]
  have hD20 : (headI p).drop 20 = wrP p.ops := by
    have e : headI p = (preI p ++ (beL 2 (sumI p) ++ (beL 4 p.src.lo ++ beL 4 p.dst.lo))) ++ wrP p.ops := by unfold headI postI; simp
    rw [e]
    exact List.drop_left' (by simp [preI_len, beL_len])
  have hops : optsD (wrP p.ops) = some p.ops := by
    unfold wrP
    refine opts_round _ p.ops (fun x hx => ?_) (fun x hx => by have := wrOs_dat ho x hx; omega)
    unfold badI at hb
    simp only [not_or] at hb
    obtain ⟨-, -, -, -, -, -, -, hk⟩ := hb
    have : ¬ (x.kd < 2 ∨ 255 < x.kd) := fun e => hk ⟨x, hx, e⟩
    omega
  unfold decI
  rw [hHD, E.f2, hTK, hSL, E.b0, E.f6, headI_sum, hD20, hops, if_neg (by omega), if_neg (by omega), if_neg (by omega), if_neg (by omega), if_neg (by omega)]
  simp only
  rw [if_neg (by omega)]
  have hout : outI (headI p ++ (p.pay ++ T)) p.ops = p := by
    unfold outI
    rw [hHD, E.f2, hTT, E.b1, E.f4, E.b8, E.b9, E.f6, E.s4, E.d4, ← headI_len p, List.drop_left]
    unfold badI at hb
    simp only [not_or, Classical.not_not] at hb
    obtain ⟨⟨h1, h2⟩, ⟨h3, h4⟩, ⟨h5, h6⟩, ⟨h7, h8⟩, ⟨g1, g2, g3⟩, hs, hd, -⟩ := hb
    obtain ⟨tos, id, ttl, proto, dont, more, off, ⟨s6, sh, sl⟩, ⟨d6, dh, dl⟩, ops, pay⟩ := p
    simp only at *
    obtain ⟨rfl, rfl, -⟩ := hs
    obtain ⟨rfl, rfl, -⟩ := hd
    simp only [Ip4R.mk.injEq, and_true]
    unfold flagsI
    simp only
    refine ⟨by omega, by omega, by omega, by omega, ?_, ?_, ?_⟩
    · cases dont <;> cases more <;> simp <;> omega
    · cases dont <;> cases more <;> simp <;> omega
    · cases dont <;> cases more <;> simp <;> omega
  rw [hout]
end Go.Proofs.Ytafpmlikocchpaa
