/- Contracts of the functions, part 1: Plain, EthMath. -/
import Derived.Below
/- Plain mathematics of byte strings and numbers for layer 1: no Go in sight. -/
namespace Go.Proofs.Ytimilcjlogcfhaa

/-- The size bytes of n, least significant first. -/
def leL : Nat → Nat → List UInt8
  | 0, _ => []
  | k + 1, n => UInt8.ofNat (n % 256) :: leL k (n / 256)

theorem leL_length : ∀ k n, (leL k n).length = k
  | 0, _ => rfl
  | k + 1, n => by simp [leL, leL_length k]

theorem leL_get : ∀ k n j (h : j < (leL k n).length), (leL k n)[j] = UInt8.ofNat (n / 256 ^ j % 256)
  | 0, _, j, h => by simp [leL] at h
  | k + 1, n, 0, _ => by simp [leL]
  | k + 1, n, j + 1, h => by
    simp only [leL, List.getElem_cons_succ]
    rw [leL_get k (n / 256) j (by simpa [leL] using h), Nat.div_div_eq_div_mul, Nat.pow_succ, Nat.mul_comm]

theorem leL_snoc : ∀ k n, leL (k + 1) n = leL k n ++ [UInt8.ofNat (n / 256 ^ k % 256)]
  | 0, n => by simp [leL]
  | k + 1, n => by
    have h := leL_snoc k (n / 256)
    rw [leL, h]
    simp only [leL, List.cons_append]
    rw [Nat.div_div_eq_div_mul, Nat.pow_succ, Nat.mul_comm]

/-- What bytes denote, most significant first. -/
def num (l : List UInt8) : Nat := l.foldl (fun a c => a * 256 + c.toNat) 0

theorem num_nil : num [] = 0 := rfl
theorem num_snoc (l : List UInt8) (c : UInt8) : num (l ++ [c]) = num l * 256 + c.toNat := by simp [num]

theorem u8_lt (c : UInt8) : c.toNat < 256 := c.toNat_lt

theorem numFrom_lt : ∀ (l : List UInt8) (a : Nat), l.foldl (fun a c => a * 256 + c.toNat) a + 1 ≤ (a + 1) * 256 ^ l.length
  | [], a => by simp
  | c :: l, a => by
    have h := numFrom_lt l (a * 256 + c.toNat)
    have hc := u8_lt c
    have h2 : (a * 256 + c.toNat + 1) * 256 ^ l.length ≤ ((a + 1) * 256) * 256 ^ l.length := Nat.mul_le_mul_right _ (by omega)
    rw [List.foldl_cons, List.length_cons, Nat.pow_succ, Nat.mul_comm (256 ^ l.length) 256, ← Nat.mul_assoc]
    exact Nat.le_trans h h2

theorem num_lt (l : List UInt8) : num l < 256 ^ l.length := by
  have h := numFrom_lt l 0
  unfold num
  omega

theorem num_reverse_leL : ∀ k n, num (leL k n).reverse = n % 256 ^ k
  | 0, n => by simp [leL, num, Nat.mod_one]
  | k + 1, n => by
    rw [leL, List.reverse_cons, num_snoc, num_reverse_leL k, Nat.pow_succ, Nat.mul_comm (256 ^ k) 256, Nat.mod_mul]
    have : (UInt8.ofNat (n % 256)).toNat = n % 256 := by
      rw [UInt8.toNat_ofNat']
      omega
    rw [this]
    omega

theorem leL_num : ∀ l : List UInt8, leL l.length (num l.reverse) = l
  | [] => rfl
  | c :: l => by
    have hc := u8_lt c
    rw [List.reverse_cons, num_snoc, List.length_cons, leL]
    have h1 : (num l.reverse * 256 + c.toNat) % 256 = c.toNat := by omega
    have h2 : (num l.reverse * 256 + c.toNat) / 256 = num l.reverse := by omega
    rw [h1, h2, leL_num l]
    simp

theorem leL_reverse_num (l : List UInt8) : (leL l.length (num l)).reverse = l := by
  have h := leL_num l.reverse
  rw [List.reverse_reverse, List.length_reverse] at h
  rw [h, List.reverse_reverse]

/-- 256 to a size that fits. -/
theorem pow_le7 {k : Nat} (h : k ≤ 7) : 256 ^ k ≤ 72057594037927936 := by
  have : 256 ^ k ≤ 256 ^ 7 := Nat.pow_le_pow_right (by omega) h
  simpa using this

theorem num_le7 {l : List UInt8} (h : l.length ≤ 7) : num l < 72057594037927936 := Nat.lt_of_lt_of_le (num_lt l) (pow_le7 h)

/-- 256 to the k. -/
def pw (k : Nat) : Nat := 256 ^ k
theorem pw_zero : pw 0 = 1 := rfl
theorem pw_succ (k : Nat) : pw (k + 1) = pw k * 256 := Nat.pow_succ ..
theorem pw_le7 {k : Nat} (h : k ≤ 7) : pw k ≤ 72057594037927936 := pow_le7 h
theorem pw_le6 {k : Nat} (h : k < 7) : pw k ≤ 281474976710656 := by
  have : 256 ^ k ≤ 256 ^ 6 := Nat.pow_le_pow_right (by omega) (by omega)
  simpa [pw] using this
theorem num_lt6 {l : List UInt8} (h : l.length < 7) : num l < 281474976710656 := Nat.lt_of_lt_of_le (num_lt l) (pw_le6 h)
theorem pw_pos (k : Nat) : 0 < pw k := Nat.pow_pos (by omega)

theorem two_pow_eight (k : Nat) : (2 : Nat) ^ (8 * k) = pw k := by rw [Nat.pow_mul]; rfl
theorem two_pow_pw (k : Nat) : (2 : Int) ^ (8 * (k : Int)).toNat = (pw k : Int) := by
  have e : (8 * (k : Int)).toNat = 8 * k := by omega
  rw [e, ← two_pow_eight]
  simp
theorem two_pow_pw' (k : Nat) : (2 : Int) ^ (8 * k) = (pw k : Int) := by
  rw [← two_pow_eight]
  simp
theorem shr_pw' (n : Nat) (k : Nat) : (n : Int) / 2 ^ (8 * k) = ((n / pw k : Nat) : Int) := by
  rw [two_pow_pw']; simp
theorem shr_pw (n : Nat) (k : Nat) : (n : Int) / 2 ^ (8 * (k : Int)).toNat = ((n / pw k : Nat) : Int) := by
  rw [two_pow_pw]; simp

/-- Is a size valid? -/
def vld (size : Int) : Bool := decide (1 ≤ size ∧ size ≤ 7)
/-- Can n be written in size bytes? -/
def fits (n size : Int) : Bool := decide (1 ≤ size ∧ size ≤ 7 ∧ 0 ≤ n ∧ n < 256 ^ size.toNat)
/-- The bytes of n, least significant first, if it can be written. -/
def putLe (n size : Int) : List UInt8 := if fits n size then leL size.toNat n.toNat else []
/-- A string of bytes. -/
def str (l : List UInt8) : ByteArray := ⟨l.toArray⟩
theorem str_size (l : List UInt8) : (str l).size = l.length := by simp [str, ByteArray.size]
theorem str_toList (l : List UInt8) : (str l).data.toList = l := by simp [str]
theorem str_of (s : ByteArray) : str s.data.toList = s := by simp [str]

theorem str_append (a b : List UInt8) : str a ++ str b = str (a ++ b) := by
  apply ByteArray.ext
  simp [str]

theorem putLe_length_le (n size : Int) : (putLe n size).length ≤ 7 := by
  unfold putLe fits
  split
  · rename_i h
    have := of_decide_eq_true h
    rw [leL_length]
    omega
  · simp

/-- What a row holds when its first k and last k bytes have been exchanged. -/
def turned (l : List UInt8) (k x : Nat) : UInt8 := if x < k ∨ l.length ≤ x + k then l.getD (l.length - 1 - x) 0 else l.getD x 0
theorem turned_zero (l : List UInt8) (x : Nat) (hx : x < l.length) : turned l 0 x = l[x] := by
  unfold turned
  rw [if_neg (by omega)]
  simp [List.getD, hx]
theorem turned_q {l : List UInt8} {k q : Nat} (h : k + q + 1 = l.length) (hr : k < q) : turned l (k + 1) q = turned l k k := by
  unfold turned
  rw [if_pos (by omega), if_neg (by omega), show l.length - 1 - q = k by omega]
theorem turned_k {l : List UInt8} {k q : Nat} (h : k + q + 1 = l.length) (hr : k < q) : turned l (k + 1) k = turned l k q := by
  unfold turned
  rw [if_pos (by omega), if_neg (by omega), show l.length - 1 - k = q by omega]
theorem turned_far {l : List UInt8} {k q x : Nat} (h : k + q + 1 = l.length) (hk : x ≠ k) (hq : x ≠ q) : turned l (k + 1) x = turned l k x := by
  unfold turned
  by_cases c : x < k ∨ l.length ≤ x + k
  · rw [if_pos (by omega), if_pos c]
  · rw [if_neg (by omega), if_neg c]
theorem turned_done {l : List UInt8} {k q x : Nat} (h : k + q + 1 = l.length) (hr : ¬ k < q) (hx : x < l.reverse.length) : turned l k x = l.reverse[x] := by
  have hx' : x < l.length := by simpa using hx
  have e : l.reverse[x] = l.getD (l.length - 1 - x) 0 := by
    rw [List.getElem_reverse]
    simp [List.getD, show l.length - 1 - x < l.length by omega]
  rw [e]
  unfold turned
  by_cases c : x < k ∨ l.length ≤ x + k
  · rw [if_pos c]
  · rw [if_neg c, show l.length - 1 - x = x by omega]
end Go.Proofs.Ytimilcjlogcfhaa

/- Plain mathematics of Ethernet frames: no Go in sight. -/
namespace Go.Proofs.Ytimilcjlogcfhaa
set_option linter.unusedVariables false

/-- A frame: destination, source, tags, type, payload. -/
structure EthR where
  dst : Nat
  src : Nat
  vl : List Int
  ty : Int
  pay : List UInt8
def zeroE : EthR := ⟨0, 0, [], 0, []⟩
/-- k bytes of n, most significant first. -/
def beL (k n : Nat) : List UInt8 := (leL k n).reverse
theorem beL_len (k n : Nat) : (beL k n).length = k := by unfold beL; rw [List.length_reverse, leL_length]
theorem num_beL (k n : Nat) (h : n < 256 ^ k) : num (beL k n) = n := by unfold beL; rw [num_reverse_leL, Nat.mod_eq_of_lt h]
theorem beL_num (l : List UInt8) (k : Nat) (h : l.length = k) : beL k (num l) = l := by
  have := leL_num l.reverse
  rw [List.reverse_reverse, List.length_reverse, h] at this
  unfold beL
  rw [this, List.reverse_reverse]
def tgN (t : Nat) : Prop := t = 33024 ∨ t = 34984
instance (t : Nat) : Decidable (tgN t) := inferInstanceAs (Decidable (t = 33024 ∨ t = 34984))
/-- From the tags on: the error, the tags, the type, the payload. -/
def decV : Nat → List UInt8 → List Int → Nat × List Int × Nat × List UInt8
  | 0, _, _ => (9, [], 0, [])
  | f + 1, r, v =>
    if r.length < 2 then (1, [], 0, [])
    else if tgN (num (r.take 2)) then
      (if v.length = 2 then (9, [], 0, [])
      else if (r.drop 2).length < 2 then (1, [], 0, [])
      else decV f ((r.drop 2).drop 2) (v ++ [((num ((r.drop 2).take 2) % 4096 : Nat) : Int)]))
    else if num (r.take 2) < 1536 then (2, [], 0, [])
    else (0, v, num (r.take 2), r.drop 2)
def decE (s : List UInt8) : EthR × Nat :=
  if s.length < 14 then (zeroE, 1)
  else if (decV 3 (s.drop 12) []).1 ≠ 0 then (zeroE, (decV 3 (s.drop 12) []).1)
  else (⟨num (s.take 6), num ((s.drop 6).take 6), (decV 3 (s.drop 12) []).2.1, (decV 3 (s.drop 12) []).2.2.1, (decV 3 (s.drop 12) []).2.2.2⟩, 0)
def tagB (n i : Nat) (v : Int) : List UInt8 := beL 2 (if i + 1 = n then 33024 else 34984) ++ beL 2 v.toNat
/-- The first k tags of v. -/
def tagsB (v : List Int) (k : Nat) : List UInt8 := (List.range k).flatMap (fun i => tagB v.length i (v.getD i 0))
theorem tagB_len (n i : Nat) (v : Int) : (tagB n i v).length = 4 := by unfold tagB; rw [List.length_append, beL_len, beL_len]
theorem tagsB_len (v : List Int) : ∀ k, (tagsB v k).length = 4 * k
  | 0 => rfl
  | k + 1 => by
    have h := tagsB_len v k
    unfold tagsB at h ⊢
    rw [List.range_succ, List.flatMap_append, List.length_append, h]
    simp [tagB_len]
    omega
theorem tagsB_next {v : List Int} {k : Nat} {x : Int} (h : v[k]? = some x) : tagsB v (k + 1) = tagsB v k ++ tagB v.length k x := by
  unfold tagsB
  rw [List.range_succ, List.flatMap_append]
  simp [List.getD, h]
def badE (x : EthR) : Prop := 281474976710656 ≤ x.dst ∨ 281474976710656 ≤ x.src ∨ (∃ v ∈ x.vl, v < 0 ∨ 4095 < v) ∨ x.ty < 1536 ∨ 65535 < x.ty ∨ tgN x.ty.toNat
instance (x : EthR) : Decidable (badE x) := inferInstanceAs (Decidable (_ ∨ _))
def bodyE (x : EthR) : List UInt8 := beL 6 x.dst ++ beL 6 x.src ++ tagsB x.vl x.vl.length ++ (beL 2 x.ty.toNat ++ x.pay)
def encE (x : EthR) : List UInt8 × Nat :=
  if badE x then ([], 4) else if 2 < x.vl.length then ([], 9) else if 4096 < (bodyE x).length then ([], 3) else (bodyE x, 0)
theorem bodyE_len (x : EthR) : (bodyE x).length = 14 + 4 * x.vl.length + x.pay.length := by
  unfold bodyE
  simp only [List.length_append, beL_len, tagsB_len]
  omega
/-! ### Decoding inverts encoding -/
theorem decV_tag {f t a : Nat} {r : List UInt8} {v : List Int} (ht : tgN t) (ha : a < 65536) (hv : v.length ≠ 2) : decV (f + 1) (beL 2 t ++ (beL 2 a ++ r)) v = decV f r (v ++ [((a % 4096 : Nat) : Int)]) := by
  have h2 : (beL 2 t ++ (beL 2 a ++ r)).take 2 = beL 2 t := by rw [List.take_left' (beL_len 2 t)]
  have h3 : (beL 2 t ++ (beL 2 a ++ r)).drop 2 = beL 2 a ++ r := by rw [List.drop_left' (beL_len 2 t)]
  have h4 : (beL 2 a ++ r).take 2 = beL 2 a := by rw [List.take_left' (beL_len 2 a)]
  have h5 : (beL 2 a ++ r).drop 2 = r := by rw [List.drop_left' (beL_len 2 a)]
  have ht2 : t < 65536 := by rcases ht with h | h <;> omega
  have l1 : (beL 2 t ++ (beL 2 a ++ r)).length = 4 + r.length := by simp only [List.length_append, beL_len]; omega
  have l2 : (beL 2 a ++ r).length = 2 + r.length := by simp only [List.length_append, beL_len]
  rw [decV, h2, h3, h4, h5, num_beL 2 t (by omega), num_beL 2 a (by omega), if_neg (by omega), if_pos ht, if_neg hv, if_neg (by omega)]
theorem decV_type {f t : Nat} {r : List UInt8} {v : List Int} (ht : ¬ tgN t) (h1 : 1536 ≤ t) (h0 : t < 65536) : decV (f + 1) (beL 2 t ++ r) v = (0, v, t, r) := by
  have h2 : (beL 2 t ++ r).take 2 = beL 2 t := by rw [List.take_left' (beL_len 2 t)]
  have h3 : (beL 2 t ++ r).drop 2 = r := by rw [List.drop_left' (beL_len 2 t)]
  have l2 : (beL 2 t ++ r).length = 2 + r.length := by simp only [List.length_append, beL_len]
  rw [decV, h2, h3, num_beL 2 t (by omega), if_neg (by omega), if_neg ht, if_neg (by omega)]
theorem encE_ok {x : EthR} {s : List UInt8} (h : encE x = (s, 0)) : ¬ badE x ∧ x.vl.length ≤ 2 ∧ s = bodyE x ∧ (bodyE x).length ≤ 4096 := by
  unfold encE at h
  split at h
  · simp at h
  · split at h
    · simp at h
    · split at h
      · simp at h
      · rename_i h1 h2 h3
        exact ⟨h1, by omega, (Prod.mk.injEq .. ▸ h : _ ∧ _).1.symm, by omega⟩
theorem dec_enc {x : EthR} {s : List UInt8} (h : encE x = (s, 0)) : decE s = (x, 0) ∧ s.length = 14 + 4 * x.vl.length + x.pay.length := by
  obtain ⟨hb, hv, rfl, hl⟩ := encE_ok h
  obtain ⟨d, sr, v, ty, p⟩ := x
  unfold badE at hb
  simp only [not_or] at hb hv
  obtain ⟨b1, b2, b3, b4, b5, b6⟩ := hb
  have b3' : ∀ y ∈ v, 0 ≤ y ∧ y ≤ 4095 := fun y hy => by
    have hh : ¬ (y < 0 ∨ 4095 < y) := fun h => b3 ⟨y, hy, h⟩
    omega
  clear b3
  obtain ⟨t, rfl⟩ : ∃ t : Nat, ty = (t : Int) := ⟨ty.toNat, by omega⟩
  rw [Int.toNat_natCast] at b6
  have hbody : bodyE ⟨d, sr, v, (t : Int), p⟩ = beL 6 d ++ (beL 6 sr ++ (tagsB v v.length ++ (beL 2 t ++ p))) := by
    unfold bodyE
    rw [Int.toNat_natCast]
    simp only [List.append_assoc]
  have hV : decV 3 (tagsB v v.length ++ (beL 2 t ++ p)) [] = (0, v, t, p) := by
    match v, hv, b3' with
    | [], _, _ => exact decV_type b6 (by omega) (by omega)
    | [a], _, h =>
      have ha := h a (by simp)
      have e : tagsB [a] 1 = beL 2 33024 ++ beL 2 a.toNat := by simp [tagsB, tagB]
      show decV 3 (tagsB [a] 1 ++ _) [] = _
      rw [e, List.append_assoc, decV_tag (.inl rfl) (by omega) (by simp), decV_type b6 (by omega) (by omega)]
      rw [show ((a.toNat % 4096 : Nat) : Int) = a by omega]
      rfl
    | [a, b], _, h =>
      have ha := h a (by simp)
      have hb := h b (by simp)
      have e : tagsB [a, b] 2 = (beL 2 34984 ++ beL 2 a.toNat) ++ (beL 2 33024 ++ beL 2 b.toNat) := by simp [tagsB, tagB, List.range_succ]
      show decV 3 (tagsB [a, b] 2 ++ _) [] = _
      rw [e]
      simp only [List.append_assoc]
      rw [decV_tag (.inr rfl) (by omega) (by simp), decV_tag (.inl rfl) (by omega) (by simp), decV_type b6 (by omega) (by omega)]
      rw [show ((a.toNat % 4096 : Nat) : Int) = a by omega, show ((b.toNat % 4096 : Nat) : Int) = b by omega]
      rfl
    | a :: b :: c :: r, hv, _ => simp at hv
  refine ⟨?_, bodyE_len _⟩
  have hlen := bodyE_len ⟨d, sr, v, (t : Int), p⟩
  rw [hbody] at hlen ⊢
  have d6 : (beL 6 d ++ (beL 6 sr ++ (tagsB v v.length ++ (beL 2 t ++ p)))).drop 6 = beL 6 sr ++ (tagsB v v.length ++ (beL 2 t ++ p)) := List.drop_left' (beL_len 6 d)
  have d12 : (beL 6 d ++ (beL 6 sr ++ (tagsB v v.length ++ (beL 2 t ++ p)))).drop 12 = tagsB v v.length ++ (beL 2 t ++ p) := by
    rw [show (12 : Nat) = 6 + 6 from rfl, ← List.drop_drop, d6, List.drop_left' (beL_len 6 sr)]
  have t6 : (beL 6 d ++ (beL 6 sr ++ (tagsB v v.length ++ (beL 2 t ++ p)))).take 6 = beL 6 d := List.take_left' (beL_len 6 d)
  unfold decE
  rw [if_neg (by omega), d12, d6, t6, hV, if_neg (by simp), List.take_left' (beL_len 6 sr), num_beL 6 d (by omega), num_beL 6 sr (by omega)]
/-! ### Encoding what was decoded -/
theorem decV_ok : ∀ (f : Nat) (r : List UInt8) (v v' : List Int) (t : Nat) (p : List UInt8), v.length + f = 3 → decV f r v = (0, v', t, p) →
    ∃ u : List Int, v' = v ++ u ∧ v'.length ≤ 2 ∧ 4 * u.length + 2 ≤ r.length ∧ t = num ((r.drop (4 * u.length)).take 2) ∧ p = r.drop (4 * u.length + 2) ∧ ¬ tgN t ∧ 1536 ≤ t ∧ ∀ y ∈ u, 0 ≤ y ∧ y ≤ 4095
  | 0, r, v, v', t, p, _, h => by simp [decV] at h
  | f + 1, r, v, v', t, p, hf, h => by
    rw [decV] at h
    by_cases h1 : r.length < 2
    · rw [if_pos h1] at h; simp at h
    · rw [if_neg h1] at h
      by_cases h2 : tgN (num (r.take 2))
      · rw [if_pos h2] at h
        by_cases h3 : v.length = 2
        · rw [if_pos h3] at h; simp at h
        · rw [if_neg h3] at h
          by_cases h4 : (r.drop 2).length < 2
          · rw [if_pos h4] at h; simp at h
          · rw [if_neg h4] at h
            obtain ⟨u, rfl, a1, a2, a3, a4, a5, a6, a7⟩ := decV_ok f _ _ v' t p (by rw [List.length_append]; simp; omega) h
            rw [List.length_drop] at h4
            rw [List.drop_drop, List.length_drop] at a2
            rw [List.drop_drop, List.drop_drop] at a3 a4
            refine ⟨((num ((r.drop 2).take 2) % 4096 : Nat) : Int) :: u, by simp, a1, by rw [List.length_cons]; omega, ?_, ?_, a5, a6, ?_⟩
            · rw [a3, List.length_cons, show 2 + (2 + 4 * u.length) = 4 * (u.length + 1) by omega]
            · rw [a4, List.length_cons, show 2 + (2 + (4 * u.length + 2)) = 4 * (u.length + 1) + 2 by omega]
            · intro y hy
              rcases List.mem_cons.1 hy with rfl | hy
              · omega
              · exact a7 y hy
      · rw [if_neg h2] at h
        by_cases h3 : num (r.take 2) < 1536
        · rw [if_pos h3] at h; simp at h
        · rw [if_neg h3] at h
          simp only [Prod.mk.injEq, true_and] at h
          obtain ⟨rfl, rfl, rfl⟩ := h
          exact ⟨[], by simp, by omega, by simp; omega, by simp, by simp, h2, by omega, by simp⟩
theorem enc_dec {s : List UInt8} {x : EthR} (h : decE s = (x, 0)) (hs : s.length ≤ 4096) : ∃ t, encE x = (t, 0) ∧ t.length = s.length ∧ t.take 12 = s.take 12 ∧ x.vl.length ≤ 2 ∧ 12 + 4 * x.vl.length ≤ s.length ∧ t.drop (12 + 4 * x.vl.length) = s.drop (12 + 4 * x.vl.length) := by
  unfold decE at h
  by_cases h14 : s.length < 14
  · rw [if_pos h14] at h; simp at h
  · rw [if_neg h14] at h
    by_cases hd : (decV 3 (s.drop 12) []).1 = 0
    · rw [if_neg (by omega)] at h
      simp only [Prod.mk.injEq, and_true] at h
      obtain ⟨u, a0, a1, a2, a3, a4, a5, a6, a7⟩ := decV_ok 3 (s.drop 12) [] (decV 3 (s.drop 12) []).2.1 (decV 3 (s.drop 12) []).2.2.1 (decV 3 (s.drop 12) []).2.2.2 rfl (by rw [← hd])
      rw [List.nil_append] at a0
      generalize (decV 3 (s.drop 12) []).2.1 = v at *
      generalize (decV 3 (s.drop 12) []).2.2.1 = t at *
      generalize (decV 3 (s.drop 12) []).2.2.2 = p at *
      subst a0 h
      rw [List.length_drop] at a2
      rw [List.drop_drop] at a3 a4
      have l6 : (s.take 6).length = 6 := by rw [List.length_take]; omega
      have l6' : ((s.drop 6).take 6).length = 6 := by rw [List.length_take, List.length_drop]; omega
      have n6 := num_lt (s.take 6)
      have n6' := num_lt ((s.drop 6).take 6)
      rw [l6] at n6
      rw [l6'] at n6'
      have lt2 : ((s.drop (12 + 4 * v.length)).take 2).length = 2 := by rw [List.length_take, List.length_drop]; omega
      have nt := num_lt ((s.drop (12 + 4 * v.length)).take 2)
      rw [lt2, ← a3] at nt
      have hnb : ¬ badE ⟨num (s.take 6), num ((s.drop 6).take 6), v, (t : Int), p⟩ := by
        unfold badE
        simp only [not_or]
        refine ⟨by omega, by omega, ?_, by omega, by omega, by rw [Int.toNat_natCast]; exact a5⟩
        rintro ⟨y, hy, hh⟩
        have := a7 y hy
        omega
      have hbl := bodyE_len ⟨num (s.take 6), num ((s.drop 6).take 6), v, (t : Int), p⟩
      have hpl : p.length = s.length - (12 + (4 * v.length + 2)) := by rw [a4, List.length_drop]
      simp only at hbl a1 ⊢
      have hen : encE ⟨num (s.take 6), num ((s.drop 6).take 6), v, (t : Int), p⟩ = (bodyE ⟨num (s.take 6), num ((s.drop 6).take 6), v, (t : Int), p⟩, 0) := by
        unfold encE
        rw [if_neg hnb, if_neg (by simp only; omega), if_neg (by omega)]
      have hbe : bodyE ⟨num (s.take 6), num ((s.drop 6).take 6), v, (t : Int), p⟩ = s.take 12 ++ (tagsB v v.length ++ s.drop (12 + 4 * v.length)) := by
        unfold bodyE
        simp only [Int.toNat_natCast]
        rw [beL_num _ 6 l6, beL_num _ 6 l6', a3, beL_num _ 2 lt2, a4]
        have e1 : s.take 6 ++ (s.drop 6).take 6 = s.take 12 := by rw [show (12 : Nat) = 6 + 6 from rfl, List.take_add]
        have e2 : (s.drop (12 + 4 * v.length)).take 2 ++ s.drop (12 + (4 * v.length + 2)) = s.drop (12 + 4 * v.length) := by
          have h9 := List.take_append_drop 2 (s.drop (12 + 4 * v.length))
          rw [List.drop_drop] at h9
          rw [show 12 + (4 * v.length + 2) = (12 + 4 * v.length) + 2 by omega]
          exact h9
        rw [e1, e2, List.append_assoc]
      have l12 : (s.take 12).length = 12 := by rw [List.length_take]; omega
      refine ⟨_, hen, by rw [hbl]; omega, ?_, by omega, by omega, ?_⟩
      · rw [hbe, List.take_left' l12]
      · rw [hbe, ← List.append_assoc, List.drop_left' (by rw [List.length_append, l12, tagsB_len])]
    · rw [if_pos hd] at h
      simp only [Prod.mk.injEq] at h
      exact absurd h.2 hd
theorem decV_vl : ∀ (f : Nat) (r : List UInt8) (v : List Int), v.length + f ≤ 3 → (decV f r v).2.1.length ≤ 3
  | 0, r, v, h => by simp [decV]
  | f + 1, r, v, h => by
    rw [decV]
    split
    · simp
    · split
      · split
        · simp
        · split
          · simp
          · exact decV_vl f _ _ (by rw [List.length_append]; simp; omega)
      · split
        · simp
        · show v.length ≤ 3
          omega
theorem decE_vl (s : List UInt8) : (decE s).1.vl.length ≤ 3 := by
  unfold decE
  split
  · simp [zeroE]
  · split
    · simp [zeroE]
    · exact decV_vl 3 _ [] (by simp)
end Go.Proofs.Ytimilcjlogcfhaa
