/- Contracts of the functions, part 1: Plain, EthMath, Nums, Mem, Mem2, Ref, Ref2, Reader, Elems, AdrMath. -/
import Derived.Below
import Derived.Test.YtpfhljidjnagkaaDoorRows
import Derived.WalkKit
import Derived.LoopTactic
import Derived.ProofKit
import Derived.OpenShut
import Derived.ShutString
import Derived.ChangeOld
import Derived.Lib.Hide
import Derived.BigQuiet
import Derived.Outline
import Derived.IntWalk
import Derived.Deep.OwnRows
import Derived.Lib.SlBytesRow
import Derived.Laws.IdiomStrings
import Derived.RegionTactic
import Derived.WalkSmall
import Derived.Deep.DeepFit
import Derived.Laws.BitsAllLaws
import Derived.Laws.BitsLemmas
import Derived.WalkSpells
import Derived.Deep.RegionWith
import Derived.OwnWalk
import Derived.Deep.QuietTactic
import Derived.Deep.AppendLies
import Derived.Laws.OwnMore
import Derived.Laws.AppendOwnNone
import Derived.Maps.AppendAt
/- Plain mathematics of byte strings and numbers for layer 1: no Go in sight. -/
namespace Go.Proofs.YtpfhljidjnagkaaDoor

/-- The size bytes of n, least significant first. -/
def leL : Nat → Nat → List UInt8
  | 0, _ => []
  | k + 1, n => UInt8.ofNat (n % 256) :: leL k (n / 256)

theorem leL_length : ∀ k n, (leL k n).length = k
  | 0, _ => rfl
  | k + 1, n => by simp [leL, leL_length k]

theorem leL_get : ∀ k n j (h : j < (leL k n).length), (leL k n)[j] = UInt8.ofNat (n / 256 ^ j % 256)
  | 0, _, j, h => by simp [leL] at h
  | k + 1, n, 0, _ => by simp [leL]
  | k + 1, n, j + 1, h => by
    simp only [leL, List.getElem_cons_succ]
    rw [leL_get k (n / 256) j (by simpa [leL] using h), Nat.div_div_eq_div_mul, Nat.pow_succ, Nat.mul_comm]

theorem leL_snoc : ∀ k n, leL (k + 1) n = leL k n ++ [UInt8.ofNat (n / 256 ^ k % 256)]
  | 0, n => by simp [leL]
  | k + 1, n => by
    have h := leL_snoc k (n / 256)
    rw [leL, h]
    simp only [leL, List.cons_append]
    rw [Nat.div_div_eq_div_mul, Nat.pow_succ, Nat.mul_comm]

/-- What bytes denote, most significant first. -/
def num (l : List UInt8) : Nat := l.foldl (fun a c => a * 256 + c.toNat) 0

theorem num_nil : num [] = 0 := rfl
theorem num_snoc (l : List UInt8) (c : UInt8) : num (l ++ [c]) = num l * 256 + c.toNat := by simp [num]

theorem u8_lt (c : UInt8) : c.toNat < 256 := c.toNat_lt

theorem numFrom_lt : ∀ (l : List UInt8) (a : Nat), l.foldl (fun a c => a * 256 + c.toNat) a + 1 ≤ (a + 1) * 256 ^ l.length
  | [], a => by simp
  | c :: l, a => by
    have h := numFrom_lt l (a * 256 + c.toNat)
    have hc := u8_lt c
    have h2 : (a * 256 + c.toNat + 1) * 256 ^ l.length ≤ ((a + 1) * 256) * 256 ^ l.length := Nat.mul_le_mul_right _ (by omega)
    rw [List.foldl_cons, List.length_cons, Nat.pow_succ, Nat.mul_comm (256 ^ l.length) 256, ← Nat.mul_assoc]
    exact Nat.le_trans h h2

theorem num_lt (l : List UInt8) : num l < 256 ^ l.length := by
  have h := numFrom_lt l 0
  unfold num
  omega

theorem num_reverse_leL : ∀ k n, num (leL k n).reverse = n % 256 ^ k
  | 0, n => by simp [leL, num, Nat.mod_one]
  | k + 1, n => by
    rw [leL, List.reverse_cons, num_snoc, num_reverse_leL k, Nat.pow_succ, Nat.mul_comm (256 ^ k) 256, Nat.mod_mul]
    have : (UInt8.ofNat (n % 256)).toNat = n % 256 := by
      rw [UInt8.toNat_ofNat']
      omega
    rw [this]
    omega

theorem leL_num : ∀ l : List UInt8, leL l.length (num l.reverse) = l
  | [] => rfl
  | c :: l => by
    have hc := u8_lt c
    rw [List.reverse_cons, num_snoc, List.length_cons, leL]
    have h1 : (num l.reverse * 256 + c.toNat) % 256 = c.toNat := by omega
    have h2 : (num l.reverse * 256 + c.toNat) / 256 = num l.reverse := by omega
    rw [h1, h2, leL_num l]
    simp

theorem leL_reverse_num (l : List UInt8) : (leL l.length (num l)).reverse = l := by
  have h := leL_num l.reverse
  rw [List.reverse_reverse, List.length_reverse] at h
  rw [h, List.reverse_reverse]

/-- 256 to a size that fits. -/
theorem pow_le7 {k : Nat} (h : k ≤ 7) : 256 ^ k ≤ 72057594037927936 := by
  have : 256 ^ k ≤ 256 ^ 7 := Nat.pow_le_pow_right (by omega) h
  simpa using this

theorem num_le7 {l : List UInt8} (h : l.length ≤ 7) : num l < 72057594037927936 := Nat.lt_of_lt_of_le (num_lt l) (pow_le7 h)

/-- 256 to the k. -/
def pw (k : Nat) : Nat := 256 ^ k
theorem pw_zero : pw 0 = 1 := rfl
theorem pw_succ (k : Nat) : pw (k + 1) = pw k * 256 := Nat.pow_succ ..
theorem pw_le7 {k : Nat} (h : k ≤ 7) : pw k ≤ 72057594037927936 := pow_le7 h
theorem pw_le6 {k : Nat} (h : k < 7) : pw k ≤ 281474976710656 := by
  have : 256 ^ k ≤ 256 ^ 6 := Nat.pow_le_pow_right (by omega) (by omega)
  simpa [pw] using this
theorem num_lt6 {l : List UInt8} (h : l.length < 7) : num l < 281474976710656 := Nat.lt_of_lt_of_le (num_lt l) (pw_le6 h)
theorem pw_pos (k : Nat) : 0 < pw k := Nat.pow_pos (by omega)

theorem two_pow_eight (k : Nat) : (2 : Nat) ^ (8 * k) = pw k := by rw [Nat.pow_mul]; rfl
theorem two_pow_pw (k : Nat) : (2 : Int) ^ (8 * (k : Int)).toNat = (pw k : Int) := by
  have e : (8 * (k : Int)).toNat = 8 * k := by omega
  rw [e, ← two_pow_eight]
  simp
theorem two_pow_pw' (k : Nat) : (2 : Int) ^ (8 * k) = (pw k : Int) := by
  rw [← two_pow_eight]
  simp
theorem shr_pw' (n : Nat) (k : Nat) : (n : Int) / 2 ^ (8 * k) = ((n / pw k : Nat) : Int) := by
  rw [two_pow_pw']; simp
theorem shr_pw (n : Nat) (k : Nat) : (n : Int) / 2 ^ (8 * (k : Int)).toNat = ((n / pw k : Nat) : Int) := by
  rw [two_pow_pw]; simp

/-- Is a size valid? -/
def vld (size : Int) : Bool := decide (1 ≤ size ∧ size ≤ 7)
/-- Can n be written in size bytes? -/
def fits (n size : Int) : Bool := decide (1 ≤ size ∧ size ≤ 7 ∧ 0 ≤ n ∧ n < 256 ^ size.toNat)
/-- The bytes of n, least significant first, if it can be written. -/
def putLe (n size : Int) : List UInt8 := if fits n size then leL size.toNat n.toNat else []
/-- A string of bytes. -/
def str (l : List UInt8) : ByteArray := ⟨l.toArray⟩
theorem str_size (l : List UInt8) : (str l).size = l.length := by simp [str, ByteArray.size]
theorem str_toList (l : List UInt8) : (str l).data.toList = l := by simp [str]
theorem str_of (s : ByteArray) : str s.data.toList = s := by simp [str]

theorem str_append (a b : List UInt8) : str a ++ str b = str (a ++ b) := by
  apply ByteArray.ext
  simp [str]

theorem putLe_length_le (n size : Int) : (putLe n size).length ≤ 7 := by
  unfold putLe fits
  split
  · rename_i h
    have := of_decide_eq_true h
    rw [leL_length]
    omega
  · simp

/-- What a row holds when its first k and last k bytes have been exchanged. -/
def turned (l : List UInt8) (k x : Nat) : UInt8 := if x < k ∨ l.length ≤ x + k then l.getD (l.length - 1 - x) 0 else l.getD x 0
theorem turned_zero (l : List UInt8) (x : Nat) (hx : x < l.length) : turned l 0 x = l[x] := by
  unfold turned
  rw [if_neg (by omega)]
  simp [List.getD, hx]
theorem turned_q {l : List UInt8} {k q : Nat} (h : k + q + 1 = l.length) (hr : k < q) : turned l (k + 1) q = turned l k k := by
  unfold turned
  rw [if_pos (by omega), if_neg (by omega), show l.length - 1 - q = k by omega]
theorem turned_k {l : List UInt8} {k q : Nat} (h : k + q + 1 = l.length) (hr : k < q) : turned l (k + 1) k = turned l k q := by
  unfold turned
  rw [if_pos (by omega), if_neg (by omega), show l.length - 1 - k = q by omega]
theorem turned_far {l : List UInt8} {k q x : Nat} (h : k + q + 1 = l.length) (hk : x ≠ k) (hq : x ≠ q) : turned l (k + 1) x = turned l k x := by
  unfold turned
  by_cases c : x < k ∨ l.length ≤ x + k
  · rw [if_pos (by omega), if_pos c]
  · rw [if_neg (by omega), if_neg c]
theorem turned_done {l : List UInt8} {k q x : Nat} (h : k + q + 1 = l.length) (hr : ¬ k < q) (hx : x < l.reverse.length) : turned l k x = l.reverse[x] := by
  have hx' : x < l.length := by simpa using hx
  have e : l.reverse[x] = l.getD (l.length - 1 - x) 0 := by
    rw [List.getElem_reverse]
    simp [List.getD, show l.length - 1 - x < l.length by omega]
  rw [e]
  unfold turned
  by_cases c : x < k ∨ l.length ≤ x + k
  · rw [if_pos c]
  · rw [if_neg c, show l.length - 1 - x = x by omega]
end Go.Proofs.YtpfhljidjnagkaaDoor

/- Plain mathematics of Ethernet frames: no Go in sight. -/
namespace Go.Proofs.YtpfhljidjnagkaaDoor
set_option linter.unusedVariables false

/-- A frame: destination, source, tags, type, payload. -/
structure EthR where
  dst : Nat
  src : Nat
  vl : List Int
  ty : Int
  pay : List UInt8
def zeroE : EthR := ⟨0, 0, [], 0, []⟩
/-- k bytes of n, most significant first. -/
def beL (k n : Nat) : List UInt8 := (leL k n).reverse
theorem beL_len (k n : Nat) : (beL k n).length = k := by unfold beL; rw [List.length_reverse, leL_length]
theorem num_beL (k n : Nat) (h : n < 256 ^ k) : num (beL k n) = n := by unfold beL; rw [num_reverse_leL, Nat.mod_eq_of_lt h]
theorem beL_num (l : List UInt8) (k : Nat) (h : l.length = k) : beL k (num l) = l := by
  have := leL_num l.reverse
  rw [List.reverse_reverse, List.length_reverse, h] at this
  unfold beL
  rw [this, List.reverse_reverse]
def tgN (t : Nat) : Prop := t = 33024 ∨ t = 34984
instance (t : Nat) : Decidable (tgN t) := inferInstanceAs (Decidable (t = 33024 ∨ t = 34984))
/-- From the tags on: the error, the tags, the type, the payload. -/
def decV : Nat → List UInt8 → List Int → Nat × List Int × Nat × List UInt8
  | 0, _, _ => (9, [], 0, [])
  | f + 1, r, v =>
    if r.length < 2 then (1, [], 0, [])
    else if tgN (num (r.take 2)) then
      (if v.length = 2 then (9, [], 0, [])
      else if (r.drop 2).length < 2 then (1, [], 0, [])
      else decV f ((r.drop 2).drop 2) (v ++ [((num ((r.drop 2).take 2) % 4096 : Nat) : Int)]))
    else if num (r.take 2) < 1536 then (2, [], 0, [])
    else (0, v, num (r.take 2), r.drop 2)
def decE (s : List UInt8) : EthR × Nat :=
  if s.length < 14 then (zeroE, 1)
  else if (decV 3 (s.drop 12) []).1 ≠ 0 then (zeroE, (decV 3 (s.drop 12) []).1)
  else (⟨num (s.take 6), num ((s.drop 6).take 6), (decV 3 (s.drop 12) []).2.1, (decV 3 (s.drop 12) []).2.2.1, (decV 3 (s.drop 12) []).2.2.2⟩, 0)
def tagB (n i : Nat) (v : Int) : List UInt8 := beL 2 (if i + 1 = n then 33024 else 34984) ++ beL 2 v.toNat
/-- The first k tags of v. -/
def tagsB (v : List Int) (k : Nat) : List UInt8 := (List.range k).flatMap (fun i => tagB v.length i (v.getD i 0))
theorem tagB_len (n i : Nat) (v : Int) : (tagB n i v).length = 4 := by unfold tagB; rw [List.length_append, beL_len, beL_len]
theorem tagsB_len (v : List Int) : ∀ k, (tagsB v k).length = 4 * k
  | 0 => rfl
  | k + 1 => by
    have h := tagsB_len v k
    unfold tagsB at h ⊢
    rw [List.range_succ, List.flatMap_append, List.length_append, h]
    simp [tagB_len]
    omega
theorem tagsB_next {v : List Int} {k : Nat} {x : Int} (h : v[k]? = some x) : tagsB v (k + 1) = tagsB v k ++ tagB v.length k x := by
  unfold tagsB
  rw [List.range_succ, List.flatMap_append]
  simp [List.getD, h]
def badE (x : EthR) : Prop := 281474976710656 ≤ x.dst ∨ 281474976710656 ≤ x.src ∨ (∃ v ∈ x.vl, v < 0 ∨ 4095 < v) ∨ x.ty < 1536 ∨ 65535 < x.ty ∨ tgN x.ty.toNat
instance (x : EthR) : Decidable (badE x) := inferInstanceAs (Decidable (_ ∨ _))
def bodyE (x : EthR) : List UInt8 := beL 6 x.dst ++ beL 6 x.src ++ tagsB x.vl x.vl.length ++ (beL 2 x.ty.toNat ++ x.pay)
def encE (x : EthR) : List UInt8 × Nat :=
  if badE x then ([], 4) else if 2 < x.vl.length then ([], 9) else if 4096 < (bodyE x).length then ([], 3) else (bodyE x, 0)
theorem bodyE_len (x : EthR) : (bodyE x).length = 14 + 4 * x.vl.length + x.pay.length := by
  unfold bodyE
  simp only [List.length_append, beL_len, tagsB_len]
  omega
/-! ### Decoding inverts encoding -/
theorem decV_tag {f t a : Nat} {r : List UInt8} {v : List Int} (ht : tgN t) (ha : a < 65536) (hv : v.length ≠ 2) : decV (f + 1) (beL 2 t ++ (beL 2 a ++ r)) v = decV f r (v ++ [((a % 4096 : Nat) : Int)]) := by
  have h2 : (beL 2 t ++ (beL 2 a ++ r)).take 2 = beL 2 t := by rw [List.take_left' (beL_len 2 t)]
  have h3 : (beL 2 t ++ (beL 2 a ++ r)).drop 2 = beL 2 a ++ r := by rw [List.drop_left' (beL_len 2 t)]
  have h4 : (beL 2 a ++ r).take 2 = beL 2 a := by rw [List.take_left' (beL_len 2 a)]
  have h5 : (beL 2 a ++ r).drop 2 = r := by rw [List.drop_left' (beL_len 2 a)]
  have ht2 : t < 65536 := by rcases ht with h | h <;> omega
  have l1 : (beL 2 t ++ (beL 2 a ++ r)).length = 4 + r.length := by simp only [List.length_append, beL_len]; omega
  have l2 : (beL 2 a ++ r).length = 2 + r.length := by simp only [List.length_append, beL_len]
  rw [decV, h2, h3, h4, h5, num_beL 2 t (by omega), num_beL 2 a (by omega), if_neg (by omega), if_pos ht, if_neg hv, if_neg (by omega)]
theorem decV_type {f t : Nat} {r : List UInt8} {v : List Int} (ht : ¬ tgN t) (h1 : 1536 ≤ t) (h0 : t < 65536) : decV (f + 1) (beL 2 t ++ r) v = (0, v, t, r) := by
  have h2 : (beL 2 t ++ r).take 2 = beL 2 t := by rw [List.take_left' (beL_len 2 t)]
  have h3 : (beL 2 t ++ r).drop 2 = r := by rw [List.drop_left' (beL_len 2 t)]
  have l2 : (beL 2 t ++ r).length = 2 + r.length := by simp only [List.length_append, beL_len]
  rw [decV, h2, h3, num_beL 2 t (by omega), if_neg (by omega), if_neg ht, if_neg (by omega)]
theorem encE_ok {x : EthR} {s : List UInt8} (h : encE x = (s, 0)) : ¬ badE x ∧ x.vl.length ≤ 2 ∧ s = bodyE x ∧ (bodyE x).length ≤ 4096 := by
  unfold encE at h
  split at h
  · simp at h
  · split at h
    · simp at h
    · split at h
      · simp at h
      · rename_i h1 h2 h3
        exact ⟨h1, by omega, (Prod.mk.injEq .. ▸ h : _ ∧ _).1.symm, by omega⟩
theorem dec_enc {x : EthR} {s : List UInt8} (h : encE x = (s, 0)) : decE s = (x, 0) ∧ s.length = 14 + 4 * x.vl.length + x.pay.length := by
  obtain ⟨hb, hv, rfl, hl⟩ := encE_ok h
  obtain ⟨d, sr, v, ty, p⟩ := x
  unfold badE at hb
  simp only [not_or] at hb hv
  obtain ⟨b1, b2, b3, b4, b5, b6⟩ := hb
  have b3' : ∀ y ∈ v, 0 ≤ y ∧ y ≤ 4095 := fun y hy => by
    have hh : ¬ (y < 0 ∨ 4095 < y) := fun h => b3 ⟨y, hy, h⟩
    omega
  clear b3
  obtain ⟨t, rfl⟩ : ∃ t : Nat, ty = (t : Int) := ⟨ty.toNat, by omega⟩
  rw [Int.toNat_natCast] at b6
  have hbody : bodyE ⟨d, sr, v, (t : Int), p⟩ = beL 6 d ++ (beL 6 sr ++ (tagsB v v.length ++ (beL 2 t ++ p))) := by
    unfold bodyE
    rw [Int.toNat_natCast]
    simp only [List.append_assoc]
  have hV : decV 3 (tagsB v v.length ++ (beL 2 t ++ p)) [] = (0, v, t, p) := by
    match v, hv, b3' with
    | [], _, _ => exact decV_type b6 (by omega) (by omega)
    | [a], _, h =>
      have ha := h a (by simp)
      have e : tagsB [a] 1 = beL 2 33024 ++ beL 2 a.toNat := by simp [tagsB, tagB]
      show decV 3 (tagsB [a] 1 ++ _) [] = _
      rw [e, List.append_assoc, decV_tag (.inl rfl) (by omega) (by simp), decV_type b6 (by omega) (by omega)]
      rw [show ((a.toNat % 4096 : Nat) : Int) = a by omega]
      rfl
    | [a, b], _, h =>
      have ha := h a (by simp)
      have hb := h b (by simp)
      have e : tagsB [a, b] 2 = (beL 2 34984 ++ beL 2 a.toNat) ++ (beL 2 33024 ++ beL 2 b.toNat) := by simp [tagsB, tagB, List.range_succ]
      show decV 3 (tagsB [a, b] 2 ++ _) [] = _
      rw [e]
      simp only [List.append_assoc]
      rw [decV_tag (.inr rfl) (by omega) (by simp), decV_tag (.inl rfl) (by omega) (by simp), decV_type b6 (by omega) (by omega)]
      rw [show ((a.toNat % 4096 : Nat) : Int) = a by omega, show ((b.toNat % 4096 : Nat) : Int) = b by omega]
      rfl
    | a :: b :: c :: r, hv, _ => simp at hv
  refine ⟨?_, bodyE_len _⟩
  have hlen := bodyE_len ⟨d, sr, v, (t : Int), p⟩
  rw [hbody] at hlen ⊢
  have d6 : (beL 6 d ++ (beL 6 sr ++ (tagsB v v.length ++ (beL 2 t ++ p)))).drop 6 = beL 6 sr ++ (tagsB v v.length ++ (beL 2 t ++ p)) := List.drop_left' (beL_len 6 d)
  have d12 : (beL 6 d ++ (beL 6 sr ++ (tagsB v v.length ++ (beL 2 t ++ p)))).drop 12 = tagsB v v.length ++ (beL 2 t ++ p) := by
    rw [show (12 : Nat) = 6 + 6 from rfl, ← List.drop_drop, d6, List.drop_left' (beL_len 6 sr)]
  have t6 : (beL 6 d ++ (beL 6 sr ++ (tagsB v v.length ++ (beL 2 t ++ p)))).take 6 = beL 6 d := List.take_left' (beL_len 6 d)
  unfold decE
  rw [if_neg (by omega), d12, d6, t6, hV, if_neg (by simp), List.take_left' (beL_len 6 sr), num_beL 6 d (by omega), num_beL 6 sr (by omega)]
/-! ### Encoding what was decoded -/
theorem decV_ok : ∀ (f : Nat) (r : List UInt8) (v v' : List Int) (t : Nat) (p : List UInt8), v.length + f = 3 → decV f r v = (0, v', t, p) →
    ∃ u : List Int, v' = v ++ u ∧ v'.length ≤ 2 ∧ 4 * u.length + 2 ≤ r.length ∧ t = num ((r.drop (4 * u.length)).take 2) ∧ p = r.drop (4 * u.length + 2) ∧ ¬ tgN t ∧ 1536 ≤ t ∧ ∀ y ∈ u, 0 ≤ y ∧ y ≤ 4095
  | 0, r, v, v', t, p, _, h => by simp [decV] at h
  | f + 1, r, v, v', t, p, hf, h => by
    rw [decV] at h
    by_cases h1 : r.length < 2
    · rw [if_pos h1] at h; simp at h
    · rw [if_neg h1] at h
      by_cases h2 : tgN (num (r.take 2))
      · rw [if_pos h2] at h
        by_cases h3 : v.length = 2
        · rw [if_pos h3] at h; simp at h
        · rw [if_neg h3] at h
          by_cases h4 : (r.drop 2).length < 2
          · rw [if_pos h4] at h; simp at h
          · rw [if_neg h4] at h
            obtain ⟨u, rfl, a1, a2, a3, a4, a5, a6, a7⟩ := decV_ok f _ _ v' t p (by rw [List.length_append]; simp; omega) h
            rw [List.length_drop] at h4
            rw [List.drop_drop, List.length_drop] at a2
            rw [List.drop_drop, List.drop_drop] at a3 a4
            refine ⟨((num ((r.drop 2).take 2) % 4096 : Nat) : Int) :: u, by simp, a1, by rw [List.length_cons]; omega, ?_, ?_, a5, a6, ?_⟩
            · rw [a3, List.length_cons, show 2 + (2 + 4 * u.length) = 4 * (u.length + 1) by omega]
            · rw [a4, List.length_cons, show 2 + (2 + (4 * u.length + 2)) = 4 * (u.length + 1) + 2 by omega]
            · intro y hy
              rcases List.mem_cons.1 hy with rfl | hy
              · omega
              · exact a7 y hy
      · rw [if_neg h2] at h
        by_cases h3 : num (r.take 2) < 1536
        · rw [if_pos h3] at h; simp at h
        · rw [if_neg h3] at h
          simp only [Prod.mk.injEq, true_and] at h
          obtain ⟨rfl, rfl, rfl⟩ := h
          exact ⟨[], by simp, by omega, by simp; omega, by simp, by simp, h2, by omega, by simp⟩
theorem enc_dec {s : List UInt8} {x : EthR} (h : decE s = (x, 0)) (hs : s.length ≤ 4096) : ∃ t, encE x = (t, 0) ∧ t.length = s.length ∧ t.take 12 = s.take 12 ∧ x.vl.length ≤ 2 ∧ 12 + 4 * x.vl.length ≤ s.length ∧ t.drop (12 + 4 * x.vl.length) = s.drop (12 + 4 * x.vl.length) := by
  unfold decE at h
  by_cases h14 : s.length < 14
  · rw [if_pos h14] at h; simp at h
  · rw [if_neg h14] at h
    by_cases hd : (decV 3 (s.drop 12) []).1 = 0
    · rw [if_neg (by omega)] at h
      simp only [Prod.mk.injEq, and_true] at h
      obtain ⟨u, a0, a1, a2, a3, a4, a5, a6, a7⟩ := decV_ok 3 (s.drop 12) [] (decV 3 (s.drop 12) []).2.1 (decV 3 (s.drop 12) []).2.2.1 (decV 3 (s.drop 12) []).2.2.2 rfl (by rw [← hd])
      rw [List.nil_append] at a0
      generalize (decV 3 (s.drop 12) []).2.1 = v at *
      generalize (decV 3 (s.drop 12) []).2.2.1 = t at *
      generalize (decV 3 (s.drop 12) []).2.2.2 = p at *
      subst a0 h
      rw [List.length_drop] at a2
      rw [List.drop_drop] at a3 a4
      have l6 : (s.take 6).length = 6 := by rw [List.length_take]; omega
      have l6' : ((s.drop 6).take 6).length = 6 := by rw [List.length_take, List.length_drop]; omega
      have n6 := num_lt (s.take 6)
      have n6' := num_lt ((s.drop 6).take 6)
      rw [l6] at n6
      rw [l6'] at n6'
      have lt2 : ((s.drop (12 + 4 * v.length)).take 2).length = 2 := by rw [List.length_take, List.length_drop]; omega
      have nt := num_lt ((s.drop (12 + 4 * v.length)).take 2)
      rw [lt2, ← a3] at nt
      have hnb : ¬ badE ⟨num (s.take 6), num ((s.drop 6).take 6), v, (t : Int), p⟩ := by
        unfold badE
        simp only [not_or]
        refine ⟨by omega, by omega, ?_, by omega, by omega, by rw [Int.toNat_natCast]; exact a5⟩
        rintro ⟨y, hy, hh⟩
        have := a7 y hy
        omega
      have hbl := bodyE_len ⟨num (s.take 6), num ((s.drop 6).take 6), v, (t : Int), p⟩
      have hpl : p.length = s.length - (12 + (4 * v.length + 2)) := by rw [a4, List.length_drop]
      simp only at hbl a1 ⊢
      have hen : encE ⟨num (s.take 6), num ((s.drop 6).take 6), v, (t : Int), p⟩ = (bodyE ⟨num (s.take 6), num ((s.drop 6).take 6), v, (t : Int), p⟩, 0) := by
        unfold encE
        rw [if_neg hnb, if_neg (by simp only; omega), if_neg (by omega)]
      have hbe : bodyE ⟨num (s.take 6), num ((s.drop 6).take 6), v, (t : Int), p⟩ = s.take 12 ++ (tagsB v v.length ++ s.drop (12 + 4 * v.length)) := by
        unfold bodyE
        simp only [Int.toNat_natCast]
        rw [beL_num _ 6 l6, beL_num _ 6 l6', a3, beL_num _ 2 lt2, a4]
        have e1 : s.take 6 ++ (s.drop 6).take 6 = s.take 12 := by rw [show (12 : Nat) = 6 + 6 from rfl, List.take_add]
        have e2 : (s.drop (12 + 4 * v.length)).take 2 ++ s.drop (12 + (4 * v.length + 2)) = s.drop (12 + 4 * v.length) := by
          have h9 := List.take_append_drop 2 (s.drop (12 + 4 * v.length))
          rw [List.drop_drop] at h9
          rw [show 12 + (4 * v.length + 2) = (12 + 4 * v.length) + 2 by omega]
          exact h9
        rw [e1, e2, List.append_assoc]
      have l12 : (s.take 12).length = 12 := by rw [List.length_take]; omega
      refine ⟨_, hen, by rw [hbl]; omega, ?_, by omega, by omega, ?_⟩
      · rw [hbe, List.take_left' l12]
      · rw [hbe, ← List.append_assoc, List.drop_left' (by rw [List.length_append, l12, tagsB_len])]
    · rw [if_pos hd] at h
      simp only [Prod.mk.injEq] at h
      exact absurd h.2 hd
theorem decV_vl : ∀ (f : Nat) (r : List UInt8) (v : List Int), v.length + f ≤ 3 → (decV f r v).2.1.length ≤ 3
  | 0, r, v, h => by simp [decV]
  | f + 1, r, v, h => by
    rw [decV]
    split
    · simp
    · split
      · split
        · simp
        · split
          · simp
          · exact decV_vl f _ _ (by rw [List.length_append]; simp; omega)
      · split
        · simp
        · show v.length ≤ 3
          omega
theorem decE_vl (s : List UInt8) : (decE s).1.vl.length ≤ 3 := by
  unfold decE
  split
  · simp [zeroE]
  · split
    · simp [zeroE]
    · exact decV_vl 3 _ [] (by simp)
end Go.Proofs.YtpfhljidjnagkaaDoor

/- Contracts of the functions that only compute: validSize, Power, Value. -/
namespace Go.Proofs.YtpfhljidjnagkaaDoor
open Go.ChangeShapes Go.WideShapes Go.ChangeAt Go.RowKit

theorem ret_int {k : IntKind} {a b : Int} (h : a = b) : Ending.returned (.int k a) = .returned (.int k b) := by rw [h]

theorem valid_yes (n : Int) (w : World) (h0 : 1 ≤ n) (h1 : n ≤ 7) :
    Calls Tryd.prog 33 #[.int .i64 n] w fun e w' => e = .returned (.bool true) ∧ w = w' := by
  go_enter Tryd.func33, Tryd.ntmps33
  go_wp2
  go_ret
  exact ⟨rfl, rfl⟩

theorem valid_no (n : Int) (w : World) (h : n < 1 ∨ 7 < n) :
    Calls Tryd.prog 33 #[.int .i64 n] w fun e w' => e = .returned (.bool false) ∧ w = w' := by
  rcases h with h | h
  · go_enter Tryd.func33, Tryd.ntmps33
    go_wp2
    go_ret
    exact ⟨rfl, rfl⟩
  · have h' : 1 ≤ n := by omega
    have hd : decide (n ≤ 7) = false := by simp; omega
    go_enter Tryd.func33, Tryd.ntmps33
    go_wp2
    go_ret
    exact ⟨rfl, rfl⟩

theorem power_any (n : Int) (w : World) (h0 : 1 ≤ n) (h1 : n ≤ 7) :
    Calls Tryd.prog 38 #[.int .i64 n] w fun e w' => e = .returned (.int .i64 (pw n.toNat : Nat)) ∧ w = w' := by
  go_enter Tryd.func38, Tryd.ntmps38
  go_wp2
  go_loop [3, 4] (fun p i => ∃ k : Nat, (k : Int) ≤ n ∧ i = .int .i64 k ∧ p = .int .i64 (pw k : Nat)) (fun _ i => n.toNat - (intOf i).toNat)
  case atStart => exact ⟨0, by omega, rfl, rfl⟩
  case round =>
    obtain ⟨k, hk, rfl, rfl⟩ := hrel
    by_cases hlt : (k : Int) < n
    · have hp : pw k ≤ 281474976710656 := pw_le6 (by omega)
      go_wp2
      go_round
      case rel => exact ⟨k + 1, by omega, by go_num, by rw [pw_succ]; go_num⟩
      case measure => simp [intOf]; omega
    · go_wp2
      go_ret
      exact ⟨ret_int (by rw [show n.toNat = k from by omega]), rfl⟩

/-- The value of a string of at most seven bytes. -/
theorem value_any (s : ByteArray) (w : World) (hs : s.size ≤ 7) :
    Calls Tryd.prog 23 #[.string s] w fun e w' => e = .returned (.int .i64 (num s.data.toList : Nat)) ∧ w = w' := by
  go_enter Tryd.func23, Tryd.ntmps23
  go_wp2
  go_loop [3, 4] (fun p i => ∃ k : Nat, k ≤ s.size ∧ i = .int .i64 k ∧ p = .int .i64 (num (s.data.toList.take k) : Nat)) (fun _ i => s.size - (intOf i).toNat)
  case atStart => exact ⟨0, by omega, rfl, rfl⟩
  case round =>
    obtain ⟨k, hk, rfl, rfl⟩ := hrel
    by_cases hlt : k < s.size
    · have hp : num (s.data.toList.take k) < 281474976710656 := num_lt6 (by rw [List.length_take]; omega)
      have H : Hid (num (s.data.toList.take (k + 1)) = num (s.data.toList.take k) * 256 + s[k].toNat) := by
        show num (s.data.toList.take (k + 1)) = _
        rw [List.take_succ_eq_append_getElem (by simpa using hlt), num_snoc]; rfl
      have hb : s[k].toNat < 256 := u8_lt _
      go_wp2
      go_round
      case rel => exact ⟨k + 1, by omega, by go_num, by rw [H.out]; go_num⟩
      case measure => simp [intOf]; omega
    · go_wp2
      go_ret
      exact ⟨ret_int (by rw [List.take_of_length_le (by simp; omega)]), rfl⟩
end Go.Proofs.YtpfhljidjnagkaaDoor

/- Contracts of the functions that make or read byte slices: little, Reverse, number, part. -/
namespace Go.Proofs.YtpfhljidjnagkaaDoor
open Go.ChangeShapes Go.WideShapes Go.ChangeAt Go.RowKit

/-- A slice of bytes that reads as l, lies from block base on, and may be written. -/
def BS (w : World) (base : Nat) (v : Value) (l : List UInt8) : Prop :=
  ∃ A cap, v = .slice A l.length cap ∧ l.length ≤ cap ∧
    (0 < l.length → ∃ g o, A = some ⟨g, o, none⟩ ∧ base ≤ g ∧ g < w.heap.size ∧
      ∀ j (hj : j < l.length), w.cell? ⟨g, o + j, none⟩ = some (.int .u8 (l[j].toNat : Int)) ∧ w.frozen? ⟨g, o + j, none⟩ = false)

theorem cell_set_same {w : World} {a : Addr} {u : Value} (v : Value) (h : w.cell? a = some u) : (w.setCell a v).cell? a = some v := World.cell?_setCell_same' w a v (by simp [h])
theorem cell_set_far (w : World) (g x y : Nat) (v : Value) (h : x ≠ y) : (w.setCell ⟨g, x, none⟩ v).cell? ⟨g, y, none⟩ = w.cell? ⟨g, y, none⟩ :=
  World.cell?_setCell_other w ⟨g, x, none⟩ ⟨g, y, none⟩ v (by intro e; injection e with _ e; exact h (by omega))
theorem frozen_set (w : World) (a b : Addr) (v : Value) : (w.setCell a v).frozen? b = w.frozen? b := by simp
theorem size_set (w : World) (a : Addr) (v : Value) : (w.setCell a v).heap.size = w.heap.size := by simp [World.setCell]

theorem info5 : (Tryd.prog.info? 5).map (fun i => (i.zero, i.size, i.bytes)) = some (some (.int .u8 0), 1, 1) := by kernel_rfl

theorem little_yes (n size : Int) (w : World) (h1 : 1 ≤ size) (h2 : size ≤ 7) (h3 : 0 ≤ n) (h5 : n ≤ 9223372036854775807) (h4 : n.toNat < pw size.toNat) :
    Calls Tryd.prog 36 #[.int .i64 n, .int .i64 size] w fun e w' => ∃ v, e = .returned v ∧ BS w' w.heap.size v (leL size.toNat n.toNat) ∧ Below w.heap.size w w' := by
  obtain ⟨k, rfl⟩ := Int.eq_ofNat_of_zero_le (show 0 ≤ size by omega)
  obtain ⟨m, rfl⟩ := Int.eq_ofNat_of_zero_le h3
  rw [Int.toNat_natCast, Int.toNat_natCast] at *
  have hp7 := pw_le7 (k := k) (by omega)
  have hd : decide ((m : Int) < 0) = false := by simp
  have hq : ((m : Int) / 2 ^ (8 * k) != 0) = false := by
    rw [shr_pw', Nat.div_eq_of_lt h4]; rfl
  have hmk := fun W => run_make_row' (P := Tryd.prog) 48 5 (.int .u8 0) 1 Tryd.underlying48 info5 rfl .i64 .i64 k (by omega) (by omega) W
  go_enter Tryd.func36, Tryd.ntmps36
  go_wp2_with (go_at_call 33; refine (valid_yes _ _ (by omega) (by omega)).mono ?_; rintro e w' ⟨rfl, rfl⟩)
  go_loopw [24] (fun i wr => ∃ j : Nat, j ≤ k ∧ i = .int .i64 j ∧ wr.rowIs w.heap.size 5 k (fun x => .int .u8 (if x < j then ((m / pw x % 256 : Nat) : Int) else 0)) ∧ Below w.heap.size w wr) (fun i _ => k - (intOf i).toNat)
  case atStart => exact ⟨0, by omega, rfl, (World.rowIs_made w (.int .u8 0) k 5).congr (fun i _ => by simp), (Below.refl _ _).alloc (Nat.le_refl _) _⟩
  case round =>
    obtain ⟨j, hj, rfl, hrow, hb⟩ := hrel
    by_cases hlt : j < k
    · have hc := hrow.cell hlt
      have hf := hrow.frozen j
      go_wp2
      go_roundw
      case rel =>
        refine ⟨j + 1, by omega, by go_num, (hrow.set j _).congr (fun x hx => ?_), hb.setCell (Nat.le_refl _) _⟩
        by_cases hxj : x = j
        · subst hxj
          rw [if_pos rfl, if_pos (by omega), shr_pw']
          simp
        · rw [if_neg hxj]
          by_cases hx2 : x < j
          · rw [if_pos hx2, if_pos (by omega)]
          · rw [if_neg hx2, if_neg (by omega)]
      case measure => simp [intOf]; omega
    · obtain rfl : j = k := by omega
      go_wp2
      go_ret
      refine ⟨_, rfl, ⟨some ⟨w.heap.size, 0, none⟩, j, by simp [leL_length], by simp [leL_length], fun _ => ⟨w.heap.size, 0, rfl, Nat.le_refl _, hrow.lt, fun x hx => ?_⟩⟩, hb⟩
      have hx' : x < j := by rwa [leL_length] at hx
      rw [Nat.zero_add]
      refine ⟨?_, hrow.frozen x⟩
      rw [hrow.cell hx', if_pos hx', leL_get _ _ _ hx, UInt8.toNat_ofNat']
      simp [pw]

theorem little_no (n size : Int) (w : World) (h5 : n ≤ 9223372036854775807) (h6 : -9223372036854775808 ≤ n) (h : size < 1 ∨ 7 < size ∨ n < 0 ∨ (1 ≤ size ∧ pw size.toNat ≤ n.toNat)) :
    Calls Tryd.prog 36 #[.int .i64 n, .int .i64 size] w fun e w' => e = .returned (.slice none 0 0) ∧ w = w' := by
  by_cases hv : size < 1 ∨ 7 < size
  · go_enter Tryd.func36, Tryd.ntmps36
    go_wp2_with (go_at_call 33; refine (valid_no _ _ hv).mono ?_; rintro e w' ⟨rfl, rfl⟩)
    go_ret
    exact ⟨rfl, rfl⟩
  · obtain ⟨k, rfl⟩ := Int.eq_ofNat_of_zero_le (show 0 ≤ size by omega)
    by_cases hn : n < 0
    · go_enter Tryd.func36, Tryd.ntmps36
      go_wp2_with (go_at_call 33; refine (valid_yes _ _ (by omega) (by omega)).mono ?_; rintro e w' ⟨rfl, rfl⟩)
      go_ret
      exact ⟨rfl, rfl⟩
    · obtain ⟨m, rfl⟩ := Int.eq_ofNat_of_zero_le (show 0 ≤ n by omega)
      have hlt : pw k ≤ m := by
        rcases h with h | h | h | ⟨_, h⟩
        · omega
        · omega
        · omega
        · simpa using h
      have hd : decide ((m : Int) < 0) = false := by simp
      have hq : ((m : Int) / 2 ^ (8 * k) != 0) = true := by
        rw [shr_pw']
        have : 0 < m / pw k := Nat.div_pos hlt (pw_pos k)
        simp only [bne_iff_ne, ne_eq]
        omega
      go_enter Tryd.func36, Tryd.ntmps36
      go_wp2_with (go_at_call 33; refine (valid_yes _ _ (by omega) (by omega)).mono ?_; rintro e w' ⟨rfl, rfl⟩)
      go_ret
      exact ⟨rfl, rfl⟩

theorem reverse_any (A : Option Addr) (cap base : Nat) (l : List UInt8) (w : World) (h : BS w base (.slice A l.length cap) l) (hl : l.length ≤ 9223372036854775807) :
    Calls Tryd.prog 37 #[.slice A l.length cap] w fun e w' => e = .returned (.tuple #[]) ∧ BS w' base (.slice A l.length cap) l.reverse ∧ Below base w w' := by
  obtain ⟨A', cap', hv, hc, hb⟩ := h
  cases hv
  by_cases h0 : l.length = 0
  · have hnil : l = [] := List.eq_nil_of_length_eq_zero h0
    subst hnil
    go_enter Tryd.func37, Tryd.ntmps37
    go_wp2
    go_loop [2, 3] (fun i j => i = .int .i64 0 ∧ j = .int .i64 (-1)) (fun _ _ => 0)
    case atStart => exact ⟨rfl, rfl⟩
    case round =>
      obtain ⟨rfl, rfl⟩ := hrel
      go_wp2
      go_end0
      exact ⟨rfl, ⟨A, cap, rfl, by simp, by simp⟩, Below.refl _ _⟩
  · obtain ⟨g, o, rfl, hg, hlt, hcell⟩ := hb (by omega)
    go_enter Tryd.func37, Tryd.ntmps37
    go_wp2
    go_loopw [2, 3] (fun i j wr => ∃ k q : Nat, k + q + 1 = l.length ∧ k ≤ q + 1 ∧ i = .int .i64 k ∧ j = .int .i64 q ∧ g < wr.heap.size ∧ (∀ x, x < l.length → wr.cell? ⟨g, o + x, none⟩ = some (.int .u8 ((turned l k x).toNat : Int)) ∧ wr.frozen? ⟨g, o + x, none⟩ = false) ∧ Below base w wr) (fun i j _ => (intOf j).toNat - (intOf i).toNat)
    case atStart =>
      refine ⟨0, l.length - 1, by omega, by omega, rfl, by go_num, hlt, fun x hx => ?_, Below.refl _ _⟩
      have := hcell x hx
      rw [turned_zero l x hx]
      exact this
    case round =>
      obtain ⟨k, q, hkq, hle, rfl, rfl, hgl, hcs, hbel⟩ := hrel
      by_cases hr : k < q
      · have hck := (hcs k (by omega)).1
        have hfk := (hcs k (by omega)).2
        have hcq := (hcs q (by omega)).1
        have hfq := (hcs q (by omega)).2
        go_wp2
        go_region
        go_wp2
        go_roundw
        case rel =>
          refine ⟨k + 1, q - 1, by omega, by omega, by go_num, by go_num, ?_, fun x hx => ?_, ((hbel.setCell hg _).setCell hg _).drew⟩
          · show g < (World.setCell _ _ _).heap.size
            rw [size_set, size_set]; exact hgl
          · rw [World.cell?_drew, World.frozen?_drew, frozen_set, frozen_set]
            refine ⟨?_, (hcs x hx).2⟩
            by_cases hxq : x = q
            · subst hxq
              rw [cell_set_same _ (by rw [cell_set_far _ _ _ _ _ (by omega)]; exact hcq), turned_q hkq hr]
            · rw [cell_set_far _ _ _ _ _ (by omega)]
              by_cases hxk : x = k
              · subst hxk
                rw [cell_set_same _ hck, turned_k hkq hr]
              · rw [cell_set_far _ _ _ _ _ (by omega), (hcs x hx).1, turned_far hkq hxk hxq]
        case measure => simp [intOf]; omega
      · go_wp2
        go_end0
        refine ⟨rfl, ⟨_, cap, by rw [List.length_reverse], by rw [List.length_reverse]; exact hc, fun _ => ⟨g, o, rfl, hg, hgl, fun x hx => ?_⟩⟩, hbel⟩
        have hx' : x < l.length := by rwa [List.length_reverse] at hx
        refine ⟨?_, (hcs x hx').2⟩
        rw [(hcs x hx').1, turned_done hkq hr hx]
end Go.Proofs.YtpfhljidjnagkaaDoor

/- Contracts: number, part, Put, PutLittle, Get, GetLittle of the program. -/
namespace Go.Proofs.YtpfhljidjnagkaaDoor
open Go.ChangeShapes Go.WideShapes Go.ChangeAt Go.RowKit

/-- 'a<<8 | b': the wrap is none where a is small. -/
theorem or_byte (a b : Nat) (ha : a < 281474976710656) (hb : b < 256) : bits .or .i64 ((a : Int) * 256) (b : Int) = (a : Int) * 256 + b := by
  have nn : ∀ x : Nat, x < 2 ^ 63 → (BitVec.ofInt 64 (x : Int)).toNat = x := fun x hx => by
    rw [BitVec.ofInt_natCast, BitVec.toNat_ofNat]
    exact Nat.mod_eq_of_lt (by omega)
  have e : a * 256 ||| b = a * 256 + b := by
    have h := Nat.shiftLeft_add_eq_or_of_lt (i := 8) (b := b) (by omega) a
    rw [Nat.shiftLeft_eq, show 2 ^ 8 = 256 from rfl] at h
    omega
  rw [show ((a : Int) * 256) = ((a * 256 : Nat) : Int) by omega]
  show IntKind.i64.wrap ((BitVec.ofInt 64 ((a * 256 : Nat) : Int) ||| BitVec.ofInt 64 (b : Int)).toNat : Int) = _
  rw [BitVec.toNat_or, nn _ (by omega), nn _ (by omega), e, IntKind.wrap_i64]
  omega

theorem number_any (A : Option Addr) (cap base : Nat) (l : List UInt8) (w : World) (h : BS w base (.slice A l.length cap) l) (hl : l.length ≤ 7) :
    Calls Tryd.prog 31 #[.slice A l.length cap] w fun e w' => e = .returned (.int .i64 (num l : Nat)) ∧ w = w' := by
  obtain ⟨A', cap', hv, hc, hb⟩ := h
  cases hv
  go_enter Tryd.func31, Tryd.ntmps31
  go_wp2
  go_loop [3, 8] (fun p i => ∃ k : Nat, k ≤ l.length ∧ i = .int .i64 k ∧ p = .int .i64 (num (l.take k) : Nat)) (fun _ i => l.length - (intOf i).toNat)
  case atStart => exact ⟨0, by omega, rfl, rfl⟩
  case round =>
    obtain ⟨k, hk, rfl, rfl⟩ := hrel
    by_cases hlt : k < l.length
    · obtain ⟨g, o, rfl, _, _, hcell⟩ := hb (by omega)
      have hck := (hcell k hlt).1
      have hp : num (l.take k) < 281474976710656 := num_lt6 (by rw [List.length_take]; omega)
      have H : Hid (num (l.take (k + 1)) = num (l.take k) * 256 + l[k].toNat) := by
        show num (l.take (k + 1)) = _
        rw [List.take_succ_eq_append_getElem hlt, num_snoc]
      have hbt : l[k].toNat < 256 := u8_lt _
      go_wp2
      go_round
      case rel =>
        refine ⟨k + 1, by omega, by go_num, ?_⟩
        rw [H.out, or_byte _ _ hp hbt]
        go_num
      case measure => simp [intOf]; omega
    · go_wp2
      go_ret
      exact ⟨ret_int (by rw [List.take_of_length_le (by omega)]), rfl⟩

theorem bs_nil (w : World) (base : Nat) : BS w base (.slice none 0 0) [] := ⟨none, 0, rfl, Nat.le_refl _, by simp⟩

theorem str_eq {l : List UInt8} {s : ByteArray} (h : s.data.toList = l) : s = str l := by rw [← h, str_of]

/-- 'string(b)'. -/
theorem bs_string {w : World} {base : Nat} {A : Option Addr} {cap : Nat} {l : List UInt8} (h : BS w base (.slice A l.length cap) l) :
    (convert 48 9 (.slice A l.length cap)).run Tryd.prog w = .ok (.string (str l)) w := by
  obtain ⟨A', cap', hv, hc, hb⟩ := h
  cases hv
  by_cases h0 : l.length = 0
  · have hnil : l = [] := List.eq_nil_of_length_eq_zero h0
    subst hnil
    rw [run_convert_bytes_string w 48 9 5 A _ cap Tryd.underlying48 Tryd.underlying5 Tryd.underlying9]
    cases A with
    | none => rfl
    | some a => simp [Conv.bytesToString, loadCells, loadCellsFrom, str]; rfl
  · obtain ⟨g, o, rfl, _, _, hcell⟩ := hb (by omega)
    refine run_convert_bytes_back w 48 9 5 ⟨g, o, none⟩ cap l Tryd.underlying48 Tryd.underlying5 Tryd.underlying9 (fun j hj => ?_)
    have := (hcell j hj).1
    unfold Addr.add
    split
    · subst_vars; simpa using this
    · exact this

theorem put_yes (n size : Int) (w : World) (h1 : 1 ≤ size) (h2 : size ≤ 7) (h3 : 0 ≤ n) (h5 : n ≤ 9223372036854775807) (h4 : n.toNat < pw size.toNat) :
    Calls Tryd.prog 26 #[.int .i64 n, .int .i64 size] w fun e w' => e = .returned (.string (str (leL size.toNat n.toNat).reverse)) ∧ Below w.heap.size w w' := by
  go_enter Tryd.func26, Tryd.ntmps26
  go_wp2_with fail
  refine (little_yes n size _ h1 h2 h3 h5 h4).mono ?_
  rintro e w1 ⟨v, rfl, hbs, hb1⟩
  obtain ⟨A, cap, rfl, hrest⟩ := id hbs
  clear hrest
  go_wp2_with fail
  refine (reverse_any A cap _ _ _ hbs (by rw [leL_length]; omega)).mono ?_
  rintro e w2 ⟨rfl, hbs2, hb2⟩
  have hcv := bs_string (by rw [List.length_reverse]; exact hbs2)
  rw [List.length_reverse] at hcv
  go_wp2_with fail
  go_ret
  exact ⟨rfl, hb1.trans hb2⟩

theorem put_no (n size : Int) (w : World) (h5 : n ≤ 9223372036854775807) (h6 : -9223372036854775808 ≤ n) (h : size < 1 ∨ 7 < size ∨ n < 0 ∨ (1 ≤ size ∧ pw size.toNat ≤ n.toNat)) :
    Calls Tryd.prog 26 #[.int .i64 n, .int .i64 size] w fun e w' => e = .returned (.string (str [])) ∧ Below w.heap.size w w' := by
  go_enter Tryd.func26, Tryd.ntmps26
  go_wp2_with fail
  refine (little_no n size _ h5 h6 h).mono ?_
  rintro e w1 ⟨rfl, rfl⟩
  go_wp2_with fail
  refine (reverse_any none 0 w.heap.size [] _ (bs_nil _ _) (by simp)).mono ?_
  rintro e w2 ⟨rfl, hbs2, hb2⟩
  have hcv := bs_string (l := []) (A := none) (cap := 0) (bs_nil w2 0)
  simp only [List.length_nil] at hcv
  go_wp2_with fail
  go_ret
  exact ⟨rfl, hb2⟩

/-- k bytes from a place on. -/
def sub (s : ByteArray) (a k : Nat) : List UInt8 := (s.data.toList.drop a).take k
theorem sub_length {s : ByteArray} {a k : Nat} (h : a + k ≤ s.size) : (sub s a k).length = k := by
  unfold sub
  rw [List.length_take, List.length_drop]
  have : s.data.toList.length = s.size := by simp
  omega

/-- '[]byte(s)'. -/
theorem bs_new (w : World) (s : ByteArray) (cap : Nat) (hcap : s.size ≤ cap) :
    BS (w.alloc (.cells (bytesRow s cap) 5 ((bytesRow s cap).size, (bytesRow s cap).size + 1))) w.heap.size (.slice (some ⟨w.heap.size, 0, none⟩) s.size cap) s.data.toList := by
  have hl : s.data.toList.length = s.size := by simp
  refine ⟨some ⟨w.heap.size, 0, none⟩, cap, by rw [hl], by rw [hl]; exact hcap, fun _ => ⟨w.heap.size, 0, rfl, Nat.le_refl _, by simp, fun j hj => ?_⟩⟩
  have hj' : j < s.data.size := by rw [hl] at hj; exact hj
  rw [Nat.zero_add]
  refine ⟨?_, ?_⟩
  · rw [World.cell?_alloc_mark, bytesRow_at s cap j hj']
    simp
  · rw [World.frozen?_alloc_mark]
    have : (bytesRow s cap).size = s.data.size + (cap - s.size) := by simp [bytesRow]
    simp
    intro
    omega

end Go.Proofs.YtpfhljidjnagkaaDoor

/- Contracts of the reference: Put, Reverse, PutLittle, Get, GetLittle. -/
namespace Go.Proofs.YtpfhljidjnagkaaDoor
open Go.ChangeShapes Go.WideShapes Go.ChangeAt Go.RowKit

/-- What lies below the heap's end reads on behind a step that keeps it. -/
theorem kept_cells {a b : World} (h : Below a.heap.size a b) (g o : Nat) (hg : g < a.heap.size) : b.cell? ⟨g, o, none⟩ = a.cell? ⟨g, o, none⟩ := h.cell (p := ⟨g, o, none⟩) hg

/-- 'string([]byte{b})'. -/
theorem one_string (W : World) (g : Nat) (b : Int) (h0 : 0 ≤ b) (h1 : b < 256) (hc : W.cell? ⟨g, 0, none⟩ = some (.int .u8 b)) :
    (convert 48 9 (.slice (some ⟨g, 0, none⟩) 1 1)).run Tryd.prog W = .ok (.string (str [UInt8.ofNat b.toNat])) W := by
  refine run_convert_bytes_back W 48 9 5 ⟨g, 0, none⟩ 1 [UInt8.ofNat b.toNat] Tryd.underlying48 Tryd.underlying5 Tryd.underlying9 (fun j hj => ?_)
  obtain rfl : j = 0 := by simpa using hj
  show W.cell? ⟨g, 0, none⟩ = _
  rw [hc]
  simp
  omega

theorem rput_no (n size : Int) (w : World) (h : size < 1 ∨ 7 < size ∨ n < 0 ∨ (1 ≤ size ∧ pw size.toNat ≤ n.toNat)) :
    Calls Tryd.prog 27 #[.int .i64 n, .int .i64 size] w fun e w' => e = .returned (.string (str [])) ∧ w = w' := by
  by_cases h1 : size < 1
  · go_enter Tryd.func27, Tryd.ntmps27
    go_wp2_with fail
    go_ret
    exact ⟨rfl, rfl⟩
  have d1 : decide (size < 1) = false := by simp; omega
  by_cases h2 : 7 < size
  · go_enter Tryd.func27, Tryd.ntmps27
    go_wp2_with fail
    go_ret
    exact ⟨rfl, rfl⟩
  have d2 : decide (7 < size) = false := by simp; omega
  by_cases h3 : n < 0
  · go_enter Tryd.func27, Tryd.ntmps27
    go_wp2_with fail
    go_ret
    exact ⟨rfl, rfl⟩
  have d3 : decide (n < 0) = false := by simp; omega
  have h4 : (pw size.toNat : Int) ≤ n := by omega
  go_enter Tryd.func27, Tryd.ntmps27
  go_wp2_with fail
  refine (power_any size _ (by omega) (by omega)).mono ?_
  rintro e w1 ⟨rfl, rfl⟩
  go_wp2_with fail
  go_ret
  exact ⟨rfl, rfl⟩

theorem rput_yes (k : Nat) : ∀ (n size : Int) (w : World), size = (k : Int) + 1 → size ≤ 7 → 0 ≤ n → n.toNat < pw (k + 1) →
    Calls Tryd.prog 27 #[.int .i64 n, .int .i64 size] w fun e w' => e = .returned (.string (str (leL (k + 1) n.toNat).reverse)) ∧ Below w.heap.size w w' := by
  induction k with
  | zero =>
    intro n size w hk h7 h0 hlt
    obtain rfl : size = 1 := by omega
    clear hk h7
    obtain ⟨m, rfl⟩ := Int.eq_ofNat_of_zero_le h0
    rw [Int.toNat_natCast] at *
    have hm : m < 256 := hlt
    have d1 : decide ((m : Int) < 0) = false := by simp
    have hcv := fun W g => one_string W g (m : Int) (by omega) (by omega)
    go_enter Tryd.func27, Tryd.ntmps27
    go_wp2_with fail
    refine (power_any 1 _ (by omega) (by omega)).mono ?_
    rintro e w1 ⟨rfl, rfl⟩
    have hlt' : m < pw (Int.toNat 1) := hlt
    clear hlt
    generalize pw (Int.toNat 1) = q at *
    go_wp2_with fail
    go_ret
    refine ⟨?_, (Below.refl _ _).alloc (Nat.le_refl _) _⟩
    rw [show (leL (0 + 1) m).reverse = [UInt8.ofNat m] by simp [leL, Nat.mod_eq_of_lt hm]]
    rfl
  | succ k ih =>
    intro n size w hk h7 h0 hlt
    obtain ⟨m, rfl⟩ := Int.eq_ofNat_of_zero_le h0
    rw [Int.toNat_natCast] at *
    have hlt2 : m / 256 < pw (k + 1) := by
      rw [pw_succ] at hlt
      omega
    have hfin : str (leL (k + 1) (m / 256)).reverse ++ str [UInt8.ofNat (m % 256)] = str (leL (k + 1 + 1) m).reverse := by
      rw [show leL (k + 1 + 1) m = UInt8.ofNat (m % 256) :: leL (k + 1) (m / 256) from rfl, List.reverse_cons, str_append]
    have Hf := Lib.hid hfin
    have Hk := Lib.hid hk
    have ih2 := fun W => ih ((m : Int) / 256) (size - 1) W (by omega) (by omega) (by omega) (by omega)
    rw [show ((m : Int) / 256).toNat = m / 256 by omega] at ih2
    have IH := Lib.hid ih2
    clear ih ih2
    have Hl2 := Lib.hid hlt2
    clear hlt2
    have hs1 : 1 < size := by omega
    have hm7 : m < 72057594037927936 := Nat.lt_of_lt_of_le hlt (pw_le7 (by omega))
    have hw1 : IntKind.i64.wrap ((m : Int) / 256) = (m : Int) / 256 := IntWalk.i64_in _ (by omega)
    have hw2 : IntKind.i64.wrap (size - 1) = size - 1 := IntWalk.i64_in _ (by omega)
    have hw3 : (m : Int).tmod 256 = (m : Int) % 256 := Int.tmod_eq_emod_of_nonneg (by omega)
    have hw4 : IntKind.u8.wrap ((m : Int) % 256) = (m : Int) % 256 := by rw [IntKind.wrap_u8]; omega
    have hsz : size.toNat = k + 1 + 1 := by omega
    have d1 : decide (size < 1) = false := by simp; omega
    have d2 : decide (7 < size) = false := by simp; omega
    have d3 : decide ((m : Int) < 0) = false := by simp
    have d4 : (size == 1) = false := by simp; omega
    have hcv := fun W g => one_string W g ((m : Int) % 256) (by omega) (by omega)
    rw [show ((m : Int) % 256).toNat = m % 256 by omega] at hcv
    have hcat : (9223372036854775807 < (str (leL (k + 1) (m / 256)).reverse).size + (str [UInt8.ofNat (m % 256)]).size) = False := by
      rw [str_size, str_size, List.length_reverse, leL_length]; simp; omega
    clear hfin hk
    go_enter Tryd.func27, Tryd.ntmps27
    go_wp2_with fail
    refine (power_any size _ (by omega) (by omega)).mono ?_
    rintro e w1 ⟨rfl, rfl⟩
    rw [hsz]
    clear hsz
    generalize pw (k + 1 + 1) = q at *
    go_wp2_with fail
    go_region_with (go_at_call 27; refine (IH.out _).mono ?_; rintro e w2 ⟨rfl, hb⟩; have hcc := kept_cells hb)
    all_goals
      go_wp2_with fail
      go_ret
      refine ⟨by rw [← Hf.out]; rfl, ?_⟩
      first
        | exact (Below.trans (Below.drew (Below.refl _ _)) hb).alloc (by have := hb.size; simpa using this) _
        | exact ((Below.refl _ _).drew.alloc (Nat.le_refl _) _).trans (hb.mono (by simp))
end Go.Proofs.YtpfhljidjnagkaaDoor

/- Contracts of the reference: Reverse, PutLittle, Get, GetLittle. -/
namespace Go.Proofs.YtpfhljidjnagkaaDoor
open Go.ChangeShapes Go.WideShapes Go.ChangeAt Go.RowKit
set_option linter.unusedVariables false

/-- Bytes as cells. -/
def cellsOf (l : List UInt8) : List Value := l.map fun b => .int .u8 (b.toNat : Int)

theorem bs_of_own {w : World} {base : Nat} {A : Option Addr} {cap : Nat} {l : List UInt8} (h : w.ownsRow base 5 1 (.slice A l.length cap) l.length (cellsOf l)) : BS w base (.slice A l.length cap) l := by
  refine ⟨A, cap, rfl, ?_, fun hpos => ?_⟩
  · rcases h.2 with ⟨hv, hn⟩ | ⟨g, c, cur, hv, _, _, hn, _⟩
    · omega
    · cases hv; exact hn
  · rcases h.2 with ⟨hv, hn⟩ | ⟨g, c, cur, hv, hg, hh, hn, _⟩
    · omega
    · cases hv
      have hlt : g < w.heap.size := (h.lt g rfl).2
      refine ⟨g, 0, rfl, hg, hlt, fun j hj => ?_⟩
      rw [Nat.zero_add]
      refine ⟨?_, h.frozenAt j⟩
      rw [h.cellAt j (by omega)]
      simp [cellsOf, hj]

theorem cellsOf_snoc (l : List UInt8) (b : UInt8) : cellsOf l ++ [.int .u8 (b.toNat : Int)] = cellsOf (l ++ [b]) := by simp [cellsOf]
theorem cellsOf_length (l : List UInt8) : (cellsOf l).length = l.length := by simp [cellsOf]

theorem back_take (l : List UInt8) (q : Nat) (h : q < l.length) : (l.drop (q + 1)).reverse ++ [l[q]] = (l.drop q).reverse := by
  rw [List.drop_eq_getElem_cons h, List.reverse_cons]

theorem ext_size (s : ByteArray) (a k : Nat) : (s.extract a (a + k)).size ≤ k := by
  rw [ByteArray.size_extract]; omega

end Go.Proofs.YtpfhljidjnagkaaDoor

/- Contracts of the program's reader: next, Int, Take, Rest, Left, Err, NewReader. -/
namespace Go.Proofs.YtpfhljidjnagkaaDoor
open Go.ChangeShapes Go.WideShapes Go.ChangeAt Go.RowKit
set_option linter.unusedVariables false

/-- Block g is just these cells. -/
def Cells (w : World) (g : Nat) (t : TypeId) (cs : Array Value) : Prop := w.heap[g]? = some (.cells cs t (0, 0))
theorem Cells.lt {w : World} {g : Nat} {t : TypeId} {cs : Array Value} (h : Cells w g t cs) : g < w.heap.size := (Array.getElem?_eq_some_iff.1 h).1
theorem Cells.cell {w : World} {g : Nat} {t : TypeId} {cs : Array Value} (h : Cells w g t cs) (i : Nat) : w.cell? ⟨g, i, none⟩ = cs[i]? := by
  have h' : w.heap[g]? = some (.cells cs t (0, 0)) := h
  simp [World.cell?, h']
theorem Cells.frozen {w : World} {g : Nat} {t : TypeId} {cs : Array Value} (h : Cells w g t cs) (i : Nat) : w.frozen? ⟨g, i, none⟩ = false := by
  have h' : w.heap[g]? = some (.cells cs t (0, 0)) := h
  simp [World.frozen?, h']
theorem Cells.set {w : World} {g : Nat} {t : TypeId} {cs : Array Value} (h : Cells w g t cs) (i : Nat) (u : Value) : Cells (w.setCell ⟨g, i, none⟩ u) g t (cs.setIfInBounds i u) := by
  have h' : w.heap[g]? = some (.cells cs t (0, 0)) := h
  show (w.setCell ⟨g, i, none⟩ u).heap[g]? = _
  simp [World.setCell, Array.getElem?_modify, h']
theorem Cells.only {w w' : World} {g : Nat} {t : TypeId} {cs : Array Value} {row : Option Nat} (h : Cells w g t cs) (hg : w.grownBy w' row) (hne : some g ≠ row) : Cells w' g t cs :=
  (hg.block g h.lt hne).trans h
theorem only_set (w : World) (g i : Nat) (u : Value) : w.grownBy (w.setCell ⟨g, i, none⟩ u) (some g) :=
  ⟨rfl, rfl, rfl, by simp [World.setCell], fun k _ hne => Below.heap_setCell w ⟨g, i, none⟩ u k (by intro e; exact hne (by rw [e]))⟩
theorem only_trans {a b c : World} {row : Option Nat} (h : a.grownBy b row) (k : b.grownBy c row) : a.grownBy c row :=
  ⟨k.os.trans h.os, k.tape.trans h.tape, k.output.trans h.output, Nat.le_trans h.size k.size, fun i hi hne => (k.block i (Nat.lt_of_lt_of_le hi h.size) hne).trans (h.block i hi hne)⟩
theorem only_refl (w : World) (row : Option Nat) : w.grownBy w row := ⟨rfl, rfl, rfl, Nat.le_refl _, fun _ _ _ => rfl⟩
theorem only_below {w w' : World} (h : Below w.heap.size w w') (row : Option Nat) : w.grownBy w' row := ⟨h.os, h.tape, h.output, h.size, fun k hk _ => h.block k hk⟩

/-- The bytes that a reader has left lie outside its own block. -/
def Left (w : World) (p : Nat) (A : Option Addr) (l : List UInt8) (cap : Nat) : Prop :=
  l.length ≤ cap ∧ (0 < l.length → ∃ g o, A = some ⟨g, o, none⟩ ∧ g ≠ p ∧ g < w.heap.size ∧
    ∀ j (hj : j < l.length), w.cell? ⟨g, o + j, none⟩ = some (.int .u8 (l[j].toNat : Int)) ∧ w.frozen? ⟨g, o + j, none⟩ = false)

/-- A reader at block p with the bytes l left and an error. -/
def Rd (w : World) (p : Nat) (l : List UInt8) (err : Int) : Prop :=
  ∃ A cap, Cells w p 58 #[.slice A l.length cap, .int .i64 err] ∧ Left w p A l cap

theorem Left.only {w w' : World} {p : Nat} {A : Option Addr} {l : List UInt8} {cap : Nat} (h : Left w p A l cap) (hg : w.grownBy w' (some p)) : Left w' p A l cap := by
  refine ⟨h.1, fun hp => ?_⟩
  obtain ⟨g, o, e, hne, hlt, hc⟩ := h.2 hp
  have hb : w'.heap[g]? = w.heap[g]? := hg.block g hlt (by intro e; injection e with e; exact hne e)
  refine ⟨g, o, e, hne, Nat.lt_of_lt_of_le hlt hg.size, fun j hj => ?_⟩
  rw [World.cell?_of_block (w := w) (w' := w') (a := ⟨g, o + j, none⟩) hb, World.frozen?_of_block (w := w) (w' := w') (a := ⟨g, o + j, none⟩) hb]
  exact hc j hj
theorem Left.bs {w : World} {p : Nat} {A : Option Addr} {l : List UInt8} {cap : Nat} (h : Left w p A l cap) : BS w 0 (.slice A l.length cap) l :=
  ⟨A, cap, rfl, h.1, fun hp => by
    obtain ⟨g, o, e, _, hlt, hc⟩ := h.2 hp
    exact ⟨g, o, e, Nat.zero_le _, hlt, hc⟩⟩

theorem add_flat (g o n : Nat) : (⟨g, o, none⟩ : Addr).add n = ⟨g, o + n, none⟩ := by
  unfold Addr.add
  split
  · subst_vars; rfl
  · rfl
theorem Left.drop {w : World} {p : Nat} {A : Option Addr} {l : List UInt8} {cap : Nat} (h : Left w p A l cap) (n : Nat) (hn : n ≤ l.length) : Left w p (A.map (fun x => x.add n)) (l.drop n) (cap - n) := by
  refine ⟨by rw [List.length_drop]; have := h.1; omega, fun hp => ?_⟩
  rw [List.length_drop] at hp
  obtain ⟨g, o, rfl, hne, hlt, hc⟩ := h.2 (by omega)
  refine ⟨g, o + n, by rw [Option.map_some, add_flat], hne, hlt, fun j hj => ?_⟩
  rw [List.length_drop] at hj
  have := hc (n + j) (by omega)
  rw [List.getElem_drop, Nat.add_assoc]
  exact this
theorem Left.take {w : World} {p : Nat} {A : Option Addr} {l : List UInt8} {cap : Nat} (h : Left w p A l cap) (n : Nat) (hn : n ≤ l.length) : BS w 0 (.slice A n n) (l.take n) := by
  have hlen : (l.take n).length = n := by rw [List.length_take]; omega
  refine ⟨A, n, by rw [hlen], by rw [hlen]; exact Nat.le_refl _, fun hp => ?_⟩
  rw [hlen] at hp
  obtain ⟨g, o, rfl, _, hlt, hc⟩ := h.2 (by omega)
  refine ⟨g, o, rfl, Nat.zero_le _, hlt, fun j hj => ?_⟩
  rw [hlen] at hj
  have := hc j (by omega)
  rw [List.getElem_take]
  exact this

theorem next_err (p : Nat) (l : List UInt8) (err n : Int) (b : Bool) (w : World) (h : Rd w p l err) (he : err ≠ 0) :
    Calls Tryd.prog 32 #[.pointer (some ⟨p, 0, none⟩), .int .i64 n, .bool b] w fun e w' => e = .returned (.slice none 0 0) ∧ w = w' := by
  obtain ⟨A, cap, hc, hl⟩ := h
  have c0 := hc.cell 0
  have c1 := hc.cell 1
  have hb : (err != 0) = true := by simpa using he
  simp at c0 c1
  clear hc hl he
  go_enter Tryd.func32, Tryd.ntmps32
  go_wp2_with fail
  go_ret
  exact ⟨rfl, rfl⟩

theorem next_bad (p : Nat) (l : List UInt8) (n : Int) (w : World) (h : Rd w p l 0) :
    Calls Tryd.prog 32 #[.pointer (some ⟨p, 0, none⟩), .int .i64 n, .bool false] w fun e w' => e = .returned (.slice none 0 0) ∧ Rd w' p l 4 ∧ w.grownBy w' (some p) := by
  obtain ⟨A, cap, hc, hl⟩ := h
  have c0 := hc.cell 0
  have c1 := hc.cell 1
  have f1 := hc.frozen 1
  simp at c0 c1
  go_enter Tryd.func32, Tryd.ntmps32
  go_wp2_with fail
  go_ret
  exact ⟨rfl, ⟨A, cap, hc.set 1 _, hl.only (only_set ..)⟩, only_set ..⟩

theorem next_short (p : Nat) (l : List UInt8) (n : Int) (w : World) (h : Rd w p l 0) (hm : l.length ≤ 9223372036854775807) (hn : (l.length : Int) < n) :
    Calls Tryd.prog 32 #[.pointer (some ⟨p, 0, none⟩), .int .i64 n, .bool true] w fun e w' => e = .returned (.slice none 0 0) ∧ Rd w' p l 1 ∧ w.grownBy w' (some p) := by
  obtain ⟨A, cap, hc, hl⟩ := h
  have c0 := hc.cell 0
  have c1 := hc.cell 1
  have f1 := hc.frozen 1
  simp at c0 c1
  go_enter Tryd.func32, Tryd.ntmps32
  go_wp2_with fail
  go_ret
  exact ⟨rfl, ⟨A, cap, hc.set 1 _, hl.only (only_set ..)⟩, only_set ..⟩

theorem next_ok (p : Nat) (l : List UInt8) (n : Nat) (w : World) (h : Rd w p l 0) (hm : l.length ≤ 9223372036854775807) (hn : n ≤ l.length) :
    Calls Tryd.prog 32 #[.pointer (some ⟨p, 0, none⟩), .int .i64 n, .bool true] w fun e w' => ∃ A, e = .returned (.slice A n n) ∧ BS w' 0 (.slice A n n) (l.take n) ∧ Rd w' p (l.drop n) 0 ∧ w.grownBy w' (some p) := by
  obtain ⟨A, cap, hc, hl⟩ := h
  have c0 := hc.cell 0
  have c1 := hc.cell 1
  have f0 := hc.frozen 0
  have hcap := hl.1
  simp at c0 c1
  by_cases hcn : cap = n
  · obtain rfl : cap = l.length := by omega
    subst hcn
    go_enter Tryd.func32, Tryd.ntmps32
    go_wp2_with fail
    go_ret
    have hx := hc.set 0 (.slice A 0 0)
    exact ⟨A, rfl, ((hl.only (only_set w p 0 _)).take _ (Nat.le_refl _)), ⟨A, 0, by simpa using hx, by simp, by simp⟩, only_set ..⟩
  · go_enter Tryd.func32, Tryd.ntmps32
    go_wp2_with fail
    go_ret
    have hx := hc.set 0 (.slice (A.map fun x => x.add n) (l.length - n) (cap - n))
    rw [← List.length_drop] at hx
    exact ⟨A, rfl, ((hl.only (only_set w p 0 _)).take _ hn), ⟨_, _, by rw [List.length_drop] at *; exact hx, (hl.drop n hn).only (only_set ..)⟩, only_set ..⟩

/-- How a reader answers a call of Int. -/
def intOk (l : List UInt8) (n : Int) : Prop := 1 ≤ n ∧ n ≤ 7 ∧ n ≤ l.length

theorem int_err (p : Nat) (l : List UInt8) (err n : Int) (w : World) (h : Rd w p l err) (he : err ≠ 0) :
    Calls Tryd.prog 19 #[.pointer (some ⟨p, 0, none⟩), .int .i64 n] w fun e w' => e = .returned (.int .i64 0) ∧ Rd w' p l err ∧ w.grownBy w' (some p) := by
  have hv : ∃ b, Calls Tryd.prog 33 #[.int .i64 n] w fun e w' => e = .returned (.bool b) ∧ w = w' := by
    by_cases hn : 1 ≤ n ∧ n ≤ 7
    · exact ⟨true, valid_yes n w hn.1 hn.2⟩
    · exact ⟨false, valid_no n w (by omega)⟩
  obtain ⟨b, hvb⟩ := hv
  have HV := Lib.hid hvb
  clear hvb
  go_enter Tryd.func19, Tryd.ntmps19
  go_wp2_with fail
  refine HV.out.mono ?_
  rintro e w1 ⟨rfl, rfl⟩
  go_wp2_with fail
  refine (next_err p l err n b _ h he).mono ?_
  rintro e w1 ⟨rfl, rfl⟩
  go_wp2_with fail
  refine (number_any none 0 0 [] _ (bs_nil _ _) (by simp)).mono ?_
  rintro e w1 ⟨rfl, rfl⟩
  go_wp2_with fail
  go_ret
  exact ⟨rfl, h, only_refl ..⟩

theorem int_bad (p : Nat) (l : List UInt8) (n : Int) (w : World) (h : Rd w p l 0) (hn : n < 1 ∨ 7 < n) :
    Calls Tryd.prog 19 #[.pointer (some ⟨p, 0, none⟩), .int .i64 n] w fun e w' => e = .returned (.int .i64 0) ∧ Rd w' p l 4 ∧ w.grownBy w' (some p) := by
  go_enter Tryd.func19, Tryd.ntmps19
  go_wp2_with fail
  refine (valid_no n _ hn).mono ?_
  rintro e w1 ⟨rfl, rfl⟩
  go_wp2_with fail
  refine (next_bad p l n _ h).mono ?_
  rintro e w1 ⟨rfl, h1, hg1⟩
  go_wp2_with fail
  refine (number_any none 0 0 [] _ (bs_nil _ _) (by simp)).mono ?_
  rintro e w2 ⟨rfl, rfl⟩
  go_wp2_with fail
  go_ret
  exact ⟨rfl, h1, hg1⟩

theorem int_short (p : Nat) (l : List UInt8) (n : Int) (w : World) (h : Rd w p l 0) (hm : l.length ≤ 9223372036854775807) (h1 : 1 ≤ n) (h7 : n ≤ 7) (hn : (l.length : Int) < n) :
    Calls Tryd.prog 19 #[.pointer (some ⟨p, 0, none⟩), .int .i64 n] w fun e w' => e = .returned (.int .i64 0) ∧ Rd w' p l 1 ∧ w.grownBy w' (some p) := by
  go_enter Tryd.func19, Tryd.ntmps19
  go_wp2_with fail
  refine (valid_yes n _ h1 h7).mono ?_
  rintro e w1 ⟨rfl, rfl⟩
  go_wp2_with fail
  refine (next_short p l n _ h hm hn).mono ?_
  rintro e w1 ⟨rfl, h1, hg1⟩
  go_wp2_with fail
  refine (number_any none 0 0 [] _ (bs_nil _ _) (by simp)).mono ?_
  rintro e w2 ⟨rfl, rfl⟩
  go_wp2_with fail
  go_ret
  exact ⟨rfl, h1, hg1⟩

theorem int_ok (p : Nat) (l : List UInt8) (n : Nat) (w : World) (h : Rd w p l 0) (hm : l.length ≤ 9223372036854775807) (h1 : 1 ≤ n) (h7 : n ≤ 7) (hn : n ≤ l.length) :
    Calls Tryd.prog 19 #[.pointer (some ⟨p, 0, none⟩), .int .i64 n] w fun e w' => e = .returned (.int .i64 (num (l.take n) : Nat)) ∧ Rd w' p (l.drop n) 0 ∧ w.grownBy w' (some p) := by
  have hlen : (l.take n).length = n := by rw [List.length_take]; omega
  have HL := Lib.hid hlen
  clear hlen
  go_enter Tryd.func19, Tryd.ntmps19
  go_wp2_with fail
  refine (valid_yes n _ (by omega) (by omega)).mono ?_
  rintro e w1 ⟨rfl, rfl⟩
  go_wp2_with fail
  refine (next_ok p l n _ h hm hn).mono ?_
  rintro e w1 ⟨A, rfl, hbs, h2, hg1⟩
  go_wp2_with fail
  have hc := number_any A n 0 (l.take n) w1 (by rw [HL.out]; exact hbs) (by rw [HL.out]; exact h7)
  rw [HL.out] at hc
  refine hc.mono ?_
  rintro e w2 ⟨rfl, rfl⟩
  go_wp2_with fail
  go_ret
  exact ⟨rfl, h2, hg1⟩

theorem take_err (p : Nat) (l : List UInt8) (err n : Int) (w : World) (h : Rd w p l err) (he : err ≠ 0) :
    Calls Tryd.prog 34 #[.pointer (some ⟨p, 0, none⟩), .int .i64 n] w fun e w' => e = .returned (.string (str [])) ∧ Rd w' p l err ∧ w.grownBy w' (some p) := by
  have hcv := bs_string (l := []) (A := none) (cap := 0) (bs_nil w 0)
  simp only [List.length_nil] at hcv
  go_enter Tryd.func34, Tryd.ntmps34
  go_wp2_with fail
  refine (next_err p l err n _ _ h he).mono ?_
  rintro e w1 ⟨rfl, rfl⟩
  go_wp2_with fail
  go_ret
  exact ⟨rfl, h, only_refl ..⟩

theorem take_bad (p : Nat) (l : List UInt8) (n : Int) (w : World) (h : Rd w p l 0) (hn : n < 0) :
    Calls Tryd.prog 34 #[.pointer (some ⟨p, 0, none⟩), .int .i64 n] w fun e w' => e = .returned (.string (str [])) ∧ Rd w' p l 4 ∧ w.grownBy w' (some p) := by
  have hd : decide (0 ≤ n) = false := by simp; omega
  go_enter Tryd.func34, Tryd.ntmps34
  go_wp2_with fail
  refine (next_bad p l n _ h).mono ?_
  rintro e w1 ⟨rfl, h1, hg1⟩
  have hcv := bs_string (l := []) (A := none) (cap := 0) (bs_nil w1 0)
  simp only [List.length_nil] at hcv
  go_wp2_with fail
  go_ret
  exact ⟨rfl, h1, hg1⟩

theorem take_short (p : Nat) (l : List UInt8) (n : Int) (w : World) (h : Rd w p l 0) (hm : l.length ≤ 9223372036854775807) (hn : (l.length : Int) < n) :
    Calls Tryd.prog 34 #[.pointer (some ⟨p, 0, none⟩), .int .i64 n] w fun e w' => e = .returned (.string (str [])) ∧ Rd w' p l 1 ∧ w.grownBy w' (some p) := by
  have hd : decide (0 ≤ n) = true := by simp; omega
  go_enter Tryd.func34, Tryd.ntmps34
  go_wp2_with fail
  refine (next_short p l n _ h hm hn).mono ?_
  rintro e w1 ⟨rfl, h1, hg1⟩
  have hcv := bs_string (l := []) (A := none) (cap := 0) (bs_nil w1 0)
  simp only [List.length_nil] at hcv
  go_wp2_with fail
  go_ret
  exact ⟨rfl, h1, hg1⟩

theorem take_ok (p : Nat) (l : List UInt8) (n : Nat) (w : World) (h : Rd w p l 0) (hm : l.length ≤ 9223372036854775807) (hn : n ≤ l.length) :
    Calls Tryd.prog 34 #[.pointer (some ⟨p, 0, none⟩), .int .i64 n] w fun e w' => e = .returned (.string (str (l.take n))) ∧ Rd w' p (l.drop n) 0 ∧ w.grownBy w' (some p) := by
  have hlen : (l.take n).length = n := by rw [List.length_take]; omega
  have HL := Lib.hid hlen
  clear hlen
  have hd : decide (0 ≤ (n : Int)) = true := by simp
  go_enter Tryd.func34, Tryd.ntmps34
  go_wp2_with fail
  refine (next_ok p l n _ h hm hn).mono ?_
  rintro e w1 ⟨A, rfl, hbs, h2, hg1⟩
  have hcv := bs_string (l := l.take n) (A := A) (cap := n) (w := w1) (base := 0) (by rw [HL.out]; exact hbs)
  rw [HL.out] at hcv
  go_wp2_with fail
  go_ret
  exact ⟨rfl, h2, hg1⟩

theorem left_any (p : Nat) (l : List UInt8) (err : Int) (w : World) (h : Rd w p l err) :
    Calls Tryd.prog 35 #[.pointer (some ⟨p, 0, none⟩)] w fun e w' => e = .returned (.int .i64 (l.length : Nat)) ∧ w = w' := by
  obtain ⟨A, cap, hc, hl⟩ := h
  have c0 := hc.cell 0
  simp at c0
  go_enter Tryd.func35, Tryd.ntmps35
  go_wp2_with fail
  go_ret
  exact ⟨rfl, rfl⟩

theorem err_any (p : Nat) (l : List UInt8) (err : Int) (w : World) (h : Rd w p l err) :
    Calls Tryd.prog 21 #[.pointer (some ⟨p, 0, none⟩)] w fun e w' => e = .returned (.int .i64 err) ∧ w = w' := by
  obtain ⟨A, cap, hc, hl⟩ := h
  have c1 := hc.cell 1
  simp at c1
  go_enter Tryd.func21, Tryd.ntmps21
  go_wp2_with fail
  go_ret
  exact ⟨rfl, rfl⟩

theorem rest_err (p : Nat) (l : List UInt8) (err : Int) (w : World) (h : Rd w p l err) (he : err ≠ 0) :
    Calls Tryd.prog 22 #[.pointer (some ⟨p, 0, none⟩)] w fun e w' => e = .returned (.string (str [])) ∧ Rd w' p l err ∧ w.grownBy w' (some p) := by
  go_enter Tryd.func22, Tryd.ntmps22
  go_wp2_with fail
  refine (left_any p l err _ h).mono ?_
  rintro e w1 ⟨rfl, rfl⟩
  go_wp2_with fail
  refine (take_err p l err _ _ h he).mono ?_
  rintro e w1 ⟨rfl, h1, hg⟩
  go_wp2_with fail
  go_ret
  exact ⟨rfl, h1, hg⟩

theorem rest_ok (p : Nat) (l : List UInt8) (w : World) (h : Rd w p l 0) (hm : l.length ≤ 9223372036854775807) :
    Calls Tryd.prog 22 #[.pointer (some ⟨p, 0, none⟩)] w fun e w' => e = .returned (.string (str l)) ∧ Rd w' p [] 0 ∧ w.grownBy w' (some p) := by
  go_enter Tryd.func22, Tryd.ntmps22
  go_wp2_with fail
  refine (left_any p l 0 _ h).mono ?_
  rintro e w1 ⟨rfl, rfl⟩
  go_wp2_with fail
  refine (take_ok p l l.length _ h hm (Nat.le_refl _)).mono ?_
  rw [List.take_length, List.drop_length]
  rintro e w1 ⟨rfl, h1, hg⟩
  go_wp2_with fail
  go_ret
  exact ⟨rfl, h1, hg⟩

theorem Rd.kept {w w' : World} {p : Nat} {l : List UInt8} {err : Int} (h : Rd w p l err) (hb : Below w.heap.size w w') : Rd w' p l err := by
  obtain ⟨A, cap, hc, hl⟩ := h
  exact ⟨A, cap, hc.only (only_below hb none) (by simp), hl.only (only_below hb _)⟩
theorem Rd.lt {w : World} {p : Nat} {l : List UInt8} {err : Int} (h : Rd w p l err) : p < w.heap.size := by
  obtain ⟨A, cap, hc, hl⟩ := h
  exact hc.lt
/-- A step that writes block p alone keeps what lies below a number up to p. -/
theorem below_only {B : Nat} {a w w' : World} {p : Nat} (h : Below B a w) (hg : w.grownBy w' (some p)) (hp : B ≤ p) (hB : B ≤ w.heap.size) : Below B a w' :=
  h.grown hg hB (fun k hk => by injection hk with hk; omega)

theorem cells_new (w : World) (t : TypeId) (cs : Array Value) : Cells (w.alloc (.cells cs t)) w.heap.size t cs := heap_alloc_new w _

theorem rd_new (w : World) (s : ByteArray) (cap : Nat) (hcap : s.size ≤ cap) :
    Rd ((w.alloc (.cells (bytesRow s cap) 5 ((bytesRow s cap).size, (bytesRow s cap).size + 1))).alloc (.cells #[.slice (some ⟨w.heap.size, 0, none⟩) s.size cap, .int .i64 0] 58)) (w.heap.size + 1) s.data.toList 0 := by
  have hl : s.data.toList.length = s.size := by simp
  have hz : (w.alloc (.cells (bytesRow s cap) 5 ((bytesRow s cap).size, (bytesRow s cap).size + 1))).heap.size = w.heap.size + 1 := by simp
  have hb := bs_new w s cap hcap
  generalize w.alloc (.cells (bytesRow s cap) 5 ((bytesRow s cap).size, (bytesRow s cap).size + 1)) = w1 at *
  obtain ⟨A, c, hv, hc, hr⟩ := hb
  cases hv
  refine ⟨some ⟨w.heap.size, 0, none⟩, cap, ?_, ?_⟩
  · rw [hl, ← hz]
    exact cells_new w1 _ _
  · refine ⟨hc, fun hp => ?_⟩
    obtain ⟨g, o, e, _, hlt, hcell⟩ := hr hp
    injection e with e
    cases e
    refine ⟨_, 0, rfl, by omega, by simp; omega, fun j hj => ?_⟩
    have hk := (Below.refl w1.heap.size w1).alloc (Nat.le_refl _) (.cells #[.slice (some ⟨w.heap.size, 0, none⟩) s.size cap, .int .i64 0] 58)
    rw [hk.cell (p := ⟨w.heap.size, 0 + j, none⟩) hlt, hk.frozen (p := ⟨w.heap.size, 0 + j, none⟩) hlt]
    exact hcell j hj

theorem new_any (s : ByteArray) (w : World) :
    Calls Tryd.prog 18 #[.string s] w fun e w' => ∃ p, e = .returned (.pointer (some ⟨p, 0, none⟩)) ∧ w.heap.size ≤ p ∧ Rd w' p s.data.toList 0 ∧ Below w.heap.size w w' := by
  have hconv := fun W s' => run_bytes_of_string (P := Tryd.prog) W 9 48 5 s' Tryd.underlying9 Tryd.underlying48 Tryd.underlying5
  go_enter Tryd.func18, Tryd.ntmps18
  go_wp2_with fail
  go_ret
  have hcap : s.size ≤ grownCap w s.size 0 5 := grownCap_ge ..
  exact ⟨w.heap.size + 1, rfl, by omega, rd_new w s _ hcap, (((Below.refl _ _).alloc (Nat.le_refl _) _).alloc (by simp) _).drew⟩
end Go.Proofs.YtpfhljidjnagkaaDoor

/- Slices of elements of any fixed number of cells: how they read, how they are appended to; for any element. -/
namespace Go.Proofs.YtpfhljidjnagkaaDoor
open Go.ChangeShapes Go.WideShapes Go.ChangeAt Go.RowKit
set_option linter.unusedVariables false

/-- How an element lies: its cells. -/
structure Enc (α : Type) where
  k : Nat
  pos : 0 < k
  c : α → List Value
  len : ∀ x, (c x).length = k
  one : ∀ x, ∀ v ∈ c x, v.oneCell' = true
variable {α : Type}
def Enc.cells (E : Enc α) (l : List α) : List Value := l.flatMap E.c
theorem Enc.cells_nil (E : Enc α) : E.cells [] = [] := rfl
theorem Enc.cells_cons (E : Enc α) (x : α) (l : List α) : E.cells (x :: l) = E.c x ++ E.cells l := rfl
theorem Enc.cells_append (E : Enc α) (a b : List α) : E.cells (a ++ b) = E.cells a ++ E.cells b := by simp [Enc.cells]
theorem Enc.cells_one (E : Enc α) (x : α) : E.cells [x] = E.c x := by simp [Enc.cells]
theorem Enc.cells_snoc (E : Enc α) (l : List α) (x : α) : E.cells (l ++ [x]) = E.cells l ++ E.c x := by rw [E.cells_append, E.cells_one]
theorem Enc.cells_length (E : Enc α) (l : List α) : (E.cells l).length = l.length * E.k := by
  induction l with
  | nil => simp [Enc.cells]
  | cons x r ih => rw [E.cells_cons, List.length_append, ih, E.len, List.length_cons, Nat.add_mul, Nat.one_mul, Nat.add_comm]
theorem Enc.cells_get (E : Enc α) : ∀ (l : List α) (i : Nat) (x : α) (j : Nat), l[i]? = some x → j < E.k → (E.cells l)[i * E.k + j]? = (E.c x)[j]?
  | [], i, x, j, h, _ => by simp at h
  | y :: r, 0, x, j, h, hj => by
    simp only [List.getElem?_cons_zero, Option.some.injEq] at h
    subst h
    rw [E.cells_cons, Nat.zero_mul, Nat.zero_add, List.getElem?_append_left (by rw [E.len]; exact hj)]
  | y :: r, i + 1, x, j, h, hj => by
    rw [E.cells_cons, List.getElem?_append_right (by rw [E.len, Nat.add_mul]; omega), E.len, show (i + 1) * E.k + j - E.k = i * E.k + j by rw [Nat.add_mul]; omega]
    exact E.cells_get r i x j (by simpa using h) hj
theorem Enc.cells_one' (E : Enc α) (l : List α) : ∀ u ∈ E.cells l, u.oneCell' = true := by
  intro u hu
  unfold Enc.cells at hu
  obtain ⟨s, _, hs⟩ := List.mem_flatMap.1 hu
  exact E.one s u hs
theorem Enc.cells_take (E : Enc α) : ∀ (l : List α) (n : Nat), (E.cells l).take (n * E.k) = E.cells (l.take n)
  | [], n => by simp [Enc.cells]
  | x :: r, 0 => by simp [Enc.cells]
  | x :: r, n + 1 => by
    rw [E.cells_cons, List.take_succ_cons, E.cells_cons, ← E.cells_take r n, List.take_append, E.len, show (n + 1) * E.k - E.k = n * E.k by rw [Nat.add_mul]; omega, List.take_of_length_le (by rw [E.len, Nat.add_mul]; omega)]
theorem Enc.cells_at (E : Enc α) : ∀ (l : List α) (j : Nat) (u : Value), (E.cells l)[j]? = some u → ∃ i x t, l[i]? = some x ∧ t < E.k ∧ j = i * E.k + t ∧ (E.c x)[t]? = some u
  | [], j, u, h => by simp [Enc.cells] at h
  | y :: r, j, u, h => by
    rw [E.cells_cons] at h
    by_cases hj : j < E.k
    · rw [List.getElem?_append_left (by rw [E.len]; exact hj)] at h
      exact ⟨0, y, j, rfl, hj, by omega, h⟩
    · rw [List.getElem?_append_right (by rw [E.len]; omega), E.len] at h
      obtain ⟨i, x, t, h1, h2, h3, h4⟩ := E.cells_at r (j - E.k) u h
      exact ⟨i + 1, x, t, by simpa using h1, h2, by rw [Nat.add_mul]; omega, h4⟩
/-- A slice that reads as the elements l. -/
def RowL (E : Enc α) (w : World) (A : Option Addr) (l : List α) : Prop :=
  0 < l.length → ∃ g o, A = some ⟨g, o, none⟩ ∧ g < w.heap.size ∧ ∀ i x, l[i]? = some x → ∀ j v, (E.c x)[j]? = some v → w.cell? ⟨g, o + i * E.k + j, none⟩ = some v
variable {E : Enc α}
theorem RowL.nil (w : World) (A : Option Addr) : RowL E w A [] := fun h => absurd h (by simp)
theorem RowL.kept {w w' : World} {A : Option Addr} {l : List α} (h : RowL E w A l) (hb : Below w.heap.size w w') : RowL E w' A l := fun hp => by
  obtain ⟨g, o, e, hg, hc⟩ := h hp
  refine ⟨g, o, e, Nat.lt_of_lt_of_le hg hb.size, fun i x hx j v hv => ?_⟩
  rw [World.cell?_of_block (w := w) (w' := w') (a := ⟨g, o + i * E.k + j, none⟩) (hb.block g hg)]
  exact hc i x hx j v hv
theorem RowL.drewN {w : World} {A : Option Addr} {l : List α} (h : RowL E w A l) (q : Nat) : RowL E (w.drewN q) A l := h
theorem RowL.only {w w' : World} {A : Option Addr} {l : List α} {b : Option Nat} (h : RowL E w A l) (hg : w.grownBy w' b) (hne : ∀ a, A = some a → some a.block ≠ b) : RowL E w' A l := fun hp => by
  obtain ⟨g, o, e, hg1, hc⟩ := h hp
  refine ⟨g, o, e, Nat.lt_of_lt_of_le hg1 hg.size, fun i x hx j v hv => ?_⟩
  rw [World.cell?_of_block (w := w) (w' := w') (a := ⟨g, o + i * E.k + j, none⟩) (hg.block g hg1 (hne _ e))]
  exact hc i x hx j v hv
theorem RowL.tail {w : World} {g o : Nat} {x : α} {r : List α} (h : RowL E w (some ⟨g, o, none⟩) (x :: r)) : RowL E w (some ⟨g, o + E.k, none⟩) r := fun hp => by
  obtain ⟨g', o', e, hg, hc⟩ := h (by simp)
  obtain ⟨rfl, rfl⟩ : g = g' ∧ o = o' := by simp only [Option.some.injEq, Addr.mk.injEq] at e; exact ⟨e.1, e.2.1⟩
  refine ⟨g, o + E.k, rfl, hg, fun i t ht j v hv => ?_⟩
  have := hc (i + 1) t (by simpa using ht) j v hv
  rwa [show o + (i + 1) * E.k + j = o + E.k + i * E.k + j by rw [Nat.add_mul]; omega] at this
/-- One element's cells, in every later world. -/
theorem RowL.at_ {w w' : World} {g o : Nat} {l : List α} {i : Nat} {x : α} (h : RowL E w (some ⟨g, o, none⟩) l) (hx : l[i]? = some x) (hb : Below w.heap.size w w') : ∀ j v, (E.c x)[j]? = some v → w'.cell? ⟨g, o + i * E.k + j, none⟩ = some v := by
  obtain ⟨g', o', e, hg, hc⟩ := (h.kept hb) (Nat.lt_of_le_of_lt (Nat.zero_le _) (List.getElem?_eq_some_iff.1 hx).1)
  obtain ⟨rfl, rfl⟩ : g = g' ∧ o = o' := by simp only [Option.some.injEq, Addr.mk.injEq] at e; exact ⟨e.1, e.2.1⟩
  exact hc i x hx
theorem addr_add7 (g o j : Nat) : (⟨g, o, none⟩ : Addr).add j = ⟨g, o + j, none⟩ := by
  unfold Addr.add
  split
  · simp_all
  · rfl
theorem RowL.news {w : World} {ad : Addr} {l : List α} (h : RowL E w (some ad) l) : ∀ j u, (E.cells l)[j]? = some u → w.cell? (ad.add j) = some u := fun j u hu => by
  obtain ⟨i, x, t, hx, ht, rfl, hv⟩ := E.cells_at l j u hu
  obtain ⟨g, o, e, hg, hc⟩ := h (Nat.lt_of_le_of_lt (Nat.zero_le _) (List.getElem?_eq_some_iff.1 hx).1)
  obtain rfl := Option.some.inj e
  rw [addr_add7, ← Nat.add_assoc]
  exact hc i x hx t u hv
/-- A slice that the call owns reads so. -/
theorem rowl_of_own {w : World} {base : Nat} {e : TypeId} {A : Option Addr} {n cap : Nat} {l : List α} (h : w.ownsRow base e E.k (.slice A n cap) n (E.cells l)) (hn : n = l.length) : RowL E w A l := fun hp => by
  subst hn
  rcases h.2 with ⟨_, h0⟩ | ⟨g, c, cur, hv, hg, hh, hnc, hcm, hs, ht⟩
  · omega
  · simp only [Value.slice.injEq, true_and] at hv
    obtain ⟨rfl, rfl⟩ := hv
    refine ⟨g, 0, rfl, (Array.getElem?_eq_some_iff.1 hh).1, fun i x hx j v hv => ?_⟩
    have hj : j < E.k := by
      have := (List.getElem?_eq_some_iff.1 hv).1
      rwa [E.len] at this
    have hi := (List.getElem?_eq_some_iff.1 hx).1
    have hlt : i * E.k + j < l.length * E.k := by
      have : (i + 1) * E.k ≤ l.length * E.k := Nat.mul_le_mul_right _ hi
      rw [Nat.add_mul] at this
      omega
    rw [Nat.zero_add, h.cellAt _ hlt, E.cells_get l i x j hx hj]
    exact hv
theorem own_blocks {w w' : World} {base : Nat} {e : TypeId} {size : Nat} {v : Value} {n : Nat} {xs : List Value} (h : w.ownsRow base e size v n xs) (hb : ∀ b, base ≤ b → b < w.heap.size → w'.heap[b]? = w.heap[b]?) : w'.ownsRow base e size v n xs := by
  refine ⟨h.1, ?_⟩
  rcases h.2 with hn | ⟨g, cap, cur, hv, hg, hh, rest⟩
  · exact .inl hn
  · exact .inr ⟨g, cap, cur, hv, hg, (hb g hg (Array.getElem?_eq_some_iff.1 hh).1).trans hh, rest⟩
theorem own_kept {w w' : World} {base B : Nat} {e : TypeId} {size : Nat} {v : Value} {n : Nat} {xs : List Value} (h : w.ownsRow base e size v n xs) (hb : Below B w w') (hB : w.heap.size ≤ B) : w'.ownsRow base e size v n xs :=
  own_blocks h fun b _ hl => hb.block b (Nat.lt_of_lt_of_le hl hB)
/-- What another row's growing leaves. -/
theorem own_only {w w' : World} {base : Nat} {e : TypeId} {size : Nat} {v : Value} {n : Nat} {xs : List Value} {b : Option Nat} (h : w.ownsRow base e size v n xs) (hg : w.grownBy w' b) (hne : ∀ c, v.ownBlock = some c → some c ≠ b) : w'.ownsRow base e size v n xs := by
  refine ⟨h.1, ?_⟩
  rcases h.2 with hn | ⟨g, cap, cur, hv, hb, hh, rest⟩
  · exact .inl hn
  · exact .inr ⟨g, cap, cur, hv, hb, (hg.block g (Array.getElem?_eq_some_iff.1 hh).1 (hne g (by rw [hv]; rfl))).trans hh, rest⟩
theorem own_mono {w : World} {base base' : Nat} {e : TypeId} {size : Nat} {v : Value} {n : Nat} {xs : List Value} (h : w.ownsRow base e size v n xs) (hb : base' ≤ base) : w.ownsRow base' e size v n xs := by
  refine ⟨h.1, ?_⟩
  rcases h.2 with hn | ⟨g, cap, cur, hv, hg, rest⟩
  · exact .inl hn
  · exact .inr ⟨g, cap, cur, hv, Nat.le_trans hb hg, rest⟩
theorem own_shape {w : World} {base : Nat} {e : TypeId} {size : Nat} {v : Value} {n : Nat} {xs : List Value} (h : w.ownsRow base e size v n xs) : ∃ A c, v = .slice A n c := by
  rcases h.2 with ⟨h1, h2⟩ | ⟨g, c, cur, h1, _⟩
  · subst h2; exact ⟨_, _, h1⟩
  · exact ⟨_, _, h1⟩
theorem own_cap {w : World} {base : Nat} {e : TypeId} {size : Nat} {A : Option Addr} {n c : Nat} {xs : List Value} (h : w.ownsRow base e size (.slice A n c) n xs) : n ≤ c ∧ c ≤ maxLen := by
  rcases h.2 with ⟨h1, h2⟩ | ⟨g, c', cur, h1, _, _, h2, h3, _⟩
  · simp only [Value.slice.injEq] at h1
    obtain ⟨_, h3, h4⟩ := h1
    subst h3 h4
    exact ⟨Nat.le_refl _, Nat.zero_le _⟩
  · simp only [Value.slice.injEq, true_and] at h1
    obtain ⟨_, rfl⟩ := h1
    exact ⟨h2, h3⟩
theorem own_none {w : World} {base : Nat} {e : TypeId} {size : Nat} {n c : Nat} {xs : List Value} (h : w.ownsRow base e size (.slice none n c) n xs) : n = 0 ∧ c = 0 := by
  rcases h.2 with ⟨h1, h2⟩ | ⟨g, c', cur, h1, _⟩
  · simp only [Value.slice.injEq, true_and] at h1
    exact ⟨h2, h1.2⟩
  · simp at h1
theorem own_start {w : World} {base : Nat} {e : TypeId} {size : Nat} {g o : Nat} {pt : Option Nat} {n c : Nat} {xs : List Value} (h : w.ownsRow base e size (.slice (some ⟨g, o, none⟩) n c) n xs) : o = 0 ∧ base ≤ g ∧ g < w.heap.size := by
  rcases h.2 with ⟨h1, h2⟩ | ⟨g', c', cur, h1, hb, hh, _⟩
  · simp at h1
  · simp only [Value.slice.injEq, Option.some.injEq, Addr.mk.injEq, and_true, true_and] at h1
    obtain ⟨⟨rfl, rfl⟩, _⟩ := h1
    exact ⟨rfl, hb, (Array.getElem?_eq_some_iff.1 hh).1⟩
/-- The last elements cut off: still owned. -/
theorem own_cut {w : World} {base : Nat} {e : TypeId} {A : Option Addr} {n m c : Nat} {l : List α} (h : w.ownsRow base e E.k (.slice A n c) n (E.cells l)) (hn : n = l.length) (hm : m ≤ n) : w.ownsRow base e E.k (.slice A m c) m (E.cells (l.take m)) := by
  subst hn
  refine ⟨by rw [E.cells_length, List.length_take, Nat.min_eq_left hm], ?_⟩
  rcases h.2 with ⟨h1, h2⟩ | ⟨g, c', cur, h1, hb, hh, hnc, hcm, hs, ht⟩
  · simp only [Value.slice.injEq] at h1
    obtain ⟨rfl, _, rfl⟩ := h1
    obtain rfl : m = 0 := by omega
    exact .inl ⟨rfl, rfl⟩
  · simp only [Value.slice.injEq, true_and] at h1
    obtain ⟨rfl, rfl⟩ := h1
    refine .inr ⟨g, c, cur, rfl, hb, hh, by omega, hcm, hs, ?_⟩
    rw [← E.cells_take, ← ht, List.take_take, Nat.min_eq_left (Nat.mul_le_mul_right _ hm)]
/-- An empty slice literal. -/
theorem own_empty (E : Enc α) (w : World) (e : TypeId) {base : Nat} (h : base ≤ w.heap.size) : (w.alloc (.cells #[] e)).ownsRow base e E.k (.slice (some ⟨w.heap.size, 0, none⟩) 0 0) 0 (E.cells []) :=
  ⟨by simp [Enc.cells], .inr ⟨w.heap.size, 0, #[], rfl, h, heap_alloc_new w _, Nat.le_refl _, Nat.zero_le _, by simp, by simp [Enc.cells]⟩⟩
/-- A block of whole elements, as a literal or the arguments of a call lay it. -/
theorem rowl_block {w : World} {B : Nat} {cs : Array Value} {t : TypeId} {fr : Nat × Nat} {l : List α} (h : w.heap[B]? = some (.cells cs t fr)) (hc : cs.toList = E.cells l) : RowL E w (some ⟨B, 0, none⟩) l := fun hp =>
  ⟨B, 0, rfl, (Array.getElem?_eq_some_iff.1 h).1, fun i x hx j v hv => by
    have hj : j < E.k := by
      have := (List.getElem?_eq_some_iff.1 hv).1
      rwa [E.len] at this
    rw [Nat.zero_add, cell_of_row w B _ cs t fr h]
    have := E.cells_get l i x j hx hj
    rw [← hc] at this
    rw [← hv, ← this]
    simp⟩
theorem heap2 (w : World) (a b : Obj) : ((w.alloc a).alloc b).heap[w.heap.size + 1]? = some b := by
  have := heap_alloc_new (w.alloc a) b
  rwa [show (w.alloc a).heap.size = w.heap.size + 1 by simp] at this
/-- What the program says of the types of a slice and its elements. -/
structure ElemTy (t e : TypeId) (k bytes : Nat) : Prop where
  und : Tryd.prog.underlying t = some (.slice e)
  info : ∃ i z, Tryd.prog.info? e = some i ∧ i.zero = some z ∧ i.size = k ∧ i.bytes = bytes ∧ z.cells.size = k
/-- append(out, x, ..): elements that lie in a block of their own, onto a slice that the call owns. -/
theorem wpList_push {t e : TypeId} {bytes : Nat} {w : World} {ops : Array Oper} {rest : List Oper} {o : Oper} {a : Act} {Q : Exit → Act → World → Prop} (T : ElemTy t e E.k bytes) (hgd : o.guard = none) (s x : Operand)
    (ho : o.op = .call { callee := .builtin .append, args := #[s, x], argTypes := #[t, t] })
    (base : Nat) (v : Value) (n : Nat) (l ys : List α) (hs : a.eval s = v) (hown : w.ownsRow base e E.k v n (E.cells l))
    (B m c : Nat) (cs : Array Value) (fr : Nat × Nat) (hx : a.eval x = .slice (some ⟨B, 0, none⟩) m c) (hB : w.heap[B]? = some (.cells cs e fr)) (hcs : cs.toList = E.cells ys) (hm : m = ys.length) (hm0 : 0 < m) (hn : n + m ≤ 1000000) (hby : bytes ≤ 1000) (hbase : base ≤ w.heap.size)
    (h : ∀ g cap w', w'.ownsRow base e E.k (.slice (some ⟨g, 0, none⟩) (n + m) cap) (n + m) (E.cells (l ++ ys)) → w.grownBy w' v.ownBlock → (v.ownBlock = some g ∨ g = w.heap.size) → g < w'.heap.size → wpList Tryd.prog ops Q rest (a.put o.dst (.slice (some ⟨g, 0, none⟩) (n + m) cap)) w') : wpList Tryd.prog ops Q (o :: rest) a w := by
  obtain ⟨i, z, h1, h2, h3, h4, h5⟩ := T.info
  refine wpList_append_lies w hgd s x t ho base e i z E.k bytes T.und h1 h2 h3 h4 h5 E.pos v n (E.cells l) hs hown ⟨B, 0, none⟩ m c (E.cells ys) hx (by rw [E.cells_length, hm]) (fun j u hu => World.news_of_block hB j u (by rw [hcs]; exact hu)) (E.cells_one' ys) hm0 (by unfold maxLen; omega) ?_ hbase _ rfl ?_
  · have : (n + m) * bytes ≤ 1000000 * 1000 := Nat.mul_le_mul hn hby
    omega
  · intro g cap w' a1 a2 a3 a4
    rw [← E.cells_append] at a1
    exact h g cap w' a1 a2 a3 a4
/-- append(out, l...) of a slice that reads as a list. -/
theorem wpList_cat {t e : TypeId} {bytes : Nat} {w : World} {ops : Array Oper} {rest : List Oper} {o : Oper} {a : Act} {Q : Exit → Act → World → Prop} (T : ElemTy t e E.k bytes) (hgd : o.guard = none) (s x : Operand)
    (ho : o.op = .call { callee := .builtin .append, args := #[s, x], argTypes := #[t, t] })
    (base : Nat) (v : Value) (n : Nat) (xs l : List α) (hs : a.eval s = v) (hown : w.ownsRow base e E.k v n (E.cells xs))
    (A : Option Addr) (m c : Nat) (hx : a.eval x = .slice A m c) (hm : m = l.length) (hA : A = none → c = 0) (hl : RowL E w A l) (hn : n + m ≤ 1000000) (hby : bytes ≤ 1000) (hbase : base ≤ w.heap.size)
    (h : ∀ A' c' w', w'.ownsRow base e E.k (.slice A' (n + m) c') (n + m) (E.cells (xs ++ l)) → w.grownBy w' v.ownBlock → wpList Tryd.prog ops Q rest (a.put o.dst (.slice A' (n + m) c')) w') : wpList Tryd.prog ops Q (o :: rest) a w := by
  obtain ⟨i, z, h1, h2, h3, h4, h5⟩ := T.info
  cases A with
  | none =>
    have hl0 : l = [] := by
      cases l with
      | nil => rfl
      | cons y r =>
        obtain ⟨g, o, e, _⟩ := hl (by simp)
        cases e
    subst hl0
    obtain rfl := hA rfl
    have hm0 : m = 0 := by simpa using hm
    subst hm0
    obtain ⟨A', c', rfl⟩ := own_shape hown
    refine wpList_append_own_none hgd s x t ho base e i E.k T.und h1 _ n (E.cells xs) hs hown hx ?_
    refine h A' c' w ?_ ⟨rfl, rfl, rfl, Nat.le_refl _, fun _ _ _ => rfl⟩
    simpa using hown
  | some ad =>
    refine wpList_append_own_at w hgd s x t ho base e i z E.k bytes T.und h1 h2 h3 h4 h5 E.pos v n (E.cells xs) hs hown ad m c (E.cells l) hx (by rw [E.cells_length, hm]) hl.news (E.cells_one' l) (by unfold maxLen; omega) ?_ hbase ?_
    · have : (n + m) * bytes ≤ 1000000 * 1000 := Nat.mul_le_mul hn hby
      omega
    · intro v' w' hown' hgr _ _
      obtain ⟨A', c', rfl⟩ := own_shape hown'
      rw [← E.cells_append] at hown'
      exact h A' c' w' hown' hgr
end Go.Proofs.YtpfhljidjnagkaaDoor

/- Plain mathematics of the texts of addresses of layer 6: no Go in sight. -/
namespace Go.Proofs.YtpfhljidjnagkaaDoor
set_option linter.unusedVariables false

abbrev By := List UInt8
/-- A digit's byte, in decimal and in hexadecimal. -/
def dig (n : Nat) : UInt8 := UInt8.ofNat (48 + n)
def hexd (n : Nat) : UInt8 := if n < 10 then UInt8.ofNat (48 + n) else UInt8.ofNat (87 + n)
/-- A number in decimal. -/
def numL (n : Nat) : By := if n ≤ 9 then [dig n] else numL (n / 10) ++ [dig (n % 10)]
termination_by n
decreasing_by omega
/-- A group in hexadecimal. -/
def hexL (n : Nat) : By := if n ≤ 15 then [hexd n] else hexL (n / 16) ++ [hexd (n % 16)]
termination_by n
decreasing_by omega
/-- The number that digits denote, no more than most + 1. -/
def decGo (most : Nat) : Nat → By → Option Nat
  | n, [] => some n
  | n, c :: r => if 48 ≤ c.toNat ∧ c.toNat ≤ 57 then decGo most (min (10 * n + (c.toNat - 48)) (most + 1)) r else none
/-- .. as the reference answers: -1: malformed, -2: too great. -/
def decS (most : Nat) (s : By) : Int :=
  if s.length = 0 ∨ (1 < s.length ∧ s.head? = some 48) then -1
  else match decGo most 0 s with
    | none => -1
    | some n => if most < n then -2 else n
/-- A text divided at a byte; cur: the piece under way. -/
def splitGo (c : UInt8) : By → By → List By
  | cur, [] => [cur]
  | cur, x :: r => if x = c then cur :: splitGo c [] r else splitGo c (cur ++ [x]) r
def splitL (c : UInt8) (s : By) : List By := splitGo c [] s
/-- A hexadecimal digit's value. -/
def hexV6 (c : UInt8) : Option Nat :=
  if 48 ≤ c.toNat ∧ c.toNat ≤ 57 then some (c.toNat - 48)
  else if 97 ≤ c.toNat ∧ c.toNat ≤ 102 then some (c.toNat - 87)
  else if 65 ≤ c.toNat ∧ c.toNat ≤ 70 then some (c.toNat - 55) else none
def hexGo : Nat → By → Option Nat
  | n, [] => some n
  | n, c :: r => match hexV6 c with
    | some d => hexGo (16 * n + d) r
    | none => none
def grpS (s : By) : Option Nat := if s.length < 1 ∨ 4 < s.length then none else hexGo 0 s
def grpAll : List By → Option (List Nat)
  | [] => some []
  | s :: r => match grpS s with
    | none => none
    | some n => (grpAll r).map (n :: ·)
def groupsS (s : By) : Option (List Nat) := if s = [] then some [] else grpAll (splitL 58 s)
/-- A text divided at its first two colons. -/
def cutGap : By → Option (By × By)
  | [] => none
  | [_] => none
  | x :: y :: r => if x = 58 ∧ y = 58 then some ([], r) else (cutGap (y :: r)).map fun p => (x :: p.1, p.2)
/-- The eight groups of a text. -/
def parse6 (s : By) : Option (List Nat) :=
  match cutGap s with
  | none => match groupsS s with
    | some x => if x.length = 8 then some x else none
    | none => none
  | some (a, b) => match groupsS a, groupsS b with
    | some x, some y => if x.length + y.length ≤ 7 then some (x ++ List.replicate (8 - (x.length + y.length)) 0 ++ y) else none
    | _, _ => none
/-- The four bytes of a text. -/
def decAll : List By → Option (List Nat)
  | [] => some []
  | s :: r => match decS 255 s with
    | .ofNat n => (decAll r).map (n :: ·)
    | _ => none
def parse4 (s : By) : Option (List Nat) := if (splitL 46 s).length = 4 then decAll (splitL 46 s) else none
/-- A number out of its digits to a base. -/
def ofDigits (b : Nat) (l : List Nat) : Nat := l.foldl (fun n d => n * b + d) 0
/-- An address: its family, and its number of 32 or 128 bits. -/
structure Adr where
  v6 : Bool
  n : Nat
def width (v6 : Bool) : Nat := if v6 then 128 else 32
def Adr.ok (a : Adr) : Prop := a.n < 2 ^ width a.v6
def parseS (s : By) : Option Adr :=
  match parse4 s with
  | some l => some ⟨false, ofDigits 256 l⟩
  | none => match parse6 s with
    | some l => some ⟨true, ofDigits 65536 l⟩
    | none => none
/-- The digits of a number to a base, k of them. -/
def digitsOf (b n : Nat) : Nat → List Nat
  | 0 => []
  | k + 1 => digitsOf b (n / b) k ++ [n % b]
/-- Pieces with a byte between them. -/
def joinC (c : UInt8) : List By → By
  | [] => []
  | [p] => p
  | p :: q :: r => p ++ c :: joinC c (q :: r)
/-- How many zeros a list begins with. -/
def zeros : List Nat → Nat
  | 0 :: r => zeros r + 1
  | _ => 0
/-- The first longest run of zeros, of two or more: where it begins, how long it is. i: the index of the list's head; at, most: the best so far. -/
def bestGo : List Nat → Nat → Option Nat → Nat → Option Nat × Nat
  | [], _, at_, most => (at_, most)
  | x :: r, i, at_, most => if most < zeros (x :: r) then bestGo r (i + 1) (some i) (zeros (x :: r)) else bestGo r (i + 1) at_ most
def best (l : List Nat) : Option Nat × Nat := bestGo l 0 none 1
def fmt6 (l : List Nat) : By :=
  match best l with
  | (none, _) => joinC 58 (l.map hexL)
  | (some k, m) => joinC 58 ((l.take k).map hexL) ++ [58, 58] ++ joinC 58 ((l.drop (k + m)).map hexL)
def fmt4 (l : List Nat) : By := joinC 46 (l.map numL)
def fmtS (a : Adr) : By := if a.v6 then fmt6 (digitsOf 65536 a.n 8) else fmt4 (digitsOf 256 a.n 4)

/-! ### Decimal -/
theorem dig_toNat {n : Nat} (h : n ≤ 9) : (dig n).toNat = 48 + n := by
  unfold dig
  rw [UInt8.toNat_ofNat']
  omega
theorem decGo_append (most : Nat) : ∀ (a : By) (n : Nat) (b : By), decGo most n (a ++ b) = (decGo most n a).bind fun m => decGo most m b
  | [], n, b => rfl
  | c :: r, n, b => by
    rw [List.cons_append, decGo, decGo]
    split
    · exact decGo_append most r _ b
    · rfl
theorem decGo_num {most : Nat} : ∀ (n : Nat), n ≤ most → decGo most 0 (numL n) = some n := by
  intro n
  induction n using Nat.strongRecOn with
  | _ n ih =>
    intro h
    rw [numL]
    split
    · rename_i h9
      rw [decGo, dig_toNat h9, if_pos (by omega), decGo]
      congr 1
      omega
    · rw [decGo_append, ih (n / 10) (by omega) (by omega), Option.bind_some, decGo, dig_toNat (by omega), if_pos (by omega), decGo]
      congr 1
      omega
theorem num_ne (n : Nat) : 0 < (numL n).length := by
  rw [numL]
  split <;> simp
theorem num_head : ∀ (n : Nat), (numL n).head? = some 48 → n = 0 := by
  intro n
  induction n using Nat.strongRecOn with
  | _ n ih =>
    intro h
    rw [numL] at h
    split at h
    · rename_i h9
      simp only [List.head?_cons, Option.some.injEq] at h
      have h2 := congrArg UInt8.toNat h
      rw [dig_toNat h9] at h2
      simp at h2
      omega
    · have h2 : (numL (n / 10)).head? = some 48 := by
        have hp := num_ne (n / 10)
        cases hq : numL (n / 10) with
        | nil => rw [hq] at hp; simp at hp
        | cons y r => rw [hq] at h; simpa using h
      have := ih (n / 10) (by omega) h2
      omega
theorem num_zero : numL 0 = [48] := by rw [numL]; rfl
theorem decS_num {most n : Nat} (h : n ≤ most) : decS most (numL n) = n := by
  unfold decS
  rw [if_neg, decGo_num n h]
  · show (if most < n then (-2 : Int) else n) = n
    rw [if_neg (by omega)]
  · rintro (h1 | ⟨h1, h2⟩)
    · have := num_ne n; omega
    · have := num_head n h2
      subst this
      rw [num_zero] at h1
      simp at h1
theorem num_digits : ∀ (n : Nat), ∀ c ∈ numL n, 48 ≤ c.toNat ∧ c.toNat ≤ 57 := by
  intro n
  induction n using Nat.strongRecOn with
  | _ n ih =>
    intro c hc
    rw [numL] at hc
    split at hc
    · rename_i h9
      simp only [List.mem_singleton] at hc
      subst hc
      rw [dig_toNat h9]; omega
    · rw [List.mem_append] at hc
      rcases hc with hc | hc
      · exact ih (n / 10) (by omega) c hc
      · simp only [List.mem_singleton] at hc
        subst hc
        rw [dig_toNat (by omega)]; omega
theorem num_len {n : Nat} (h : n < 1000) : (numL n).length ≤ 3 := by
  rw [numL]
  split
  · simp
  · rw [numL]
    split
    · simp
    · rw [numL, if_pos (by omega)]; simp

theorem num_len_pow : ∀ (k n : Nat), n < 10 ^ (k + 1) → (numL n).length ≤ k + 1
  | 0, n, h => by rw [numL, if_pos (by omega)]; simp
  | k + 1, n, h => by
    rw [numL]
    split
    · simp
    · have := num_len_pow k (n / 10) (by rw [Nat.pow_succ] at h; omega)
      rw [List.length_append]; simp; omega

/-! ### Hexadecimal -/
theorem hexd_toNat {n : Nat} (h : n ≤ 15) : (hexd n).toNat = if n < 10 then 48 + n else 87 + n := by
  unfold hexd
  split <;> (rw [UInt8.toNat_ofNat']; omega)
theorem hexV_hexd {n : Nat} (h : n ≤ 15) : hexV6 (hexd n) = some n := by
  unfold hexV6
  rw [hexd_toNat h]
  by_cases h9 : n < 10
  · rw [if_pos h9, if_pos (by omega)]
    congr 1; omega
  · rw [if_neg h9, if_neg (by omega), if_pos (by omega)]
    congr 1; omega
theorem hexGo_append : ∀ (a : By) (n : Nat) (b : By), hexGo n (a ++ b) = (hexGo n a).bind fun m => hexGo m b
  | [], n, b => rfl
  | c :: r, n, b => by
    rw [List.cons_append, hexGo, hexGo]
    cases hexV6 c with
    | none => rfl
    | some d => exact hexGo_append r _ b
theorem hexGo_hex : ∀ (n : Nat), hexGo 0 (hexL n) = some n := by
  intro n
  induction n using Nat.strongRecOn with
  | _ n ih =>
    rw [hexL]
    split
    · rename_i h
      rw [hexGo, hexV_hexd h]
      show hexGo _ [] = _
      rw [hexGo]; congr 1; omega
    · rw [hexGo_append, ih (n / 16) (by omega), Option.bind_some, hexGo, hexV_hexd (by omega)]
      show hexGo _ [] = _
      rw [hexGo]; congr 1; omega
theorem hex_ne (n : Nat) : 0 < (hexL n).length := by
  rw [hexL]
  split <;> simp
theorem hex_len {n : Nat} (h : n < 65536) : (hexL n).length ≤ 4 := by
  rw [hexL]
  split
  · simp
  · rw [hexL]
    split
    · simp
    · rw [hexL]
      split
      · simp
      · rw [hexL, if_pos (by omega)]; simp
theorem grpS_hex {n : Nat} (h : n < 65536) : grpS (hexL n) = some n := by
  unfold grpS
  rw [if_neg (by have := hex_ne n; have := hex_len h; omega), hexGo_hex]
/-- A hexadecimal digit is neither a point, nor a stroke, nor a colon. -/
theorem hex_digits : ∀ (n : Nat), ∀ c ∈ hexL n, (48 ≤ c.toNat ∧ c.toNat ≤ 57) ∨ (97 ≤ c.toNat ∧ c.toNat ≤ 102) := by
  intro n
  induction n using Nat.strongRecOn with
  | _ n ih =>
    intro c hc
    have key : ∀ d, d ≤ 15 → (48 ≤ (hexd d).toNat ∧ (hexd d).toNat ≤ 57) ∨ (97 ≤ (hexd d).toNat ∧ (hexd d).toNat ≤ 102) := fun d hd => by
      rw [hexd_toNat hd]
      split <;> omega
    rw [hexL] at hc
    split at hc
    · rename_i h9
      simp only [List.mem_singleton] at hc
      subst hc
      exact key _ h9
    · rw [List.mem_append] at hc
      rcases hc with hc | hc
      · exact ih (n / 16) (by omega) c hc
      · simp only [List.mem_singleton] at hc
        subst hc
        exact key _ (by omega)

theorem hex_len_pow : ∀ (k n : Nat), n < 16 ^ (k + 1) → (hexL n).length ≤ k + 1
  | 0, n, h => by rw [hexL, if_pos (by omega)]; simp
  | k + 1, n, h => by
    rw [hexL]
    split
    · simp
    · have := hex_len_pow k (n / 16) (by rw [Nat.pow_succ] at h; omega)
      rw [List.length_append]; simp; omega

/-! ### Dividing and joining -/
theorem splitGo_none {c : UInt8} : ∀ (p cur : By), (∀ x ∈ p, x ≠ c) → splitGo c cur p = [cur ++ p]
  | [], cur, _ => by simp [splitGo]
  | x :: r, cur, h => by
    rw [splitGo, if_neg (h x (by simp)), splitGo_none r _ (fun y hy => h y (by simp [hy]))]
    simp
theorem splitGo_at {c : UInt8} : ∀ (p cur r : By), (∀ x ∈ p, x ≠ c) → splitGo c cur (p ++ c :: r) = (cur ++ p) :: splitGo c [] r
  | [], cur, r, _ => by simp [splitGo]
  | x :: q, cur, r, h => by
    rw [List.cons_append, splitGo, if_neg (h x (by simp)), splitGo_at q _ r (fun y hy => h y (by simp [hy]))]
    simp
theorem split_join {c : UInt8} : ∀ (l : List By), l ≠ [] → (∀ p ∈ l, ∀ x ∈ p, x ≠ c) → splitL c (joinC c l) = l
  | [], h, _ => absurd rfl h
  | [p], _, h => by
    show splitGo c [] p = [p]
    rw [splitGo_none p [] (h p (by simp))]; rfl
  | p :: q :: r, _, h => by
    have ih := split_join (q :: r) (by simp) (fun y hy => h y (by simp only [List.mem_cons] at hy ⊢; exact .inr hy))
    show splitGo c [] (p ++ c :: joinC c (q :: r)) = _
    rw [splitGo_at p [] _ (h p (by simp))]
    unfold splitL at ih
    rw [ih]; rfl
theorem join_mem {c : UInt8} : ∀ (l : List By) (x : UInt8), x ∈ joinC c l → x = c ∨ ∃ p ∈ l, x ∈ p
  | [], x, h => by simp [joinC] at h
  | [p], x, h => .inr ⟨p, by simp, h⟩
  | p :: q :: r, x, h => by
    rw [joinC, List.mem_append, List.mem_cons] at h
    rcases h with h | h | h
    · exact .inr ⟨p, by simp, h⟩
    · exact .inl h
    · rcases join_mem (q :: r) x h with h | ⟨y, hy, h⟩
      · exact .inl h
      · exact .inr ⟨y, by simp only [List.mem_cons] at hy ⊢; exact .inr hy, h⟩

/-! ### The text of an IPv4 address -/
theorem decAll_num : ∀ (l : List Nat), (∀ n ∈ l, n ≤ 255) → decAll (l.map numL) = some l
  | [], _ => rfl
  | n :: r, h => by
    rw [List.map_cons, decAll, decS_num (h n (by simp))]
    show (decAll (r.map numL)).map (n :: ·) = _
    rw [decAll_num r (fun m hm => h m (by simp [hm]))]
    rfl
theorem num_no {c : UInt8} (hc : c.toNat < 48) {n : Nat} : ∀ x ∈ numL n, x ≠ c := fun x hx e => by
  have := num_digits n x hx
  rw [e] at this
  omega
theorem parse4_fmt4 {l : List Nat} (hl : l.length = 4) (h : ∀ n ∈ l, n ≤ 255) : parse4 (fmt4 l) = some l := by
  unfold parse4 fmt4
  have hs : splitL 46 (joinC 46 (l.map numL)) = l.map numL := split_join _ (by intro e; have := congrArg List.length e; simp [hl] at this) (fun p hp => by
    obtain ⟨n, _, rfl⟩ := List.mem_map.1 hp
    exact num_no (by decide))
  rw [hs, if_pos (by simp [hl]), decAll_num l h]
theorem digitsOf_len (b : Nat) : ∀ (k n : Nat), (digitsOf b n k).length = k
  | 0, n => rfl
  | k + 1, n => by rw [digitsOf, List.length_append, digitsOf_len b k]; rfl
theorem digitsOf_lt {b : Nat} (hb : 0 < b) : ∀ (k n : Nat), ∀ d ∈ digitsOf b n k, d < b
  | 0, n, d, h => by simp [digitsOf] at h
  | k + 1, n, d, h => by
    rw [digitsOf, List.mem_append] at h
    rcases h with h | h
    · exact digitsOf_lt hb k _ d h
    · simp only [List.mem_singleton] at h
      subst h
      exact Nat.mod_lt _ hb
theorem ofDigits_snoc (b : Nat) (l : List Nat) (d : Nat) : ofDigits b (l ++ [d]) = ofDigits b l * b + d := by
  unfold ofDigits
  rw [List.foldl_append]; rfl
theorem ofDigits_of {b : Nat} (hb : 0 < b) : ∀ (k n : Nat), n < b ^ k → ofDigits b (digitsOf b n k) = n
  | 0, n, h => by
    have : n = 0 := by simpa using h
    subst this
    rfl
  | k + 1, n, h => by
    rw [digitsOf, ofDigits_snoc, ofDigits_of hb k (n / b) (by rw [Nat.div_lt_iff_lt_mul hb]; rwa [Nat.pow_succ] at h)]
    exact Nat.div_add_mod' n b

/-! ### The text of an IPv6 address -/
theorem grpAll_hex : ∀ (l : List Nat), (∀ n ∈ l, n < 65536) → grpAll (l.map hexL) = some l
  | [], _ => rfl
  | n :: r, h => by
    rw [List.map_cons, grpAll, grpS_hex (h n (by simp))]
    show (grpAll (r.map hexL)).map (n :: ·) = _
    rw [grpAll_hex r (fun m hm => h m (by simp [hm]))]
    rfl
theorem hex_no {c : UInt8} (hc : c.toNat < 48 ∨ c.toNat = 58) {n : Nat} : ∀ x ∈ hexL n, x ≠ c := fun x hx e => by
  have := hex_digits n x hx
  rw [e] at this
  omega
theorem groups_join {l : List Nat} (h : ∀ n ∈ l, n < 65536) : groupsS (joinC 58 (l.map hexL)) = some l := by
  unfold groupsS
  cases l with
  | nil => rfl
  | cons n r =>
    have hne : joinC 58 ((n :: r).map hexL) ≠ [] := by
      intro e
      have hp := hex_ne n
      cases r with
      | nil =>
        have : hexL n = [] := e
        rw [this] at hp; simp at hp
      | cons m q =>
        have : hexL n ++ 58 :: joinC 58 ((m :: q).map hexL) = [] := e
        simp at this
    rw [if_neg hne, split_join _ (by simp) (fun p hp => by
      obtain ⟨m, _, rfl⟩ := List.mem_map.1 hp
      exact hex_no (.inr rfl)), grpAll_hex _ h]
/-- No text that ends with a digit, and has no two colons, is cut before its end. -/
def noGap : By → Prop
  | [] => True
  | [x] => x ≠ 58
  | x :: y :: r => ¬ (x = 58 ∧ y = 58) ∧ noGap (y :: r)
theorem cut_none : ∀ (s : By), noGap s → cutGap s = none
  | [], _ => rfl
  | [x], _ => rfl
  | x :: y :: r, h => by
    rw [cutGap, if_neg h.1, cut_none (y :: r) h.2]; rfl
theorem cut_some : ∀ (s r : By), noGap s → cutGap (s ++ 58 :: 58 :: r) = some (s, r)
  | [], r, _ => by simp [cutGap]
  | [x], r, h => by
    show cutGap (x :: 58 :: 58 :: r) = _
    rw [cutGap, if_neg (fun e => h e.1)]
    simp [cutGap]
  | x :: y :: q, r, h => by
    have ih := cut_some (y :: q) r h.2
    show cutGap (x :: y :: (q ++ 58 :: 58 :: r)) = _
    rw [cutGap, if_neg h.1]
    have ih' : cutGap (y :: (q ++ 58 :: 58 :: r)) = some (y :: q, r) := ih
    rw [ih']; rfl
theorem noGap_hex : ∀ (p q : By), 0 < p.length → (∀ x ∈ p, x ≠ 58) → (q = [] ∨ ∃ y r, q = 58 :: y :: r ∧ y ≠ 58 ∧ noGap (y :: r)) → noGap (p ++ q)
  | [], _, h, _, _ => by simp at h
  | [x], q, _, h, hq => by
    have hx := h x (by simp)
    rcases hq with rfl | ⟨y, r, rfl, hy, hn⟩
    · exact hx
    · exact ⟨fun e => hx e.1, fun e => hy e.2, hn⟩
  | x :: y :: r, q, _, h, hq => by
    have ih := noGap_hex (y :: r) q (by simp) (fun z hz => h z (by simp only [List.mem_cons] at hz ⊢; exact .inr hz)) hq
    exact ⟨fun e => h x (by simp) e.1, ih⟩
theorem noGap_join : ∀ (l : List Nat), noGap (joinC 58 (l.map hexL))
  | [] => trivial
  | [n] => by
    have := noGap_hex (hexL n) [] (hex_ne n) (hex_no (.inr rfl)) (.inl rfl)
    simpa [joinC] using this
  | n :: m :: r => by
    have ih := noGap_join (m :: r)
    show noGap (hexL n ++ 58 :: joinC 58 ((m :: r).map hexL))
    refine noGap_hex (hexL n) _ (hex_ne n) (hex_no (.inr rfl)) (.inr ?_)
    have hp := hex_ne m
    cases hq : hexL m with
    | nil => rw [hq] at hp; simp at hp
    | cons y z =>
      have hy : y ≠ 58 := hex_no (.inr rfl) (n := m) y (by rw [hq]; simp)
      cases r with
      | nil =>
        have e : joinC 58 ([m].map hexL) = y :: z := by show hexL m = _; exact hq
        rw [e] at ih ⊢
        exact ⟨y, z, rfl, hy, ih⟩
      | cons k w =>
        have e : joinC 58 ((m :: k :: w).map hexL) = y :: (z ++ 58 :: joinC 58 ((k :: w).map hexL)) := by show hexL m ++ _ = _; rw [hq]; rfl
        rw [e] at ih ⊢
        exact ⟨y, _, rfl, hy, ih⟩
theorem zeros_le : ∀ l : List Nat, zeros l ≤ l.length
  | [] => Nat.le_refl _
  | 0 :: r => by rw [zeros]; have := zeros_le r; simp; omega
  | (n + 1) :: r => by simp [zeros]
theorem zeros_spec : ∀ l : List Nat, l = List.replicate (zeros l) 0 ++ l.drop (zeros l)
  | [] => rfl
  | 0 :: r => by
    rw [zeros, List.replicate_succ, List.cons_append, List.drop_succ_cons, ← zeros_spec r]
  | (n + 1) :: r => by simp [zeros]
theorem bestGo_spec : ∀ (l : List Nat) (i : Nat) (at_ : Option Nat) (most : Nat), bestGo l i at_ most = (at_, most) ∨ ∃ j, j < l.length ∧ (bestGo l i at_ most).1 = some (i + j) ∧ (bestGo l i at_ most).2 = zeros (l.drop j) ∧ most < (bestGo l i at_ most).2
  | [], i, at_, most => .inl rfl
  | x :: r, i, at_, most => by
    rw [bestGo]
    split
    · rename_i h
      rcases bestGo_spec r (i + 1) (some i) (zeros (x :: r)) with h1 | ⟨j, h1, h2, h3, h4⟩
      · rw [h1]
        exact .inr ⟨0, by simp, by simp, rfl, h⟩
      · exact .inr ⟨j + 1, by simp; omega, by rw [h2]; congr 1; omega, by rw [h3]; rfl, by omega⟩
    · rcases bestGo_spec r (i + 1) at_ most with h1 | ⟨j, h1, h2, h3, h4⟩
      · exact .inl h1
      · exact .inr ⟨j + 1, by simp; omega, by rw [h2]; congr 1; omega, by rw [h3]; rfl, h4⟩
/-- What is left out: two or more zeros that stand there. -/
theorem best_spec (l : List Nat) : best l = (none, 1) ∨ ∃ k m, best l = (some k, m) ∧ 2 ≤ m ∧ k + m ≤ l.length ∧ l = l.take k ++ List.replicate m 0 ++ l.drop (k + m) := by
  rcases bestGo_spec l 0 none 1 with h | ⟨j, h1, h2, h3, h4⟩
  · exact .inl h
  · right
    have hz := zeros_spec (l.drop j)
    have hl := zeros_le (l.drop j)
    rw [List.length_drop] at hl
    refine ⟨j, zeros (l.drop j), ?_, by rw [h3] at h4; omega, by omega, ?_⟩
    · rw [Nat.zero_add] at h2
      show bestGo l 0 none 1 = _
      rw [← h3, ← h2]
    · rw [List.drop_drop] at hz
      rw [List.append_assoc, ← hz, List.take_append_drop]
theorem parse6_fmt6 {l : List Nat} (hl : l.length = 8) (h : ∀ n ∈ l, n < 65536) : parse6 (fmt6 l) = some l := by
  unfold fmt6
  rcases best_spec l with hb | ⟨k, m, hb, hm, hkm, hsp⟩
  · rw [hb]
    show parse6 (joinC 58 (l.map hexL)) = _
    unfold parse6
    rw [cut_none _ (noGap_join l), groups_join h]
    show (if l.length = 8 then some l else none) = _
    rw [if_pos hl]
  · rw [hb]
    show parse6 (joinC 58 ((l.take k).map hexL) ++ [58, 58] ++ joinC 58 ((l.drop (k + m)).map hexL)) = _
    unfold parse6
    rw [List.append_assoc]
    show (match cutGap (joinC 58 ((l.take k).map hexL) ++ 58 :: 58 :: joinC 58 ((l.drop (k + m)).map hexL)) with
      | none => _
      | some (a, b) => _) = _
    rw [cut_some _ _ (noGap_join _)]
    show (match groupsS (joinC 58 ((l.take k).map hexL)), groupsS (joinC 58 ((l.drop (k + m)).map hexL)) with
      | some x, some y => if x.length + y.length ≤ 7 then some (x ++ List.replicate (8 - (x.length + y.length)) 0 ++ y) else none
      | _, _ => none) = _
    rw [groups_join (fun n hn => h n (List.mem_of_mem_take hn)), groups_join (fun n hn => h n (List.mem_of_mem_drop hn))]
    show (if (l.take k).length + (l.drop (k + m)).length ≤ 7 then some (l.take k ++ List.replicate (8 - ((l.take k).length + (l.drop (k + m)).length)) 0 ++ l.drop (k + m)) else none) = _
    have e1 : (l.take k).length + (l.drop (k + m)).length = 8 - m := by
      rw [List.length_take, List.length_drop]; omega
    rw [e1, if_pos (by omega), show 8 - (8 - m) = m by omega, ← hsp]
theorem fmt6_mem (l : List Nat) (c : UInt8) (hc : c ∈ fmt6 l) : c = 58 ∨ (48 ≤ c.toNat ∧ c.toNat ≤ 57) ∨ (97 ≤ c.toNat ∧ c.toNat ≤ 102) := by
  have key : ∀ q : List Nat, c ∈ joinC 58 (q.map hexL) → c = 58 ∨ (48 ≤ c.toNat ∧ c.toNat ≤ 57) ∨ (97 ≤ c.toNat ∧ c.toNat ≤ 102) := fun q hq => by
    rcases join_mem _ _ hq with h | ⟨p, hp, h⟩
    · exact .inl h
    · obtain ⟨n, _, rfl⟩ := List.mem_map.1 hp
      exact .inr (hex_digits n c h)
  unfold fmt6 at hc
  split at hc
  · exact key _ hc
  · rw [List.mem_append, List.mem_append] at hc
    rcases hc with (hc | hc) | hc
    · exact key _ hc
    · simp at hc
      exact .inl hc
    · exact key _ hc
theorem fmt4_mem (l : List Nat) (c : UInt8) (hc : c ∈ fmt4 l) : c = 46 ∨ (48 ≤ c.toNat ∧ c.toNat ≤ 57) := by
  unfold fmt4 at hc
  rcases join_mem _ _ hc with h | ⟨p, hp, h⟩
  · exact .inl h
  · obtain ⟨n, _, rfl⟩ := List.mem_map.1 hp
    exact .inr (num_digits n c h)
theorem parse4_no (s : By) (h : ∀ x ∈ s, x ≠ 46) : parse4 s = none := by
  unfold parse4 splitL
  rw [splitGo_none s [] h]
  simp
/-- PARSING A PRINTED ADDRESS RETURNS IT. -/
theorem parse_fmt {a : Adr} (h : a.ok) : parseS (fmtS a) = some a := by
  obtain ⟨v6, n⟩ := a
  cases v6 with
  | false =>
    have hn : n < 256 ^ 4 := by
      have : n < 2 ^ width false := h
      simpa [width] using this
    show parseS (fmt4 (digitsOf 256 n 4)) = _
    unfold parseS
    rw [parse4_fmt4 (digitsOf_len _ _ _) (fun d hd => by have := digitsOf_lt (by omega) 4 n d hd; omega)]
    show some (Adr.mk false (ofDigits 256 (digitsOf 256 n 4))) = _
    rw [ofDigits_of (by omega) 4 n hn]
  | true =>
    have hn : n < 65536 ^ 8 := by
      have : n < 2 ^ width true := h
      simpa [width] using this
    show parseS (fmt6 (digitsOf 65536 n 8)) = _
    unfold parseS
    rw [parse4_no _ (fun x hx e => by
      subst e
      rcases fmt6_mem _ _ hx with h | h | h
      · exact absurd h (by decide)
      · exact absurd h.1 (by decide)
      · exact absurd h.1 (by decide)), parse6_fmt6 (digitsOf_len _ _ _) (digitsOf_lt (by omega) 8 n)]
    show some (Adr.mk true (ofDigits 65536 (digitsOf 65536 n 8))) = _
    rw [ofDigits_of (by omega) 8 n hn]
theorem join_len (c : UInt8) (k : Nat) : ∀ l : List By, (∀ p ∈ l, p.length ≤ k) → (joinC c l).length ≤ l.length * (k + 1)
  | [], _ => by simp [joinC]
  | [p], h => by have := h p (by simp); simp [joinC]; omega
  | p :: q :: r, h => by
    have ih := join_len c k (q :: r) (fun y hy => h y (by simp only [List.mem_cons] at hy ⊢; exact .inr hy))
    have := h p (by simp)
    rw [joinC, List.length_append, List.length_cons]
    simp only [List.length_cons] at ih ⊢
    rw [Nat.add_mul (r.length + 1) 1]
    omega
/-- No text of an address is longer than 42 bytes. -/
theorem fmt_len {a : Adr} (h : a.ok) : (fmtS a).length ≤ 42 := by
  obtain ⟨v6, n⟩ := a
  cases v6 with
  | false =>
    show (fmt4 (digitsOf 256 n 4)).length ≤ 42
    unfold fmt4
    have := join_len 46 3 ((digitsOf 256 n 4).map numL) (fun p hp => by
      obtain ⟨d, hd, rfl⟩ := List.mem_map.1 hp
      exact num_len (by have := digitsOf_lt (by omega) 4 n d hd; omega))
    rw [List.length_map, digitsOf_len] at this
    omega
  | true =>
    show (fmt6 (digitsOf 65536 n 8)).length ≤ 42
    have hl := digitsOf_len 65536 8 n
    have hd := digitsOf_lt (b := 65536) (by omega) 8 n
    generalize digitsOf 65536 n 8 = l at *
    have key : ∀ q : List Nat, (∀ d ∈ q, d < 65536) → (joinC 58 (q.map hexL)).length ≤ q.length * 5 := fun q hq => by
      have := join_len 58 4 (q.map hexL) (fun p hp => by
        obtain ⟨d, hd, rfl⟩ := List.mem_map.1 hp
        exact hex_len (hq d hd))
      rwa [List.length_map] at this
    unfold fmt6
    split
    · have := key l hd
      omega
    · rename_i k m _
      have h1 := key (l.take k) (fun d hd' => hd d (List.mem_of_mem_take hd'))
      have h2 := key (l.drop (k + m)) (fun d hd' => hd d (List.mem_of_mem_drop hd'))
      rw [List.length_take] at h1
      rw [List.length_drop] at h2
      rw [List.length_append, List.length_append]
      simp only [List.length_cons, List.length_nil]
      omega

/-! ### Prefixes -/
structure Pfx where
  a : Adr
  bits : Nat
/-- The first bits of a number of w bits, the others 0; the others 1. -/
def cutN (w bits n : Nat) : Nat := n / 2 ^ (w - bits) * 2 ^ (w - bits)
def fillN (w bits n : Nat) : Nat := cutN w bits n + (2 ^ (w - bits) - 1)
def Pfx.ok (p : Pfx) : Prop := p.a.ok ∧ p.bits ≤ width p.a.v6 ∧ cutN (width p.a.v6) p.bits p.a.n = p.a.n
def fmtP (p : Pfx) : By := fmtS p.a ++ 47 :: numL p.bits
/-- What a text of a prefix denotes: the address ahead of the first stroke, and the number behind it (-1, -2 as decS has it). -/
def cutAt (c : UInt8) : By → By × Option By
  | [] => ([], none)
  | x :: r => if x = c then ([], some r) else ((x :: (cutAt c r).1), (cutAt c r).2)
theorem cutAt_at {c : UInt8} : ∀ (p r : By), (∀ x ∈ p, x ≠ c) → cutAt c (p ++ c :: r) = (p, some r)
  | [], r, _ => by simp [cutAt]
  | x :: q, r, h => by
    rw [List.cons_append, cutAt, if_neg (h x (by simp)), cutAt_at q r (fun y hy => h y (by simp [hy]))]
theorem fmt_no47 (a : Adr) : ∀ x ∈ fmtS a, x ≠ 47 := fun x hx e => by
  subst e
  unfold fmtS at hx
  split at hx
  · rcases fmt6_mem _ _ hx with h | h | h
    · exact absurd h (by decide)
    · exact absurd h.1 (by decide)
    · exact absurd h.1 (by decide)
  · rcases fmt4_mem _ _ hx with h | h
    · exact absurd h (by decide)
    · exact absurd h.1 (by decide)
theorem cut_fmtP (p : Pfx) : cutAt 47 (fmtP p) = (fmtS p.a, some (numL p.bits)) := cutAt_at _ _ (fmt_no47 p.a)
theorem fmtP_len {p : Pfx} (h : p.ok) : (fmtP p).length ≤ 64 := by
  have h1 := fmt_len h.1
  have h2 : (numL p.bits).length ≤ 3 := num_len (by
    have := h.2.1
    unfold width at this
    split at this <;> omega)
  unfold fmtP
  rw [List.length_append, List.length_cons]
  omega
theorem cutN_le (w bits n : Nat) : cutN w bits n ≤ n := Nat.div_mul_le_self _ _
theorem cutN_cutN (w bits n : Nat) : cutN w bits (cutN w bits n) = cutN w bits n := by
  unfold cutN
  rw [Nat.mul_div_cancel _ (Nat.two_pow_pos _)]
theorem fillN_lt {w bits n : Nat} (hb : bits ≤ w) (h : n < 2 ^ w) : fillN w bits n < 2 ^ w := by
  unfold fillN cutN
  have h2 : 2 ^ w = 2 ^ bits * 2 ^ (w - bits) := by rw [← Nat.pow_add]; congr 1; omega
  have h3 := Nat.two_pow_pos (w - bits)
  have h4 : n / 2 ^ (w - bits) < 2 ^ bits := by rw [Nat.div_lt_iff_lt_mul h3, ← h2]; exact h
  have h5 := Nat.mul_le_mul_right (2 ^ (w - bits)) (show n / 2 ^ (w - bits) + 1 ≤ 2 ^ bits from h4)
  rw [Nat.add_mul, Nat.one_mul] at h5
  omega
/-- A PREFIX CONTAINS EXACTLY WHAT LIES BETWEEN ITS BOUNDS. -/
theorem cutN_between {w bits n m : Nat} : cutN w bits m = cutN w bits n ↔ cutN w bits n ≤ m ∧ m ≤ fillN w bits n := by
  unfold fillN cutN
  have h3 := Nat.two_pow_pos (w - bits)
  generalize 2 ^ (w - bits) = b at *
  constructor
  · intro h
    have h1 := Nat.div_mul_le_self m b
    have h2 := Nat.lt_div_mul_add h3 (a := m)
    omega
  · rintro ⟨h1, h2⟩
    have e : m / b = n / b := by
      apply Nat.div_eq_of_lt_le
      · exact h1
      · rw [Nat.add_mul, Nat.one_mul]; omega
    rw [e]
end Go.Proofs.YtpfhljidjnagkaaDoor
