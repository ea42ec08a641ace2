/- Contracts of the functions, part 1: Plain, CapMath, CapWr, CapLaw, AdrMath, Nums, Mem, Mem2, Ref, AdrNum. -/
import Derived.Below
import Derived.Test.YtnckcdngmffahaaRows
import Derived.WalkKit
import Derived.LoopTactic
import Derived.ProofKit
import Derived.OpenShut
import Derived.ShutString
import Derived.ChangeOld
import Derived.Lib.Hide
import Derived.BigQuiet
import Derived.Outline
import Derived.IntWalk
import Derived.Deep.OwnRows
import Derived.Lib.SlBytesRow
import Derived.Laws.IdiomStrings
import Derived.RegionTactic
import Derived.WalkSmall
import Derived.Deep.DeepFit
import Derived.Laws.BitsAllLaws
import Derived.Laws.BitsLemmas
import Derived.WalkSpells
import Derived.Deep.RegionWith
import Derived.OwnWalk
import Derived.Deep.QuietTactic
/- Plain mathematics of byte strings and numbers for layer 1: no Go in sight. -/
namespace Go.Proofs.Ytnckcdngmffahaa

/-- The size bytes of n, least significant first. -/
def leL : Nat → Nat → List UInt8
  | 0, _ => []
  | k + 1, n => UInt8.ofNat (n % 256) :: leL k (n / 256)

theorem leL_length : ∀ k n, (leL k n).length = k
  | 0, _ => rfl
  | k + 1, n => by simp [leL, leL_length k]

theorem leL_get : ∀ k n j (h : j < (leL k n).length), (leL k n)[j] = UInt8.ofNat (n / 256 ^ j % 256)
  | 0, _, j, h => by simp [leL] at h
  | k + 1, n, 0, _ => by simp [leL]
  | k + 1, n, j + 1, h => by
    simp only [leL, List.getElem_cons_succ]
    rw [leL_get k (n / 256) j (by simpa [leL] using h), Nat.div_div_eq_div_mul, Nat.pow_succ, Nat.mul_comm]

theorem leL_snoc : ∀ k n, leL (k + 1) n = leL k n ++ [UInt8.ofNat (n / 256 ^ k % 256)]
  | 0, n => by simp [leL]
  | k + 1, n => by
    have h := leL_snoc k (n / 256)
    rw [leL, h]
    simp only [leL, List.cons_append]
    rw [Nat.div_div_eq_div_mul, Nat.pow_succ, Nat.mul_comm]

/-- What bytes denote, most significant first. -/
def num (l : List UInt8) : Nat := l.foldl (fun a c => a * 256 + c.toNat) 0

theorem num_nil : num [] = 0 := rfl
theorem num_snoc (l : List UInt8) (c : UInt8) : num (l ++ [c]) = num l * 256 + c.toNat := by simp [num]

theorem u8_lt (c : UInt8) : c.toNat < 256 := c.toNat_lt

theorem numFrom_lt : ∀ (l : List UInt8) (a : Nat), l.foldl (fun a c => a * 256 + c.toNat) a + 1 ≤ (a + 1) * 256 ^ l.length
  | [], a => by simp
  | c :: l, a => by
    have h := numFrom_lt l (a * 256 + c.toNat)
    have hc := u8_lt c
    have h2 : (a * 256 + c.toNat + 1) * 256 ^ l.length ≤ ((a + 1) * 256) * 256 ^ l.length := Nat.mul_le_mul_right _ (by omega)
    rw [List.foldl_cons, List.length_cons, Nat.pow_succ, Nat.mul_comm (256 ^ l.length) 256, ← Nat.mul_assoc]
    exact Nat.le_trans h h2

theorem num_lt (l : List UInt8) : num l < 256 ^ l.length := by
  have h := numFrom_lt l 0
  unfold num
  omega

theorem num_reverse_leL : ∀ k n, num (leL k n).reverse = n % 256 ^ k
  | 0, n => by simp [leL, num, Nat.mod_one]
  | k + 1, n => by
    rw [leL, List.reverse_cons, num_snoc, num_reverse_leL k, Nat.pow_succ, Nat.mul_comm (256 ^ k) 256, Nat.mod_mul]
    have : (UInt8.ofNat (n % 256)).toNat = n % 256 := by
      rw [UInt8.toNat_ofNat']
      omega
    rw [this]
    omega

theorem leL_num : ∀ l : List UInt8, leL l.length (num l.reverse) = l
  | [] => rfl
  | c :: l => by
    have hc := u8_lt c
    rw [List.reverse_cons, num_snoc, List.length_cons, leL]
    have h1 : (num l.reverse * 256 + c.toNat) % 256 = c.toNat := by omega
    have h2 : (num l.reverse * 256 + c.toNat) / 256 = num l.reverse := by omega
    rw [h1, h2, leL_num l]
    simp

theorem leL_reverse_num (l : List UInt8) : (leL l.length (num l)).reverse = l := by
  have h := leL_num l.reverse
  rw [List.reverse_reverse, List.length_reverse] at h
  rw [h, List.reverse_reverse]

/-- 256 to a size that fits. -/
theorem pow_le7 {k : Nat} (h : k ≤ 7) : 256 ^ k ≤ 72057594037927936 := by
  have : 256 ^ k ≤ 256 ^ 7 := Nat.pow_le_pow_right (by omega) h
  simpa using this

theorem num_le7 {l : List UInt8} (h : l.length ≤ 7) : num l < 72057594037927936 := Nat.lt_of_lt_of_le (num_lt l) (pow_le7 h)

/-- 256 to the k. -/
def pw (k : Nat) : Nat := 256 ^ k
theorem pw_zero : pw 0 = 1 := rfl
theorem pw_succ (k : Nat) : pw (k + 1) = pw k * 256 := Nat.pow_succ ..
theorem pw_le7 {k : Nat} (h : k ≤ 7) : pw k ≤ 72057594037927936 := pow_le7 h
theorem pw_le6 {k : Nat} (h : k < 7) : pw k ≤ 281474976710656 := by
  have : 256 ^ k ≤ 256 ^ 6 := Nat.pow_le_pow_right (by omega) (by omega)
  simpa [pw] using this
theorem num_lt6 {l : List UInt8} (h : l.length < 7) : num l < 281474976710656 := Nat.lt_of_lt_of_le (num_lt l) (pw_le6 h)
theorem pw_pos (k : Nat) : 0 < pw k := Nat.pow_pos (by omega)

theorem two_pow_eight (k : Nat) : (2 : Nat) ^ (8 * k) = pw k := by rw [Nat.pow_mul]; rfl
theorem two_pow_pw (k : Nat) : (2 : Int) ^ (8 * (k : Int)).toNat = (pw k : Int) := by
  have e : (8 * (k : Int)).toNat = 8 * k := by omega
  rw [e, ← two_pow_eight]
  simp
theorem two_pow_pw' (k : Nat) : (2 : Int) ^ (8 * k) = (pw k : Int) := by
  rw [← two_pow_eight]
  simp
theorem shr_pw' (n : Nat) (k : Nat) : (n : Int) / 2 ^ (8 * k) = ((n / pw k : Nat) : Int) := by
  rw [two_pow_pw']; simp
theorem shr_pw (n : Nat) (k : Nat) : (n : Int) / 2 ^ (8 * (k : Int)).toNat = ((n / pw k : Nat) : Int) := by
  rw [two_pow_pw]; simp

/-- Is a size valid? -/
def vld (size : Int) : Bool := decide (1 ≤ size ∧ size ≤ 7)
/-- Can n be written in size bytes? -/
def fits (n size : Int) : Bool := decide (1 ≤ size ∧ size ≤ 7 ∧ 0 ≤ n ∧ n < 256 ^ size.toNat)
/-- The bytes of n, least significant first, if it can be written. -/
def putLe (n size : Int) : List UInt8 := if fits n size then leL size.toNat n.toNat else []
/-- A string of bytes. -/
def str (l : List UInt8) : ByteArray := ⟨l.toArray⟩
theorem str_size (l : List UInt8) : (str l).size = l.length := by simp [str, ByteArray.size]
theorem str_toList (l : List UInt8) : (str l).data.toList = l := by simp [str]
theorem str_of (s : ByteArray) : str s.data.toList = s := by simp [str]

theorem str_append (a b : List UInt8) : str a ++ str b = str (a ++ b) := by
  apply ByteArray.ext
  simp [str]

theorem putLe_length_le (n size : Int) : (putLe n size).length ≤ 7 := by
  unfold putLe fits
  split
  · rename_i h
    have := of_decide_eq_true h
    rw [leL_length]
    omega
  · simp

/-- What a row holds when its first k and last k bytes have been exchanged. -/
def turned (l : List UInt8) (k x : Nat) : UInt8 := if x < k ∨ l.length ≤ x + k then l.getD (l.length - 1 - x) 0 else l.getD x 0
theorem turned_zero (l : List UInt8) (x : Nat) (hx : x < l.length) : turned l 0 x = l[x] := by
  unfold turned
  rw [if_neg (by omega)]
  simp [List.getD, hx]
theorem turned_q {l : List UInt8} {k q : Nat} (h : k + q + 1 = l.length) (hr : k < q) : turned l (k + 1) q = turned l k k := by
  unfold turned
  rw [if_pos (by omega), if_neg (by omega), show l.length - 1 - q = k by omega]
theorem turned_k {l : List UInt8} {k q : Nat} (h : k + q + 1 = l.length) (hr : k < q) : turned l (k + 1) k = turned l k q := by
  unfold turned
  rw [if_pos (by omega), if_neg (by omega), show l.length - 1 - k = q by omega]
theorem turned_far {l : List UInt8} {k q x : Nat} (h : k + q + 1 = l.length) (hk : x ≠ k) (hq : x ≠ q) : turned l (k + 1) x = turned l k x := by
  unfold turned
  by_cases c : x < k ∨ l.length ≤ x + k
  · rw [if_pos (by omega), if_pos c]
  · rw [if_neg (by omega), if_neg c]
theorem turned_done {l : List UInt8} {k q x : Nat} (h : k + q + 1 = l.length) (hr : ¬ k < q) (hx : x < l.reverse.length) : turned l k x = l.reverse[x] := by
  have hx' : x < l.length := by simpa using hx
  have e : l.reverse[x] = l.getD (l.length - 1 - x) 0 := by
    rw [List.getElem_reverse]
    simp [List.getD, show l.length - 1 - x < l.length by omega]
  rw [e]
  unfold turned
  by_cases c : x < k ∨ l.length ≤ x + k
  · rw [if_pos c]
  · rw [if_neg c, show l.length - 1 - x = x by omega]
end Go.Proofs.Ytnckcdngmffahaa

/- Plain mathematics of captures: no Go in sight. -/
namespace Go.Proofs.Ytnckcdngmffahaa
set_option linter.unusedVariables false

/-- A record: its time, its original length, its data. -/
structure CRec where
  tm : Int
  sz : Int
  dat : List UInt8
/-- The number of n bytes at place p, in a byte order. -/
def numC (big : Bool) (S : List UInt8) (p n : Nat) : Nat := num (if big then (S.drop p).take n else ((S.drop p).take n).reverse)
/-- Where the examining of records stands: the offset of the next one, the byte order, how many there were, the time of the last. -/
structure CSt where
  pos : Nat
  big : Bool
  cnt : Nat
  last : Nat
def tmC (S : List UInt8) (q : CSt) : Nat := numC q.big S q.pos 4 * 1000 + numC q.big S (q.pos + 4) 4 / 1000
def capC (S : List UInt8) (q : CSt) : Nat := numC q.big S (q.pos + 8) 4
def szC (S : List UInt8) (q : CSt) : Nat := numC q.big S (q.pos + 12) 4
/-- What is wrong with the record's header (0: nothing). -/
def chkC (S : List UInt8) (q : CSt) : Nat :=
  if 999999 < numC q.big S (q.pos + 4) 4 then 2
  else if q.cnt = 2000 ∨ 4096 < capC S q ∨ szC S q < capC S q then 3
  else if 0 < q.cnt ∧ tmC S q < q.last then 12 else 0
def recAt (S : List UInt8) (q : CSt) : CRec := ⟨tmC S q, szC S q, (S.drop (q.pos + 16)).take (capC S q)⟩
def nextC (S : List UInt8) (q : CSt) : CSt := ⟨q.pos + 16 + capC S q, q.big, q.cnt + 1, tmC S q⟩
/-- What comes next: no more (0), an error (its code), or one record (none). -/
def nowC (S : List UInt8) (q : CSt) : Option Nat :=
  if S.length < q.pos + 16 then some 0
  else if chkC S q ≠ 0 then some (chkC S q)
  else if S.length < q.pos + 16 + capC S q then some 0
  else none
/-- The records from here on, where their examining stops, and its error. -/
def recsC (S : List UInt8) : Nat → CSt → List CRec × CSt × Nat
  | 0, q => ([], q, 0)
  | f + 1, q => match nowC S q with
    | some e => ([], q, e)
    | none => (recAt S q :: (recsC S f (nextC S q)).1, (recsC S f (nextC S q)).2)
theorem nowC_none {S : List UInt8} {q : CSt} (h : nowC S q = none) : q.pos + 16 + capC S q ≤ S.length ∧ chkC S q = 0 := by
  unfold nowC at h
  split at h
  · cases h
  · split at h
    · cases h
    · rename_i h2
      split at h
      · cases h
      · exact ⟨by omega, by simpa using h2⟩
theorem chk_pos (S : List UInt8) (q : CSt) : chkC S q = 0 ∨ 0 < chkC S q := by omega
/-- With fuel for all bytes the walk comes to its end. -/
theorem recsC_end {S : List UInt8} : ∀ (f : Nat) (q : CSt), S.length < q.pos + f → nowC S (recsC S f q).2.1 = some (recsC S f q).2.2
  | 0, q, h => by
    show nowC S q = some 0
    unfold nowC
    rw [if_pos (by omega)]
  | f + 1, q, h => by
    cases hn : nowC S q with
    | some e => rw [recsC, hn]; exact hn
    | none =>
      rw [recsC, hn]
      have := (nowC_none hn).1
      exact recsC_end f (nextC S q) (by show S.length < q.pos + 16 + capC S q + f; omega)
/-- More fuel changes nothing. -/
theorem recsC_fuel {S : List UInt8} : ∀ (f g : Nat) (q : CSt), S.length < q.pos + f → S.length < q.pos + g → recsC S f q = recsC S g q
  | 0, 0, q, _, _ => rfl
  | 0, g + 1, q, h, _ => by
    have : nowC S q = some 0 := by unfold nowC; rw [if_pos (by omega)]
    rw [recsC, recsC, this]
  | f + 1, 0, q, _, h => by
    have : nowC S q = some 0 := by unfold nowC; rw [if_pos (by omega)]
    rw [recsC, recsC, this]
  | f + 1, g + 1, q, h1, h2 => by
    cases hn : nowC S q with
    | some e => rw [recsC, recsC, hn]
    | none =>
      have h3 := (nowC_none hn).1
      rw [recsC, recsC, hn]
      have := recsC_fuel f g (nextC S q) (by show S.length < q.pos + 16 + capC S q + f; omega) (by show S.length < q.pos + 16 + capC S q + g; omega)
      rw [this]
/-- All records from here on. -/
def allC (S : List UInt8) (q : CSt) : List CRec × CSt × Nat := recsC S (S.length + 1) q
theorem allC_stop {S : List UInt8} {q : CSt} {e : Nat} (h : nowC S q = some e) : allC S q = ([], q, e) := by
  unfold allC
  rw [recsC, h]
theorem allC_go {S : List UInt8} {q : CSt} (h : nowC S q = none) : allC S q = (recAt S q :: (allC S (nextC S q)).1, (allC S (nextC S q)).2) := by
  have h3 := (nowC_none h).1
  unfold allC
  rw [recsC, h]
  have := recsC_fuel (S := S) S.length (S.length + 1) (nextC S q) (by show S.length < q.pos + 16 + capC S q + S.length; omega) (by show S.length < q.pos + 16 + capC S q + (S.length + 1); omega)
  rw [this]
/-! ### More bytes -/
theorem numC_more {big : Bool} {S : List UInt8} {p n : Nat} (T : List UInt8) (h : p + n ≤ S.length) : numC big (S ++ T) p n = numC big S p n := by
  unfold numC
  rw [List.drop_append_of_le_length (by omega), List.take_append_of_le_length (by rw [List.length_drop]; omega)]
theorem head_more {S : List UInt8} {q : CSt} (T : List UInt8) (h : q.pos + 16 ≤ S.length) : tmC (S ++ T) q = tmC S q ∧ capC (S ++ T) q = capC S q ∧ szC (S ++ T) q = szC S q ∧ chkC (S ++ T) q = chkC S q := by
  have h0 := numC_more (big := q.big) (p := q.pos) (n := 4) T (show q.pos + 4 ≤ S.length by omega)
  have h1 := numC_more (big := q.big) (p := q.pos + 4) (n := 4) T (show q.pos + 4 + 4 ≤ S.length by omega)
  have h2 := numC_more (big := q.big) (p := q.pos + 8) (n := 4) T (show q.pos + 8 + 4 ≤ S.length by omega)
  have h3 := numC_more (big := q.big) (p := q.pos + 12) (n := 4) T (show q.pos + 12 + 4 ≤ S.length by omega)
  have a : tmC (S ++ T) q = tmC S q := by unfold tmC; rw [h0, h1]
  have b : capC (S ++ T) q = capC S q := h2
  have c : szC (S ++ T) q = szC S q := h3
  refine ⟨a, b, c, ?_⟩
  unfold chkC
  rw [h1, a, b, c]
theorem now_more {S : List UInt8} {q : CSt} (T : List UInt8) (h : nowC S q = none) : nowC (S ++ T) q = none ∧ recAt (S ++ T) q = recAt S q ∧ nextC (S ++ T) q = nextC S q := by
  obtain ⟨h1, h2⟩ := nowC_none h
  obtain ⟨a, b, c, d⟩ := head_more (S := S) (q := q) T (by omega)
  refine ⟨?_, ?_, ?_⟩
  · unfold nowC
    rw [d, b, List.length_append, if_neg (by omega), if_neg (by omega), if_neg (by omega)]
  · unfold recAt
    rw [a, b, c, List.drop_append_of_le_length (by omega), List.take_append_of_le_length (by rw [List.length_drop]; omega)]
  · unfold nextC
    rw [a, b]
theorem now_more_err {S : List UInt8} {q : CSt} (T : List UInt8) {e : Nat} (h : nowC S q = some e) (he : e ≠ 0) : nowC (S ++ T) q = some e := by
  unfold nowC at h
  split at h
  · exact absurd (Option.some.inj h).symm he
  · rename_i h1
    obtain ⟨a, b, c, d⟩ := head_more (S := S) (q := q) T (by omega)
    split at h
    · rename_i h2
      unfold nowC
      rw [d, List.length_append, if_neg (by omega), if_pos h2, ← h]
    · split at h
      · exact absurd (Option.some.inj h).symm he
      · cases h
/-- MORE BYTES: the records so far stay, the walk goes on where it stood. -/
theorem allC_more (T : List UInt8) {S : List UInt8} : ∀ (n : Nat) (q : CSt), S.length < q.pos + n → (allC S q).2.2 = 0 → allC (S ++ T) q = ((allC S q).1 ++ (allC (S ++ T) (allC S q).2.1).1, (allC (S ++ T) (allC S q).2.1).2)
  | n, q, hn, h => by
    cases hq : nowC S q with
    | some e =>
      rw [allC_stop hq]
      simp
    | none =>
      have h3 := (nowC_none hq).1
      obtain ⟨a, b, c⟩ := now_more T hq
      rw [allC_go hq] at h ⊢
      rw [allC_go a, b, c]
      cases n with
      | zero => omega
      | succ n =>
        have ih := allC_more T n (nextC S q) (by show S.length < q.pos + 16 + capC S q + n; omega) h
        simp only
        rw [ih]
        simp
theorem allC_more_err (T : List UInt8) {S : List UInt8} : ∀ (n : Nat) (q : CSt), S.length < q.pos + n → (allC S q).2.2 ≠ 0 → allC (S ++ T) q = allC S q
  | n, q, hn, h => by
    cases hq : nowC S q with
    | some e =>
      rw [allC_stop hq] at h ⊢
      exact allC_stop (now_more_err T hq h)
    | none =>
      have h3 := (nowC_none hq).1
      obtain ⟨a, b, c⟩ := now_more T hq
      rw [allC_go hq] at h ⊢
      rw [allC_go a, b, c]
      cases n with
      | zero => omega
      | succ n =>
        have ih := allC_more_err T n (nextC S q) (by show S.length < q.pos + 16 + capC S q + n; omega) h
        rw [ih]
/-- The end of a walk without an error lies within the bytes. -/
theorem allC_pos {S : List UInt8} : ∀ (n : Nat) (q : CSt), S.length < q.pos + n → q.pos ≤ S.length → q.pos ≤ (allC S q).2.1.pos ∧ (allC S q).2.1.pos ≤ S.length
  | n, q, hn, hq => by
    cases hnow : nowC S q with
    | some e => rw [allC_stop hnow]; exact ⟨Nat.le_refl _, hq⟩
    | none =>
      have h3 := (nowC_none hnow).1
      rw [allC_go hnow]
      cases n with
      | zero => omega
      | succ n =>
        have ih := allC_pos n (nextC S q) (by show S.length < q.pos + 16 + capC S q + n; omega) (show q.pos + 16 + capC S q ≤ S.length from h3)
        have e : (nextC S q).pos = q.pos + 16 + capC S q := rfl
        rw [e] at ih
        exact ⟨by simp only; omega, ih.2⟩
/-! ### The header -/
/-- The magic number's byte order, if it is one. -/
def magC (S : List UInt8) : Option Bool := if numC true S 0 4 = 2712847316 then some true else if numC true S 0 4 = 3569595041 then some false else none
def hdOk (S : List UInt8) (b : Bool) : Bool := decide (numC b S 4 2 = 2) && decide (numC b S 6 2 = 4) && decide (numC b S 20 4 = 1)
/-- Where the examining stands behind the header; none: it is wrong. -/
def headC (S : List UInt8) : Option CSt := match magC S with
  | none => none
  | some b => if hdOk S b = true then some ⟨24, b, 0, 0⟩ else none
theorem headC_more {S : List UInt8} (T : List UInt8) (h : 24 ≤ S.length) : headC (S ++ T) = headC S := by
  have h0 := numC_more (big := true) (p := 0) (n := 4) T (show 0 + 4 ≤ S.length by omega)
  have hm : magC (S ++ T) = magC S := by unfold magC; rw [h0]
  unfold headC
  rw [hm]
  cases magC S with
  | none => rfl
  | some b =>
    have h1 := numC_more (big := b) (p := 4) (n := 2) T (show 4 + 2 ≤ S.length by omega)
    have h2 := numC_more (big := b) (p := 6) (n := 2) T (show 6 + 2 ≤ S.length by omega)
    have h3 := numC_more (big := b) (p := 20) (n := 4) T (show 20 + 4 ≤ S.length by omega)
    have : hdOk (S ++ T) b = hdOk S b := by unfold hdOk; rw [h1, h2, h3]
    simp only [this]
/-! ### A reader that gets its bytes in pieces -/
/-- A reader: the bytes so far; where the records stand (none: the header is not there yet); has it ended. -/
structure RdC where
  S : List UInt8
  q : Option CSt
  e : Bool
def newC : RdC := ⟨[], none, false⟩
/-- What a Feed does: the records, the error, the reader behind it. -/
def feedC (r : RdC) (s : List UInt8) : List CRec × Nat × RdC :=
  if r.e = true then ([], 10, r) else
  match r.q with
  | some q => ((allC (r.S ++ s) q).1, (allC (r.S ++ s) q).2.2, ⟨r.S ++ s, some (allC (r.S ++ s) q).2.1, decide ((allC (r.S ++ s) q).2.2 ≠ 0)⟩)
  | none => if (r.S ++ s).length < 24 then ([], 0, ⟨r.S ++ s, none, false⟩) else
    match headC (r.S ++ s) with
    | none => ([], 2, ⟨r.S ++ s, none, true⟩)
    | some q => ((allC (r.S ++ s) q).1, (allC (r.S ++ s) q).2.2, ⟨r.S ++ s, some (allC (r.S ++ s) q).2.1, decide ((allC (r.S ++ s) q).2.2 ≠ 0)⟩)
def posC (r : RdC) : Nat := match r.q with
  | none => 0
  | some q => q.pos
/-- What Close returns. -/
def closeC (r : RdC) : Nat := if r.e = true then 10 else match r.q with
  | none => 1
  | some q => if q.pos < r.S.length then 1 else 0
/-- What Read returns: the records, the error, its offset. -/
def readC (s : List UInt8) : List CRec × Nat × Nat :=
  if (feedC newC s).2.1 ≠ 0 then ([], (feedC newC s).2.1, posC (feedC newC s).2.2)
  else if closeC (feedC newC s).2.2 ≠ 0 then ([], closeC (feedC newC s).2.2, posC (feedC newC s).2.2)
  else ((feedC newC s).1, 0, 0)
/-- A reader to which S came, all records out, no error: the pieces do not matter. -/
structure GoodC (r : RdC) (out : List CRec) : Prop where
  same : feedC newC r.S = (out, 0, r)
theorem good_new : GoodC newC [] := ⟨rfl⟩
theorem feed_ended (s : List UInt8) {r : RdC} (h : r.e = true) : feedC r s = ([], 10, r) := by unfold feedC; rw [if_pos h]
theorem feed_new (X : List UInt8) : feedC newC X = if X.length < 24 then ([], 0, ⟨X, none, false⟩) else match headC X with
      | none => ([], 2, ⟨X, none, true⟩)
      | some q => ((allC X q).1, (allC X q).2.2, ⟨X, some (allC X q).2.1, decide ((allC X q).2.2 ≠ 0)⟩) := rfl
/-- FEEDING IN PIECES IS FEEDING AT ONCE. -/
theorem feed_pieces {r : RdC} {out : List CRec} (h : GoodC r out) (s : List UInt8) : feedC newC (r.S ++ s) = (out ++ (feedC r s).1, (feedC r s).2) := by
  have hs := h.same
  obtain ⟨S, q, e⟩ := r
  simp only at hs ⊢
  have hnew : ∀ X, feedC newC X = if X.length < 24 then ([], 0, ⟨X, none, false⟩) else match headC X with
      | none => ([], 2, ⟨X, none, true⟩)
      | some q => ((allC X q).1, (allC X q).2.2, ⟨X, some (allC X q).2.1, decide ((allC X q).2.2 ≠ 0)⟩) := fun X => rfl
  rw [hnew] at hs
  by_cases h24 : S.length < 24
  · rw [if_pos h24] at hs
    simp only [Prod.mk.injEq, RdC.mk.injEq, true_and] at hs
    obtain ⟨rfl, rfl, rfl⟩ := hs
    rw [hnew]
    show _ = (([] : List CRec) ++ (feedC ⟨S, none, false⟩ s).1, (feedC ⟨S, none, false⟩ s).2)
    rw [List.nil_append]
    rfl
  · rw [if_neg h24] at hs
    have hh := headC_more s (show 24 ≤ S.length by omega)
    cases hq : headC S with
    | none => rw [hq] at hs; simp at hs
    | some q0 =>
      rw [hq] at hs
      simp only [Prod.mk.injEq, RdC.mk.injEq, true_and] at hs
      obtain ⟨h1, h2, h3, h4⟩ := hs
      rw [h2] at h4
      subst h1 h3 h4
      have hm := allC_more s (S := S) (S.length + 1) q0 (by omega) h2
      rw [hnew, hh, hq, if_neg (by rw [List.length_append]; omega)]
      simp only
      rw [hm]
      rfl
theorem good_feed {r : RdC} {out : List CRec} (h : GoodC r out) (s : List UInt8) (he : (feedC r s).2.1 = 0) : GoodC (feedC r s).2.2 (out ++ (feedC r s).1) := by
  have hp := feed_pieces h s
  have hS : (feedC r s).2.2.S = r.S ++ s := by
    have he2 : r.e = false := by
      have := h.same
      cases hre : r.e with
      | false => rfl
      | true =>
        rw [feed_ended s hre] at he
        cases he
    unfold feedC
    rw [if_neg (by rw [he2]; decide)]
    split
    · rfl
    · split
      · rfl
      · split <;> rfl
  refine ⟨?_⟩
  rw [hS, hp]
  refine Prod.ext rfl (Prod.ext he rfl)
theorem numC_len {b : Bool} {S : List UInt8} {p n : Nat} : numC b S p n < 256 ^ n := by
  unfold numC
  have h1 : ((S.drop p).take n).length ≤ n := by rw [List.length_take]; omega
  have h2 : (if b then (S.drop p).take n else ((S.drop p).take n).reverse).length ≤ n := by
    split
    · exact h1
    · rw [List.length_reverse]; exact h1
  exact Nat.lt_of_lt_of_le (num_lt _) (Nat.pow_le_pow_right (by omega) h2)
end Go.Proofs.Ytnckcdngmffahaa

/- Plain mathematics of captures: writing, reading what was written, merging. -/
namespace Go.Proofs.Ytnckcdngmffahaa
set_option linter.unusedVariables false

def wHd : List UInt8 := leL 4 2712847316 ++ leL 2 2 ++ leL 2 4 ++ leL 4 0 ++ leL 4 0 ++ leL 4 4096 ++ leL 4 1
theorem wHd_len : wHd.length = 24 := by decide
def wRec (x : CRec) : List UInt8 := leL 4 (x.tm.toNat / 1000) ++ (leL 4 (x.tm.toNat % 1000 * 1000) ++ (leL 4 x.dat.length ++ (leL 4 x.sz.toNat ++ x.dat)))
theorem wRec_len (x : CRec) : (wRec x).length = 16 + x.dat.length := by
  unfold wRec
  simp only [List.length_append, leL_length]
  omega
/-- What is wrong with a record (0: nothing), behind one of the time p (none: first). -/
def wErr1 (p : Option Int) (x : CRec) : Nat :=
  if 4096 < x.dat.length then 3
  else if x.tm < 0 ∨ 1099511627776 < x.tm ∨ x.sz < x.dat.length ∨ 65535 < x.sz then 4
  else match p with
    | none => 0
    | some t => if x.tm < t then 12 else 0
def wErr : Option Int → List CRec → Nat
  | _, [] => 0
  | p, x :: r => if wErr1 p x ≠ 0 then wErr1 p x else wErr (some x.tm) r
def writeC (l : List CRec) : List UInt8 × Nat :=
  if 2000 < l.length then ([], 3) else if wErr none l ≠ 0 then ([], wErr none l) else (wHd ++ l.flatMap wRec, 0)
theorem wErr1_ok {p : Option Int} {x : CRec} (h : wErr1 p x = 0) : x.dat.length ≤ 4096 ∧ 0 ≤ x.tm ∧ x.tm ≤ 1099511627776 ∧ (x.dat.length : Int) ≤ x.sz ∧ x.sz ≤ 65535 ∧ ∀ t, p = some t → t ≤ x.tm := by
  unfold wErr1 at h
  split at h
  · cases h
  · split at h
    · cases h
    · rename_i h1 h2
      refine ⟨by omega, by omega, by omega, by omega, by omega, fun t ht => ?_⟩
      subst ht
      simp only at h
      split at h
      · cases h
      · omega
/-! ### Reading what was written -/
theorem numC_le {pre post : List UInt8} {p n v : Nat} (hp : p = pre.length) : numC false (pre ++ (leL n v ++ post)) p n = v % 256 ^ n := by
  unfold numC
  subst hp
  rw [List.drop_left, List.take_append_of_le_length (by rw [leL_length]; exact Nat.le_refl _), List.take_of_length_le (by rw [leL_length]; exact Nat.le_refl _)]
  exact num_reverse_leL n v
theorem wRec_fields (pre post : List UInt8) (x : CRec) {p : Option Int} (h : wErr1 p x = 0) (q : CSt) (hq : q.pos = pre.length) (hb : q.big = false) :
    tmC (pre ++ (wRec x ++ post)) q = x.tm.toNat ∧ capC (pre ++ (wRec x ++ post)) q = x.dat.length ∧ szC (pre ++ (wRec x ++ post)) q = x.sz.toNat ∧ numC q.big (pre ++ (wRec x ++ post)) (q.pos + 4) 4 = x.tm.toNat % 1000 * 1000 := by
  obtain ⟨h1, h2, h3, h4, h5, -⟩ := wErr1_ok h
  have e : (256 : Nat) ^ 4 = 4294967296 := by decide
  have a0 : numC false (pre ++ (wRec x ++ post)) q.pos 4 = x.tm.toNat / 1000 := by
    have := numC_le (pre := pre) (post := leL 4 (x.tm.toNat % 1000 * 1000) ++ (leL 4 x.dat.length ++ (leL 4 x.sz.toNat ++ x.dat)) ++ post) (p := q.pos) (n := 4) (v := x.tm.toNat / 1000) hq
    rw [e, Nat.mod_eq_of_lt (show x.tm.toNat / 1000 < 4294967296 by omega)] at this
    rw [← this]
    unfold wRec
    simp only [List.append_assoc]
  have a1 : numC false (pre ++ (wRec x ++ post)) (q.pos + 4) 4 = x.tm.toNat % 1000 * 1000 := by
    have := numC_le (pre := pre ++ leL 4 (x.tm.toNat / 1000)) (post := leL 4 x.dat.length ++ (leL 4 x.sz.toNat ++ x.dat) ++ post) (p := q.pos + 4) (n := 4) (v := x.tm.toNat % 1000 * 1000) (by rw [List.length_append, leL_length, hq])
    rw [e, Nat.mod_eq_of_lt (show x.tm.toNat % 1000 * 1000 < 4294967296 by omega)] at this
    rw [← this]
    unfold wRec
    simp only [List.append_assoc]
  have a2 : numC false (pre ++ (wRec x ++ post)) (q.pos + 8) 4 = x.dat.length := by
    have := numC_le (pre := pre ++ leL 4 (x.tm.toNat / 1000) ++ leL 4 (x.tm.toNat % 1000 * 1000)) (post := leL 4 x.sz.toNat ++ x.dat ++ post) (p := q.pos + 8) (n := 4) (v := x.dat.length) (by rw [List.length_append, List.length_append, leL_length, leL_length, hq])
    rw [e, Nat.mod_eq_of_lt (show x.dat.length < 4294967296 by omega)] at this
    rw [← this]
    unfold wRec
    simp only [List.append_assoc]
  have a3 : numC false (pre ++ (wRec x ++ post)) (q.pos + 12) 4 = x.sz.toNat := by
    have := numC_le (pre := pre ++ leL 4 (x.tm.toNat / 1000) ++ leL 4 (x.tm.toNat % 1000 * 1000) ++ leL 4 x.dat.length) (post := x.dat ++ post) (p := q.pos + 12) (n := 4) (v := x.sz.toNat) (by rw [List.length_append, List.length_append, List.length_append, leL_length, leL_length, leL_length, hq])
    rw [e, Nat.mod_eq_of_lt (show x.sz.toNat < 4294967296 by omega)] at this
    rw [← this]
    unfold wRec
    simp only [List.append_assoc]
  unfold tmC capC szC
  rw [hb, a0, a1, a2, a3]
  exact ⟨by omega, rfl, rfl, rfl⟩
/-- What a state says of the record before. -/
def prevC (q : CSt) : Option Int := if q.cnt = 0 then none else some q.last
theorem wRec_now (pre post : List UInt8) (x : CRec) (q : CSt) (h : wErr1 (prevC q) x = 0) (hq : q.pos = pre.length) (hb : q.big = false) (hc : q.cnt < 2000) :
    nowC (pre ++ (wRec x ++ post)) q = none ∧ recAt (pre ++ (wRec x ++ post)) q = x ∧ nextC (pre ++ (wRec x ++ post)) q = ⟨pre.length + (wRec x).length, false, q.cnt + 1, x.tm.toNat⟩ := by
  obtain ⟨f1, f2, f3, f4⟩ := wRec_fields pre post x h q hq hb
  obtain ⟨h1, h2, h3, h4, h5, h6⟩ := wErr1_ok h
  have hl := wRec_len x
  have hchk : chkC (pre ++ (wRec x ++ post)) q = 0 := by
    unfold chkC
    rw [f1, f2, f3, f4, if_neg (by omega), if_neg (by omega), if_neg]
    rintro ⟨g1, g2⟩
    have := h6 q.last (by unfold prevC; rw [if_neg (by omega)])
    omega
  refine ⟨?_, ?_, ?_⟩
  · unfold nowC
    rw [hchk, f2, List.length_append, List.length_append, hl, if_neg (by omega), if_neg (by omega), if_neg (by omega)]
  · unfold recAt
    rw [f1, f2, f3]
    have hd : (pre ++ (wRec x ++ post)).drop (q.pos + 16) = x.dat ++ post := by
      have e : pre ++ (wRec x ++ post) = (pre ++ leL 4 (x.tm.toNat / 1000) ++ leL 4 (x.tm.toNat % 1000 * 1000) ++ leL 4 x.dat.length ++ leL 4 x.sz.toNat) ++ (x.dat ++ post) := by
        unfold wRec
        simp only [List.append_assoc]
      rw [e]
      exact List.drop_left' (by simp only [List.length_append, leL_length]; omega)
    rw [hd, List.take_left]
    obtain ⟨a, b, d⟩ := x
    simp only at h2 h4 ⊢
    rw [Int.toNat_of_nonneg h2, Int.toNat_of_nonneg (by omega)]
  · unfold nextC
    rw [f1, f2, hb, hq, hl]
    simp only [CSt.mk.injEq, and_true]
    omega
def endC (p : Nat) (q : CSt) : List CRec → CSt
  | [] => q
  | x :: r => endC (p + (wRec x).length) ⟨p + (wRec x).length, false, q.cnt + 1, x.tm.toNat⟩ r
theorem write_all (post : List UInt8) : ∀ (l : List CRec) (pre : List UInt8) (q : CSt), wErr (prevC q) l = 0 → q.pos = pre.length → q.big = false → q.cnt + l.length ≤ 2000 →
    allC (pre ++ (l.flatMap wRec ++ post)) q = (l ++ (allC (pre ++ (l.flatMap wRec ++ post)) (endC pre.length q l)).1, (allC (pre ++ (l.flatMap wRec ++ post)) (endC pre.length q l)).2)
  | [], pre, q, _, _, _, _ => by simp [endC]
  | x :: r, pre, q, h, hq, hb, hc => by
    rw [List.length_cons] at hc
    rw [wErr] at h
    have hx : wErr1 (prevC q) x = 0 := by
      by_cases e : wErr1 (prevC q) x = 0
      · exact e
      · rw [if_pos e] at h; exact absurd h e
    rw [if_neg (by omega)] at h
    have eS : pre ++ ((x :: r).flatMap wRec ++ post) = pre ++ (wRec x ++ (r.flatMap wRec ++ post)) := by rw [List.flatMap_cons, List.append_assoc]
    have eS2 : pre ++ ((x :: r).flatMap wRec ++ post) = (pre ++ wRec x) ++ (r.flatMap wRec ++ post) := by rw [eS, List.append_assoc]
    obtain ⟨n1, n2, n3⟩ := wRec_now pre (r.flatMap wRec ++ post) x q hx hq hb (by omega)
    have h0 := (wErr1_ok hx).2.1
    have ih := write_all post r (pre ++ wRec x) ⟨pre.length + (wRec x).length, false, q.cnt + 1, x.tm.toNat⟩ (by
      have e : prevC ⟨pre.length + (wRec x).length, false, q.cnt + 1, x.tm.toNat⟩ = some x.tm := by
        unfold prevC
        rw [if_neg (by simp)]
        simp only
        rw [Int.toNat_of_nonneg h0]
      rw [e]
      exact h) (by rw [List.length_append]) rfl (by show q.cnt + 1 + r.length ≤ 2000; omega)
    rw [← eS2, List.length_append] at ih
    rw [← eS] at n1 n2 n3
    rw [allC_go n1, n2, n3, endC, ih]
    rfl
theorem endC_snoc : ∀ (l : List CRec) (p : Nat) (q : CSt) (x : CRec), endC p q (l ++ [x]) = ⟨p + (l.flatMap wRec).length + (wRec x).length, false, q.cnt + l.length + 1, x.tm.toNat⟩
  | [], p, q, x => by simp [endC]
  | y :: r, p, q, x => by
    rw [List.cons_append, endC, endC_snoc r]
    simp only [List.flatMap_cons, List.length_append, List.length_cons, CSt.mk.injEq, true_and, and_true]
    omega
theorem endC_pos (l : List CRec) (p : Nat) (q : CSt) (hq : q.pos = p) (hb : q.big = false) : (endC p q l).pos = p + (l.flatMap wRec).length ∧ (endC p q l).big = false ∧ (endC p q l).cnt = q.cnt + l.length := by
  rcases List.eq_nil_or_concat l with rfl | ⟨i, x, rfl⟩
  · simp [endC, hq, hb]
  · rw [List.concat_eq_append, endC_snoc]
    simp only [List.flatMap_append, List.flatMap_cons, List.flatMap_nil, List.append_nil, List.length_append, List.length_cons, List.length_nil, true_and]
    omega
theorem headC_write (post : List UInt8) : headC (wHd ++ post) = some ⟨24, false, 0, 0⟩ := by
  rw [headC_more post (by rw [wHd_len]; exact Nat.le_refl _)]
  kernel_rfl
theorem nowC_short {S : List UInt8} {q : CSt} (h : S.length < q.pos + 16) : nowC S q = some 0 := by unfold nowC; rw [if_pos h]
/-- READING WHAT WAS WRITTEN RETURNS IT. -/
theorem read_write {l : List CRec} (h : wErr none l = 0) (hl : l.length ≤ 2000) : readC (wHd ++ l.flatMap wRec) = (l, 0, 0) := by
  have ha := write_all [] l wHd ⟨24, false, 0, 0⟩ h (by rw [wHd_len]) rfl (by simpa using hl)
  rw [List.append_nil] at ha
  have hp := endC_pos l wHd.length ⟨24, false, 0, 0⟩ (by rw [wHd_len]) rfl
  have hs : allC (wHd ++ l.flatMap wRec) (endC wHd.length ⟨24, false, 0, 0⟩ l) = ([], endC wHd.length ⟨24, false, 0, 0⟩ l, 0) := allC_stop (nowC_short (by rw [hp.1, List.length_append]; omega))
  rw [hs] at ha
  simp only [List.append_nil] at ha
  have hf : feedC newC (wHd ++ l.flatMap wRec) = (l, 0, ⟨wHd ++ l.flatMap wRec, some (endC wHd.length ⟨24, false, 0, 0⟩ l), false⟩) := by
    have hc := headC_write (l.flatMap wRec)
    rw [feed_new, if_neg (by rw [List.length_append, wHd_len]; omega), hc]
    simp only
    rw [ha]
    rfl
  unfold readC
  rw [hf]
  simp only
  rw [if_neg (by decide)]
  have hcl : closeC ⟨wHd ++ l.flatMap wRec, some (endC wHd.length ⟨24, false, 0, 0⟩ l), false⟩ = 0 := by
    unfold closeC
    rw [if_neg (by simp)]
    simp only
    rw [if_neg (by rw [hp.1, List.length_append]; omega)]
  rw [hcl, if_neg (by decide)]
/-- WITHOUT ITS LAST BYTE IT IS TOO SHORT. -/
theorem read_cut {l : List CRec} (h : wErr none l = 0) (hl : l.length ≤ 2000) : (readC ((wHd ++ l.flatMap wRec).take ((wHd ++ l.flatMap wRec).length - 1))).2.1 = 1 := by
  rcases List.eq_nil_or_concat l with rfl | ⟨i, x, rfl⟩
  · decide +kernel
  · rw [List.concat_eq_append] at h hl ⊢
    obtain ⟨F, hF⟩ : ∃ F, F = wHd ++ (i ++ [x]).flatMap wRec := ⟨_, rfl⟩
    have hFl : F.length = 24 + (i.flatMap wRec).length + (wRec x).length := by
      rw [hF, List.flatMap_append, List.length_append, List.length_append, wHd_len]; simp; omega
    have hx := wRec_len x
    rw [← hF]
    obtain ⟨T, hT⟩ : ∃ T, T = F.take (F.length - 1) := ⟨_, rfl⟩
    rw [← hT]
    have hTl : T.length = F.length - 1 := by rw [hT, List.length_take]; omega
    have hFT : F = T ++ F.drop (F.length - 1) := by rw [hT, List.take_append_drop]
    -- the list before its last
    have happ : ∀ (a b : List CRec) (p : Option Int), wErr p (a ++ b) = 0 → wErr p a = 0 := by
      intro a
      induction a with
      | nil => intro b p _; rfl
      | cons y r ih =>
        intro b p hh
        rw [List.cons_append, wErr] at hh
        rw [wErr]
        by_cases e : wErr1 p y = 0
        · rw [if_neg (by omega)] at hh ⊢
          exact ih b _ hh
        · rw [if_pos e] at hh
          exact absurd hh e
    have hlast : ∀ (a : List CRec) (q : CSt) (p : Nat), wErr (prevC q) (a ++ [x]) = 0 → wErr1 (prevC (endC p q a)) x = 0 := by
      intro a
      induction a with
      | nil =>
        intro q p hh
        rw [List.nil_append, wErr] at hh
        by_cases e : wErr1 (prevC q) x = 0
        · exact e
        · rw [if_pos e] at hh; exact absurd hh e
      | cons y r ih =>
        intro q p hh
        rw [List.cons_append, wErr] at hh
        by_cases e : wErr1 (prevC q) y = 0
        · rw [if_neg (by omega)] at hh
          rw [endC]
          refine ih _ _ ?_
          have e2 : prevC ⟨p + (wRec y).length, false, q.cnt + 1, y.tm.toNat⟩ = some y.tm := by
            unfold prevC
            rw [if_neg (by simp)]
            simp only
            rw [Int.toNat_of_nonneg (wErr1_ok e).2.1]
          rw [e2]
          exact hh
        · rw [if_pos e] at hh
          exact absurd hh e
    have hq0 : prevC ⟨24, false, 0, 0⟩ = none := rfl
    have hi := happ i [x] none h
    have hlx := hlast i ⟨24, false, 0, 0⟩ wHd.length (by rw [hq0]; exact h)
    have hil : i.length < 2000 := by simp at hl; omega
    have hp := endC_pos i wHd.length ⟨24, false, 0, 0⟩ (by rw [wHd_len]) rfl
    have hFx : F = (wHd ++ i.flatMap wRec) ++ (wRec x ++ []) := by rw [hF, List.flatMap_append]; simp
    obtain ⟨n1, n2, n3⟩ := wRec_now (wHd ++ i.flatMap wRec) [] x (endC wHd.length ⟨24, false, 0, 0⟩ i) hlx (by rw [hp.1, List.length_append]) hp.2.1 (by rw [hp.2.2]; simp; omega)
    rw [← hFx] at n1
    obtain ⟨m1, m2⟩ := nowC_none n1
    have hcap : capC F (endC wHd.length ⟨24, false, 0, 0⟩ i) = x.dat.length := by
      have := (wRec_fields (wHd ++ i.flatMap wRec) [] x hlx (endC wHd.length ⟨24, false, 0, 0⟩ i) (by rw [hp.1, List.length_append]) hp.2.1).2.1
      rw [← hFx] at this
      exact this
    have hnow : nowC T (endC wHd.length ⟨24, false, 0, 0⟩ i) = some 0 := by
      by_cases h16 : T.length < (endC wHd.length ⟨24, false, 0, 0⟩ i).pos + 16
      · exact nowC_short h16
      · obtain ⟨b1, b2, b3, b4⟩ := head_more (S := T) (q := endC wHd.length ⟨24, false, 0, 0⟩ i) (F.drop (F.length - 1)) (by omega)
        rw [← hFT] at b1 b2 b3 b4
        unfold nowC
        rw [if_neg h16, ← b4, m2, if_neg (by decide), ← b2, hcap, if_pos (by rw [hp.1, wHd_len]; omega)]
    have hTi : ∃ post, T = wHd ++ (i.flatMap wRec ++ post) := by
      refine ⟨(wRec x).take ((wRec x).length - 1), ?_⟩
      rw [hT, hFx, List.append_nil, List.take_append]
      have e1 : (wHd ++ i.flatMap wRec ++ wRec x).length - 1 - (wHd ++ i.flatMap wRec).length = (wRec x).length - 1 := by simp only [List.length_append]; omega
      rw [e1, List.take_of_length_le (by simp only [List.length_append]; omega), List.append_assoc]
    obtain ⟨post, hTp⟩ := hTi
    have ha := write_all post i wHd ⟨24, false, 0, 0⟩ hi (by rw [wHd_len]) rfl (by simp; omega)
    rw [← hTp, allC_stop hnow] at ha
    simp only [List.append_nil] at ha
    have hf : feedC newC T = (i, 0, ⟨T, some (endC wHd.length ⟨24, false, 0, 0⟩ i), false⟩) := by
      have hc := headC_write (i.flatMap wRec ++ post)
      rw [← hTp] at hc
      rw [feed_new, if_neg (by omega), hc]
      simp only
      rw [ha]
      rfl
    unfold readC
    rw [hf]
    simp only
    rw [if_neg (by decide)]
    have hcl : closeC ⟨T, some (endC wHd.length ⟨24, false, 0, 0⟩ i), false⟩ = 1 := by
      unfold closeC
      rw [if_neg (by simp)]
      simp only
      rw [if_pos (by rw [hp.1, wHd_len]; omega)]
    rw [hcl, if_pos (by decide)]
/-! ### Merging -/
def mergeC : List CRec → List CRec → List CRec
  | [], b => b
  | x :: a, [] => x :: a
  | x :: a, y :: b => if x.tm ≤ y.tm then x :: mergeC a (y :: b) else y :: mergeC (x :: a) b
termination_by a b => a.length + b.length
theorem merge_nil (a : List CRec) : mergeC a [] = a := by cases a <;> simp [mergeC]
theorem nil_merge (a : List CRec) : mergeC [] a = a := by simp [mergeC]
theorem merge_len : ∀ (a b : List CRec), (mergeC a b).length = a.length + b.length
  | [], b => by rw [nil_merge]; simp
  | x :: a, [] => by rw [merge_nil]; simp
  | x :: a, y :: b => by
    rw [mergeC]
    split
    · rw [List.length_cons, merge_len a (y :: b)]; simp only [List.length_cons]; omega
    · rw [List.length_cons, merge_len (x :: a) b]; simp only [List.length_cons]; omega
termination_by a b => a.length + b.length
/-- Times ascend from t on. -/
def ascC : Int → List CRec → Prop
  | _, [] => True
  | t, x :: r => t ≤ x.tm ∧ ascC x.tm r
theorem asc_weak {t u : Int} (h : t ≤ u) : ∀ {l : List CRec}, ascC u l → ascC t l
  | [], _ => trivial
  | x :: r, hh => ⟨Int.le_trans h hh.1, hh.2⟩
theorem merge_asc : ∀ (a b : List CRec) (t : Int), ascC t a → ascC t b → ascC t (mergeC a b)
  | [], b, t, _, hb => by rw [nil_merge]; exact hb
  | x :: a, [], t, ha, _ => by rw [merge_nil]; exact ha
  | x :: a, y :: b, t, ha, hb => by
    rw [mergeC]
    split
    · rename_i h
      exact ⟨ha.1, merge_asc a (y :: b) x.tm ha.2 ⟨h, hb.2⟩⟩
    · rename_i h
      exact ⟨hb.1, merge_asc (x :: a) b y.tm ⟨by omega, ha.2⟩ hb.2⟩
termination_by a b => a.length + b.length
end Go.Proofs.Ytnckcdngmffahaa

/- Plain mathematics for the laws about captures: readers over lists of pieces; one record too many. -/
namespace Go.Proofs.Ytnckcdngmffahaa
set_option linter.unusedVariables false

theorem allC_cnt {S : List UInt8} : ∀ (n : Nat) (q : CSt), S.length < q.pos + n → q.cnt ≤ 2000 → (allC S q).2.1.cnt ≤ 2000
  | n, q, hn, hq => by
    cases hnow : nowC S q with
    | some e => rw [allC_stop hnow]; exact hq
    | none =>
      obtain ⟨h3, h4⟩ := nowC_none hnow
      have hc : q.cnt ≠ 2000 := fun e => by
        unfold chkC at h4
        by_cases h5 : 999999 < numC q.big S (q.pos + 4) 4
        · rw [if_pos h5] at h4; cases h4
        · rw [if_neg h5, if_pos (Or.inl e)] at h4; cases h4
      rw [allC_go hnow]
      cases n with
      | zero => omega
      | succ n => exact allC_cnt n (nextC S q) (by show S.length < q.pos + 16 + capC S q + n; omega) (by show q.cnt + 1 ≤ 2000; omega)
/-- Where a reader stands is within its bytes. -/
def QOk (r : RdC) : Prop := ∀ q, r.q = some q → q.pos ≤ r.S.length ∧ q.cnt ≤ 2000
theorem QOk.new : QOk newC := fun q h => by cases h
theorem headC_at {S : List UInt8} {q : CSt} (h : headC S = some q) : q.pos = 24 ∧ q.cnt = 0 := by
  unfold headC at h
  split at h
  · cases h
  · split at h
    · obtain rfl := Option.some.inj h; exact ⟨rfl, rfl⟩
    · cases h
theorem feed_q {r : RdC} (h : QOk r) (s : List UInt8) : QOk (feedC r s).2.2 ∧ (feedC r s).2.2.S.length ≤ r.S.length + s.length := by
  by_cases he : r.e = true
  · rw [feed_ended s he]; exact ⟨h, by simp⟩
  · cases hq : r.q with
    | some q =>
      obtain ⟨h1, h2⟩ := h q hq
      have hf : feedC r s = ((allC (r.S ++ s) q).1, (allC (r.S ++ s) q).2.2, ⟨r.S ++ s, some (allC (r.S ++ s) q).2.1, decide ((allC (r.S ++ s) q).2.2 ≠ 0)⟩) := by
        unfold feedC; rw [if_neg he, hq]
      rw [hf]
      refine ⟨fun q' hq' => ?_, by simp only [List.length_append]; omega⟩
      obtain rfl := Option.some.inj hq'
      exact ⟨(allC_pos _ q (Nat.lt_of_lt_of_le (Nat.lt_succ_self _) (Nat.le_add_left _ _)) (by rw [List.length_append]; omega)).2, allC_cnt _ q (Nat.lt_of_lt_of_le (Nat.lt_succ_self _) (Nat.le_add_left _ _)) h2⟩
    | none =>
      have hf : feedC r s = if (r.S ++ s).length < 24 then ([], 0, ⟨r.S ++ s, none, false⟩) else match headC (r.S ++ s) with
          | none => ([], 2, ⟨r.S ++ s, none, true⟩)
          | some q => ((allC (r.S ++ s) q).1, (allC (r.S ++ s) q).2.2, ⟨r.S ++ s, some (allC (r.S ++ s) q).2.1, decide ((allC (r.S ++ s) q).2.2 ≠ 0)⟩) := by
        unfold feedC; rw [if_neg he, hq]
        try rfl
      rw [hf]
      by_cases h24 : (r.S ++ s).length < 24
      · rw [if_pos h24]
        exact ⟨fun q' hq' => (by cases hq'), by simp only [List.length_append]; omega⟩
      · rw [if_neg h24]
        cases hh : headC (r.S ++ s) with
        | none => exact ⟨fun q' hq' => (by cases hq'), by simp only [List.length_append]; omega⟩
        | some q =>
          obtain ⟨h1, h2⟩ := headC_at hh
          refine ⟨fun q' hq' => ?_, by simp only [List.length_append]; omega⟩
          obtain rfl := Option.some.inj hq'
          exact ⟨(allC_pos _ q (Nat.lt_of_lt_of_le (Nat.lt_succ_self _) (Nat.le_add_left _ _)) (by omega)).2, allC_cnt _ q (Nat.lt_of_lt_of_le (Nat.lt_succ_self _) (Nat.le_add_left _ _)) (by omega)⟩
/-- A reader behind a list of pieces. -/
def stC (l : List (List UInt8)) : RdC := l.foldl (fun r s => (feedC r s).2.2) newC
theorem stC_snoc (l : List (List UInt8)) (s : List UInt8) : stC (l ++ [s]) = (feedC (stC l) s).2.2 := by unfold stC; rw [List.foldl_append]; rfl
theorem stC_next {l : List (List UInt8)} {k : Nat} {s : List UInt8} (h : l[k]? = some s) : stC (l.take (k + 1)) = (feedC (stC (l.take k)) s).2.2 := by
  obtain ⟨hk, rfl⟩ := List.getElem?_eq_some_iff.1 h
  rw [List.take_succ_eq_append_getElem hk, stC_snoc]
theorem tot_next {l : List (List UInt8)} {k : Nat} {s : List UInt8} (h : l[k]? = some s) : (l.take (k + 1)).flatten = (l.take k).flatten ++ s := by
  obtain ⟨hk, rfl⟩ := List.getElem?_eq_some_iff.1 h
  rw [List.take_succ_eq_append_getElem hk, List.flatten_append]
  simp
theorem tot_take {l : List (List UInt8)} (k : Nat) : (l.take k).flatten.length ≤ l.flatten.length := by
  have : l.flatten = (l.take k).flatten ++ (l.drop k).flatten := by rw [← List.flatten_append, List.take_append_drop]
  rw [this, List.length_append]
  omega
theorem stC_ok (l : List (List UInt8)) : ∀ k, QOk (stC (l.take k)) ∧ (stC (l.take k)).S.length ≤ (l.take k).flatten.length
  | 0 => ⟨QOk.new, by simp [stC, newC]⟩
  | k + 1 => by
    obtain ⟨h1, h2⟩ := stC_ok l k
    cases h : l[k]? with
    | none =>
      have hl : l.length ≤ k := by
        have := List.getElem?_eq_none_iff.1 h
        exact this
      rw [List.take_of_length_le (show l.length ≤ k + 1 by omega)]
      rw [List.take_of_length_le hl] at h1 h2
      exact ⟨h1, h2⟩
    | some s =>
      rw [stC_next h, tot_next h, List.length_append]
      obtain ⟨a, b⟩ := feed_q h1 s
      exact ⟨a, by omega⟩
/-! ### Once an error was found, more bytes change nothing -/
theorem feed_more {X : List UInt8} (T : List UInt8) (h : (feedC newC X).2.1 ≠ 0) : (feedC newC (X ++ T)).1 = (feedC newC X).1 ∧ (feedC newC (X ++ T)).2.1 = (feedC newC X).2.1 := by
  rw [feed_new] at h ⊢
  rw [feed_new X]
  by_cases h24 : X.length < 24
  · rw [if_pos h24] at h; exact absurd rfl h
  · rw [if_neg h24] at h ⊢
    rw [if_neg (by rw [List.length_append]; omega), headC_more T (by omega)]
    cases hh : headC X with
    | none => exact ⟨rfl, rfl⟩
    | some q =>
      rw [hh] at h
      have := allC_more_err T (S := X) (X.length + 1) q (by omega) h
      simp only
      rw [this]
      exact ⟨rfl, rfl⟩
/-- What the law about streams has behind a list of pieces: the reader, the records, the error found. -/
structure RunC (X : List UInt8) (r : RdC) (out : List CRec) (fd : Nat) : Prop where
  ok : QOk r
  len : r.S.length ≤ X.length
  outs : out = (feedC newC X).1
  fnd : fd = (feedC newC X).2.1
  on : fd = 0 → GoodC r out ∧ r.S = X
  off : fd ≠ 0 → r.e = true
theorem RunC.new : RunC [] newC [] 0 := ⟨QOk.new, Nat.le_refl _, rfl, rfl, fun _ => ⟨good_new, rfl⟩, fun h => absurd rfl h⟩
theorem RunC.step_off {X : List UInt8} {r : RdC} {out : List CRec} {fd : Nat} (h : RunC X r out fd) (hf : fd ≠ 0) (s : List UInt8) : feedC r s = ([], 10, r) ∧ RunC (X ++ s) r out fd := by
  have he := h.off hf
  obtain ⟨a, b⟩ := feed_more s (X := X) (by rw [← h.fnd]; exact hf)
  exact ⟨feed_ended s he, h.ok, by rw [List.length_append]; have := h.len; omega, by rw [a]; exact h.outs, by rw [b]; exact h.fnd, fun e => absurd e hf, fun _ => he⟩
theorem feed_S {r : RdC} (he : r.e = false) (s : List UInt8) : (feedC r s).2.2.S = r.S ++ s := by
  unfold feedC
  rw [if_neg (by rw [he]; decide)]
  split
  · rfl
  · split
    · rfl
    · split <;> rfl
theorem feed_err_e {r : RdC} (s : List UInt8) (h : (feedC r s).2.1 ≠ 0) : (feedC r s).2.2.e = true := by
  by_cases he : r.e = true
  · rw [feed_ended s he]; exact he
  · unfold feedC at h ⊢
    rw [if_neg he] at h ⊢
    split
    · rename_i q hq
      rw [hq] at h
      simp only at h ⊢
      exact decide_eq_true h
    · rename_i hq
      rw [hq] at h
      simp only at h
      split
      · rename_i h24
        rw [if_pos h24] at h
        exact absurd rfl h
      · rename_i h24
        rw [if_neg h24] at h
        split
        · rfl
        · rename_i q hh
          rw [hh] at h
          exact decide_eq_true h
theorem good_e {r : RdC} {out : List CRec} (h : GoodC r out) : r.e = false := by
  have hs := h.same
  cases he : r.e with
  | false => rfl
  | true =>
    have h2 : (feedC newC r.S).2.1 = 0 := by rw [hs]
    have h3 : (feedC newC r.S).2.2.e = true := by rw [hs]; exact he
    rw [feed_new] at h2 h3
    split at h2
    · rename_i h24
      rw [if_pos h24] at h3
      cases h3
    · rename_i h24
      rw [if_neg h24] at h3
      cases hh : headC r.S with
      | none => rw [hh] at h2; cases h2
      | some q =>
        rw [hh] at h2 h3
        simp only at h2 h3
        rw [h2] at h3
        cases h3
theorem RunC.step_on {X : List UInt8} {r : RdC} {out : List CRec} (h : RunC X r out 0) (s : List UInt8) : RunC (X ++ s) (feedC r s).2.2 (out ++ (feedC r s).1) (feedC r s).2.1 := by
  obtain ⟨g, hS⟩ := h.on rfl
  obtain ⟨a, b⟩ := feed_q h.ok s
  have hp := feed_pieces g s
  rw [hS] at hp
  refine ⟨a, by rw [List.length_append, ← hS]; exact b, by rw [hp], by rw [hp], fun e => ⟨good_feed g s e, ?_⟩, fun e => feed_err_e s e⟩
  rw [feed_S (good_e g), hS]
/-- What Read says at the end. -/
theorem RunC.read_err {X : List UInt8} {r : RdC} {out : List CRec} {fd : Nat} (h : RunC X r out fd) (hf : fd ≠ 0) : (readC X).2.1 = fd := by
  unfold readC
  rw [← h.fnd, if_pos hf]
theorem RunC.read_on {X : List UInt8} {r : RdC} {out : List CRec} (h : RunC X r out 0) : (readC X).2.1 = closeC r ∧ (closeC r = 0 → (readC X).1 = out) := by
  obtain ⟨g, hS⟩ := h.on rfl
  have hs := g.same
  rw [hS] at hs
  unfold readC
  rw [hs]
  simp only
  rw [if_neg (by decide)]
  by_cases hc : closeC r = 0
  · rw [if_neg (by rw [hc]; decide), hc]
    exact ⟨rfl, fun _ => rfl⟩
  · rw [if_pos hc]
    exact ⟨rfl, fun e => absurd e hc⟩
theorem readC_len {X : List UInt8} (h : (readC X).2.1 ≠ 0) : (readC X).1 = [] := by
  unfold readC at h ⊢
  split
  · rfl
  · rename_i h1
    rw [if_neg h1] at h
    split
    · rfl
    · rename_i h2
      rw [if_neg h2] at h
      exact absurd rfl h
/-! ### One record more than 2000 -/
theorem wErr_snoc : ∀ (l : List CRec) (p : Option Int) (x : CRec), wErr p (l ++ [x]) = 0 → wErr p l = 0
  | [], p, x, _ => rfl
  | y :: r, p, x, h => by
    rw [List.cons_append, wErr] at h
    rw [wErr]
    by_cases e : wErr1 p y = 0
    · rw [if_neg (by rw [e]; decide)] at h ⊢
      exact wErr_snoc r _ x h
    · rw [if_pos e] at h
      exact absurd h e
theorem read_more {l : List CRec} {x : CRec} (h : wErr none l = 0) (hx : wErr1 none x = 0) (hl : l.length = 2000) : (readC (wHd ++ (l.flatMap wRec ++ wRec x))).2.1 = 3 ∧ (readC (wHd ++ (l.flatMap wRec ++ wRec x))).2.2 = (wHd ++ l.flatMap wRec).length := by
  obtain ⟨X, hX⟩ : ∃ X, X = wHd ++ (l.flatMap wRec ++ wRec x) := ⟨_, rfl⟩
  rw [← hX]
  have ha := write_all (wRec x) l wHd ⟨24, false, 0, 0⟩ h (by rw [wHd_len]) rfl (by rw [hl]; decide)
  rw [← hX] at ha
  have hp := endC_pos l wHd.length ⟨24, false, 0, 0⟩ (by rw [wHd_len]) rfl
  obtain ⟨Q, hQ⟩ : ∃ Q, Q = endC wHd.length ⟨24, false, 0, 0⟩ l := ⟨_, rfl⟩
  rw [← hQ] at ha hp
  obtain ⟨p1, p2, p3⟩ := hp
  have hXe : X = (wHd ++ l.flatMap wRec) ++ (wRec x ++ []) := by rw [hX]; simp
  have hpos : Q.pos = (wHd ++ l.flatMap wRec).length := by rw [p1, List.length_append]
  have hf := wRec_fields (wHd ++ l.flatMap wRec) [] x hx Q hpos p2
  rw [← hXe] at hf
  have hnow : nowC X Q = some 3 := by
    unfold nowC
    have hlen : ¬ X.length < Q.pos + 16 := by
      have := wRec_len x
      rw [hXe, List.append_nil, List.length_append, hpos]; omega
    have hchk : chkC X Q = 3 := by
      unfold chkC
      rw [if_neg (by rw [hf.2.2.2]; omega), if_pos (Or.inl (by rw [p3]; show 0 + l.length = 2000; omega))]
    rw [if_neg hlen, hchk, if_pos (by decide)]
  rw [allC_stop hnow] at ha
  have hfd : feedC newC X = (l ++ [], 3, ⟨X, some Q, true⟩) := by
    have hc := headC_write (l.flatMap wRec ++ wRec x)
    rw [← hX] at hc
    have h24 : ¬ X.length < 24 := by rw [hX, List.length_append, wHd_len]; omega
    rw [feed_new, if_neg h24, hc]
    simp only
    rw [ha]
    rfl
  unfold readC
  rw [hfd]
  simp only
  rw [if_pos (by decide)]
  exact ⟨rfl, hpos⟩
/-! ### How many records -/
theorem allC_len {S : List UInt8} : ∀ (n : Nat) (q : CSt), S.length < q.pos + n → (allC S q).1.length ≤ S.length - q.pos
  | n, q, hn => by
    cases hnow : nowC S q with
    | some e => rw [allC_stop hnow]; simp
    | none =>
      obtain ⟨h3, h4⟩ := nowC_none hnow
      rw [allC_go hnow]
      cases n with
      | zero => omega
      | succ n =>
        have ih := allC_len n (nextC S q) (by show S.length < q.pos + 16 + capC S q + n; omega)
        have e : (nextC S q).pos = q.pos + 16 + capC S q := rfl
        rw [e] at ih
        simp only [List.length_cons]
        omega
theorem feed_len (r : RdC) (s : List UInt8) : (feedC r s).1.length ≤ r.S.length + s.length := by
  by_cases he : r.e = true
  · rw [feed_ended s he]; simp
  · have h0 : ∀ q, (allC (r.S ++ s) q).1.length ≤ r.S.length + s.length := fun q => by
      have := allC_len (S := r.S ++ s) ((r.S ++ s).length + 1) q (by omega)
      rw [List.length_append] at this
      omega
    unfold feedC
    rw [if_neg he]
    split
    · exact h0 _
    · split
      · simp
      · split
        · simp
        · exact h0 _
theorem read_len (s : List UInt8) : (readC s).1.length ≤ s.length := by
  have h := feed_len newC s
  simp only [newC, List.length_nil, Nat.zero_add] at h
  unfold readC
  split
  · simp
  · split
    · simp
    · exact h
theorem write_len {l : List CRec} : (writeC l).1.length ≤ 24 + (l.flatMap wRec).length := by
  unfold writeC
  split
  · simp
  · split
    · simp
    · simp only [List.length_append, wHd_len]; omega
theorem flat_len : ∀ (l : List CRec), (∀ x ∈ l, x.dat.length ≤ 5000) → (l.flatMap wRec).length ≤ 5016 * l.length
  | [], _ => by simp
  | x :: r, h => by
    have h1 := flat_len r (fun y hy => h y (List.mem_cons_of_mem _ hy))
    have h2 := h x (List.mem_cons_self ..)
    rw [List.flatMap_cons, List.length_append, wRec_len, List.length_cons]
    omega
/-! ### Many equal records -/
theorem rep_flat (x : CRec) (hx : x.dat = []) : ∀ n, ((List.replicate n x).flatMap wRec).length = 16 * n
  | 0 => by simp
  | n + 1 => by
    rw [List.replicate_succ, List.flatMap_cons, List.length_append, rep_flat x hx n, wRec_len, hx]
    simp
    omega
theorem many_len (x : CRec) (hx : x.dat = []) (n : Nat) : (wHd ++ (List.replicate n x).flatMap wRec).length = 24 + 16 * n := by
  rw [List.length_append, wHd_len, rep_flat x hx]
theorem many_drop (x : CRec) (hx : x.dat = []) (n : Nat) : (wHd ++ (List.replicate (n + 1) x).flatMap wRec).drop (24 + 16 * n) = wRec x := by
  have e : wHd ++ (List.replicate (n + 1) x).flatMap wRec = (wHd ++ (List.replicate n x).flatMap wRec) ++ wRec x := by
    rw [List.replicate_succ', List.flatMap_append, List.append_assoc]
    simp
  rw [e, ← many_len x hx n, List.drop_left]
theorem rep_err {x : CRec} {n : Nat} (h : wErr none (List.replicate (n + 1) x) = 0) : wErr1 none x = 0 := by
  rw [List.replicate_succ, wErr] at h
  by_cases e : wErr1 none x = 0
  · exact e
  · rw [if_pos e] at h; exact absurd h e
/-! ### Lists whose times ascend -/
def ascL (l : List CRec) : Prop := ∀ j x y, l[j]? = some x → l[j + 1]? = some y → x.tm ≤ y.tm
theorem ascC_of : ∀ (l : List CRec) (t : Int), ascL l → (∀ x, l[0]? = some x → t ≤ x.tm) → ascC t l
  | [], _, _, _ => trivial
  | x :: r, t, h, h0 => ⟨h0 x rfl, ascC_of r x.tm (fun j a b ha hb => h (j + 1) a b ha hb) (fun y hy => h 0 x y rfl hy)⟩
theorem ascC_to : ∀ (l : List CRec) (t : Int), ascC t l → ascL l
  | [], _, _, j, x, y, hx, _ => by simp at hx
  | a :: r, t, h, j, x, y, hx, hy => by
    cases j with
    | zero =>
      simp only [List.getElem?_cons_zero, Option.some.injEq] at hx
      subst hx
      cases r with
      | nil => simp at hy
      | cons b r =>
        simp only [List.getElem?_cons_succ, List.getElem?_cons_zero, Option.some.injEq] at hy
        subst hy
        exact h.2.1
    | succ j => exact ascC_to r a.tm h.2 j x y (by simpa using hx) (by simpa using hy)
theorem merge_ascL {a b : List CRec} (ha : ascL a) (hb : ascL b) : ascL (mergeC a b) := by
  obtain ⟨t, h1, h2⟩ : ∃ t : Int, (∀ x, a[0]? = some x → t ≤ x.tm) ∧ (∀ x, b[0]? = some x → t ≤ x.tm) := by
    cases a with
    | nil =>
      cases b with
      | nil => exact ⟨0, by simp, by simp⟩
      | cons y s => exact ⟨y.tm, by simp, by simp⟩
    | cons x r =>
      cases b with
      | nil => exact ⟨x.tm, by simp, by simp⟩
      | cons y s =>
        refine ⟨min x.tm y.tm, fun z hz => ?_, fun z hz => ?_⟩
        · simp only [List.getElem?_cons_zero, Option.some.injEq] at hz
          subst hz; omega
        · simp only [List.getElem?_cons_zero, Option.some.injEq] at hz
          subst hz; omega
  exact ascC_to _ t (merge_asc a b t (ascC_of a t ha h1) (ascC_of b t hb h2))
theorem ascL_step {l : List CRec} {k : Nat} (h : ∀ j x y, j + 1 < k → l[j]? = some x → l[j + 1]? = some y → x.tm ≤ y.tm) {x y : CRec} (hx : l[k - 1]? = some x) (hy : l[k]? = some y) (hk : 0 < k) (hle : x.tm ≤ y.tm) : ∀ j x y, j + 1 < k + 1 → l[j]? = some x → l[j + 1]? = some y → x.tm ≤ y.tm := by
  intro j x' y' hj hx' hy'
  by_cases e : j + 1 = k
  · subst e
    rw [Nat.add_sub_cancel] at hx
    rw [hx] at hx'
    rw [hy] at hy'
    obtain rfl := Option.some.inj hx'
    obtain rfl := Option.some.inj hy'
    exact hle
  · exact h j x' y' (by omega) hx' hy'
end Go.Proofs.Ytnckcdngmffahaa

/- Plain mathematics of the texts of addresses of layer 6: no Go in sight. -/
namespace Go.Proofs.Ytnckcdngmffahaa
set_option linter.unusedVariables false

abbrev By := List UInt8
/-- A digit's byte, in decimal and in hexadecimal. -/
def dig (n : Nat) : UInt8 := UInt8.ofNat (48 + n)
def hexd (n : Nat) : UInt8 := if n < 10 then UInt8.ofNat (48 + n) else UInt8.ofNat (87 + n)
/-- A number in decimal. -/
def numL (n : Nat) : By := if n ≤ 9 then [dig n] else numL (n / 10) ++ [dig (n % 10)]
termination_by n
decreasing_by omega
/-- A group in hexadecimal. -/
def hexL (n : Nat) : By := if n ≤ 15 then [hexd n] else hexL (n / 16) ++ [hexd (n % 16)]
termination_by n
decreasing_by omega
/-- The number that digits denote, no more than most + 1. -/
def decGo (most : Nat) : Nat → By → Option Nat
  | n, [] => some n
  | n, c :: r => if 48 ≤ c.toNat ∧ c.toNat ≤ 57 then decGo most (min (10 * n + (c.toNat - 48)) (most + 1)) r else none
/-- .. as the reference answers: -1: malformed, -2: too great. -/
def decS (most : Nat) (s : By) : Int :=
  if s.length = 0 ∨ (1 < s.length ∧ s.head? = some 48) then -1
  else match decGo most 0 s with
    | none => -1
    | some n => if most < n then -2 else n
/-- A text divided at a byte; cur: the piece under way. -/
def splitGo (c : UInt8) : By → By → List By
  | cur, [] => [cur]
  | cur, x :: r => if x = c then cur :: splitGo c [] r else splitGo c (cur ++ [x]) r
def splitL (c : UInt8) (s : By) : List By := splitGo c [] s
/-- A hexadecimal digit's value. -/
def hexV6 (c : UInt8) : Option Nat :=
  if 48 ≤ c.toNat ∧ c.toNat ≤ 57 then some (c.toNat - 48)
  else if 97 ≤ c.toNat ∧ c.toNat ≤ 102 then some (c.toNat - 87)
  else if 65 ≤ c.toNat ∧ c.toNat ≤ 70 then some (c.toNat - 55) else none
def hexGo : Nat → By → Option Nat
  | n, [] => some n
  | n, c :: r => match hexV6 c with
    | some d => hexGo (16 * n + d) r
    | none => none
def grpS (s : By) : Option Nat := if s.length < 1 ∨ 4 < s.length then none else hexGo 0 s
def grpAll : List By → Option (List Nat)
  | [] => some []
  | s :: r => match grpS s with
    | none => none
    | some n => (grpAll r).map (n :: ·)
def groupsS (s : By) : Option (List Nat) := if s = [] then some [] else grpAll (splitL 58 s)
/-- A text divided at its first two colons. -/
def cutGap : By → Option (By × By)
  | [] => none
  | [_] => none
  | x :: y :: r => if x = 58 ∧ y = 58 then some ([], r) else (cutGap (y :: r)).map fun p => (x :: p.1, p.2)
/-- The eight groups of a text. -/
def parse6 (s : By) : Option (List Nat) :=
  match cutGap s with
  | none => match groupsS s with
    | some x => if x.length = 8 then some x else none
    | none => none
  | some (a, b) => match groupsS a, groupsS b with
    | some x, some y => if x.length + y.length ≤ 7 then some (x ++ List.replicate (8 - (x.length + y.length)) 0 ++ y) else none
    | _, _ => none
/-- The four bytes of a text. -/
def decAll : List By → Option (List Nat)
  | [] => some []
  | s :: r => match decS 255 s with
    | .ofNat n => (decAll r).map (n :: ·)
    | _ => none
def parse4 (s : By) : Option (List Nat) := if (splitL 46 s).length = 4 then decAll (splitL 46 s) else none
/-- A number out of its digits to a base. -/
def ofDigits (b : Nat) (l : List Nat) : Nat := l.foldl (fun n d => n * b + d) 0
/-- An address: its family, and its number of 32 or 128 bits. -/
structure Adr where
  v6 : Bool
  n : Nat
def width (v6 : Bool) : Nat := if v6 then 128 else 32
def Adr.ok (a : Adr) : Prop := a.n < 2 ^ width a.v6
def parseS (s : By) : Option Adr :=
  match parse4 s with
  | some l => some ⟨false, ofDigits 256 l⟩
  | none => match parse6 s with
    | some l => some ⟨true, ofDigits 65536 l⟩
    | none => none
/-- The digits of a number to a base, k of them. -/
def digitsOf (b n : Nat) : Nat → List Nat
  | 0 => []
  | k + 1 => digitsOf b (n / b) k ++ [n % b]
/-- Pieces with a byte between them. -/
def joinC (c : UInt8) : List By → By
  | [] => []
  | [p] => p
  | p :: q :: r => p ++ c :: joinC c (q :: r)
/-- How many zeros a list begins with. -/
def zeros : List Nat → Nat
  | 0 :: r => zeros r + 1
  | _ => 0
/-- The first longest run of zeros, of two or more: where it begins, how long it is. i: the index of the list's head; at, most: the best so far. -/
def bestGo : List Nat → Nat → Option Nat → Nat → Option Nat × Nat
  | [], _, at_, most => (at_, most)
  | x :: r, i, at_, most => if most < zeros (x :: r) then bestGo r (i + 1) (some i) (zeros (x :: r)) else bestGo r (i + 1) at_ most
def best (l : List Nat) : Option Nat × Nat := bestGo l 0 none 1
def fmt6 (l : List Nat) : By :=
  match best l with
  | (none, _) => joinC 58 (l.map hexL)
  | (some k, m) => joinC 58 ((l.take k).map hexL) ++ [58, 58] ++ joinC 58 ((l.drop (k + m)).map hexL)
def fmt4 (l : List Nat) : By := joinC 46 (l.map numL)
def fmtS (a : Adr) : By := if a.v6 then fmt6 (digitsOf 65536 a.n 8) else fmt4 (digitsOf 256 a.n 4)

/-! ### Decimal -/
theorem dig_toNat {n : Nat} (h : n ≤ 9) : (dig n).toNat = 48 + n := by
  unfold dig
  rw [UInt8.toNat_ofNat']
  omega
theorem decGo_append (most : Nat) : ∀ (a : By) (n : Nat) (b : By), decGo most n (a ++ b) = (decGo most n a).bind fun m => decGo most m b
  | [], n, b => rfl
  | c :: r, n, b => by
    rw [List.cons_append, decGo, decGo]
    split
    · exact decGo_append most r _ b
    · rfl
theorem decGo_num {most : Nat} : ∀ (n : Nat), n ≤ most → decGo most 0 (numL n) = some n := by
  intro n
  induction n using Nat.strongRecOn with
  | _ n ih =>
    intro h
    rw [numL]
    split
    · rename_i h9
      rw [decGo, dig_toNat h9, if_pos (by omega), decGo]
      congr 1
      omega
    · rw [decGo_append, ih (n / 10) (by omega) (by omega), Option.bind_some, decGo, dig_toNat (by omega), if_pos (by omega), decGo]
      congr 1
      omega
theorem num_ne (n : Nat) : 0 < (numL n).length := by
  rw [numL]
  split <;> simp
theorem num_head : ∀ (n : Nat), (numL n).head? = some 48 → n = 0 := by
  intro n
  induction n using Nat.strongRecOn with
  | _ n ih =>
    intro h
    rw [numL] at h
    split at h
    · rename_i h9
      simp only [List.head?_cons, Option.some.injEq] at h
      have h2 := congrArg UInt8.toNat h
      rw [dig_toNat h9] at h2
      simp at h2
      omega
    · have h2 : (numL (n / 10)).head? = some 48 := by
        have hp := num_ne (n / 10)
        cases hq : numL (n / 10) with
        | nil => rw [hq] at hp; simp at hp
        | cons y r => rw [hq] at h; simpa using h
      have := ih (n / 10) (by omega) h2
      omega
theorem num_zero : numL 0 = [48] := by rw [numL]; rfl
theorem decS_num {most n : Nat} (h : n ≤ most) : decS most (numL n) = n := by
  unfold decS
  rw [if_neg, decGo_num n h]
  · show (if most < n then (-2 : Int) else n) = n
    rw [if_neg (by omega)]
  · rintro (h1 | ⟨h1, h2⟩)
    · have := num_ne n; omega
    · have := num_head n h2
      subst this
      rw [num_zero] at h1
      simp at h1
theorem num_digits : ∀ (n : Nat), ∀ c ∈ numL n, 48 ≤ c.toNat ∧ c.toNat ≤ 57 := by
  intro n
  induction n using Nat.strongRecOn with
  | _ n ih =>
    intro c hc
    rw [numL] at hc
    split at hc
    · rename_i h9
      simp only [List.mem_singleton] at hc
      subst hc
      rw [dig_toNat h9]; omega
    · rw [List.mem_append] at hc
      rcases hc with hc | hc
      · exact ih (n / 10) (by omega) c hc
      · simp only [List.mem_singleton] at hc
        subst hc
        rw [dig_toNat (by omega)]; omega
theorem num_len {n : Nat} (h : n < 1000) : (numL n).length ≤ 3 := by
  rw [numL]
  split
  · simp
  · rw [numL]
    split
    · simp
    · rw [numL, if_pos (by omega)]; simp

theorem num_len_pow : ∀ (k n : Nat), n < 10 ^ (k + 1) → (numL n).length ≤ k + 1
  | 0, n, h => by rw [numL, if_pos (by omega)]; simp
  | k + 1, n, h => by
    rw [numL]
    split
    · simp
    · have := num_len_pow k (n / 10) (by rw [Nat.pow_succ] at h; omega)
      rw [List.length_append]; simp; omega

/-! ### Hexadecimal -/
theorem hexd_toNat {n : Nat} (h : n ≤ 15) : (hexd n).toNat = if n < 10 then 48 + n else 87 + n := by
  unfold hexd
  split <;> (rw [UInt8.toNat_ofNat']; omega)
theorem hexV_hexd {n : Nat} (h : n ≤ 15) : hexV6 (hexd n) = some n := by
  unfold hexV6
  rw [hexd_toNat h]
  by_cases h9 : n < 10
  · rw [if_pos h9, if_pos (by omega)]
    congr 1; omega
  · rw [if_neg h9, if_neg (by omega), if_pos (by omega)]
    congr 1; omega
theorem hexGo_append : ∀ (a : By) (n : Nat) (b : By), hexGo n (a ++ b) = (hexGo n a).bind fun m => hexGo m b
  | [], n, b => rfl
  | c :: r, n, b => by
    rw [List.cons_append, hexGo, hexGo]
    cases hexV6 c with
    | none => rfl
    | some d => exact hexGo_append r _ b
theorem hexGo_hex : ∀ (n : Nat), hexGo 0 (hexL n) = some n := by
  intro n
  induction n using Nat.strongRecOn with
  | _ n ih =>
    rw [hexL]
    split
    · rename_i h
      rw [hexGo, hexV_hexd h]
      show hexGo _ [] = _
      rw [hexGo]; congr 1; omega
    · rw [hexGo_append, ih (n / 16) (by omega), Option.bind_some, hexGo, hexV_hexd (by omega)]
      show hexGo _ [] = _
      rw [hexGo]; congr 1; omega
theorem hex_ne (n : Nat) : 0 < (hexL n).length := by
  rw [hexL]
  split <;> simp
theorem hex_len {n : Nat} (h : n < 65536) : (hexL n).length ≤ 4 := by
  rw [hexL]
  split
  · simp
  · rw [hexL]
    split
    · simp
    · rw [hexL]
      split
      · simp
      · rw [hexL, if_pos (by omega)]; simp
theorem grpS_hex {n : Nat} (h : n < 65536) : grpS (hexL n) = some n := by
  unfold grpS
  rw [if_neg (by have := hex_ne n; have := hex_len h; omega), hexGo_hex]
/-- A hexadecimal digit is neither a point, nor a stroke, nor a colon. -/
theorem hex_digits : ∀ (n : Nat), ∀ c ∈ hexL n, (48 ≤ c.toNat ∧ c.toNat ≤ 57) ∨ (97 ≤ c.toNat ∧ c.toNat ≤ 102) := by
  intro n
  induction n using Nat.strongRecOn with
  | _ n ih =>
    intro c hc
    have key : ∀ d, d ≤ 15 → (48 ≤ (hexd d).toNat ∧ (hexd d).toNat ≤ 57) ∨ (97 ≤ (hexd d).toNat ∧ (hexd d).toNat ≤ 102) := fun d hd => by
      rw [hexd_toNat hd]
      split <;> omega
    rw [hexL] at hc
    split at hc
    · rename_i h9
      simp only [List.mem_singleton] at hc
      subst hc
      exact key _ h9
    · rw [List.mem_append] at hc
      rcases hc with hc | hc
      · exact ih (n / 16) (by omega) c hc
      · simp only [List.mem_singleton] at hc
        subst hc
        exact key _ (by omega)

theorem hex_len_pow : ∀ (k n : Nat), n < 16 ^ (k + 1) → (hexL n).length ≤ k + 1
  | 0, n, h => by rw [hexL, if_pos (by omega)]; simp
  | k + 1, n, h => by
    rw [hexL]
    split
    · simp
    · have := hex_len_pow k (n / 16) (by rw [Nat.pow_succ] at h; omega)
      rw [List.length_append]; simp; omega

/-! ### Dividing and joining -/
theorem splitGo_none {c : UInt8} : ∀ (p cur : By), (∀ x ∈ p, x ≠ c) → splitGo c cur p = [cur ++ p]
  | [], cur, _ => by simp [splitGo]
  | x :: r, cur, h => by
    rw [splitGo, if_neg (h x (by simp)), splitGo_none r _ (fun y hy => h y (by simp [hy]))]
    simp
theorem splitGo_at {c : UInt8} : ∀ (p cur r : By), (∀ x ∈ p, x ≠ c) → splitGo c cur (p ++ c :: r) = (cur ++ p) :: splitGo c [] r
  | [], cur, r, _ => by simp [splitGo]
  | x :: q, cur, r, h => by
    rw [List.cons_append, splitGo, if_neg (h x (by simp)), splitGo_at q _ r (fun y hy => h y (by simp [hy]))]
    simp
theorem split_join {c : UInt8} : ∀ (l : List By), l ≠ [] → (∀ p ∈ l, ∀ x ∈ p, x ≠ c) → splitL c (joinC c l) = l
  | [], h, _ => absurd rfl h
  | [p], _, h => by
    show splitGo c [] p = [p]
    rw [splitGo_none p [] (h p (by simp))]; rfl
  | p :: q :: r, _, h => by
    have ih := split_join (q :: r) (by simp) (fun y hy => h y (by simp only [List.mem_cons] at hy ⊢; exact .inr hy))
    show splitGo c [] (p ++ c :: joinC c (q :: r)) = _
    rw [splitGo_at p [] _ (h p (by simp))]
    unfold splitL at ih
    rw [ih]; rfl
theorem join_mem {c : UInt8} : ∀ (l : List By) (x : UInt8), x ∈ joinC c l → x = c ∨ ∃ p ∈ l, x ∈ p
  | [], x, h => by simp [joinC] at h
  | [p], x, h => .inr ⟨p, by simp, h⟩
  | p :: q :: r, x, h => by
    rw [joinC, List.mem_append, List.mem_cons] at h
    rcases h with h | h | h
    · exact .inr ⟨p, by simp, h⟩
    · exact .inl h
    · rcases join_mem (q :: r) x h with h | ⟨y, hy, h⟩
      · exact .inl h
      · exact .inr ⟨y, by simp only [List.mem_cons] at hy ⊢; exact .inr hy, h⟩

/-! ### The text of an IPv4 address -/
theorem decAll_num : ∀ (l : List Nat), (∀ n ∈ l, n ≤ 255) → decAll (l.map numL) = some l
  | [], _ => rfl
  | n :: r, h => by
    rw [List.map_cons, decAll, decS_num (h n (by simp))]
    show (decAll (r.map numL)).map (n :: ·) = _
    rw [decAll_num r (fun m hm => h m (by simp [hm]))]
    rfl
theorem num_no {c : UInt8} (hc : c.toNat < 48) {n : Nat} : ∀ x ∈ numL n, x ≠ c := fun x hx e => by
  have := num_digits n x hx
  rw [e] at this
  omega
theorem parse4_fmt4 {l : List Nat} (hl : l.length = 4) (h : ∀ n ∈ l, n ≤ 255) : parse4 (fmt4 l) = some l := by
  unfold parse4 fmt4
  have hs : splitL 46 (joinC 46 (l.map numL)) = l.map numL := split_join _ (by intro e; have := congrArg List.length e; simp [hl] at this) (fun p hp => by
    obtain ⟨n, _, rfl⟩ := List.mem_map.1 hp
    exact num_no (by decide))
  rw [hs, if_pos (by simp [hl]), decAll_num l h]
theorem digitsOf_len (b : Nat) : ∀ (k n : Nat), (digitsOf b n k).length = k
  | 0, n => rfl
  | k + 1, n => by rw [digitsOf, List.length_append, digitsOf_len b k]; rfl
theorem digitsOf_lt {b : Nat} (hb : 0 < b) : ∀ (k n : Nat), ∀ d ∈ digitsOf b n k, d < b
  | 0, n, d, h => by simp [digitsOf] at h
  | k + 1, n, d, h => by
    rw [digitsOf, List.mem_append] at h
    rcases h with h | h
    · exact digitsOf_lt hb k _ d h
    · simp only [List.mem_singleton] at h
      subst h
      exact Nat.mod_lt _ hb
theorem ofDigits_snoc (b : Nat) (l : List Nat) (d : Nat) : ofDigits b (l ++ [d]) = ofDigits b l * b + d := by
  unfold ofDigits
  rw [List.foldl_append]; rfl
theorem ofDigits_of {b : Nat} (hb : 0 < b) : ∀ (k n : Nat), n < b ^ k → ofDigits b (digitsOf b n k) = n
  | 0, n, h => by
    have : n = 0 := by simpa using h
    subst this
    rfl
  | k + 1, n, h => by
    rw [digitsOf, ofDigits_snoc, ofDigits_of hb k (n / b) (by rw [Nat.div_lt_iff_lt_mul hb]; rwa [Nat.pow_succ] at h)]
    exact Nat.div_add_mod' n b

/-! ### The text of an IPv6 address -/
theorem grpAll_hex : ∀ (l : List Nat), (∀ n ∈ l, n < 65536) → grpAll (l.map hexL) = some l
  | [], _ => rfl
  | n :: r, h => by
    rw [List.map_cons, grpAll, grpS_hex (h n (by simp))]
    show (grpAll (r.map hexL)).map (n :: ·) = _
    rw [grpAll_hex r (fun m hm => h m (by simp [hm]))]
    rfl
theorem hex_no {c : UInt8} (hc : c.toNat < 48 ∨ c.toNat = 58) {n : Nat} : ∀ x ∈ hexL n, x ≠ c := fun x hx e => by
  have := hex_digits n x hx
  rw [e] at this
  omega
theorem groups_join {l : List Nat} (h : ∀ n ∈ l, n < 65536) : groupsS (joinC 58 (l.map hexL)) = some l := by
  unfold groupsS
  cases l with
  | nil => rfl
  | cons n r =>
    have hne : joinC 58 ((n :: r).map hexL) ≠ [] := by
      intro e
      have hp := hex_ne n
      cases r with
      | nil =>
        have : hexL n = [] := e
        rw [this] at hp; simp at hp
      | cons m q =>
        have : hexL n ++ 58 :: joinC 58 ((m :: q).map hexL) = [] := e
        simp at this
    rw [if_neg hne, split_join _ (by simp) (fun p hp => by
      obtain ⟨m, _, rfl⟩ := List.mem_map.1 hp
      exact hex_no (.inr rfl)), grpAll_hex _ h]
/-- No text that ends with a digit, and has no two colons, is cut before its end. -/
def noGap : By → Prop
  | [] => True
  | [x] => x ≠ 58
  | x :: y :: r => ¬ (x = 58 ∧ y = 58) ∧ noGap (y :: r)
theorem cut_none : ∀ (s : By), noGap s → cutGap s = none
  | [], _ => rfl
  | [x], _ => rfl
  | x :: y :: r, h => by
    rw [cutGap, if_neg h.1, cut_none (y :: r) h.2]; rfl
theorem cut_some : ∀ (s r : By), noGap s → cutGap (s ++ 58 :: 58 :: r) = some (s, r)
  | [], r, _ => by simp [cutGap]
  | [x], r, h => by
    show cutGap (x :: 58 :: 58 :: r) = _
    rw [cutGap, if_neg (fun e => h e.1)]
    simp [cutGap]
  | x :: y :: q, r, h => by
    have ih := cut_some (y :: q) r h.2
    show cutGap (x :: y :: (q ++ 58 :: 58 :: r)) = _
    rw [cutGap, if_neg h.1]
    have ih' : cutGap (y :: (q ++ 58 :: 58 :: r)) = some (y :: q, r) := ih
    rw [ih']; rfl
theorem noGap_hex : ∀ (p q : By), 0 < p.length → (∀ x ∈ p, x ≠ 58) → (q = [] ∨ ∃ y r, q = 58 :: y :: r ∧ y ≠ 58 ∧ noGap (y :: r)) → noGap (p ++ q)
  | [], _, h, _, _ => by simp at h
  | [x], q, _, h, hq => by
    have hx := h x (by simp)
    rcases hq with rfl | ⟨y, r, rfl, hy, hn⟩
    · exact hx
    · exact ⟨fun e => hx e.1, fun e => hy e.2, hn⟩
  | x :: y :: r, q, _, h, hq => by
    have ih := noGap_hex (y :: r) q (by simp) (fun z hz => h z (by simp only [List.mem_cons] at hz ⊢; exact .inr hz)) hq
    exact ⟨fun e => h x (by simp) e.1, ih⟩
theorem noGap_join : ∀ (l : List Nat), noGap (joinC 58 (l.map hexL))
  | [] => trivial
  | [n] => by
    have := noGap_hex (hexL n) [] (hex_ne n) (hex_no (.inr rfl)) (.inl rfl)
    simpa [joinC] using this
  | n :: m :: r => by
    have ih := noGap_join (m :: r)
    show noGap (hexL n ++ 58 :: joinC 58 ((m :: r).map hexL))
    refine noGap_hex (hexL n) _ (hex_ne n) (hex_no (.inr rfl)) (.inr ?_)
    have hp := hex_ne m
    cases hq : hexL m with
    | nil => rw [hq] at hp; simp at hp
    | cons y z =>
      have hy : y ≠ 58 := hex_no (.inr rfl) (n := m) y (by rw [hq]; simp)
      cases r with
      | nil =>
        have e : joinC 58 ([m].map hexL) = y :: z := by show hexL m = _; exact hq
        rw [e] at ih ⊢
        exact ⟨y, z, rfl, hy, ih⟩
      | cons k w =>
        have e : joinC 58 ((m :: k :: w).map hexL) = y :: (z ++ 58 :: joinC 58 ((k :: w).map hexL)) := by show hexL m ++ _ = _; rw [hq]; rfl
        rw [e] at ih ⊢
        exact ⟨y, _, rfl, hy, ih⟩
theorem zeros_le : ∀ l : List Nat, zeros l ≤ l.length
  | [] => Nat.le_refl _
  | 0 :: r => by rw [zeros]; have := zeros_le r; simp; omega
  | (n + 1) :: r => by simp [zeros]
theorem zeros_spec : ∀ l : List Nat, l = List.replicate (zeros l) 0 ++ l.drop (zeros l)
  | [] => rfl
  | 0 :: r => by
    rw [zeros, List.replicate_succ, List.cons_append, List.drop_succ_cons, ← zeros_spec r]
  | (n + 1) :: r => by simp [zeros]
theorem bestGo_spec : ∀ (l : List Nat) (i : Nat) (at_ : Option Nat) (most : Nat), bestGo l i at_ most = (at_, most) ∨ ∃ j, j < l.length ∧ (bestGo l i at_ most).1 = some (i + j) ∧ (bestGo l i at_ most).2 = zeros (l.drop j) ∧ most < (bestGo l i at_ most).2
  | [], i, at_, most => .inl rfl
  | x :: r, i, at_, most => by
    rw [bestGo]
    split
    · rename_i h
      rcases bestGo_spec r (i + 1) (some i) (zeros (x :: r)) with h1 | ⟨j, h1, h2, h3, h4⟩
      · rw [h1]
        exact .inr ⟨0, by simp, by simp, rfl, h⟩
      · exact .inr ⟨j + 1, by simp; omega, by rw [h2]; congr 1; omega, by rw [h3]; rfl, by omega⟩
    · rcases bestGo_spec r (i + 1) at_ most with h1 | ⟨j, h1, h2, h3, h4⟩
      · exact .inl h1
      · exact .inr ⟨j + 1, by simp; omega, by rw [h2]; congr 1; omega, by rw [h3]; rfl, h4⟩
/-- What is left out: two or more zeros that stand there. -/
theorem best_spec (l : List Nat) : best l = (none, 1) ∨ ∃ k m, best l = (some k, m) ∧ 2 ≤ m ∧ k + m ≤ l.length ∧ l = l.take k ++ List.replicate m 0 ++ l.drop (k + m) := by
  rcases bestGo_spec l 0 none 1 with h | ⟨j, h1, h2, h3, h4⟩
  · exact .inl h
  · right
    have hz := zeros_spec (l.drop j)
    have hl := zeros_le (l.drop j)
    rw [List.length_drop] at hl
    refine ⟨j, zeros (l.drop j), ?_, by rw [h3] at h4; omega, by omega, ?_⟩
    · rw [Nat.zero_add] at h2
      show bestGo l 0 none 1 = _
      rw [← h3, ← h2]
    · rw [List.drop_drop] at hz
      rw [List.append_assoc, ← hz, List.take_append_drop]
theorem parse6_fmt6 {l : List Nat} (hl : l.length = 8) (h : ∀ n ∈ l, n < 65536) : parse6 (fmt6 l) = some l := by
  unfold fmt6
  rcases best_spec l with hb | ⟨k, m, hb, hm, hkm, hsp⟩
  · rw [hb]
    show parse6 (joinC 58 (l.map hexL)) = _
    unfold parse6
    rw [cut_none _ (noGap_join l), groups_join h]
    show (if l.length = 8 then some l else none) = _
    rw [if_pos hl]
  · rw [hb]
    show parse6 (joinC 58 ((l.take k).map hexL) ++ [58, 58] ++ joinC 58 ((l.drop (k + m)).map hexL)) = _
    unfold parse6
    rw [List.append_assoc]
    show (match cutGap (joinC 58 ((l.take k).map hexL) ++ 58 :: 58 :: joinC 58 ((l.drop (k + m)).map hexL)) with
      | none => _
      | some (a, b) => _) = _
    rw [cut_some _ _ (noGap_join _)]
    show (match groupsS (joinC 58 ((l.take k).map hexL)), groupsS (joinC 58 ((l.drop (k + m)).map hexL)) with
      | some x, some y => if x.length + y.length ≤ 7 then some (x ++ List.replicate (8 - (x.length + y.length)) 0 ++ y) else none
      | _, _ => none) = _
    rw [groups_join (fun n hn => h n (List.mem_of_mem_take hn)), groups_join (fun n hn => h n (List.mem_of_mem_drop hn))]
    show (if (l.take k).length + (l.drop (k + m)).length ≤ 7 then some (l.take k ++ List.replicate (8 - ((l.take k).length + (l.drop (k + m)).length)) 0 ++ l.drop (k + m)) else none) = _
    have e1 : (l.take k).length + (l.drop (k + m)).length = 8 - m := by
      rw [List.length_take, List.length_drop]; omega
    rw [e1, if_pos (by omega), show 8 - (8 - m) = m by omega, ← hsp]
theorem fmt6_mem (l : List Nat) (c : UInt8) (hc : c ∈ fmt6 l) : c = 58 ∨ (48 ≤ c.toNat ∧ c.toNat ≤ 57) ∨ (97 ≤ c.toNat ∧ c.toNat ≤ 102) := by
  have key : ∀ q : List Nat, c ∈ joinC 58 (q.map hexL) → c = 58 ∨ (48 ≤ c.toNat ∧ c.toNat ≤ 57) ∨ (97 ≤ c.toNat ∧ c.toNat ≤ 102) := fun q hq => by
    rcases join_mem _ _ hq with h | ⟨p, hp, h⟩
    · exact .inl h
    · obtain ⟨n, _, rfl⟩ := List.mem_map.1 hp
      exact .inr (hex_digits n c h)
  unfold fmt6 at hc
  split at hc
  · exact key _ hc
  · rw [List.mem_append, List.mem_append] at hc
    rcases hc with (hc | hc) | hc
    · exact key _ hc
    · simp at hc
      exact .inl hc
    · exact key _ hc
theorem fmt4_mem (l : List Nat) (c : UInt8) (hc : c ∈ fmt4 l) : c = 46 ∨ (48 ≤ c.toNat ∧ c.toNat ≤ 57) := by
  unfold fmt4 at hc
  rcases join_mem _ _ hc with h | ⟨p, hp, h⟩
  · exact .inl h
  · obtain ⟨n, _, rfl⟩ := List.mem_map.1 hp
    exact .inr (num_digits n c h)
theorem parse4_no (s : By) (h : ∀ x ∈ s, x ≠ 46) : parse4 s = none := by
  unfold parse4 splitL
  rw [splitGo_none s [] h]
  simp
/-- PARSING A PRINTED ADDRESS RETURNS IT. -/
theorem parse_fmt {a : Adr} (h : a.ok) : parseS (fmtS a) = some a := by
  obtain ⟨v6, n⟩ := a
  cases v6 with
  | false =>
    have hn : n < 256 ^ 4 := by
      have : n < 2 ^ width false := h
      simpa [width] using this
    show parseS (fmt4 (digitsOf 256 n 4)) = _
    unfold parseS
    rw [parse4_fmt4 (digitsOf_len _ _ _) (fun d hd => by have := digitsOf_lt (by omega) 4 n d hd; omega)]
    show some (Adr.mk false (ofDigits 256 (digitsOf 256 n 4))) = _
    rw [ofDigits_of (by omega) 4 n hn]
  | true =>
    have hn : n < 65536 ^ 8 := by
      have : n < 2 ^ width true := h
      simpa [width] using this
    show parseS (fmt6 (digitsOf 65536 n 8)) = _
    unfold parseS
    rw [parse4_no _ (fun x hx e => by
      subst e
      rcases fmt6_mem _ _ hx with h | h | h
      · exact absurd h (by decide)
      · exact absurd h.1 (by decide)
      · exact absurd h.1 (by decide)), parse6_fmt6 (digitsOf_len _ _ _) (digitsOf_lt (by omega) 8 n)]
    show some (Adr.mk true (ofDigits 65536 (digitsOf 65536 n 8))) = _
    rw [ofDigits_of (by omega) 8 n hn]
theorem join_len (c : UInt8) (k : Nat) : ∀ l : List By, (∀ p ∈ l, p.length ≤ k) → (joinC c l).length ≤ l.length * (k + 1)
  | [], _ => by simp [joinC]
  | [p], h => by have := h p (by simp); simp [joinC]; omega
  | p :: q :: r, h => by
    have ih := join_len c k (q :: r) (fun y hy => h y (by simp only [List.mem_cons] at hy ⊢; exact .inr hy))
    have := h p (by simp)
    rw [joinC, List.length_append, List.length_cons]
    simp only [List.length_cons] at ih ⊢
    rw [Nat.add_mul (r.length + 1) 1]
    omega
/-- No text of an address is longer than 42 bytes. -/
theorem fmt_len {a : Adr} (h : a.ok) : (fmtS a).length ≤ 42 := by
  obtain ⟨v6, n⟩ := a
  cases v6 with
  | false =>
    show (fmt4 (digitsOf 256 n 4)).length ≤ 42
    unfold fmt4
    have := join_len 46 3 ((digitsOf 256 n 4).map numL) (fun p hp => by
      obtain ⟨d, hd, rfl⟩ := List.mem_map.1 hp
      exact num_len (by have := digitsOf_lt (by omega) 4 n d hd; omega))
    rw [List.length_map, digitsOf_len] at this
    omega
  | true =>
    show (fmt6 (digitsOf 65536 n 8)).length ≤ 42
    have hl := digitsOf_len 65536 8 n
    have hd := digitsOf_lt (b := 65536) (by omega) 8 n
    generalize digitsOf 65536 n 8 = l at *
    have key : ∀ q : List Nat, (∀ d ∈ q, d < 65536) → (joinC 58 (q.map hexL)).length ≤ q.length * 5 := fun q hq => by
      have := join_len 58 4 (q.map hexL) (fun p hp => by
        obtain ⟨d, hd, rfl⟩ := List.mem_map.1 hp
        exact hex_len (hq d hd))
      rwa [List.length_map] at this
    unfold fmt6
    split
    · have := key l hd
      omega
    · rename_i k m _
      have h1 := key (l.take k) (fun d hd' => hd d (List.mem_of_mem_take hd'))
      have h2 := key (l.drop (k + m)) (fun d hd' => hd d (List.mem_of_mem_drop hd'))
      rw [List.length_take] at h1
      rw [List.length_drop] at h2
      rw [List.length_append, List.length_append]
      simp only [List.length_cons, List.length_nil]
      omega

/-! ### Prefixes -/
structure Pfx where
  a : Adr
  bits : Nat
/-- The first bits of a number of w bits, the others 0; the others 1. -/
def cutN (w bits n : Nat) : Nat := n / 2 ^ (w - bits) * 2 ^ (w - bits)
def fillN (w bits n : Nat) : Nat := cutN w bits n + (2 ^ (w - bits) - 1)
def Pfx.ok (p : Pfx) : Prop := p.a.ok ∧ p.bits ≤ width p.a.v6 ∧ cutN (width p.a.v6) p.bits p.a.n = p.a.n
def fmtP (p : Pfx) : By := fmtS p.a ++ 47 :: numL p.bits
/-- What a text of a prefix denotes: the address ahead of the first stroke, and the number behind it (-1, -2 as decS has it). -/
def cutAt (c : UInt8) : By → By × Option By
  | [] => ([], none)
  | x :: r => if x = c then ([], some r) else ((x :: (cutAt c r).1), (cutAt c r).2)
theorem cutAt_at {c : UInt8} : ∀ (p r : By), (∀ x ∈ p, x ≠ c) → cutAt c (p ++ c :: r) = (p, some r)
  | [], r, _ => by simp [cutAt]
  | x :: q, r, h => by
    rw [List.cons_append, cutAt, if_neg (h x (by simp)), cutAt_at q r (fun y hy => h y (by simp [hy]))]
theorem fmt_no47 (a : Adr) : ∀ x ∈ fmtS a, x ≠ 47 := fun x hx e => by
  subst e
  unfold fmtS at hx
  split at hx
  · rcases fmt6_mem _ _ hx with h | h | h
    · exact absurd h (by decide)
    · exact absurd h.1 (by decide)
    · exact absurd h.1 (by decide)
  · rcases fmt4_mem _ _ hx with h | h
    · exact absurd h (by decide)
    · exact absurd h.1 (by decide)
theorem cut_fmtP (p : Pfx) : cutAt 47 (fmtP p) = (fmtS p.a, some (numL p.bits)) := cutAt_at _ _ (fmt_no47 p.a)
theorem fmtP_len {p : Pfx} (h : p.ok) : (fmtP p).length ≤ 64 := by
  have h1 := fmt_len h.1
  have h2 : (numL p.bits).length ≤ 3 := num_len (by
    have := h.2.1
    unfold width at this
    split at this <;> omega)
  unfold fmtP
  rw [List.length_append, List.length_cons]
  omega
theorem cutN_le (w bits n : Nat) : cutN w bits n ≤ n := Nat.div_mul_le_self _ _
theorem cutN_cutN (w bits n : Nat) : cutN w bits (cutN w bits n) = cutN w bits n := by
  unfold cutN
  rw [Nat.mul_div_cancel _ (Nat.two_pow_pos _)]
theorem fillN_lt {w bits n : Nat} (hb : bits ≤ w) (h : n < 2 ^ w) : fillN w bits n < 2 ^ w := by
  unfold fillN cutN
  have h2 : 2 ^ w = 2 ^ bits * 2 ^ (w - bits) := by rw [← Nat.pow_add]; congr 1; omega
  have h3 := Nat.two_pow_pos (w - bits)
  have h4 : n / 2 ^ (w - bits) < 2 ^ bits := by rw [Nat.div_lt_iff_lt_mul h3, ← h2]; exact h
  have h5 := Nat.mul_le_mul_right (2 ^ (w - bits)) (show n / 2 ^ (w - bits) + 1 ≤ 2 ^ bits from h4)
  rw [Nat.add_mul, Nat.one_mul] at h5
  omega
/-- A PREFIX CONTAINS EXACTLY WHAT LIES BETWEEN ITS BOUNDS. -/
theorem cutN_between {w bits n m : Nat} : cutN w bits m = cutN w bits n ↔ cutN w bits n ≤ m ∧ m ≤ fillN w bits n := by
  unfold fillN cutN
  have h3 := Nat.two_pow_pos (w - bits)
  generalize 2 ^ (w - bits) = b at *
  constructor
  · intro h
    have h1 := Nat.div_mul_le_self m b
    have h2 := Nat.lt_div_mul_add h3 (a := m)
    omega
  · rintro ⟨h1, h2⟩
    have e : m / b = n / b := by
      apply Nat.div_eq_of_lt_le
      · exact h1
      · rw [Nat.add_mul, Nat.one_mul]; omega
    rw [e]
end Go.Proofs.Ytnckcdngmffahaa

/- Contracts of the functions that only compute: validSize, Power, Value. -/
namespace Go.Proofs.Ytnckcdngmffahaa
open Go.ChangeShapes Go.WideShapes Go.ChangeAt Go.RowKit

theorem ret_int {k : IntKind} {a b : Int} (h : a = b) : Ending.returned (.int k a) = .returned (.int k b) := by rw [h]

theorem valid_yes (n : Int) (w : World) (h0 : 1 ≤ n) (h1 : n ≤ 7) :
    Calls Try.prog 46 #[.int .i64 n] w fun e w' => e = .returned (.bool true) ∧ w = w' := by
  go_enter Try.func46, Try.ntmps46
  go_wp2
  go_ret
  exact ⟨rfl, rfl⟩

theorem valid_no (n : Int) (w : World) (h : n < 1 ∨ 7 < n) :
    Calls Try.prog 46 #[.int .i64 n] w fun e w' => e = .returned (.bool false) ∧ w = w' := by
  rcases h with h | h
  · go_enter Try.func46, Try.ntmps46
    go_wp2
    go_ret
    exact ⟨rfl, rfl⟩
  · have h' : 1 ≤ n := by omega
    have hd : decide (n ≤ 7) = false := by simp; omega
    go_enter Try.func46, Try.ntmps46
    go_wp2
    go_ret
    exact ⟨rfl, rfl⟩

end Go.Proofs.Ytnckcdngmffahaa

/- Contracts of the functions that make or read byte slices: little, Reverse, number, part. -/
namespace Go.Proofs.Ytnckcdngmffahaa
open Go.ChangeShapes Go.WideShapes Go.ChangeAt Go.RowKit

/-- A slice of bytes that reads as l, lies from block base on, and may be written. -/
def BS (w : World) (base : Nat) (v : Value) (l : List UInt8) : Prop :=
  ∃ A cap, v = .slice A l.length cap ∧ l.length ≤ cap ∧
    (0 < l.length → ∃ g o, A = some ⟨g, o, none⟩ ∧ base ≤ g ∧ g < w.heap.size ∧
      ∀ j (hj : j < l.length), w.cell? ⟨g, o + j, none⟩ = some (.int .u8 (l[j].toNat : Int)) ∧ w.frozen? ⟨g, o + j, none⟩ = false)

theorem cell_set_same {w : World} {a : Addr} {u : Value} (v : Value) (h : w.cell? a = some u) : (w.setCell a v).cell? a = some v := World.cell?_setCell_same' w a v (by simp [h])
theorem cell_set_far (w : World) (g x y : Nat) (v : Value) (h : x ≠ y) : (w.setCell ⟨g, x, none⟩ v).cell? ⟨g, y, none⟩ = w.cell? ⟨g, y, none⟩ :=
  World.cell?_setCell_other w ⟨g, x, none⟩ ⟨g, y, none⟩ v (by intro e; injection e with _ e; exact h (by omega))
theorem frozen_set (w : World) (a b : Addr) (v : Value) : (w.setCell a v).frozen? b = w.frozen? b := by simp
theorem size_set (w : World) (a : Addr) (v : Value) : (w.setCell a v).heap.size = w.heap.size := by simp [World.setCell]

theorem info5 : (Try.prog.info? 5).map (fun i => (i.zero, i.size, i.bytes)) = some (some (.int .u8 0), 1, 1) := by kernel_rfl

theorem little_yes (n size : Int) (w : World) (h1 : 1 ≤ size) (h2 : size ≤ 7) (h3 : 0 ≤ n) (h5 : n ≤ 9223372036854775807) (h4 : n.toNat < pw size.toNat) :
    Calls Try.prog 42 #[.int .i64 n, .int .i64 size] w fun e w' => ∃ v, e = .returned v ∧ BS w' w.heap.size v (leL size.toNat n.toNat) ∧ Below w.heap.size w w' := by
  obtain ⟨k, rfl⟩ := Int.eq_ofNat_of_zero_le (show 0 ≤ size by omega)
  obtain ⟨m, rfl⟩ := Int.eq_ofNat_of_zero_le h3
  rw [Int.toNat_natCast, Int.toNat_natCast] at *
  have hp7 := pw_le7 (k := k) (by omega)
  have hd : decide ((m : Int) < 0) = false := by simp
  have hq : ((m : Int) / 2 ^ (8 * k) != 0) = false := by
    rw [shr_pw', Nat.div_eq_of_lt h4]; rfl
  have hmk := fun W => run_make_row' (P := Try.prog) 52 5 (.int .u8 0) 1 Try.underlying52 info5 rfl .i64 .i64 k (by omega) (by omega) W
  go_enter Try.func42, Try.ntmps42
  go_wp2_with (go_at_call 46; refine (valid_yes _ _ (by omega) (by omega)).mono ?_; rintro e w' ⟨rfl, rfl⟩)
  go_loopw [24] (fun i wr => ∃ j : Nat, j ≤ k ∧ i = .int .i64 j ∧ wr.rowIs w.heap.size 5 k (fun x => .int .u8 (if x < j then ((m / pw x % 256 : Nat) : Int) else 0)) ∧ Below w.heap.size w wr) (fun i _ => k - (intOf i).toNat)
  case atStart => exact ⟨0, by omega, rfl, (World.rowIs_made w (.int .u8 0) k 5).congr (fun i _ => by simp), (Below.refl _ _).alloc (Nat.le_refl _) _⟩
  case round =>
    obtain ⟨j, hj, rfl, hrow, hb⟩ := hrel
    by_cases hlt : j < k
    · have hc := hrow.cell hlt
      have hf := hrow.frozen j
      go_wp2
      go_roundw
      case rel =>
        refine ⟨j + 1, by omega, by go_num, (hrow.set j _).congr (fun x hx => ?_), hb.setCell (Nat.le_refl _) _⟩
        by_cases hxj : x = j
        · subst hxj
          rw [if_pos rfl, if_pos (by omega), shr_pw']
          simp
        · rw [if_neg hxj]
          by_cases hx2 : x < j
          · rw [if_pos hx2, if_pos (by omega)]
          · rw [if_neg hx2, if_neg (by omega)]
      case measure => simp [intOf]; omega
    · obtain rfl : j = k := by omega
      go_wp2
      go_ret
      refine ⟨_, rfl, ⟨some ⟨w.heap.size, 0, none⟩, j, by simp [leL_length], by simp [leL_length], fun _ => ⟨w.heap.size, 0, rfl, Nat.le_refl _, hrow.lt, fun x hx => ?_⟩⟩, hb⟩
      have hx' : x < j := by rwa [leL_length] at hx
      rw [Nat.zero_add]
      refine ⟨?_, hrow.frozen x⟩
      rw [hrow.cell hx', if_pos hx', leL_get _ _ _ hx, UInt8.toNat_ofNat']
      simp [pw]

theorem little_no (n size : Int) (w : World) (h5 : n ≤ 9223372036854775807) (h6 : -9223372036854775808 ≤ n) (h : size < 1 ∨ 7 < size ∨ n < 0 ∨ (1 ≤ size ∧ pw size.toNat ≤ n.toNat)) :
    Calls Try.prog 42 #[.int .i64 n, .int .i64 size] w fun e w' => e = .returned (.slice none 0 0) ∧ w = w' := by
  by_cases hv : size < 1 ∨ 7 < size
  · go_enter Try.func42, Try.ntmps42
    go_wp2_with (go_at_call 46; refine (valid_no _ _ hv).mono ?_; rintro e w' ⟨rfl, rfl⟩)
    go_ret
    exact ⟨rfl, rfl⟩
  · obtain ⟨k, rfl⟩ := Int.eq_ofNat_of_zero_le (show 0 ≤ size by omega)
    by_cases hn : n < 0
    · go_enter Try.func42, Try.ntmps42
      go_wp2_with (go_at_call 46; refine (valid_yes _ _ (by omega) (by omega)).mono ?_; rintro e w' ⟨rfl, rfl⟩)
      go_ret
      exact ⟨rfl, rfl⟩
    · obtain ⟨m, rfl⟩ := Int.eq_ofNat_of_zero_le (show 0 ≤ n by omega)
      have hlt : pw k ≤ m := by
        rcases h with h | h | h | ⟨_, h⟩
        · omega
        · omega
        · omega
        · simpa using h
      have hd : decide ((m : Int) < 0) = false := by simp
      have hq : ((m : Int) / 2 ^ (8 * k) != 0) = true := by
        rw [shr_pw']
        have : 0 < m / pw k := Nat.div_pos hlt (pw_pos k)
        simp only [bne_iff_ne, ne_eq]
        omega
      go_enter Try.func42, Try.ntmps42
      go_wp2_with (go_at_call 46; refine (valid_yes _ _ (by omega) (by omega)).mono ?_; rintro e w' ⟨rfl, rfl⟩)
      go_ret
      exact ⟨rfl, rfl⟩

theorem reverse_any (A : Option Addr) (cap base : Nat) (l : List UInt8) (w : World) (h : BS w base (.slice A l.length cap) l) (hl : l.length ≤ 9223372036854775807) :
    Calls Try.prog 45 #[.slice A l.length cap] w fun e w' => e = .returned (.tuple #[]) ∧ BS w' base (.slice A l.length cap) l.reverse ∧ Below base w w' := by
  obtain ⟨A', cap', hv, hc, hb⟩ := h
  cases hv
  by_cases h0 : l.length = 0
  · have hnil : l = [] := List.eq_nil_of_length_eq_zero h0
    subst hnil
    go_enter Try.func45, Try.ntmps45
    go_wp2
    go_loop [2, 3] (fun i j => i = .int .i64 0 ∧ j = .int .i64 (-1)) (fun _ _ => 0)
    case atStart => exact ⟨rfl, rfl⟩
    case round =>
      obtain ⟨rfl, rfl⟩ := hrel
      go_wp2
      go_end0
      exact ⟨rfl, ⟨A, cap, rfl, by simp, by simp⟩, Below.refl _ _⟩
  · obtain ⟨g, o, rfl, hg, hlt, hcell⟩ := hb (by omega)
    go_enter Try.func45, Try.ntmps45
    go_wp2
    go_loopw [2, 3] (fun i j wr => ∃ k q : Nat, k + q + 1 = l.length ∧ k ≤ q + 1 ∧ i = .int .i64 k ∧ j = .int .i64 q ∧ g < wr.heap.size ∧ (∀ x, x < l.length → wr.cell? ⟨g, o + x, none⟩ = some (.int .u8 ((turned l k x).toNat : Int)) ∧ wr.frozen? ⟨g, o + x, none⟩ = false) ∧ Below base w wr) (fun i j _ => (intOf j).toNat - (intOf i).toNat)
    case atStart =>
      refine ⟨0, l.length - 1, by omega, by omega, rfl, by go_num, hlt, fun x hx => ?_, Below.refl _ _⟩
      have := hcell x hx
      rw [turned_zero l x hx]
      exact this
    case round =>
      obtain ⟨k, q, hkq, hle, rfl, rfl, hgl, hcs, hbel⟩ := hrel
      by_cases hr : k < q
      · have hck := (hcs k (by omega)).1
        have hfk := (hcs k (by omega)).2
        have hcq := (hcs q (by omega)).1
        have hfq := (hcs q (by omega)).2
        go_wp2
        go_region
        go_wp2
        go_roundw
        case rel =>
          refine ⟨k + 1, q - 1, by omega, by omega, by go_num, by go_num, ?_, fun x hx => ?_, ((hbel.setCell hg _).setCell hg _).drew⟩
          · show g < (World.setCell _ _ _).heap.size
            rw [size_set, size_set]; exact hgl
          · rw [World.cell?_drew, World.frozen?_drew, frozen_set, frozen_set]
            refine ⟨?_, (hcs x hx).2⟩
            by_cases hxq : x = q
            · subst hxq
              rw [cell_set_same _ (by rw [cell_set_far _ _ _ _ _ (by omega)]; exact hcq), turned_q hkq hr]
            · rw [cell_set_far _ _ _ _ _ (by omega)]
              by_cases hxk : x = k
              · subst hxk
                rw [cell_set_same _ hck, turned_k hkq hr]
              · rw [cell_set_far _ _ _ _ _ (by omega), (hcs x hx).1, turned_far hkq hxk hxq]
        case measure => simp [intOf]; omega
      · go_wp2
        go_end0
        refine ⟨rfl, ⟨_, cap, by rw [List.length_reverse], by rw [List.length_reverse]; exact hc, fun _ => ⟨g, o, rfl, hg, hgl, fun x hx => ?_⟩⟩, hbel⟩
        have hx' : x < l.length := by rwa [List.length_reverse] at hx
        refine ⟨?_, (hcs x hx').2⟩
        rw [(hcs x hx').1, turned_done hkq hr hx]
end Go.Proofs.Ytnckcdngmffahaa

/- Contracts: number, part, Put, PutLittle, Get, GetLittle of the program. -/
namespace Go.Proofs.Ytnckcdngmffahaa
open Go.ChangeShapes Go.WideShapes Go.ChangeAt Go.RowKit

/-- 'a<<8 | b': the wrap is none where a is small. -/
theorem or_byte (a b : Nat) (ha : a < 281474976710656) (hb : b < 256) : bits .or .i64 ((a : Int) * 256) (b : Int) = (a : Int) * 256 + b := by
  have nn : ∀ x : Nat, x < 2 ^ 63 → (BitVec.ofInt 64 (x : Int)).toNat = x := fun x hx => by
    rw [BitVec.ofInt_natCast, BitVec.toNat_ofNat]
    exact Nat.mod_eq_of_lt (by omega)
  have e : a * 256 ||| b = a * 256 + b := by
    have h := Nat.shiftLeft_add_eq_or_of_lt (i := 8) (b := b) (by omega) a
    rw [Nat.shiftLeft_eq, show 2 ^ 8 = 256 from rfl] at h
    omega
  rw [show ((a : Int) * 256) = ((a * 256 : Nat) : Int) by omega]
  show IntKind.i64.wrap ((BitVec.ofInt 64 ((a * 256 : Nat) : Int) ||| BitVec.ofInt 64 (b : Int)).toNat : Int) = _
  rw [BitVec.toNat_or, nn _ (by omega), nn _ (by omega), e, IntKind.wrap_i64]
  omega

theorem number_any (A : Option Addr) (cap base : Nat) (l : List UInt8) (w : World) (h : BS w base (.slice A l.length cap) l) (hl : l.length ≤ 7) :
    Calls Try.prog 44 #[.slice A l.length cap] w fun e w' => e = .returned (.int .i64 (num l : Nat)) ∧ w = w' := by
  obtain ⟨A', cap', hv, hc, hb⟩ := h
  cases hv
  go_enter Try.func44, Try.ntmps44
  go_wp2
  go_loop [3, 8] (fun p i => ∃ k : Nat, k ≤ l.length ∧ i = .int .i64 k ∧ p = .int .i64 (num (l.take k) : Nat)) (fun _ i => l.length - (intOf i).toNat)
  case atStart => exact ⟨0, by omega, rfl, rfl⟩
  case round =>
    obtain ⟨k, hk, rfl, rfl⟩ := hrel
    by_cases hlt : k < l.length
    · obtain ⟨g, o, rfl, _, _, hcell⟩ := hb (by omega)
      have hck := (hcell k hlt).1
      have hp : num (l.take k) < 281474976710656 := num_lt6 (by rw [List.length_take]; omega)
      have H : Hid (num (l.take (k + 1)) = num (l.take k) * 256 + l[k].toNat) := by
        show num (l.take (k + 1)) = _
        rw [List.take_succ_eq_append_getElem hlt, num_snoc]
      have hbt : l[k].toNat < 256 := u8_lt _
      go_wp2
      go_round
      case rel =>
        refine ⟨k + 1, by omega, by go_num, ?_⟩
        rw [H.out, or_byte _ _ hp hbt]
        go_num
      case measure => simp [intOf]; omega
    · go_wp2
      go_ret
      exact ⟨ret_int (by rw [List.take_of_length_le (by omega)]), rfl⟩

theorem bs_nil (w : World) (base : Nat) : BS w base (.slice none 0 0) [] := ⟨none, 0, rfl, Nat.le_refl _, by simp⟩

theorem str_eq {l : List UInt8} {s : ByteArray} (h : s.data.toList = l) : s = str l := by rw [← h, str_of]

/-- 'string(b)'. -/
theorem bs_string {w : World} {base : Nat} {A : Option Addr} {cap : Nat} {l : List UInt8} (h : BS w base (.slice A l.length cap) l) :
    (convert 52 9 (.slice A l.length cap)).run Try.prog w = .ok (.string (str l)) w := by
  obtain ⟨A', cap', hv, hc, hb⟩ := h
  cases hv
  by_cases h0 : l.length = 0
  · have hnil : l = [] := List.eq_nil_of_length_eq_zero h0
    subst hnil
    rw [run_convert_bytes_string w 52 9 5 A _ cap Try.underlying52 Try.underlying5 Try.underlying9]
    cases A with
    | none => rfl
    | some a => simp [Conv.bytesToString, loadCells, loadCellsFrom, str]; rfl
  · obtain ⟨g, o, rfl, _, _, hcell⟩ := hb (by omega)
    refine run_convert_bytes_back w 52 9 5 ⟨g, o, none⟩ cap l Try.underlying52 Try.underlying5 Try.underlying9 (fun j hj => ?_)
    have := (hcell j hj).1
    unfold Addr.add
    split
    · subst_vars; simpa using this
    · exact this

theorem putl_yes (n size : Int) (w : World) (h1 : 1 ≤ size) (h2 : size ≤ 7) (h3 : 0 ≤ n) (h5 : n ≤ 9223372036854775807) (h4 : n.toNat < pw size.toNat) :
    Calls Try.prog 38 #[.int .i64 n, .int .i64 size] w fun e w' => e = .returned (.string (str (leL size.toNat n.toNat))) ∧ Below w.heap.size w w' := by
  go_enter Try.func38, Try.ntmps38
  go_wp2_with fail
  refine (little_yes n size _ h1 h2 h3 h5 h4).mono ?_
  rintro e w1 ⟨v, rfl, hbs, hb1⟩
  obtain ⟨A, cap, rfl, hrest⟩ := id hbs
  clear hrest
  have hcv := bs_string hbs
  go_wp2_with fail
  go_ret
  exact ⟨rfl, hb1⟩

theorem putl_no (n size : Int) (w : World) (h5 : n ≤ 9223372036854775807) (h6 : -9223372036854775808 ≤ n) (h : size < 1 ∨ 7 < size ∨ n < 0 ∨ (1 ≤ size ∧ pw size.toNat ≤ n.toNat)) :
    Calls Try.prog 38 #[.int .i64 n, .int .i64 size] w fun e w' => e = .returned (.string (str [])) ∧ Below w.heap.size w w' := by
  go_enter Try.func38, Try.ntmps38
  go_wp2_with fail
  refine (little_no n size _ h5 h6 h).mono ?_
  rintro e w1 ⟨rfl, rfl⟩
  have hcv := bs_string (l := []) (A := none) (cap := 0) (bs_nil w 0)
  simp only [List.length_nil] at hcv
  go_wp2_with fail
  go_ret
  exact ⟨rfl, Below.refl _ _⟩

theorem part_range (s : ByteArray) (at_ size : Int) (w : World) (h : size < 1 ∨ 7 < size ∨ at_ < 0) :
    Calls Try.prog 43 #[.string s, .int .i64 at_, .int .i64 size] w fun e w' => e = .returned (.tuple #[.slice none 0 0, .int .i64 4]) ∧ w = w' := by
  by_cases hv : size < 1 ∨ 7 < size
  · go_enter Try.func43, Try.ntmps43
    go_wp2_with (go_at_call 46; refine (valid_no _ _ hv).mono ?_; rintro e w' ⟨rfl, rfl⟩)
    go_ret2
    exact ⟨rfl, rfl⟩
  · have ha : at_ < 0 := by omega
    go_enter Try.func43, Try.ntmps43
    go_wp2_with (go_at_call 46; refine (valid_yes _ _ (by omega) (by omega)).mono ?_; rintro e w' ⟨rfl, rfl⟩)
    go_ret2
    exact ⟨rfl, rfl⟩

theorem part_short (s : ByteArray) (at_ size : Int) (w : World) (hs : s.size ≤ 9223372036854775807) (h1 : 1 ≤ size) (h2 : size ≤ 7) (h3 : 0 ≤ at_) (h5 : at_ ≤ 9223372036854775807) (h : (s.size : Int) - at_ < size) :
    Calls Try.prog 43 #[.string s, .int .i64 at_, .int .i64 size] w fun e w' => e = .returned (.tuple #[.slice none 0 0, .int .i64 1]) ∧ w = w' := by
  have hd : decide (at_ < 0) = false := by simp; omega
  go_enter Try.func43, Try.ntmps43
  go_wp2_with (go_at_call 46; refine (valid_yes _ _ (by omega) (by omega)).mono ?_; rintro e w' ⟨rfl, rfl⟩)
  go_ret2
  exact ⟨rfl, rfl⟩

/-- k bytes from a place on. -/
def sub (s : ByteArray) (a k : Nat) : List UInt8 := (s.data.toList.drop a).take k
theorem sub_length {s : ByteArray} {a k : Nat} (h : a + k ≤ s.size) : (sub s a k).length = k := by
  unfold sub
  rw [List.length_take, List.length_drop]
  have : s.data.toList.length = s.size := by simp
  omega

/-- '[]byte(s)'. -/
theorem bs_new (w : World) (s : ByteArray) (cap : Nat) (hcap : s.size ≤ cap) :
    BS (w.alloc (.cells (bytesRow s cap) 5 ((bytesRow s cap).size, (bytesRow s cap).size + 1))) w.heap.size (.slice (some ⟨w.heap.size, 0, none⟩) s.size cap) s.data.toList := by
  have hl : s.data.toList.length = s.size := by simp
  refine ⟨some ⟨w.heap.size, 0, none⟩, cap, by rw [hl], by rw [hl]; exact hcap, fun _ => ⟨w.heap.size, 0, rfl, Nat.le_refl _, by simp, fun j hj => ?_⟩⟩
  have hj' : j < s.data.size := by rw [hl] at hj; exact hj
  rw [Nat.zero_add]
  refine ⟨?_, ?_⟩
  · rw [World.cell?_alloc_mark, bytesRow_at s cap j hj']
    simp
  · rw [World.frozen?_alloc_mark]
    have : (bytesRow s cap).size = s.data.size + (cap - s.size) := by simp [bytesRow]
    simp
    intro
    omega

theorem part_ok (s : ByteArray) (at_ size : Int) (w : World) (hs : s.size ≤ 9223372036854775807) (h1 : 1 ≤ size) (h2 : size ≤ 7) (h3 : 0 ≤ at_) (h : at_ + size ≤ s.size) :
    Calls Try.prog 43 #[.string s, .int .i64 at_, .int .i64 size] w fun e w' => ∃ v, e = .returned (.tuple #[v, .int .i64 0]) ∧ BS w' w.heap.size v (sub s at_.toNat size.toNat) ∧ Below w.heap.size w w' := by
  obtain ⟨k, rfl⟩ := Int.eq_ofNat_of_zero_le (show 0 ≤ size by omega)
  obtain ⟨a, rfl⟩ := Int.eq_ofNat_of_zero_le h3
  rw [Int.toNat_natCast, Int.toNat_natCast] at *
  have hd : decide ((a : Int) < 0) = false := by simp
  have hconv := fun W s' => run_bytes_of_string (P := Try.prog) W 9 52 5 s' Try.underlying9 Try.underlying52 Try.underlying5
  go_enter Try.func43, Try.ntmps43
  go_wp2_with (go_at_call 46; refine (valid_yes _ _ (by omega) (by omega)).mono ?_; rintro e w' ⟨rfl, rfl⟩)
  go_ret2
  have hsz : (s.extract a (a + k)).size = min (a + k) s.size - a := ByteArray.size_extract
  have hsub : (s.extract a (a + k)).data.toList = sub s a k := by
    rw [Lib.extract_data, sub, show a + k - a = k by omega]
  have hbs := bs_new w.drew (s.extract a (a + k)) (grownCap w (min (a + k) s.size - a) 0 5) (by rw [hsz]; exact grownCap_ge ..)
  rw [hsub, hsz] at hbs
  refine ⟨_, rfl, ?_, ?_⟩
  · exact hbs
  · exact ((Below.refl _ _).alloc (Nat.le_refl _) _).drew

theorem get_range (s : ByteArray) (at_ size : Int) (w : World) (h : size < 1 ∨ 7 < size ∨ at_ < 0) :
    Calls Try.prog 39 #[.string s, .int .i64 at_, .int .i64 size] w fun e w' => e = .returned (.tuple #[.int .i64 0, .int .i64 4]) ∧ w = w' := by
  go_enter Try.func39, Try.ntmps39
  go_wp2_with fail
  refine (part_range s at_ size _ h).mono ?_
  rintro e w1 ⟨rfl, rfl⟩
  go_wp2_with fail
  refine (number_any none 0 0 [] _ (bs_nil _ _) (by simp)).mono ?_
  rintro e w1 ⟨rfl, rfl⟩
  go_wp2_with fail
  go_ret2
  exact ⟨rfl, rfl⟩

theorem get_short (s : ByteArray) (at_ size : Int) (w : World) (hs : s.size ≤ 9223372036854775807) (h1 : 1 ≤ size) (h2 : size ≤ 7) (h3 : 0 ≤ at_) (h5 : at_ ≤ 9223372036854775807) (h : (s.size : Int) - at_ < size) :
    Calls Try.prog 39 #[.string s, .int .i64 at_, .int .i64 size] w fun e w' => e = .returned (.tuple #[.int .i64 0, .int .i64 1]) ∧ w = w' := by
  go_enter Try.func39, Try.ntmps39
  go_wp2_with fail
  refine (part_short s at_ size _ hs h1 h2 h3 h5 h).mono ?_
  rintro e w1 ⟨rfl, rfl⟩
  go_wp2_with fail
  refine (number_any none 0 0 [] _ (bs_nil _ _) (by simp)).mono ?_
  rintro e w1 ⟨rfl, rfl⟩
  go_wp2_with fail
  go_ret2
  exact ⟨rfl, rfl⟩

theorem get_ok (s : ByteArray) (at_ size : Int) (w : World) (hs : s.size ≤ 9223372036854775807) (h1 : 1 ≤ size) (h2 : size ≤ 7) (h3 : 0 ≤ at_) (h : at_ + size ≤ s.size) :
    Calls Try.prog 39 #[.string s, .int .i64 at_, .int .i64 size] w fun e w' => e = .returned (.tuple #[.int .i64 (num (sub s at_.toNat size.toNat) : Nat), .int .i64 0]) ∧ Below w.heap.size w w' := by
  have hl7 : (sub s at_.toNat size.toNat).length ≤ 7 := by rw [sub_length (by omega)]; omega
  generalize hgl : sub s at_.toNat size.toNat = l at hl7 ⊢
  have Hg := Lib.hid hgl
  clear hgl
  go_enter Try.func39, Try.ntmps39
  go_wp2_with fail
  refine (part_ok s at_ size _ hs h1 h2 h3 h).mono ?_
  rintro e w1 ⟨v, rfl, hbs, hb1⟩
  rw [Hg.out] at hbs
  obtain ⟨A, cap, rfl, hrest⟩ := id hbs
  clear hrest
  go_wp2_with fail
  refine (number_any A cap _ l _ hbs hl7).mono ?_
  rintro e w2 ⟨rfl, rfl⟩
  go_wp2_with fail
  go_ret2
  exact ⟨rfl, hb1⟩

theorem getl_range (s : ByteArray) (at_ size : Int) (w : World) (h : size < 1 ∨ 7 < size ∨ at_ < 0) :
    Calls Try.prog 40 #[.string s, .int .i64 at_, .int .i64 size] w fun e w' => e = .returned (.tuple #[.int .i64 0, .int .i64 4]) ∧ Below w.heap.size w w' := by
  go_enter Try.func40, Try.ntmps40
  go_wp2_with fail
  refine (part_range s at_ size _ h).mono ?_
  rintro e w1 ⟨rfl, rfl⟩
  go_wp2_with fail
  refine (reverse_any none 0 w.heap.size [] _ (bs_nil _ _) (by simp)).mono ?_
  rintro e w2 ⟨rfl, hbs2, hb2⟩
  go_wp2_with fail
  refine (number_any none 0 0 [] _ (bs_nil _ _) (by simp)).mono ?_
  rintro e w1 ⟨rfl, rfl⟩
  go_wp2_with fail
  go_ret2
  exact ⟨rfl, hb2⟩

theorem getl_short (s : ByteArray) (at_ size : Int) (w : World) (hs : s.size ≤ 9223372036854775807) (h1 : 1 ≤ size) (h2 : size ≤ 7) (h3 : 0 ≤ at_) (h5 : at_ ≤ 9223372036854775807) (h : (s.size : Int) - at_ < size) :
    Calls Try.prog 40 #[.string s, .int .i64 at_, .int .i64 size] w fun e w' => e = .returned (.tuple #[.int .i64 0, .int .i64 1]) ∧ Below w.heap.size w w' := by
  go_enter Try.func40, Try.ntmps40
  go_wp2_with fail
  refine (part_short s at_ size _ hs h1 h2 h3 h5 h).mono ?_
  rintro e w1 ⟨rfl, rfl⟩
  go_wp2_with fail
  refine (reverse_any none 0 w.heap.size [] _ (bs_nil _ _) (by simp)).mono ?_
  rintro e w2 ⟨rfl, hbs2, hb2⟩
  go_wp2_with fail
  refine (number_any none 0 0 [] _ (bs_nil _ _) (by simp)).mono ?_
  rintro e w1 ⟨rfl, rfl⟩
  go_wp2_with fail
  go_ret2
  exact ⟨rfl, hb2⟩

theorem getl_ok (s : ByteArray) (at_ size : Int) (w : World) (hs : s.size ≤ 9223372036854775807) (h1 : 1 ≤ size) (h2 : size ≤ 7) (h3 : 0 ≤ at_) (h : at_ + size ≤ s.size) :
    Calls Try.prog 40 #[.string s, .int .i64 at_, .int .i64 size] w fun e w' => e = .returned (.tuple #[.int .i64 (num (sub s at_.toNat size.toNat).reverse : Nat), .int .i64 0]) ∧ Below w.heap.size w w' := by
  have hl7 : (sub s at_.toNat size.toNat).length ≤ 7 := by rw [sub_length (by omega)]; omega
  generalize hgl : sub s at_.toNat size.toNat = l at hl7 ⊢
  have Hg := Lib.hid hgl
  clear hgl
  go_enter Try.func40, Try.ntmps40
  go_wp2_with fail
  refine (part_ok s at_ size _ hs h1 h2 h3 h).mono ?_
  rintro e w1 ⟨v, rfl, hbs, hb1⟩
  rw [Hg.out] at hbs
  obtain ⟨A, cap, rfl, hrest⟩ := id hbs
  clear hrest
  go_wp2_with fail
  refine (reverse_any A cap _ l _ hbs (by omega)).mono ?_
  rintro e w2 ⟨rfl, hbs2, hb2⟩
  go_wp2_with fail
  have hn := number_any A cap w.heap.size l.reverse w2 (by rw [List.length_reverse]; exact hbs2) (by rw [List.length_reverse]; exact hl7)
  rw [List.length_reverse] at hn
  refine hn.mono ?_
  rintro e w2 ⟨rfl, rfl⟩
  go_wp2_with fail
  go_ret2
  exact ⟨rfl, hb1.trans hb2⟩
end Go.Proofs.Ytnckcdngmffahaa

/- Contracts of the reference: Put, Reverse, PutLittle, Get, GetLittle. -/
namespace Go.Proofs.Ytnckcdngmffahaa
open Go.ChangeShapes Go.WideShapes Go.ChangeAt Go.RowKit

/-- What lies below the heap's end reads on behind a step that keeps it. -/
theorem kept_cells {a b : World} (h : Below a.heap.size a b) (g o : Nat) (hg : g < a.heap.size) : b.cell? ⟨g, o, none⟩ = a.cell? ⟨g, o, none⟩ := h.cell (p := ⟨g, o, none⟩) hg

/-- 'string([]byte{b})'. -/
theorem one_string (W : World) (g : Nat) (b : Int) (h0 : 0 ≤ b) (h1 : b < 256) (hc : W.cell? ⟨g, 0, none⟩ = some (.int .u8 b)) :
    (convert 52 9 (.slice (some ⟨g, 0, none⟩) 1 1)).run Try.prog W = .ok (.string (str [UInt8.ofNat b.toNat])) W := by
  refine run_convert_bytes_back W 52 9 5 ⟨g, 0, none⟩ 1 [UInt8.ofNat b.toNat] Try.underlying52 Try.underlying5 Try.underlying9 (fun j hj => ?_)
  obtain rfl : j = 0 := by simpa using hj
  show W.cell? ⟨g, 0, none⟩ = _
  rw [hc]
  simp
  omega

end Go.Proofs.Ytnckcdngmffahaa

/- Contracts of the reference of layer 6: Number, hex, Decimal, group. -/
namespace Go.Proofs.Ytnckcdngmffahaa
open Go.ChangeShapes Go.WideShapes Go.ChangeAt Go.RowKit
set_option linter.unusedVariables false

end Go.Proofs.Ytnckcdngmffahaa
