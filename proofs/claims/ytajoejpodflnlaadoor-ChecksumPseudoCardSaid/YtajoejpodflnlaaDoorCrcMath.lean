/- Plain mathematics of the CRC-32: no Go in sight, but the bitwise and of the walk of the table. -/
import Derived.Laws.BitsAllLaws
namespace Go.Proofs.YtajoejpodflnlaaDoor

/-- One bit leaves the register. -/
def st (n : Nat) : Nat := if n % 2 = 1 then n / 2 ^^^ 3988292384 else n / 2
/-- k bits leave. -/
def stn : Nat → Nat → Nat
  | 0, n => n
  | k + 1, n => stn k (st n)

theorem xor_half (a b : Nat) : (a ^^^ b) / 2 = a / 2 ^^^ b / 2 := Nat.xor_div_two
theorem xor_odd (a b : Nat) : (a ^^^ b) % 2 = (a + b) % 2 := by
  have := @Nat.xor_mod_two_eq_one a b
  omega
theorem xor_lt {a b k : Nat} (ha : a < 2 ^ k) (hb : b < 2 ^ k) : a ^^^ b < 2 ^ k := Nat.xor_lt_two_pow ha hb
theorem xor_lt32 {a b : Nat} (ha : a < 4294967296) (hb : b < 4294967296) : a ^^^ b < 4294967296 := xor_lt (k := 32) ha hb

theorem st_lt {n : Nat} (h : n < 4294967296) : st n < 4294967296 := by
  unfold st
  split
  · exact xor_lt32 (by omega) (by decide)
  · omega
theorem stn_lt : ∀ (k : Nat) {n : Nat}, n < 4294967296 → stn k n < 4294967296
  | 0, _, h => h
  | k + 1, _, h => stn_lt k (st_lt h)

theorem st_xor (a b : Nat) : st (a ^^^ b) = st a ^^^ st b := by
  have ho := xor_odd a b
  have hh := xor_half a b
  unfold st
  rw [hh]
  generalize a / 2 = x
  generalize b / 2 = y
  have c1 : ∀ p q r : Nat, p ^^^ r ^^^ (q ^^^ r) = p ^^^ q := fun p q r => by
    rw [Nat.xor_assoc, Nat.xor_comm q r, ← Nat.xor_assoc r r q, Nat.xor_self, Nat.zero_xor]
  by_cases ha : a % 2 = 1 <;> by_cases hb : b % 2 = 1
  · rw [if_neg (by omega), if_pos ha, if_pos hb, c1]
  · rw [if_pos (by omega), if_pos ha, if_neg hb, Nat.xor_assoc, Nat.xor_comm y, ← Nat.xor_assoc]
  · rw [if_pos (by omega), if_neg ha, if_pos hb, Nat.xor_assoc]
  · rw [if_neg (by omega), if_neg ha, if_neg hb]
theorem stn_xor : ∀ (k a b : Nat), stn k (a ^^^ b) = stn k a ^^^ stn k b
  | 0, _, _ => rfl
  | k + 1, a, b => by simp only [stn]; rw [st_xor, stn_xor k]

theorem st_even (n : Nat) : st (n * 2) = n := by unfold st; rw [if_neg (by omega)]; omega
theorem stn8_high (n : Nat) : stn 8 (n * 256) = n := by
  have e : n * 256 = n * 2 * 2 * 2 * 2 * 2 * 2 * 2 * 2 := by omega
  rw [e]
  simp only [stn, st_even]

theorem split256 (n : Nat) : n = n % 256 ^^^ n / 256 * 256 := by
  have h := Nat.div_add_mod n 256
  have h2 := Nat.two_pow_add_eq_or_of_lt (i := 8) (b := n % 256) (by omega) (n / 256)
  have h3 : n % 256 ^^^ n / 256 * 256 = n % 256 ||| n / 256 * 256 := by
    apply Nat.eq_of_testBit_eq
    intro i
    rw [Nat.testBit_xor, Nat.testBit_or]
    by_cases hi : i < 8
    · have : (n / 256 * 256).testBit i = false := by
        rw [show n / 256 * 256 = 2 ^ 8 * (n / 256) by omega, Nat.testBit_two_pow_mul]
        simp; omega
      simp [this]
    · have : (n % 256).testBit i = false := Nat.testBit_lt_two_pow (Nat.lt_of_lt_of_le (show n % 256 < 2 ^ 8 by omega) (Nat.pow_le_pow_right (by decide) (by omega)))
      simp [this]
  rw [h3, Nat.or_comm, show n / 256 * 256 = 2 ^ 8 * (n / 256) by omega, ← h2]
  omega

/-- Eight bits at once: the table's entry of the lowest byte, and what is left. -/
theorem stn8_byte (n : Nat) : stn 8 n = stn 8 (n % 256) ^^^ n / 256 := by
  have h := stn_xor 8 (n % 256) (n / 256 * 256)
  rw [← split256, stn8_high] at h
  exact h

theorem xor_low (c b : Nat) (hb : b < 256) : (c ^^^ b) % 256 = c % 256 ^^^ b := by
  have := @Nat.xor_mod_two_pow c b 8
  rw [show (2 : Nat) ^ 8 = 256 from rfl, Nat.mod_eq_of_lt hb] at this
  exact this
theorem xor_high (c b : Nat) (hb : b < 256) : (c ^^^ b) / 256 = c / 256 := by
  have := @Nat.xor_div_two_pow c b 8
  rw [show (2 : Nat) ^ 8 = 256 from rfl, Nat.div_eq_of_lt hb, Nat.xor_zero] at this
  exact this

/-- The register behind one byte. -/
def byteIn (c : Nat) (b : UInt8) : Nat := stn 8 (c ^^^ b.toNat)
theorem byteIn_table (c : Nat) (b : UInt8) : stn 8 (c % 256 ^^^ b.toNat) ^^^ c / 256 = byteIn c b := by
  have hb := b.toNat_lt
  unfold byteIn
  rw [stn8_byte (c ^^^ b.toNat), xor_low _ _ hb, xor_high _ _ hb]
theorem byteIn_lt {c : Nat} (h : c < 4294967296) (b : UInt8) : byteIn c b < 4294967296 := stn_lt 8 (xor_lt32 h (by have := b.toNat_lt; omega))
/-- The register behind a string. -/
def bytesIn (c : Nat) (l : List UInt8) : Nat := l.foldl byteIn c
theorem bytesIn_lt : ∀ (l : List UInt8) {c : Nat}, c < 4294967296 → bytesIn c l < 4294967296
  | [], _, h => h
  | b :: l, _, h => bytesIn_lt l (byteIn_lt h b)
theorem bytesIn_append (c : Nat) (a b : List UInt8) : bytesIn c (a ++ b) = bytesIn (bytesIn c a) b := by simp [bytesIn]
/-- The complement of 32 bits. -/
def flip (n : Nat) : Nat := n ^^^ 4294967295
theorem flip_lt {n : Nat} (h : n < 4294967296) : flip n < 4294967296 := xor_lt32 h (by decide)
theorem flip_flip (n : Nat) : flip (flip n) = n := by unfold flip; rw [Nat.xor_assoc, Nat.xor_self, Nat.xor_zero]
/-- CrcUpdate. -/
def crcU (c : Nat) (l : List UInt8) : Nat := flip (bytesIn (flip c) l)
theorem crcU_lt {c : Nat} (h : c < 4294967296) (l : List UInt8) : crcU c l < 4294967296 := flip_lt (bytesIn_lt l (flip_lt h))
theorem crcU_append (c : Nat) (a b : List UInt8) : crcU (crcU c a) b = crcU c (a ++ b) := by
  unfold crcU
  rw [flip_flip, bytesIn_append]
theorem crcU_nil (c : Nat) : crcU c [] = c := flip_flip c

/-- The lowest bit that is set. -/
def lowb (k : Nat) : Nat := k &&& (256 - k)
theorem low_facts : ∀ k : Fin 256, bits .and .i64 ((k.val : Nat) : Int) (-((k.val : Nat) : Int)) = (lowb k.val : Nat) ∧ lowb k.val ≤ k.val ∧ lowb k.val ^^^ (k.val - lowb k.val) = k.val ∧ (k.val = lowb k.val ∨ (lowb k.val < k.val ∧ 0 < lowb k.val)) := by
  decide +kernel
theorem stn_split {k : Nat} (h : k < 256) : stn 8 (lowb k) ^^^ stn 8 (k - lowb k) = stn 8 k := by
  rw [← stn_xor, (low_facts ⟨k, h⟩).2.2.1]
end Go.Proofs.YtajoejpodflnlaaDoor
