/- Plain mathematics of the ones' complement sum: no Go in sight. -/
import Derived.Below
namespace Go.Proofs.YtajoejpodflnlaaDoor

/-- The ones' complement sum of two numbers from 0 to 65535. -/
def oc (a b : Int) : Int := if 65535 < a + b then a + b - 65535 else a + b
/-- What the ones' complement sum of words is whose plain sum is n. -/
def rep (n : Nat) : Nat := if n = 0 then 0 else (n - 1) % 65535 + 1
/-- The first word. -/
def wdL : List UInt8 → Nat
  | [] => 0
  | [a] => a.toNat * 256
  | a :: b :: _ => a.toNat * 256 + b.toNat
/-- The plain sum of the words. -/
def wsum : List UInt8 → Nat
  | [] => 0
  | [a] => a.toNat * 256
  | a :: b :: l => (a.toNat * 256 + b.toNat) + wsum l
/-- The Internet checksum. -/
def csum (l : List UInt8) : Nat := 65535 - rep (wsum l)

theorem rep_le (n : Nat) : rep n ≤ 65535 := by unfold rep; split <;> omega
theorem rep_zero : rep 0 = 0 := rfl
theorem csum_le (l : List UInt8) : csum l ≤ 65535 := by unfold csum; omega
theorem oc_rep (n w : Nat) (h : w ≤ 65535) : oc (rep n) w = (rep (n + w) : Nat) := by
  unfold oc rep
  split <;> split <;> split <;> omega
theorem rep_mod (n : Nat) : rep n % 65535 = n % 65535 := by unfold rep; split <;> omega
theorem wdL_le (l : List UInt8) : wdL l ≤ 65535 := by
  unfold wdL
  split
  · omega
  · rename_i a; have := a.toNat_lt; omega
  · rename_i a b _; have := a.toNat_lt; have := b.toNat_lt; omega
theorem wsum_step (l : List UInt8) : wsum l = wdL l + wsum (l.drop 2) := by
  match l with
  | [] => simp [wsum, wdL]
  | [_] => simp [wsum, wdL]
  | _ :: _ :: _ => simp [wsum, wdL]
theorem wsum_append : ∀ (a b : List UInt8), a.length % 2 = 0 → wsum (a ++ b) = wsum a + wsum b
  | [], b, _ => by simp [wsum]
  | [_], _, h => by simp at h
  | x :: y :: l, b, h => by
    have h' : l.length % 2 = 0 := by simp at h; omega
    have := wsum_append l b h'
    simp only [List.cons_append, wsum, this]
    omega
theorem wd_two (s : ByteArray) (k : Nat) (h : k + 1 < s.size) : wdL (s.data.toList.drop k) = s[k].toNat * 256 + s[k + 1].toNat := by
  have hl : s.data.toList.length = s.size := by simp
  rw [List.drop_eq_getElem_cons (by omega), List.drop_eq_getElem_cons (by omega)]
  rfl
theorem wd_one (s : ByteArray) (k : Nat) (h : k < s.size) (h2 : s.size ≤ k + 1) : wdL (s.data.toList.drop k) = s[k].toNat * 256 := by
  have hl : s.data.toList.length = s.size := by simp
  rw [List.drop_eq_getElem_cons (by omega), List.drop_eq_nil_of_le (by omega)]
  rfl
end Go.Proofs.YtajoejpodflnlaaDoor
