/- Contracts of the functions, part 1: Plain, Nums, Mem. -/
import Derived.Below
import Derived.Test.YtafpmlikocchpaaRows
import Derived.WalkKit
import Derived.LoopTactic
import Derived.ProofKit
import Derived.OpenShut
import Derived.ShutString
import Derived.ChangeOld
import Derived.Lib.Hide
import Derived.BigQuiet
import Derived.Outline
import Derived.IntWalk
import Derived.Deep.OwnRows
import Derived.Lib.SlBytesRow
import Derived.Laws.IdiomStrings
import Derived.RegionTactic
import Derived.WalkSmall
import Derived.Deep.DeepFit
/- Plain mathematics of byte strings and numbers for layer 1: no Go in sight. -/
namespace Go.Proofs.Ytafpmlikocchpaa

/-- The size bytes of n, least significant first. -/
def leL : Nat → Nat → List UInt8
  | 0, _ => []
  | k + 1, n => UInt8.ofNat (n % 256) :: leL k (n / 256)

theorem leL_length : ∀ k n, (leL k n).length = k
  | 0, _ => rfl
  | k + 1, n => by simp [leL, leL_length k]

theorem leL_get : ∀ k n j (h : j < (leL k n).length), (leL k n)[j] = UInt8.ofNat (n / 256 ^ j % 256)
  | 0, _, j, h => by simp [leL] at h
  | k + 1, n, 0, _ => by simp [leL]
  | k + 1, n, j + 1, h => by
    simp only [leL, List.getElem_cons_succ]
    rw [leL_get k (n / 256) j (by simpa [leL] using h), Nat.div_div_eq_div_mul, Nat.pow_succ, Nat.mul_comm]

theorem leL_snoc : ∀ k n, leL (k + 1) n = leL k n ++ [UInt8.ofNat (n / 256 ^ k % 256)]
  | 0, n => by simp [leL]
  | k + 1, n => by
    have h := leL_snoc k (n / 256)
    rw [leL, h]
    simp only [leL, List.cons_append]
    rw [Nat.div_div_eq_div_mul, Nat.pow_succ, Nat.mul_comm]

/-- What bytes denote, most significant first. -/
def num (l : List UInt8) : Nat := l.foldl (fun a c => a * 256 + c.toNat) 0

theorem num_nil : num [] = 0 := rfl
theorem num_snoc (l : List UInt8) (c : UInt8) : num (l ++ [c]) = num l * 256 + c.toNat := by simp [num]

theorem u8_lt (c : UInt8) : c.toNat < 256 := c.toNat_lt

theorem numFrom_lt : ∀ (l : List UInt8) (a : Nat), l.foldl (fun a c => a * 256 + c.toNat) a + 1 ≤ (a + 1) * 256 ^ l.length
  | [], a => by simp
  | c :: l, a => by
    have h := numFrom_lt l (a * 256 + c.toNat)
    have hc := u8_lt c
    have h2 : (a * 256 + c.toNat + 1) * 256 ^ l.length ≤ ((a + 1) * 256) * 256 ^ l.length := Nat.mul_le_mul_right _ (by omega)
    rw [List.foldl_cons, List.length_cons, Nat.pow_succ, Nat.mul_comm (256 ^ l.length) 256, ← Nat.mul_assoc]
    exact Nat.le_trans h h2

theorem num_lt (l : List UInt8) : num l < 256 ^ l.length := by
  have h := numFrom_lt l 0
  unfold num
  omega

theorem num_reverse_leL : ∀ k n, num (leL k n).reverse = n % 256 ^ k
  | 0, n => by simp [leL, num, Nat.mod_one]
  | k + 1, n => by
    rw [leL, List.reverse_cons, num_snoc, num_reverse_leL k, Nat.pow_succ, Nat.mul_comm (256 ^ k) 256, Nat.mod_mul]
    have : (UInt8.ofNat (n % 256)).toNat = n % 256 := by
      rw [UInt8.toNat_ofNat']
      omega
    rw [this]
    omega

theorem leL_num : ∀ l : List UInt8, leL l.length (num l.reverse) = l
  | [] => rfl
  | c :: l => by
    have hc := u8_lt c
    rw [List.reverse_cons, num_snoc, List.length_cons, leL]
    have h1 : (num l.reverse * 256 + c.toNat) % 256 = c.toNat := by omega
    have h2 : (num l.reverse * 256 + c.toNat) / 256 = num l.reverse := by omega
    rw [h1, h2, leL_num l]
    simp

theorem leL_reverse_num (l : List UInt8) : (leL l.length (num l)).reverse = l := by
  have h := leL_num l.reverse
  rw [List.reverse_reverse, List.length_reverse] at h
  rw [h, List.reverse_reverse]

/-- 256 to a size that fits. -/
theorem pow_le7 {k : Nat} (h : k ≤ 7) : 256 ^ k ≤ 72057594037927936 := by
  have : 256 ^ k ≤ 256 ^ 7 := Nat.pow_le_pow_right (by omega) h
  simpa using this

theorem num_le7 {l : List UInt8} (h : l.length ≤ 7) : num l < 72057594037927936 := Nat.lt_of_lt_of_le (num_lt l) (pow_le7 h)

/-- 256 to the k. -/
def pw (k : Nat) : Nat := 256 ^ k
theorem pw_zero : pw 0 = 1 := rfl
theorem pw_succ (k : Nat) : pw (k + 1) = pw k * 256 := Nat.pow_succ ..
theorem pw_le7 {k : Nat} (h : k ≤ 7) : pw k ≤ 72057594037927936 := pow_le7 h
theorem pw_le6 {k : Nat} (h : k < 7) : pw k ≤ 281474976710656 := by
  have : 256 ^ k ≤ 256 ^ 6 := Nat.pow_le_pow_right (by omega) (by omega)
  simpa [pw] using this
theorem num_lt6 {l : List UInt8} (h : l.length < 7) : num l < 281474976710656 := Nat.lt_of_lt_of_le (num_lt l) (pw_le6 h)
theorem pw_pos (k : Nat) : 0 < pw k := Nat.pow_pos (by omega)

theorem two_pow_eight (k : Nat) : (2 : Nat) ^ (8 * k) = pw k := by rw [Nat.pow_mul]; rfl
theorem two_pow_pw (k : Nat) : (2 : Int) ^ (8 * (k : Int)).toNat = (pw k : Int) := by
  have e : (8 * (k : Int)).toNat = 8 * k := by omega
  rw [e, ← two_pow_eight]
  simp
theorem two_pow_pw' (k : Nat) : (2 : Int) ^ (8 * k) = (pw k : Int) := by
  rw [← two_pow_eight]
  simp
theorem shr_pw' (n : Nat) (k : Nat) : (n : Int) / 2 ^ (8 * k) = ((n / pw k : Nat) : Int) := by
  rw [two_pow_pw']; simp
theorem shr_pw (n : Nat) (k : Nat) : (n : Int) / 2 ^ (8 * (k : Int)).toNat = ((n / pw k : Nat) : Int) := by
  rw [two_pow_pw]; simp

/-- Is a size valid? -/
def vld (size : Int) : Bool := decide (1 ≤ size ∧ size ≤ 7)
/-- Can n be written in size bytes? -/
def fits (n size : Int) : Bool := decide (1 ≤ size ∧ size ≤ 7 ∧ 0 ≤ n ∧ n < 256 ^ size.toNat)
/-- The bytes of n, least significant first, if it can be written. -/
def putLe (n size : Int) : List UInt8 := if fits n size then leL size.toNat n.toNat else []
/-- A string of bytes. -/
def str (l : List UInt8) : ByteArray := ⟨l.toArray⟩
theorem str_size (l : List UInt8) : (str l).size = l.length := by simp [str, ByteArray.size]
theorem str_toList (l : List UInt8) : (str l).data.toList = l := by simp [str]
theorem str_of (s : ByteArray) : str s.data.toList = s := by simp [str]

theorem str_append (a b : List UInt8) : str a ++ str b = str (a ++ b) := by
  apply ByteArray.ext
  simp [str]

theorem putLe_length_le (n size : Int) : (putLe n size).length ≤ 7 := by
  unfold putLe fits
  split
  · rename_i h
    have := of_decide_eq_true h
    rw [leL_length]
    omega
  · simp

/-- What a row holds when its first k and last k bytes have been exchanged. -/
def turned (l : List UInt8) (k x : Nat) : UInt8 := if x < k ∨ l.length ≤ x + k then l.getD (l.length - 1 - x) 0 else l.getD x 0
theorem turned_zero (l : List UInt8) (x : Nat) (hx : x < l.length) : turned l 0 x = l[x] := by
  unfold turned
  rw [if_neg (by omega)]
  simp [List.getD, hx]
theorem turned_q {l : List UInt8} {k q : Nat} (h : k + q + 1 = l.length) (hr : k < q) : turned l (k + 1) q = turned l k k := by
  unfold turned
  rw [if_pos (by omega), if_neg (by omega), show l.length - 1 - q = k by omega]
theorem turned_k {l : List UInt8} {k q : Nat} (h : k + q + 1 = l.length) (hr : k < q) : turned l (k + 1) k = turned l k q := by
  unfold turned
  rw [if_pos (by omega), if_neg (by omega), show l.length - 1 - k = q by omega]
theorem turned_far {l : List UInt8} {k q x : Nat} (h : k + q + 1 = l.length) (hk : x ≠ k) (hq : x ≠ q) : turned l (k + 1) x = turned l k x := by
  unfold turned
  by_cases c : x < k ∨ l.length ≤ x + k
  · rw [if_pos (by omega), if_pos c]
  · rw [if_neg (by omega), if_neg c]
theorem turned_done {l : List UInt8} {k q x : Nat} (h : k + q + 1 = l.length) (hr : ¬ k < q) (hx : x < l.reverse.length) : turned l k x = l.reverse[x] := by
  have hx' : x < l.length := by simpa using hx
  have e : l.reverse[x] = l.getD (l.length - 1 - x) 0 := by
    rw [List.getElem_reverse]
    simp [List.getD, show l.length - 1 - x < l.length by omega]
  rw [e]
  unfold turned
  by_cases c : x < k ∨ l.length ≤ x + k
  · rw [if_pos c]
  · rw [if_neg c, show l.length - 1 - x = x by omega]
end Go.Proofs.Ytafpmlikocchpaa

/- Contracts of the functions that only compute: validSize, Power, Value. -/
namespace Go.Proofs.Ytafpmlikocchpaa
open Go.ChangeShapes Go.WideShapes Go.ChangeAt Go.RowKit

theorem ret_int {k : IntKind} {a b : Int} (h : a = b) : Ending.returned (.int k a) = .returned (.int k b) := by rw [h]

end Go.Proofs.Ytafpmlikocchpaa

/- Contracts of the functions that make or read byte slices: little, Reverse, number, part. -/
namespace Go.Proofs.Ytafpmlikocchpaa
open Go.ChangeShapes Go.WideShapes Go.ChangeAt Go.RowKit

/-- A slice of bytes that reads as l, lies from block base on, and may be written. -/
def BS (w : World) (base : Nat) (v : Value) (l : List UInt8) : Prop :=
  ∃ A cap, v = .slice A l.length cap ∧ l.length ≤ cap ∧
    (0 < l.length → ∃ g o, A = some ⟨g, o, none⟩ ∧ base ≤ g ∧ g < w.heap.size ∧
      ∀ j (hj : j < l.length), w.cell? ⟨g, o + j, none⟩ = some (.int .u8 (l[j].toNat : Int)) ∧ w.frozen? ⟨g, o + j, none⟩ = false)

theorem cell_set_same {w : World} {a : Addr} {u : Value} (v : Value) (h : w.cell? a = some u) : (w.setCell a v).cell? a = some v := World.cell?_setCell_same' w a v (by simp [h])
theorem cell_set_far (w : World) (g x y : Nat) (v : Value) (h : x ≠ y) : (w.setCell ⟨g, x, none⟩ v).cell? ⟨g, y, none⟩ = w.cell? ⟨g, y, none⟩ :=
  World.cell?_setCell_other w ⟨g, x, none⟩ ⟨g, y, none⟩ v (by intro e; injection e with _ e; exact h (by omega))
theorem frozen_set (w : World) (a b : Addr) (v : Value) : (w.setCell a v).frozen? b = w.frozen? b := by simp
theorem size_set (w : World) (a : Addr) (v : Value) : (w.setCell a v).heap.size = w.heap.size := by simp [World.setCell]

theorem info5 : (Try.prog.info? 5).map (fun i => (i.zero, i.size, i.bytes)) = some (some (.int .u8 0), 1, 1) := by kernel_rfl

end Go.Proofs.Ytafpmlikocchpaa
