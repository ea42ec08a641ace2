/- Contracts of the functions, part 1: Plain, Nums, Mem. -/
import Derived.Below
import Derived.Test.YtmfoionlapcgkaaDoorRows
import Derived.WalkKit
import Derived.LoopTactic
import Derived.ProofKit
import Derived.OpenShut
import Derived.ShutString
import Derived.ChangeOld
import Derived.Lib.Hide
import Derived.BigQuiet
import Derived.Outline
import Derived.IntWalk
import Derived.Deep.OwnRows
import Derived.Lib.SlBytesRow
import Derived.Laws.IdiomStrings
import Derived.RegionTactic
import Derived.WalkSmall
import Derived.Deep.DeepFit
/- Plain mathematics of byte strings and numbers for layer 1: no Go in sight. -/
namespace Go.Proofs.YtmfoionlapcgkaaDoor

/-- The size bytes of n, least significant first. -/
def leL : Nat → Nat → List UInt8
  | 0, _ => []
  | k + 1, n => UInt8.ofNat (n % 256) :: leL k (n / 256)

theorem leL_length : ∀ k n, (leL k n).length = k
  | 0, _ => rfl
  | k + 1, n => by simp [leL, leL_length k]

theorem leL_get : ∀ k n j (h : j < (leL k n).length), (leL k n)[j] = UInt8.ofNat (n / 256 ^ j % 256)
  | 0, _, j, h => by simp [leL] at h
  | k + 1, n, 0, _ => by simp [leL]
  | k + 1, n, j + 1, h => by
    simp only [leL, List.getElem_cons_succ]
    rw [leL_get k (n / 256) j (by simpa [leL] using h), Nat.div_div_eq_div_mul, Nat.pow_succ, Nat.mul_comm]

theorem leL_snoc : ∀ k n, leL (k + 1) n = leL k n ++ [UInt8.ofNat (n / 256 ^ k % 256)]
  | 0, n => by simp [leL]
  | k + 1, n => by
    have h := leL_snoc k (n / 256)
    rw [leL, h]
    simp only [leL, List.cons_append]
    rw [Nat.div_div_eq_div_mul, Nat.pow_succ, Nat.mul_comm]

/-- What bytes denote, most significant first. -/
def num (l : List UInt8) : Nat := l.foldl (fun a c => a * 256 + c.toNat) 0

theorem num_nil : num [] = 0 := rfl
theorem num_snoc (l : List UInt8) (c : UInt8) : num (l ++ [c]) = num l * 256 + c.toNat := by simp [num]

theorem u8_lt (c : UInt8) : c.toNat < 256 := c.toNat_lt

theorem numFrom_lt : ∀ (l : List UInt8) (a : Nat), l.foldl (fun a c => a * 256 + c.toNat) a + 1 ≤ (a + 1) * 256 ^ l.length
  | [], a => by simp
  | c :: l, a => by
    have h := numFrom_lt l (a * 256 + c.toNat)
    have hc := u8_lt c
    have h2 : (a * 256 + c.toNat + 1) * 256 ^ l.length ≤ ((a + 1) * 256) * 256 ^ l.length := Nat.mul_le_mul_right _ (by omega)
    rw [List.foldl_cons, List.length_cons, Nat.pow_succ, Nat.mul_comm (256 ^ l.length) 256, ← Nat.mul_assoc]
    exact Nat.le_trans h h2

theorem num_lt (l : List UInt8) : num l < 256 ^ l.length := by
  have h := numFrom_lt l 0
  unfold num
  omega

theorem num_reverse_leL : ∀ k n, num (leL k n).reverse = n % 256 ^ k
  | 0, n => by simp [leL, num, Nat.mod_one]
  | k + 1, n => by
    rw [leL, List.reverse_cons, num_snoc, num_reverse_leL k, Nat.pow_succ, Nat.mul_comm (256 ^ k) 256, Nat.mod_mul]
    have : (UInt8.ofNat (n % 256)).toNat = n % 256 := by
      rw [UInt8.toNat_ofNat']
      omega
    rw [this]
    omega

theorem leL_num : ∀ l : List UInt8, leL l.length (num l.reverse) = l
  | [] => rfl
  | c :: l => by
    have hc := u8_lt c
    rw [List.reverse_cons, num_snoc, List.length_cons, leL]
    have h1 : (num l.reverse * 256 + c.toNat) % 256 = c.toNat := by omega
    have h2 : (num l.reverse * 256 + c.toNat) / 256 = num l.reverse := by omega
    rw [h1, h2, leL_num l]
    simp

theorem leL_reverse_num (l : List UInt8) : (leL l.length (num l)).reverse = l := by
  have h := leL_num l.reverse
  rw [List.reverse_reverse, List.length_reverse] at h
  rw [h, List.reverse_reverse]

/-- 256 to a size that fits. -/
theorem pow_le7 {k : Nat} (h : k ≤ 7) : 256 ^ k ≤ 72057594037927936 := by
  have : 256 ^ k ≤ 256 ^ 7 := Nat.pow_le_pow_right (by omega) h
  simpa using this

theorem num_le7 {l : List UInt8} (h : l.length ≤ 7) : num l < 72057594037927936 := Nat.lt_of_lt_of_le (num_lt l) (pow_le7 h)

/-- 256 to the k. -/
def pw (k : Nat) : Nat := 256 ^ k
theorem pw_zero : pw 0 = 1 := rfl
theorem pw_succ (k : Nat) : pw (k + 1) = pw k * 256 := Nat.pow_succ ..
theorem pw_le7 {k : Nat} (h : k ≤ 7) : pw k ≤ 72057594037927936 := pow_le7 h
theorem pw_le6 {k : Nat} (h : k < 7) : pw k ≤ 281474976710656 := by
  have : 256 ^ k ≤ 256 ^ 6 := Nat.pow_le_pow_right (by omega) (by omega)
  simpa [pw] using this
theorem num_lt6 {l : List UInt8} (h : l.length < 7) : num l < 281474976710656 := Nat.lt_of_lt_of_le (num_lt l) (pw_le6 h)
theorem pw_pos (k : Nat) : 0 < pw k := Nat.pow_pos (by omega)

theorem two_pow_eight (k : Nat) : (2 : Nat) ^ (8 * k) = pw k := by rw [Nat.pow_mul]; rfl
theorem two_pow_pw (k : Nat) : (2 : Int) ^ (8 * (k : Int)).toNat = (pw k : Int) := by
  have e : (8 * (k : Int)).toNat = 8 * k := by omega
  rw [e, ← two_pow_eight]
  simp
theorem two_pow_pw' (k : Nat) : (2 : Int) ^ (8 * k) = (pw k : Int) := by
  rw [← two_pow_eight]
  simp
theorem shr_pw' (n : Nat) (k : Nat) : (n : Int) / 2 ^ (8 * k) = ((n / pw k : Nat) : Int) := by
  rw [two_pow_pw']; simp
theorem shr_pw (n : Nat) (k : Nat) : (n : Int) / 2 ^ (8 * (k : Int)).toNat = ((n / pw k : Nat) : Int) := by
  rw [two_pow_pw]; simp

/-- Is a size valid? -/
def vld (size : Int) : Bool := decide (1 ≤ size ∧ size ≤ 7)
/-- Can n be written in size bytes? -/
def fits (n size : Int) : Bool := decide (1 ≤ size ∧ size ≤ 7 ∧ 0 ≤ n ∧ n < 256 ^ size.toNat)
/-- The bytes of n, least significant first, if it can be written. -/
def putLe (n size : Int) : List UInt8 := if fits n size then leL size.toNat n.toNat else []
/-- A string of bytes. -/
def str (l : List UInt8) : ByteArray := ⟨l.toArray⟩
theorem str_size (l : List UInt8) : (str l).size = l.length := by simp [str, ByteArray.size]
theorem str_toList (l : List UInt8) : (str l).data.toList = l := by simp [str]
theorem str_of (s : ByteArray) : str s.data.toList = s := by simp [str]

theorem str_append (a b : List UInt8) : str a ++ str b = str (a ++ b) := by
  apply ByteArray.ext
  simp [str]

theorem putLe_length_le (n size : Int) : (putLe n size).length ≤ 7 := by
  unfold putLe fits
  split
  · rename_i h
    have := of_decide_eq_true h
    rw [leL_length]
    omega
  · simp

/-- What a row holds when its first k and last k bytes have been exchanged. -/
def turned (l : List UInt8) (k x : Nat) : UInt8 := if x < k ∨ l.length ≤ x + k then l.getD (l.length - 1 - x) 0 else l.getD x 0
theorem turned_zero (l : List UInt8) (x : Nat) (hx : x < l.length) : turned l 0 x = l[x] := by
  unfold turned
  rw [if_neg (by omega)]
  simp [List.getD, hx]
theorem turned_q {l : List UInt8} {k q : Nat} (h : k + q + 1 = l.length) (hr : k < q) : turned l (k + 1) q = turned l k k := by
  unfold turned
  rw [if_pos (by omega), if_neg (by omega), show l.length - 1 - q = k by omega]
theorem turned_k {l : List UInt8} {k q : Nat} (h : k + q + 1 = l.length) (hr : k < q) : turned l (k + 1) k = turned l k q := by
  unfold turned
  rw [if_pos (by omega), if_neg (by omega), show l.length - 1 - k = q by omega]
theorem turned_far {l : List UInt8} {k q x : Nat} (h : k + q + 1 = l.length) (hk : x ≠ k) (hq : x ≠ q) : turned l (k + 1) x = turned l k x := by
  unfold turned
  by_cases c : x < k ∨ l.length ≤ x + k
  · rw [if_pos (by omega), if_pos c]
  · rw [if_neg (by omega), if_neg c]
theorem turned_done {l : List UInt8} {k q x : Nat} (h : k + q + 1 = l.length) (hr : ¬ k < q) (hx : x < l.reverse.length) : turned l k x = l.reverse[x] := by
  have hx' : x < l.length := by simpa using hx
  have e : l.reverse[x] = l.getD (l.length - 1 - x) 0 := by
    rw [List.getElem_reverse]
    simp [List.getD, show l.length - 1 - x < l.length by omega]
  rw [e]
  unfold turned
  by_cases c : x < k ∨ l.length ≤ x + k
  · rw [if_pos c]
  · rw [if_neg c, show l.length - 1 - x = x by omega]
end Go.Proofs.YtmfoionlapcgkaaDoor

/- Contracts of the functions that only compute: validSize, Power, Value. -/
namespace Go.Proofs.YtmfoionlapcgkaaDoor
open Go.ChangeShapes Go.WideShapes Go.ChangeAt Go.RowKit

theorem ret_int {k : IntKind} {a b : Int} (h : a = b) : Ending.returned (.int k a) = .returned (.int k b) := by rw [h]

theorem valid_yes (n : Int) (w : World) (h0 : 1 ≤ n) (h1 : n ≤ 7) :
    Calls Tryd.prog 72 #[.int .i64 n] w fun e w' => e = .returned (.bool true) ∧ w = w' := by
  go_enter Tryd.func72, Tryd.ntmps72
  go_wp2
  go_ret
  exact ⟨rfl, rfl⟩

theorem valid_no (n : Int) (w : World) (h : n < 1 ∨ 7 < n) :
    Calls Tryd.prog 72 #[.int .i64 n] w fun e w' => e = .returned (.bool false) ∧ w = w' := by
  rcases h with h | h
  · go_enter Tryd.func72, Tryd.ntmps72
    go_wp2
    go_ret
    exact ⟨rfl, rfl⟩
  · have h' : 1 ≤ n := by omega
    have hd : decide (n ≤ 7) = false := by simp; omega
    go_enter Tryd.func72, Tryd.ntmps72
    go_wp2
    go_ret
    exact ⟨rfl, rfl⟩

theorem power_any (n : Int) (w : World) (h0 : 1 ≤ n) (h1 : n ≤ 7) :
    Calls Tryd.prog 67 #[.int .i64 n] w fun e w' => e = .returned (.int .i64 (pw n.toNat : Nat)) ∧ w = w' := by
  go_enter Tryd.func67, Tryd.ntmps67
  go_wp2
  go_loop [3, 4] (fun p i => ∃ k : Nat, (k : Int) ≤ n ∧ i = .int .i64 k ∧ p = .int .i64 (pw k : Nat)) (fun _ i => n.toNat - (intOf i).toNat)
  case atStart => exact ⟨0, by omega, rfl, rfl⟩
  case round =>
    obtain ⟨k, hk, rfl, rfl⟩ := hrel
    by_cases hlt : (k : Int) < n
    · have hp : pw k ≤ 281474976710656 := pw_le6 (by omega)
      go_wp2
      go_round
      case rel => exact ⟨k + 1, by omega, by go_num, by rw [pw_succ]; go_num⟩
      case measure => simp [intOf]; omega
    · go_wp2
      go_ret
      exact ⟨ret_int (by rw [show n.toNat = k from by omega]), rfl⟩

/-- The value of a string of at most seven bytes. -/
theorem value_any (s : ByteArray) (w : World) (hs : s.size ≤ 7) :
    Calls Tryd.prog 75 #[.string s] w fun e w' => e = .returned (.int .i64 (num s.data.toList : Nat)) ∧ w = w' := by
  go_enter Tryd.func75, Tryd.ntmps75
  go_wp2
  go_loop [3, 4] (fun p i => ∃ k : Nat, k ≤ s.size ∧ i = .int .i64 k ∧ p = .int .i64 (num (s.data.toList.take k) : Nat)) (fun _ i => s.size - (intOf i).toNat)
  case atStart => exact ⟨0, by omega, rfl, rfl⟩
  case round =>
    obtain ⟨k, hk, rfl, rfl⟩ := hrel
    by_cases hlt : k < s.size
    · have hp : num (s.data.toList.take k) < 281474976710656 := num_lt6 (by rw [List.length_take]; omega)
      have H : Hid (num (s.data.toList.take (k + 1)) = num (s.data.toList.take k) * 256 + s[k].toNat) := by
        show num (s.data.toList.take (k + 1)) = _
        rw [List.take_succ_eq_append_getElem (by simpa using hlt), num_snoc]; rfl
      have hb : s[k].toNat < 256 := u8_lt _
      go_wp2
      go_round
      case rel => exact ⟨k + 1, by omega, by go_num, by rw [H.out]; go_num⟩
      case measure => simp [intOf]; omega
    · go_wp2
      go_ret
      exact ⟨ret_int (by rw [List.take_of_length_le (by simp; omega)]), rfl⟩
end Go.Proofs.YtmfoionlapcgkaaDoor

/- Contracts of the functions that make or read byte slices: little, Reverse, number, part. -/
namespace Go.Proofs.YtmfoionlapcgkaaDoor
open Go.ChangeShapes Go.WideShapes Go.ChangeAt Go.RowKit

/-- A slice of bytes that reads as l, lies from block base on, and may be written. -/
def BS (w : World) (base : Nat) (v : Value) (l : List UInt8) : Prop :=
  ∃ A cap, v = .slice A l.length cap ∧ l.length ≤ cap ∧
    (0 < l.length → ∃ g o, A = some ⟨g, o, none⟩ ∧ base ≤ g ∧ g < w.heap.size ∧
      ∀ j (hj : j < l.length), w.cell? ⟨g, o + j, none⟩ = some (.int .u8 (l[j].toNat : Int)) ∧ w.frozen? ⟨g, o + j, none⟩ = false)

theorem cell_set_same {w : World} {a : Addr} {u : Value} (v : Value) (h : w.cell? a = some u) : (w.setCell a v).cell? a = some v := World.cell?_setCell_same' w a v (by simp [h])
theorem cell_set_far (w : World) (g x y : Nat) (v : Value) (h : x ≠ y) : (w.setCell ⟨g, x, none⟩ v).cell? ⟨g, y, none⟩ = w.cell? ⟨g, y, none⟩ :=
  World.cell?_setCell_other w ⟨g, x, none⟩ ⟨g, y, none⟩ v (by intro e; injection e with _ e; exact h (by omega))
theorem frozen_set (w : World) (a b : Addr) (v : Value) : (w.setCell a v).frozen? b = w.frozen? b := by simp
theorem size_set (w : World) (a : Addr) (v : Value) : (w.setCell a v).heap.size = w.heap.size := by simp [World.setCell]

theorem info5 : (Tryd.prog.info? 5).map (fun i => (i.zero, i.size, i.bytes)) = some (some (.int .u8 0), 1, 1) := by kernel_rfl

theorem little_yes (n size : Int) (w : World) (h1 : 1 ≤ size) (h2 : size ≤ 7) (h3 : 0 ≤ n) (h5 : n ≤ 9223372036854775807) (h4 : n.toNat < pw size.toNat) :
    Calls Tryd.prog 65 #[.int .i64 n, .int .i64 size] w fun e w' => ∃ v, e = .returned v ∧ BS w' w.heap.size v (leL size.toNat n.toNat) ∧ Below w.heap.size w w' := by
  obtain ⟨k, rfl⟩ := Int.eq_ofNat_of_zero_le (show 0 ≤ size by omega)
  obtain ⟨m, rfl⟩ := Int.eq_ofNat_of_zero_le h3
  rw [Int.toNat_natCast, Int.toNat_natCast] at *
  have hp7 := pw_le7 (k := k) (by omega)
  have hd : decide ((m : Int) < 0) = false := by simp
  have hq : ((m : Int) / 2 ^ (8 * k) != 0) = false := by
    rw [shr_pw', Nat.div_eq_of_lt h4]; rfl
  have hmk := fun W => run_make_row' (P := Tryd.prog) 48 5 (.int .u8 0) 1 Tryd.underlying48 info5 rfl .i64 .i64 k (by omega) (by omega) W
  go_enter Tryd.func65, Tryd.ntmps65
  go_wp2_with (go_at_call 72; refine (valid_yes _ _ (by omega) (by omega)).mono ?_; rintro e w' ⟨rfl, rfl⟩)
  go_loopw [24] (fun i wr => ∃ j : Nat, j ≤ k ∧ i = .int .i64 j ∧ wr.rowIs w.heap.size 5 k (fun x => .int .u8 (if x < j then ((m / pw x % 256 : Nat) : Int) else 0)) ∧ Below w.heap.size w wr) (fun i _ => k - (intOf i).toNat)
  case atStart => exact ⟨0, by omega, rfl, (World.rowIs_made w (.int .u8 0) k 5).congr (fun i _ => by simp), (Below.refl _ _).alloc (Nat.le_refl _) _⟩
  case round =>
    obtain ⟨j, hj, rfl, hrow, hb⟩ := hrel
    by_cases hlt : j < k
    · have hc := hrow.cell hlt
      have hf := hrow.frozen j
      go_wp2
      go_roundw
      case rel =>
        refine ⟨j + 1, by omega, by go_num, (hrow.set j _).congr (fun x hx => ?_), hb.setCell (Nat.le_refl _) _⟩
        by_cases hxj : x = j
        · subst hxj
          rw [if_pos rfl, if_pos (by omega), shr_pw']
          simp
        · rw [if_neg hxj]
          by_cases hx2 : x < j
          · rw [if_pos hx2, if_pos (by omega)]
          · rw [if_neg hx2, if_neg (by omega)]
      case measure => simp [intOf]; omega
    · obtain rfl : j = k := by omega
      go_wp2
      go_ret
      refine ⟨_, rfl, ⟨some ⟨w.heap.size, 0, none⟩, j, by simp [leL_length], by simp [leL_length], fun _ => ⟨w.heap.size, 0, rfl, Nat.le_refl _, hrow.lt, fun x hx => ?_⟩⟩, hb⟩
      have hx' : x < j := by rwa [leL_length] at hx
      rw [Nat.zero_add]
      refine ⟨?_, hrow.frozen x⟩
      rw [hrow.cell hx', if_pos hx', leL_get _ _ _ hx, UInt8.toNat_ofNat']
      simp [pw]

theorem little_no (n size : Int) (w : World) (h5 : n ≤ 9223372036854775807) (h6 : -9223372036854775808 ≤ n) (h : size < 1 ∨ 7 < size ∨ n < 0 ∨ (1 ≤ size ∧ pw size.toNat ≤ n.toNat)) :
    Calls Tryd.prog 65 #[.int .i64 n, .int .i64 size] w fun e w' => e = .returned (.slice none 0 0) ∧ w = w' := by
  by_cases hv : size < 1 ∨ 7 < size
  · go_enter Tryd.func65, Tryd.ntmps65
    go_wp2_with (go_at_call 72; refine (valid_no _ _ hv).mono ?_; rintro e w' ⟨rfl, rfl⟩)
    go_ret
    exact ⟨rfl, rfl⟩
  · obtain ⟨k, rfl⟩ := Int.eq_ofNat_of_zero_le (show 0 ≤ size by omega)
    by_cases hn : n < 0
    · go_enter Tryd.func65, Tryd.ntmps65
      go_wp2_with (go_at_call 72; refine (valid_yes _ _ (by omega) (by omega)).mono ?_; rintro e w' ⟨rfl, rfl⟩)
      go_ret
      exact ⟨rfl, rfl⟩
    · obtain ⟨m, rfl⟩ := Int.eq_ofNat_of_zero_le (show 0 ≤ n by omega)
      have hlt : pw k ≤ m := by
        rcases h with h | h | h | ⟨_, h⟩
        · omega
        · omega
        · omega
        · simpa using h
      have hd : decide ((m : Int) < 0) = false := by simp
      have hq : ((m : Int) / 2 ^ (8 * k) != 0) = true := by
        rw [shr_pw']
        have : 0 < m / pw k := Nat.div_pos hlt (pw_pos k)
        simp only [bne_iff_ne, ne_eq]
        omega
      go_enter Tryd.func65, Tryd.ntmps65
      go_wp2_with (go_at_call 72; refine (valid_yes _ _ (by omega) (by omega)).mono ?_; rintro e w' ⟨rfl, rfl⟩)
      go_ret
      exact ⟨rfl, rfl⟩

theorem reverse_any (A : Option Addr) (cap base : Nat) (l : List UInt8) (w : World) (h : BS w base (.slice A l.length cap) l) (hl : l.length ≤ 9223372036854775807) :
    Calls Tryd.prog 66 #[.slice A l.length cap] w fun e w' => e = .returned (.tuple #[]) ∧ BS w' base (.slice A l.length cap) l.reverse ∧ Below base w w' := by
  obtain ⟨A', cap', hv, hc, hb⟩ := h
  cases hv
  by_cases h0 : l.length = 0
  · have hnil : l = [] := List.eq_nil_of_length_eq_zero h0
    subst hnil
    go_enter Tryd.func66, Tryd.ntmps66
    go_wp2
    go_loop [2, 3] (fun i j => i = .int .i64 0 ∧ j = .int .i64 (-1)) (fun _ _ => 0)
    case atStart => exact ⟨rfl, rfl⟩
    case round =>
      obtain ⟨rfl, rfl⟩ := hrel
      go_wp2
      go_end0
      exact ⟨rfl, ⟨A, cap, rfl, by simp, by simp⟩, Below.refl _ _⟩
  · obtain ⟨g, o, rfl, hg, hlt, hcell⟩ := hb (by omega)
    go_enter Tryd.func66, Tryd.ntmps66
    go_wp2
    go_loopw [2, 3] (fun i j wr => ∃ k q : Nat, k + q + 1 = l.length ∧ k ≤ q + 1 ∧ i = .int .i64 k ∧ j = .int .i64 q ∧ g < wr.heap.size ∧ (∀ x, x < l.length → wr.cell? ⟨g, o + x, none⟩ = some (.int .u8 ((turned l k x).toNat : Int)) ∧ wr.frozen? ⟨g, o + x, none⟩ = false) ∧ Below base w wr) (fun i j _ => (intOf j).toNat - (intOf i).toNat)
    case atStart =>
      refine ⟨0, l.length - 1, by omega, by omega, rfl, by go_num, hlt, fun x hx => ?_, Below.refl _ _⟩
      have := hcell x hx
      rw [turned_zero l x hx]
      exact this
    case round =>
      obtain ⟨k, q, hkq, hle, rfl, rfl, hgl, hcs, hbel⟩ := hrel
      by_cases hr : k < q
      · have hck := (hcs k (by omega)).1
        have hfk := (hcs k (by omega)).2
        have hcq := (hcs q (by omega)).1
        have hfq := (hcs q (by omega)).2
        go_wp2
        go_region
        go_wp2
        go_roundw
        case rel =>
          refine ⟨k + 1, q - 1, by omega, by omega, by go_num, by go_num, ?_, fun x hx => ?_, ((hbel.setCell hg _).setCell hg _).drew⟩
          · show g < (World.setCell _ _ _).heap.size
            rw [size_set, size_set]; exact hgl
          · rw [World.cell?_drew, World.frozen?_drew, frozen_set, frozen_set]
            refine ⟨?_, (hcs x hx).2⟩
            by_cases hxq : x = q
            · subst hxq
              rw [cell_set_same _ (by rw [cell_set_far _ _ _ _ _ (by omega)]; exact hcq), turned_q hkq hr]
            · rw [cell_set_far _ _ _ _ _ (by omega)]
              by_cases hxk : x = k
              · subst hxk
                rw [cell_set_same _ hck, turned_k hkq hr]
              · rw [cell_set_far _ _ _ _ _ (by omega), (hcs x hx).1, turned_far hkq hxk hxq]
        case measure => simp [intOf]; omega
      · go_wp2
        go_end0
        refine ⟨rfl, ⟨_, cap, by rw [List.length_reverse], by rw [List.length_reverse]; exact hc, fun _ => ⟨g, o, rfl, hg, hgl, fun x hx => ?_⟩⟩, hbel⟩
        have hx' : x < l.length := by rwa [List.length_reverse] at hx
        refine ⟨?_, (hcs x hx').2⟩
        rw [(hcs x hx').1, turned_done hkq hr hx]
end Go.Proofs.YtmfoionlapcgkaaDoor
