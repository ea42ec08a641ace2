/- Contracts: the bytes of numbers and addresses, and the pseudo header, of layer 2 and its reference. -/
import Derived.Test.YtajoejpodflnlaaDoorRef
import Derived.Deep.WholeRow
namespace Go.Proofs.YtajoejpodflnlaaDoor
open Go.ChangeShapes Go.WideShapes Go.ChangeAt Go.RowKit

theorem leL_append : ∀ (a b n : Nat), leL (a + b) n = leL a n ++ leL b (n / pw a)
  | 0, b, n => by simp [leL, pw]
  | a + 1, b, n => by
    rw [show a + 1 + b = (a + b) + 1 by omega]
    simp only [leL]
    rw [leL_append a b, List.cons_append, Nat.div_div_eq_div_mul, pw_succ, Nat.mul_comm]
theorem leL_mod : ∀ (a n m : Nat), n % pw a = m % pw a → leL a n = leL a m
  | 0, _, _, _ => rfl
  | a + 1, n, m, h => by
    rw [pw_succ, Nat.mul_comm, Nat.mod_mul, Nat.mod_mul] at h
    have h1 : n % 256 = m % 256 := by omega
    have h2 : n / 256 % pw a = m / 256 % pw a := by omega
    simp only [leL]
    rw [h1, leL_mod a _ _ h2]
/-- The reference's number in one byte more. -/
theorem be_succ (k n : Nat) : str [UInt8.ofNat (n / pw k % 256)] ++ str (leL k n).reverse = str (leL (k + 1) n).reverse := by
  rw [str_append, leL_snoc, List.reverse_append]; rfl

theorem rnum_any (n k : Nat) (w : World) (hn : n ≤ 9223372036854775807) (hk : k ≤ 16) :
    Calls Tryd.prog 32 #[.int .i64 n, .int .i64 k] w fun e w' => e = .returned (.string (str (leL k n).reverse)) ∧ Below w.heap.size w w' := by
  go_enter Tryd.func32, Tryd.ntmps32
  go_wp2_with fail
  go_loopw [0, 5, 6] (fun m t i wr => ∃ j q : Nat, j ≤ k ∧ i = .int .i64 j ∧ m = .int .i64 q ∧ q ≤ 9223372036854775807 ∧ q = n / pw j ∧ t = .string (str (leL j n).reverse) ∧ Below w.heap.size w wr) (fun _ _ i _ => k - (intOf i).toNat)
  case atStart => exact ⟨0, n, by omega, rfl, rfl, hn, by simp [pw], rfl, Below.refl _ _⟩
  case round =>
    obtain ⟨j, q, hj, rfl, rfl, hq, hqn, rfl, hb⟩ := hrel
    have hsz : (str (leL j n).reverse).size = j := by rw [str_size, List.length_reverse, leL_length]
    by_cases hlt : j < k
    · have hcv := fun W g => one_string W g ((q : Int) % 256) (by omega) (by omega)
      rw [show ((q : Int) % 256).toNat = q % 256 by omega] at hcv
      have hfin : str [UInt8.ofNat (q % 256)] ++ str (leL j n).reverse = str (leL (j + 1) n).reverse := by rw [hqn]; exact be_succ j n
      have hq2 : q / 256 = n / pw (j + 1) := by rw [hqn, Nat.div_div_eq_div_mul, pw_succ]
      have hcat : (9223372036854775807 < (str [UInt8.ofNat (q % 256)]).size + (str (leL j n).reverse).size) = False := by
        rw [hsz, str_size]; simp; omega
      have HF := Lib.hid hfin
      have HQ := Lib.hid hq2
      clear hfin hq2 hqn hsz
      generalize str (leL j n).reverse = S at *
      generalize hu : str [UInt8.ofNat (q % 256)] = U at *
      go_wp2_with fail
      go_roundw
      case rel => exact ⟨j + 1, q / 256, by omega, by go_num, by go_num, by omega, HQ.out, by rw [← HF.out], hb.alloc hb.size _⟩
      case measure => simp [intOf]; omega
    · obtain rfl : j = k := by omega
      go_wp2_with fail
      go_ret
      exact ⟨rfl, hb⟩

theorem ret_str {a b : ByteArray} (h : a = b) : Ending.returned (.string a) = .returned (.string b) := by rw [h]
theorem ret_bool {a b : Bool} (h : a = b) : Ending.returned (.bool a) = .returned (.bool b) := by rw [h]
theorem half_join (n : Nat) : str (leL 4 (n / 4294967296)).reverse ++ str (leL 4 (n % 4294967296)).reverse = str (leL 8 n).reverse := by
  have e : pw 4 = 4294967296 := by decide
  rw [str_append, ← List.reverse_append, show (8 : Nat) = 4 + 4 from rfl, leL_append 4 4 n, e, leL_mod 4 (n % 4294967296) n (by rw [e]; omega)]

theorem rhalf_any (n : Nat) (w : World) (h : n < 18446744073709551616) :
    Calls Tryd.prog 39 #[.int .u64 n] w fun e w' => e = .returned (.string (str (leL 8 n).reverse)) ∧ Below w.heap.size w w' := by
  have h1 := fun W => rnum_any (n / 4294967296) 4 W (by omega) (by omega)
  have h2 := fun W => rnum_any (n % 4294967296) 4 W (by omega) (by omega)
  have hj := half_join n
  have hcat : (9223372036854775807 < (str (leL 4 (n / 4294967296)).reverse).size + (str (leL 4 (n % 4294967296)).reverse).size) = False := by
    rw [str_size, str_size]; simp [leL_length]
  have e1 : ((n / 4294967296 : Nat) : Int) = (n : Int) / 4294967296 := by omega
  have e2 : ((n % 4294967296 : Nat) : Int) = (n : Int) % 4294967296 := by omega
  rw [e1] at h1
  rw [e2] at h2
  have HJ := Lib.hid hj
  have H1 := Lib.hid h1
  have H2 := Lib.hid h2
  clear hj h1 h2 e1 e2
  generalize str (leL 4 (n / 4294967296)).reverse = A at *
  generalize str (leL 4 (n % 4294967296)).reverse = B at *
  generalize str (leL 8 n).reverse = C at *
  go_enter Tryd.func39, Tryd.ntmps39
  go_wp2_with fail
  refine (H1.out _).mono ?_
  rintro e w1 ⟨rfl, hb1⟩
  go_wp2_with fail
  refine (H2.out _).mono ?_
  rintro e w2 ⟨rfl, hb2⟩
  go_wp2_with fail
  go_ret
  exact ⟨ret_str HJ.out, hb1.trans (hb2.mono hb1.size)⟩

/-- An address as a value. -/
def adv (v6 : Bool) (hi lo : Nat) : Value := .agg #[.bool v6, .int .u64 hi, .int .u64 lo]
/-- Is it valid? -/
def vadr (v6 : Bool) (hi lo : Nat) : Bool := v6 || (hi == 0 && decide (lo < 4294967296))

theorem valid_addr (v6 : Bool) (hi lo : Nat) (w : World) :
    Calls Tryd.prog 28 #[.agg #[.bool v6, .int .u64 hi, .int .u64 lo]] w fun e w' => e = .returned (.bool (vadr v6 hi lo)) ∧ Below w.heap.size w w' := by
  cases v6 with
  | true =>
    go_enter Tryd.func28, Tryd.ntmps28
    go_wp2_with fail
    go_ret
    exact ⟨rfl, (Below.refl _ _).alloc (Nat.le_refl _) _⟩
  | false =>
    by_cases h : hi = 0
    · subst h
      have hv : vadr false 0 lo = decide (lo < 4294967296) := by simp [vadr]
      by_cases hl : lo < 4294967296
      · have HV : Hid (vadr false 0 lo = true) := by show _ = _; rw [hv]; simpa using hl
        clear hv
        go_enter Tryd.func28, Tryd.ntmps28
        go_wp2_with fail
        go_ret
        exact ⟨ret_bool (by rw [HV.out]; simp; omega), (Below.refl _ _).alloc (Nat.le_refl _) _⟩
      · have HV : Hid (vadr false 0 lo = false) := by show _ = _; rw [hv]; simpa using hl
        have hd : decide ((lo : Int) < 4294967296) = false := by simp; omega
        clear hv
        go_enter Tryd.func28, Tryd.ntmps28
        go_wp2_with fail
        go_ret
        exact ⟨ret_bool HV.out.symm, (Below.refl _ _).alloc (Nat.le_refl _) _⟩
    · have hv : vadr false hi lo = false := by simp [vadr, h]
      have HV := Lib.hid hv
      have hd : ((hi : Int) == 0) = false := by simp; omega
      clear hv h
      go_enter Tryd.func28, Tryd.ntmps28
      go_wp2_with fail
      go_ret
      exact ⟨ret_bool HV.out.symm, (Below.refl _ _).alloc (Nat.le_refl _) _⟩

theorem rvalid_addr (v6 : Bool) (hi lo : Nat) (w : World) :
    Calls Tryd.prog 30 #[.agg #[.bool v6, .int .u64 hi, .int .u64 lo]] w fun e w' => e = .returned (.bool (vadr v6 hi lo)) ∧ Below w.heap.size w w' := by
  cases v6 with
  | true =>
    go_enter Tryd.func30, Tryd.ntmps30
    go_wp2_with fail
    go_ret
    exact ⟨rfl, (Below.refl _ _).alloc (Nat.le_refl _) _⟩
  | false =>
    by_cases h : hi = 0
    · subst h
      have hv : vadr false 0 lo = decide (lo < 4294967296) := by simp [vadr]
      by_cases hl : lo < 4294967296
      · have HV : Hid (vadr false 0 lo = true) := by show _ = _; rw [hv]; simpa using hl
        clear hv
        go_enter Tryd.func30, Tryd.ntmps30
        go_wp2_with fail
        go_ret
        exact ⟨ret_bool (by rw [HV.out]; simp; omega), (Below.refl _ _).alloc (Nat.le_refl _) _⟩
      · have HV : Hid (vadr false 0 lo = false) := by show _ = _; rw [hv]; simpa using hl
        have hd : decide ((lo : Int) < 4294967296) = false := by simp; omega
        clear hv
        go_enter Tryd.func30, Tryd.ntmps30
        go_wp2_with fail
        go_ret
        exact ⟨ret_bool HV.out.symm, (Below.refl _ _).alloc (Nat.le_refl _) _⟩
    · have hv : vadr false hi lo = false := by simp [vadr, h]
      have HV := Lib.hid hv
      have hd : ((hi : Int) == 0) = false := by simp; omega
      clear hv h
      go_enter Tryd.func30, Tryd.ntmps30
      go_wp2_with fail
      go_ret
      exact ⟨ret_bool HV.out.symm, (Below.refl _ _).alloc (Nat.le_refl _) _⟩
end Go.Proofs.YtajoejpodflnlaaDoor
