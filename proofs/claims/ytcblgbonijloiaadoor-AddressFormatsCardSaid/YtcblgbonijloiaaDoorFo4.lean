/- Contracts of the functions, part 4: AdqDig, AdqVal, AdrLib, StrLay, AdqMem, AdqHex, AdqZero, AdqGrps, AdqP4, AdqP6M. -/
import Derived.Lib.Split
import Derived.Lib.SplitLaws
import Derived.Lib.CutLaws
import Derived.Lib.IndexMore
import Derived.Lib.Join
import Derived.Lib.Repeat
import Derived.Lib.ItoaNum
import Derived.Shelf.Strings.OnBuilder
import Derived.Shelf.LaysM
import Derived.Shelf.Strconv.Itoa3
import Derived.Shelf.Strings.Search3
import Derived.Shelf.Strings.Cut
import Derived.Shelf.Strings.Split
import Derived.Shelf.Strings.Repeat
import Derived.Test.YtcblgbonijloiaaDoorProg
import Derived.Test.YtcblgbonijloiaaDoorFo1
import Derived.Test.YtcblgbonijloiaaDoorFo3
/- The digits of numbers and groups: plain mathematics; contracts of the program's digit, value, decimal. -/
namespace Go.Proofs.YtcblgbonijloiaaDoor
open Go.ChangeShapes Go.WideShapes Go.ChangeAt Go.RowKit
set_option linter.unusedVariables false

/-- A digit's value; 16 for any other byte. -/
def dgN (x : Nat) : Nat := if 48 ≤ x ∧ x ≤ 57 then x - 48 else if 97 ≤ x ∧ x ≤ 102 then x - 87 else if 65 ≤ x ∧ x ≤ 70 then x - 55 else 16
theorem dgN_le (x : Nat) : dgN x ≤ 16 := by unfold dgN; split <;> (try split) <;> (try split) <;> omega
theorem dgN_hex (c : UInt8) : hexV c = if dgN c.toNat < 16 then some (dgN c.toNat) else none := by
  unfold hexV dgN
  by_cases a : 48 ≤ c.toNat ∧ c.toNat ≤ 57
  · rw [if_pos a, if_pos a, if_pos (by omega)]
  · rw [if_neg a, if_neg a]
    by_cases b : 97 ≤ c.toNat ∧ c.toNat ≤ 102
    · rw [if_pos b, if_pos b, if_pos (by omega)]
    · rw [if_neg b, if_neg b]
      by_cases d : 65 ≤ c.toNat ∧ c.toNat ≤ 70
      · rw [if_pos d, if_pos d, if_pos (by omega)]
      · rw [if_neg d, if_neg d, if_neg (by omega)]
set_option maxHeartbeats 1000000 in
set_option maxRecDepth 20000 in
theorem qdigit_any (x : Nat) (w : World) (hx : x < 256) :
    Calls Tryd.prog 84 #[.int .u8 x] w fun e w' => e = .returned (.int .i64 (dgN x : Nat)) ∧ w' = w := by
  obtain ⟨R, hR⟩ : ∃ R, R = dgN x := ⟨_, rfl⟩
  rw [← hR]
  unfold dgN at hR
  have hv : (0 ≤ x ∧ x ≤ 47) ∨ (48 ≤ x ∧ x ≤ 57) ∨ (58 ≤ x ∧ x ≤ 64) ∨ (65 ≤ x ∧ x ≤ 70) ∨ (71 ≤ x ∧ x ≤ 96) ∨ (97 ≤ x ∧ x ≤ 102) ∨ (103 ≤ x ∧ x ≤ 255) := by omega
  rcases hv with ⟨a, b⟩ | ⟨a, b⟩ | ⟨a, b⟩ | ⟨a, b⟩ | ⟨a, b⟩ | ⟨a, b⟩ | ⟨a, b⟩
  · have d65 : decide ((65 : Int) ≤ (x : Int)) = false := by rw [decide_eq_false_iff_not]; omega
    have d70 : decide ((x : Int) ≤ (70 : Int)) = true := by rw [decide_eq_true_eq]; omega
    have d97 : decide ((97 : Int) ≤ (x : Int)) = false := by rw [decide_eq_false_iff_not]; omega
    have d102 : decide ((x : Int) ≤ (102 : Int)) = true := by rw [decide_eq_true_eq]; omega
    have d48 : decide ((48 : Int) ≤ (x : Int)) = false := by rw [decide_eq_false_iff_not]; omega
    have d57 : decide ((x : Int) ≤ (57 : Int)) = true := by rw [decide_eq_true_eq]; omega
    rw [if_neg (by omega), if_neg (by omega), if_neg (by omega)] at hR
    subst hR
    clear a b hx
    go_enter Tryd.func84, Tryd.ntmps84
    go_wp2_with fail
    go_ret
    exact ⟨rfl, rfl⟩
  · have d65 : decide ((65 : Int) ≤ (x : Int)) = false := by rw [decide_eq_false_iff_not]; omega
    have d70 : decide ((x : Int) ≤ (70 : Int)) = true := by rw [decide_eq_true_eq]; omega
    have d97 : decide ((97 : Int) ≤ (x : Int)) = false := by rw [decide_eq_false_iff_not]; omega
    have d102 : decide ((x : Int) ≤ (102 : Int)) = true := by rw [decide_eq_true_eq]; omega
    have d48 : decide ((48 : Int) ≤ (x : Int)) = true := by rw [decide_eq_true_eq]; omega
    have d57 : decide ((x : Int) ≤ (57 : Int)) = true := by rw [decide_eq_true_eq]; omega
    rw [if_pos (by omega)] at hR
    have HA := Lib.hid a
    have HR := Lib.hid hR
    have x48 : (48 : Int) ≤ (x : Int) := by omega
    have x57 : (x : Int) ≤ 57 := by omega
    clear a b hR hx
    go_enter Tryd.func84, Tryd.ntmps84
    go_wp2_with fail
    go_ret
    exact ⟨by have hr := HR.out; have ha := HA.out; show Ending.returned (.int .i64 _) = Ending.returned (.int .i64 _); congr 2; omega, rfl⟩
  · have d65 : decide ((65 : Int) ≤ (x : Int)) = false := by rw [decide_eq_false_iff_not]; omega
    have d70 : decide ((x : Int) ≤ (70 : Int)) = true := by rw [decide_eq_true_eq]; omega
    have d97 : decide ((97 : Int) ≤ (x : Int)) = false := by rw [decide_eq_false_iff_not]; omega
    have d102 : decide ((x : Int) ≤ (102 : Int)) = true := by rw [decide_eq_true_eq]; omega
    have d48 : decide ((48 : Int) ≤ (x : Int)) = true := by rw [decide_eq_true_eq]; omega
    have d57 : decide ((x : Int) ≤ (57 : Int)) = false := by rw [decide_eq_false_iff_not]; omega
    rw [if_neg (by omega), if_neg (by omega), if_neg (by omega)] at hR
    subst hR
    clear a b hx
    go_enter Tryd.func84, Tryd.ntmps84
    go_wp2_with fail
    go_ret
    exact ⟨rfl, rfl⟩
  · have d65 : decide ((65 : Int) ≤ (x : Int)) = true := by rw [decide_eq_true_eq]; omega
    have d70 : decide ((x : Int) ≤ (70 : Int)) = true := by rw [decide_eq_true_eq]; omega
    have d97 : decide ((97 : Int) ≤ (x : Int)) = false := by rw [decide_eq_false_iff_not]; omega
    have d102 : decide ((x : Int) ≤ (102 : Int)) = true := by rw [decide_eq_true_eq]; omega
    have d48 : decide ((48 : Int) ≤ (x : Int)) = true := by rw [decide_eq_true_eq]; omega
    have d57 : decide ((x : Int) ≤ (57 : Int)) = false := by rw [decide_eq_false_iff_not]; omega
    rw [if_neg (by omega), if_neg (by omega), if_pos (by omega)] at hR
    obtain ⟨y, rfl⟩ : ∃ y, x = y + 65 := ⟨x - 65, by omega⟩
    obtain rfl : R = y + 10 := by omega
    go_enter Tryd.func84, Tryd.ntmps84
    go_wp2_with fail
    go_ret
    exact ⟨by first | rfl | (show Ending.returned (.int .i64 _) = Ending.returned (.int .i64 _); congr 2; omega), rfl⟩
  · have d65 : decide ((65 : Int) ≤ (x : Int)) = true := by rw [decide_eq_true_eq]; omega
    have d70 : decide ((x : Int) ≤ (70 : Int)) = false := by rw [decide_eq_false_iff_not]; omega
    have d97 : decide ((97 : Int) ≤ (x : Int)) = false := by rw [decide_eq_false_iff_not]; omega
    have d102 : decide ((x : Int) ≤ (102 : Int)) = true := by rw [decide_eq_true_eq]; omega
    have d48 : decide ((48 : Int) ≤ (x : Int)) = true := by rw [decide_eq_true_eq]; omega
    have d57 : decide ((x : Int) ≤ (57 : Int)) = false := by rw [decide_eq_false_iff_not]; omega
    rw [if_neg (by omega), if_neg (by omega), if_neg (by omega)] at hR
    subst hR
    clear a b hx
    go_enter Tryd.func84, Tryd.ntmps84
    go_wp2_with fail
    go_ret
    exact ⟨rfl, rfl⟩
  · have d65 : decide ((65 : Int) ≤ (x : Int)) = true := by rw [decide_eq_true_eq]; omega
    have d70 : decide ((x : Int) ≤ (70 : Int)) = false := by rw [decide_eq_false_iff_not]; omega
    have d97 : decide ((97 : Int) ≤ (x : Int)) = true := by rw [decide_eq_true_eq]; omega
    have d102 : decide ((x : Int) ≤ (102 : Int)) = true := by rw [decide_eq_true_eq]; omega
    have d48 : decide ((48 : Int) ≤ (x : Int)) = true := by rw [decide_eq_true_eq]; omega
    have d57 : decide ((x : Int) ≤ (57 : Int)) = false := by rw [decide_eq_false_iff_not]; omega
    rw [if_neg (by omega), if_pos (by omega)] at hR
    obtain ⟨y, rfl⟩ : ∃ y, x = y + 97 := ⟨x - 97, by omega⟩
    obtain rfl : R = y + 10 := by omega
    go_enter Tryd.func84, Tryd.ntmps84
    go_wp2_with fail
    go_ret
    exact ⟨by first | rfl | (show Ending.returned (.int .i64 _) = Ending.returned (.int .i64 _); congr 2; omega), rfl⟩
  · have d65 : decide ((65 : Int) ≤ (x : Int)) = true := by rw [decide_eq_true_eq]; omega
    have d70 : decide ((x : Int) ≤ (70 : Int)) = false := by rw [decide_eq_false_iff_not]; omega
    have d97 : decide ((97 : Int) ≤ (x : Int)) = true := by rw [decide_eq_true_eq]; omega
    have d102 : decide ((x : Int) ≤ (102 : Int)) = false := by rw [decide_eq_false_iff_not]; omega
    have d48 : decide ((48 : Int) ≤ (x : Int)) = true := by rw [decide_eq_true_eq]; omega
    have d57 : decide ((x : Int) ≤ (57 : Int)) = false := by rw [decide_eq_false_iff_not]; omega
    rw [if_neg (by omega), if_neg (by omega), if_neg (by omega)] at hR
    subst hR
    clear a b hx
    go_enter Tryd.func84, Tryd.ntmps84
    go_wp2_with fail
    go_ret
    exact ⟨rfl, rfl⟩
end Go.Proofs.YtcblgbonijloiaaDoor

/- Numbers of digits: plain mathematics; contracts of the program's value, decimal. -/
namespace Go.Proofs.YtcblgbonijloiaaDoor
open Go.ChangeShapes Go.WideShapes Go.ChangeAt Go.RowKit
set_option linter.unusedVariables false

/-- The number that digits form to a base, 65536 if it is greater. -/
def valGo (b : Nat) : Nat → By → Option Nat
  | n, [] => some n
  | n, c :: r => if dgN c.toNat < b then valGo b (min (n * b + dgN c.toNat) 65536) r else none
def valS (b : Nat) (s : By) : Option Nat := if s = [] then none else valGo b 0 s
def decV (s : By) : Option Nat := if 1 < s.length ∧ s.head? = some 48 then none else valS 10 s
def vRes : Option Nat → Value
  | some n => .tuple #[.int .i64 n, .bool true]
  | none => .tuple #[.int .i64 0, .bool false]
theorem valGo_le (b : Nat) : ∀ (s : By) (n m : Nat), n ≤ 65536 → valGo b n s = some m → m ≤ 65536
  | [], n, m, h, e => by
    rw [valGo] at e
    obtain rfl := Option.some.inj e
    exact h
  | c :: r, n, m, h, e => by
    rw [valGo] at e
    split at e
    · exact valGo_le b r _ m (by omega) e
    · cases e
theorem decV_le {s : By} {n : Nat} (h : decV s = some n) : n ≤ 65536 := by
  unfold decV at h
  split at h
  · cases h
  · unfold valS at h
    split at h
    · cases h
    · exact valGo_le 10 s 0 n (by omega) h
theorem dgN_dec (x : Nat) : dgN x < 10 ↔ 48 ≤ x ∧ x ≤ 57 := by unfold dgN; split <;> (try split) <;> (try split) <;> omega
theorem dgN_dec_val {x : Nat} (h : 48 ≤ x ∧ x ≤ 57) : dgN x = x - 48 := by unfold dgN; rw [if_pos h]
theorem sat_both (most : Nat) : ∀ (s : By) (x : Nat), (∃ X, decGo most (min x (most + 1)) s = some (min X (most + 1)) ∧ valGo 10 (min x 65536) s = some (min X 65536)) ∨ (decGo most (min x (most + 1)) s = none ∧ valGo 10 (min x 65536) s = none)
  | [], x => .inl ⟨x, rfl, rfl⟩
  | c :: r, x => by
    rw [decGo, valGo]
    by_cases h : 48 ≤ c.toNat ∧ c.toNat ≤ 57
    · rw [if_pos h, if_pos ((dgN_dec _).2 h), dgN_dec_val h]
      have e1 : min (10 * min x (most + 1) + (c.toNat - 48)) (most + 1) = min (10 * x + (c.toNat - 48)) (most + 1) := by omega
      have e2 : min (min x 65536 * 10 + (c.toNat - 48)) 65536 = min (10 * x + (c.toNat - 48)) 65536 := by omega
      rw [e1, e2]
      exact sat_both most r _
    · rw [if_neg h, if_neg (fun k => h ((dgN_dec _).1 k))]
      exact .inr ⟨rfl, rfl⟩
/-- The two ways to read a decimal number. -/
theorem decS_decV {most : Nat} (hm : most < 65536) (s : By) : decS most s = match decV s with | none => -1 | some n => if most < n then -2 else (n : Int) := by
  unfold decS decV
  by_cases h1 : 1 < s.length ∧ s.head? = some 48
  · rw [if_pos (.inr h1), if_pos h1]
  · rw [if_neg h1]
    unfold valS
    by_cases h0 : s = []
    · rw [if_pos h0, if_pos (.inl (by rw [h0]; rfl))]
    · rw [if_neg h0, if_neg (by
        rintro (e | e)
        · exact h0 (List.length_eq_zero_iff.1 e)
        · exact h1 e)]
      have hs := sat_both most s 0
      rw [Nat.zero_min, Nat.zero_min] at hs
      rcases hs with ⟨X, e1, e2⟩ | ⟨e1, e2⟩
      · rw [e1, e2]
        show (if most < min X (most + 1) then (-2 : Int) else ((min X (most + 1) : Nat) : Int)) = if most < min X 65536 then (-2 : Int) else ((min X 65536 : Nat) : Int)
        by_cases hX : most < X
        · rw [if_pos (by omega), if_pos (by omega)]
        · rw [if_neg (by omega), if_neg (by omega), Nat.min_eq_left (by omega), Nat.min_eq_left (by omega)]
      · rw [e1, e2]
theorem valGo_hex : ∀ (s : By) (n j : Nat), n < 16 ^ j → s.length + j ≤ 4 → valGo 16 n s = hexGo n s
  | [], n, j, _, _ => rfl
  | c :: r, n, j, h, hl => by
    rw [valGo, hexGo, dgN_hex]
    by_cases hd : dgN c.toNat < 16
    · rw [if_pos hd, if_pos hd]
      have h1 : 16 * n + dgN c.toNat < 16 ^ (j + 1) := by rw [Nat.pow_succ]; omega
      have h2 : 16 ^ (j + 1) ≤ 16 ^ 4 := Nat.pow_le_pow_right (by omega) (by simp at hl; omega)
      have h4 : (16 : Nat) ^ 4 = 65536 := by decide
      rw [show min (n * 16 + dgN c.toNat) 65536 = 16 * n + dgN c.toNat by omega]
      exact valGo_hex r _ (j + 1) h1 (by simp at hl; omega)
    · rw [if_neg hd, if_neg hd]
theorem grpS_val (s : By) : grpS s = if 4 < s.length then none else valS 16 s := by
  unfold grpS
  by_cases h4 : 4 < s.length
  · rw [if_pos h4, if_pos (.inr h4)]
  · rw [if_neg h4]
    unfold valS
    by_cases h0 : s = []
    · rw [if_pos h0, if_pos (.inl (by rw [h0]; decide))]
    · rw [if_neg h0, if_neg (by have : s.length ≠ 0 := fun e => h0 (List.length_eq_zero_iff.1 e); omega), valGo_hex s 0 0 (by decide) (by omega)]
set_option maxHeartbeats 1000000 in
set_option maxRecDepth 20000 in
theorem qvalue_any (s : ByteArray) (b : Nat) (w : World) (hs : s.size ≤ 1000) (hb1 : 1 ≤ b) (hb : b ≤ 16) :
    Calls Tryd.prog 70 #[.string s, .int .i64 b] w fun e w' => e = .returned (vRes (valS b s.data.toList)) ∧ w' = w := by
  have hlen := toList_length6 s
  obtain ⟨R, hR⟩ : ∃ R, R = valS b s.data.toList := ⟨_, rfl⟩
  rw [← hR]
  unfold valS at hR
  by_cases h0 : s.data.toList = []
  · have em : s.toList.isEmpty = true := by rw [isEmpty6, h0]; rfl
    rw [if_pos h0] at hR
    have HR := Lib.hid hR
    clear hlen h0 hR
    go_enter Tryd.func70, Tryd.ntmps70
    go_wp2_with fail
    go_ret2
    exact ⟨by rw [HR.out]; rfl, rfl⟩
  have em : s.toList.isEmpty = false := by
    rw [isEmpty6]
    cases hc : s.data.toList with
    | nil => exact absurd hc h0
    | cons => rfl
  rw [if_neg h0] at hR
  have H0 := Lib.hid (show valGo b 0 (s.data.toList.drop 0) = R by rw [hR]; rfl)
  have HLN := Lib.hid hlen
  have HD := Lib.hid (fun x W h => qdigit_any x W h)
  clear hR h0 hlen
  go_enter Tryd.func70, Tryd.ntmps70
  go_wp2_with fail
  go_loop [6, 13] (fun v6 v13 => ∃ k n : Nat, k ≤ s.size ∧ n ≤ 65536 ∧ Hid (valGo b n (s.data.toList.drop k) = R) ∧ v6 = .int .i64 n ∧ v13 = .int .i64 k) (fun _ v13 => s.size - (intOf v13).toNat)
  case atStart => exact ⟨0, 0, Nat.zero_le _, by omega, H0, rfl, rfl⟩
  case round =>
    clear H0
    obtain ⟨k, n, hk, hn, HN, rfl, rfl⟩ := hrel
    by_cases hlt : k < s.size
    · have dlt : decide ((k : Int) < (s.size : Int)) = true := by simp; omega
      have hlti : (k : Int) < (s.size : Int) := by omega
      have hki0 : (0 : Int) ≤ (k : Int) := by omega
      have hx8 := u8_lt s[k]
      have hll : k < s.data.toList.length := by have := HLN.out; omega
      have ha : s.data.toList[k]'hll = s[k]'hlt := rfl
      obtain ⟨k1, hk1⟩ : ∃ k1, k1 = k + 1 := ⟨_, rfl⟩
      have k1i : (k : Int) + 1 = (k1 : Int) := by omega
      have k1s : k1 ≤ s.size := by omega
      have hdrop : s.data.toList.drop k = s[k]'hlt :: s.data.toList.drop k1 := by rw [List.drop_eq_getElem_cons hll, ha, hk1]
      have hq := HN.out
      rw [hdrop, valGo] at hq
      have HK1 := Lib.hid hk1
      have hd16 := dgN_le (s[k]'hlt).toNat
      have hdg := HD.out (s[k]'hlt).toNat
      have HDG := Lib.hid (fun W => hdg W hx8)
      clear hdg ha
      generalize hxc : s[k]'hlt = c at *
      generalize dgN c.toNat = d at *
      by_cases hd : d < b
      · rw [if_pos hd] at hq
        have dd : decide ((b : Int) ≤ (d : Int)) = false := by rw [decide_eq_false_iff_not]; omega
        have dn : ¬ b ≤ d := by omega
        obtain ⟨p, hp⟩ : ∃ p, p = n * b := ⟨_, rfl⟩
        have hpi : (n : Int) * (b : Int) = (p : Int) := by rw [hp]; simp
        have hp1 : p ≤ 1048576 := by rw [hp]; exact Nat.le_trans (Nat.mul_le_mul hn hb) (by omega)
        rw [← hp] at hq
        obtain ⟨m, hm⟩ : ∃ m, m = min (p + d) 65536 := ⟨_, rfl⟩
        have hmi : min ((p : Int) + (d : Int)) 65536 = (m : Int) := by omega
        have hm1 : m ≤ 65536 := by omega
        rw [← hm] at hq
        have HQ := Lib.hid hq
        clear hq hm hp hd hdrop hk1 HN
        go_wp2_with fail
        refine (HDG.out _).mono ?_
        rintro e w2 ⟨rfl, hw⟩
        have hw' := hw.symm
        subst hw'
        clear hw
        go_wp2_with fail
        go_round
        case rel => exact ⟨k1, m, k1s, hm1, HQ, by go_num, by go_num⟩
        case measure => have := HK1.out; simp [intOf]; omega
      · rw [if_neg hd] at hq
        have dd : decide ((b : Int) ≤ (d : Int)) = true := by rw [decide_eq_true_eq]; omega
        have dn : b ≤ d := by omega
        have HQ := Lib.hid hq
        clear hq hd hdrop hk1 HN
        go_wp2_with fail
        refine (HDG.out _).mono ?_
        rintro e w2 ⟨rfl, rfl⟩
        go_wp2_with fail
        go_ret2
        exact ⟨by rw [← HQ.out]; rfl, rfl⟩
    · have dlt : decide ((k : Int) < (s.size : Int)) = false := by simp; omega
      have nlt : ¬ (k : Int) < (s.size : Int) := by omega
      have hq := HN.out
      rw [List.drop_of_length_le (by rw [HLN.out]; omega), valGo] at hq
      have HQ := Lib.hid hq
      clear hq HN
      go_wp2_with fail
      go_ret2
      exact ⟨by rw [← HQ.out]; rfl, rfl⟩
set_option maxHeartbeats 1000000 in
set_option maxRecDepth 20000 in
theorem qdecimal_any (s : ByteArray) (w : World) (hs : s.size ≤ 1000) :
    Calls Tryd.prog 46 #[.string s] w fun e w' => e = .returned (vRes (decV s.data.toList)) ∧ w' = w := by
  have hlen := toList_length6 s
  have HV := Lib.hid (fun W => qvalue_any s 10 W hs (by omega) (by omega))
  obtain ⟨R, hR⟩ : ∃ R, R = decV s.data.toList := ⟨_, rfl⟩
  rw [← hR]
  unfold decV at hR
  by_cases h1 : 1 < s.size
  · have d1 : decide ((1 : Int) < (s.size : Int)) = true := by rw [decide_eq_true_eq]; omega
    have h0 : 0 < s.size := by omega
    have h0i : (0 : Int) < (s.size : Int) := by omega
    have hh : s.data.toList.head? = some (s[0]'h0) := by
      rw [List.head?_eq_getElem?, List.getElem?_eq_getElem (by rw [hlen]; exact h0)]; rfl
    rw [hh, hlen] at hR
    by_cases hz : s[0]'h0 = 48
    · rw [if_pos ⟨h1, by rw [hz]⟩] at hR
      have HR := Lib.hid hR
      have dz : (((s[0]'h0).toNat : Int) == 48) = true := by rw [hz]; rfl
      clear hR hh hlen hz
      go_enter Tryd.func46, Tryd.ntmps46
      go_wp2_with fail
      go_ret2
      exact ⟨by rw [HR.out]; rfl, rfl⟩
    · rw [if_neg (by rintro ⟨_, e⟩; exact hz (Option.some.inj e))] at hR
      have hx : (s[0]'h0).toNat ≠ 48 := fun e => hz (UInt8.toNat_inj.1 e)
      have dz : (((s[0]'h0).toNat : Int) == 48) = false := by rw [beq_eq_false_iff_ne]; omega
      rw [← hR] at HV
      clear hR hh hlen hz hx
      cases R with
      | none =>
        simp only [vRes] at HV ⊢
        go_enter Tryd.func46, Tryd.ntmps46
        go_wp2_with fail
        refine (HV.out _).mono ?_
        rintro e w2 ⟨rfl, rfl⟩
        go_wp2_with fail
        go_ret2
        exact ⟨rfl, rfl⟩
      | some n =>
        simp only [vRes] at HV ⊢
        go_enter Tryd.func46, Tryd.ntmps46
        go_wp2_with fail
        refine (HV.out _).mono ?_
        rintro e w2 ⟨rfl, rfl⟩
        go_wp2_with fail
        go_ret2
        exact ⟨rfl, rfl⟩
  · have d1 : decide ((1 : Int) < (s.size : Int)) = false := by rw [decide_eq_false_iff_not]; omega
    rw [if_neg (by rintro ⟨e, _⟩; omega)] at hR
    rw [← hR] at HV
    clear hR hlen
    cases R with
    | none =>
      simp only [vRes] at HV ⊢
      go_enter Tryd.func46, Tryd.ntmps46
      go_wp2_with fail
      refine (HV.out _).mono ?_
      rintro e w2 ⟨rfl, rfl⟩
      go_wp2_with fail
      go_ret2
      exact ⟨rfl, rfl⟩
    | some n =>
      simp only [vRes] at HV ⊢
      go_enter Tryd.func46, Tryd.ntmps46
      go_wp2_with fail
      refine (HV.out _).mono ?_
      rintro e w2 ⟨rfl, rfl⟩
      go_wp2_with fail
      go_ret2
      exact ⟨rfl, rfl⟩
end Go.Proofs.YtcblgbonijloiaaDoor

/- From the library's words (Split, Cut, Join, Repeat, Itoa) to the plain mathematics of addresses: no Go in sight. -/
namespace Go.Proofs.YtcblgbonijloiaaDoor
set_option linter.unusedVariables false

theorem neg1 (i : Nat) : ((i : Int) == -1) = false := by
  rw [beq_eq_false_iff_ne]; omega
theorem neg2 (i : Nat) : ((i : Int) + 1 == -1) = false := by
  rw [beq_eq_false_iff_ne]; omega
theorem digits_num : ∀ (n : Nat), Lib.decDigits n = numL n := by
  intro n
  induction n using Nat.strongRecOn with
  | _ n ih =>
    rw [Lib.decDigits, numL]
    by_cases h : n < 10
    · rw [dif_pos h, if_pos (by omega)]; rfl
    · rw [dif_neg h, if_neg (by omega), ih (n / 10) (by omega)]; rfl
theorem itoa_num (n : Nat) : Lib.itoa (n : Int) = numL n := by
  unfold Lib.itoa
  rw [if_neg (by omega), Int.toNat_natCast, digits_num]
theorem join_joinC (c : UInt8) : ∀ l : List By, Lib.join l [c] = joinC c l
  | [] => rfl
  | [p] => by rw [Lib.join_one]; rfl
  | p :: q :: r => by
    rw [joinC, ← join_joinC c (q :: r)]
    simp [Lib.join, List.intercalate, List.intersperse]
theorem repeat_zero (k : Nat) : Lib.repeatL [0] k = List.replicate k 0 := by
  have := Lib.repeatL_replicate 0 1 k
  rw [Nat.mul_one] at this
  exact this
/-! ### Split -/
def addH (p : By) : List By → List By
  | [] => []
  | a :: r => (p ++ a) :: r
theorem splitGo_cur (c : UInt8) : ∀ (s cur : By), splitGo c cur s = addH cur (splitGo c [] s)
  | [], cur => by simp [splitGo, addH]
  | x :: r, cur => by
    rw [splitGo, splitGo]
    split
    · simp [addH]
    · rw [splitGo_cur c r (cur ++ [x]), splitGo_cur c r ([] ++ [x])]
      cases splitGo c [] r with
      | nil => rfl
      | cons a q => simp [addH]
theorem index_one_cons (x c : UInt8) (r : By) : Lib.index (x :: r) [c] = if x = c then 0 else if Lib.index r [c] == -1 then -1 else Lib.index r [c] + 1 := by
  rw [Lib.index]
  by_cases h : x = c
  · subst h; simp
  · rw [if_neg h, if_neg (by simp; exact fun e => h e.symm)]
theorem splitK_ne {x c : UInt8} (h : x ≠ c) (k : Nat) (r : By) : Lib.splitK [c] 0 k (x :: r) = addH [x] (Lib.splitK [c] 0 k r) := by
  cases k with
  | zero => rfl
  | succ k =>
    rw [Lib.splitK, Lib.splitK, index_one_cons, if_neg h]
    by_cases h1 : Lib.index r [c] = -1
    · rw [h1]; rfl
    · have hg := Lib.index_ge r [c]
      obtain ⟨i, hi⟩ := Int.eq_ofNat_of_zero_le (a := Lib.index r [c]) (by omega)
      rw [hi]
      have e1 := neg1 i
      have e2 := neg2 i
      have e3 : ((i : Int) + 1).toNat = i + 1 := by omega
      simp only [e1, e2, e3, Bool.false_eq_true, if_false, Int.toNat_natCast]
      rfl
theorem split_lib (c : UInt8) : ∀ s : By, Lib.splitK [c] 0 (Lib.count s [c]) s = splitL c s
  | [] => by
    rw [Lib.count_one]
    rfl
  | x :: r => by
    have ih := split_lib c r
    unfold splitL at ih ⊢
    rw [splitGo]
    by_cases h : x = c
    · subst h
      rw [if_pos rfl, Lib.count_cons_eq, Nat.add_comm, Lib.splitK, index_one_cons, if_pos rfl, ← ih]
      rfl
    · rw [if_neg h, Lib.count_cons_ne x c r h, splitK_ne h, ih, splitGo_cur c r ([] ++ [x])]
      rfl
/-- The pieces that Split makes, as lists of bytes. -/
theorem split_bytes (c : UInt8) (s : ByteArray) : (Lib.splitB ⟨#[c]⟩ 0 (Lib.countB s ⟨#[c]⟩) s).map (·.data.toList) = splitL c s.data.toList := by
  rw [Lib.splitB_data, ← split_lib]
theorem split_length (c : UInt8) (s : ByteArray) : (Lib.splitB ⟨#[c]⟩ 0 (Lib.countB s ⟨#[c]⟩) s).length = Lib.countB s ⟨#[c]⟩ + 1 :=
  Lib.splitB_all ⟨#[c]⟩ (Nat.le_refl 1) 0 _ s rfl
/-! ### Cut -/
theorem cut_one (c : UInt8) : ∀ s : By, Lib.cut s [c] = match cutAt c s with | (a, some b) => (a, b, true) | (a, none) => (a, [], false)
  | [] => rfl
  | x :: r => by
    have ih := cut_one c r
    unfold Lib.cut at ih ⊢
    rw [index_one_cons, cutAt]
    by_cases h : x = c
    · rw [if_pos h, if_pos h]; rfl
    · rw [if_neg h, if_neg h]
      by_cases h1 : Lib.index r [c] = -1
      · rw [h1] at ih ⊢
        rw [if_neg (by decide)] at ih
        cases hq : cutAt c r with
        | mk a o =>
          rw [hq] at ih
          cases o with
          | none =>
            have e := congrArg Prod.fst ih
            simp only at e
            subst e; rfl
          | some b => have := congrArg (fun p => p.2.2) ih; simp at this
      · have hg := Lib.index_ge r [c]
        obtain ⟨i, hi⟩ := Int.eq_ofNat_of_zero_le (a := Lib.index r [c]) (by omega)
        rw [hi] at ih ⊢
        have e1 := neg1 i
        have e3 : ((i : Int) + 1).toNat = i + 1 := by omega
        rw [if_pos (by omega)] at ih
        simp only [e1, Bool.false_eq_true, if_false, Int.toNat_natCast] at ih ⊢
        rw [if_pos (by omega), e3]
        cases hq : cutAt c r with
        | mk a o =>
          rw [hq] at ih
          cases o with
          | none => have := congrArg (fun p => p.2.2) ih; simp at this
          | some b =>
            have ea := congrArg Prod.fst ih
            have eb := congrArg (fun p => p.2.1) ih
            simp only at ea eb
            subst ea eb
            simp [List.take_succ_cons]
theorem index_two_nil (x : UInt8) : Lib.index [x] [58, 58] = -1 := by
  rw [Lib.index, if_neg (by simp)]
  rfl
theorem index_two_cons (x y : UInt8) (r : By) : Lib.index (x :: y :: r) [58, 58] = if x = 58 ∧ y = 58 then 0 else if Lib.index (y :: r) [58, 58] == -1 then -1 else Lib.index (y :: r) [58, 58] + 1 := by
  rw [Lib.index]
  by_cases h : x = 58 ∧ y = 58
  · obtain ⟨rfl, rfl⟩ := h
    rw [if_pos (by simp), if_pos ⟨rfl, rfl⟩]
  · rw [if_neg h, if_neg (by simp; exact fun e1 e2 => h ⟨e1.symm, e2.symm⟩)]
theorem cut_two : ∀ s : By, Lib.cut s [58, 58] = match cutGap s with | some (a, b) => (a, b, true) | none => (s, [], false)
  | [] => rfl
  | [x] => by
    unfold Lib.cut
    rw [index_two_nil]
    rfl
  | x :: y :: r => by
    have ih := cut_two (y :: r)
    unfold Lib.cut at ih ⊢
    have h2 := index_two_cons x y r
    rw [cutGap]
    by_cases h : x = 58 ∧ y = 58
    · rw [if_pos h] at h2 ⊢
      rw [h2]; rfl
    · rw [if_neg h] at h2 ⊢
      rw [h2]
      clear h2
      generalize hz : Lib.index (y :: r) [58, 58] = z at *
      have hg := Lib.index_ge (y :: r) [58, 58]
      rw [hz] at hg
      by_cases h1 : z = -1
      · subst h1
        rw [if_neg (by decide)] at ih
        cases hq : cutGap (y :: r) with
        | none => rfl
        | some p =>
          rw [hq] at ih
          have := congrArg (fun p => p.2.2) ih; simp at this
      · obtain ⟨i, rfl⟩ := Int.eq_ofNat_of_zero_le (a := z) (by omega)
        have e1 := neg1 i
        have e3 : ((i : Int) + 1).toNat = i + 1 := by omega
        rw [if_pos (by omega)] at ih
        simp only [e1, Bool.false_eq_true, if_false, Int.toNat_natCast] at ih ⊢
        rw [if_pos (by omega), e3]
        cases hq : cutGap (y :: r) with
        | none => rw [hq] at ih; have := congrArg (fun p => p.2.2) ih; simp at this
        | some p =>
          obtain ⟨a, b⟩ := p
          rw [hq] at ih
          have ea := congrArg Prod.fst ih
          have eb := congrArg (fun p => p.2.1) ih
          simp only at ea eb
          subst ea eb
          simp only [Option.map_some, List.take_succ_cons, List.length_cons, List.length_nil]
          rw [show i + 1 + (0 + 1 + 1) = (i + (0 + 1 + 1)) + 1 by omega, List.drop_succ_cons]
theorem has_one (c : UInt8) : ∀ s : By, decide (0 ≤ Lib.indexByte s c) = decide (c ∈ s)
  | [] => by simp [Lib.indexByte]
  | x :: r => by
    have ih := has_one c r
    rw [Lib.indexByte]
    by_cases h : x = c
    · subst h; simp
    · rw [if_neg (by simpa using h)]
      have hm : decide (c ∈ x :: r) = decide (c ∈ r) := by
        rw [decide_eq_decide, List.mem_cons]
        constructor
        · rintro (e | e)
          · exact absurd e.symm h
          · exact e
        · exact Or.inr
      rw [hm, ← ih]
      have hg := Lib.indexByte_ge r c
      by_cases h1 : Lib.indexByte r c = -1
      · rw [h1]; rfl
      · rw [if_neg (by simpa using h1), decide_eq_decide]
        omega
end Go.Proofs.YtcblgbonijloiaaDoor

/- Contracts of strings and strconv laid at this seat, in plain words: Contains (one byte), Cut, Split, Repeat, Join, Itoa. -/
namespace Go.Proofs.YtcblgbonijloiaaDoor
open Go.Shelf Go.RowKit Go.Sort Go.Lib
def lays156_ren : Go.Shelf.Ren := ⟨fun | 156 => 54 | 165 => 75 | 166 => 76 | 169 => 77 | 240 => 87 | 241 => 88 | 276 => 102 | 277 => 103 | n => n, fun | 31 => 57 | 9 => 9 | 3 => 3 | 4 => 4 | 0 => 0 | 20 => 20 | 72 => 89 | 76 => 93 | 70 => 87 | 37 => 71 | 75 => 92 | 127 => 103 | 164 => 116 | 5 => 5 | 80 => 95 | n => n, fun | n => n⟩
theorem lays156 : Go.Proofs.Lays.n156 Tryd.prog lays156_ren := {
  mixed := by kernel_rfl
  f156 := Tryd.func54.trans (congrArg some (by kernel_rfl))
  f165 := Tryd.func75.trans (congrArg some (by kernel_rfl))
  f166 := Tryd.func76.trans (congrArg some (by kernel_rfl))
  f169 := Tryd.func77.trans (congrArg some (by kernel_rfl))
  f240 := Tryd.func87.trans (congrArg some (by kernel_rfl))
  f241 := Tryd.func88.trans (congrArg some (by kernel_rfl))
  f276 := Tryd.func102.trans (congrArg some (by kernel_rfl))
  f277 := Tryd.func103.trans (congrArg some (by kernel_rfl))
  t0 := Tryd.underlying0
  a0 := Tryd.isAgg0
  z0 := Tryd.sizeOf0
  v0 := Tryd.zeroValue0
  t3 := Tryd.underlying3
  a3 := Tryd.isAgg3
  z3 := Tryd.sizeOf3
  v3 := Tryd.zeroValue3
  t4 := Tryd.underlying4
  a4 := Tryd.isAgg4
  z4 := Tryd.sizeOf4
  v4 := Tryd.zeroValue4
  t9 := Tryd.underlying9
  a9 := Tryd.isAgg9
  z9 := Tryd.sizeOf9
  v9 := Tryd.zeroValue9
  t20 := Tryd.underlying20
  a20 := Tryd.isAgg20
  z20 := Tryd.sizeOf20
  v20 := Tryd.zeroValue20
  t31 := Tryd.underlying57
  a31 := Tryd.isAgg57
  z31 := Tryd.sizeOf57
  v31 := Tryd.zeroValue57
  t37 := Tryd.underlying71
  a37 := Tryd.isAgg71
  z37 := Tryd.sizeOf71
  v37 := Tryd.zeroValue71
  t70 := Tryd.underlying87
  a70 := Tryd.isAgg87
  z70 := Tryd.sizeOf87
  v70 := Tryd.zeroValue87
  t72 := Tryd.underlying89
  a72 := Tryd.isAgg89
  z72 := Tryd.sizeOf89
  v72 := Tryd.zeroValue89
  t75 := Tryd.underlying92
  a75 := Tryd.isAgg92
  z75 := Tryd.sizeOf92
  v75 := Tryd.zeroValue92
  t76 := Tryd.underlying93
  a76 := Tryd.isAgg93
  z76 := Tryd.sizeOf93
  v76 := Tryd.zeroValue93
  t127 := Tryd.underlying103
  a127 := Tryd.isAgg103
  z127 := Tryd.sizeOf103
  v127 := Tryd.zeroValue103
  t164 := Tryd.underlying116
  a164 := Tryd.isAgg116
  z164 := Tryd.sizeOf116
  v164 := Tryd.zeroValue116 }
theorem Builder_Extra_156 : Builder.Extra Tryd.prog lays156_ren := {
  sizeBuilder := by kernel_rfl
  liesBuilder := by kernel_rfl
  t5 := Tryd.underlying5
  a5 := Tryd.isAgg5
  z5 := Tryd.sizeOf5
  v5 := Tryd.zeroValue5
  infoByte := by kernel_rfl
  cellsByte := by kernel_rfl
  sizeByte := by kernel_rfl
  neB5 := by decide }
theorem lib_strings_Join_none (a : Option Addr) (c : Nat) (sep : ByteArray) (w : World) :
    Calls Tryd.prog 54 #[.slice a 0 c, .string sep] w fun e w' => e = .returned (.string ⟨#[]⟩) ∧ w' = w := Any.strings_Join_none lays156 Builder_Extra_156 a c sep w
theorem lib_strings_Join (bk o c : Nat) (xs : List ByteArray) (sep : ByteArray) (w : World) (hcells : ∀ (j : Nat) x, xs[j]? = some x → w.cell? ⟨bk, o + j, none⟩ = some (.string x)) (hbk : bk < w.heap.size) (hN : xs.length ≤ 140737488355328) (hcap : xs.length ≤ c) (hlen : (Lib.join (xs.map (·.data.toList)) sep.data.toList).length ≤ 140737488355328) :
    Calls Tryd.prog 54 #[.slice (some ⟨bk, o, none⟩) xs.length c, .string sep] w fun e w' => e = .returned (.string ⟨(Lib.join (xs.map (·.data.toList)) sep.data.toList).toArray⟩) ∧ Below w.heap.size w w' := Any.strings_Join lays156 Builder_Extra_156 bk o c xs sep w hcells hbk hN hcap hlen
def laysM171_ren : Go.Shelf.Ren := ⟨fun | 171 => 53 | 243 => 74 | 246 => 86 | 283 => 98 | 284 => 99 | 285 => 100 | 286 => 101 | 129 => 110 | 317 => 109 | 318 => 111 | 319 => 112 | 320 => 113 | 337 => 115 | 338 => 116 | n => n, fun | 3 => 3 | 9 => 9 | 2 => 2 | 4 => 4 | 171 => 111 | 0 => 0 | 53 => 23 | 37 => 71 | 5 => 5 | 173 => 114 | 212 => 123 | 51 => 106 | 20 => 20 | 213 => 124 | 46 => 66 | 232 => 132 | 233 => 133 | n => n, fun | 17 => 1 | 18 => 4 | 19 => 5 | n => n⟩
theorem laysM171 : Go.Proofs.LaysM.n171 Tryd.prog laysM171_ren := {
  mixed := by kernel_rfl
  f129 := Tryd.func110.trans (congrArg some (by kernel_rfl))
  f171 := Tryd.func53.trans (congrArg some (by kernel_rfl))
  f243 := Tryd.func74.trans (congrArg some (by kernel_rfl))
  f246 := Tryd.func86.trans (congrArg some (by kernel_rfl))
  f283 := Tryd.func98.trans (congrArg some (by kernel_rfl))
  f284 := Tryd.func99.trans (congrArg some (by kernel_rfl))
  f285 := Tryd.func100.trans (congrArg some (by kernel_rfl))
  f286 := Tryd.func101.trans (congrArg some (by kernel_rfl))
  f317 := Tryd.func109.trans (congrArg some (by kernel_rfl))
  f318 := Tryd.func111.trans (congrArg some (by kernel_rfl))
  f319 := Tryd.func112.trans (congrArg some (by kernel_rfl))
  f320 := Tryd.func113.trans (congrArg some (by kernel_rfl))
  f337 := Tryd.func115.trans (congrArg some (by kernel_rfl))
  f338 := Tryd.func116.trans (congrArg some (by kernel_rfl))
  t0 := Tryd.underlying0
  a0 := Tryd.isAgg0
  z0 := Tryd.sizeOf0
  v0 := Tryd.zeroValue0
  t2 := Tryd.underlying2
  a2 := Tryd.isAgg2
  z2 := Tryd.sizeOf2
  v2 := Tryd.zeroValue2
  t3 := Tryd.underlying3
  a3 := Tryd.isAgg3
  z3 := Tryd.sizeOf3
  v3 := Tryd.zeroValue3
  t4 := Tryd.underlying4
  a4 := Tryd.isAgg4
  z4 := Tryd.sizeOf4
  v4 := Tryd.zeroValue4
  t5 := Tryd.underlying5
  a5 := Tryd.isAgg5
  z5 := Tryd.sizeOf5
  v5 := Tryd.zeroValue5
  t9 := Tryd.underlying9
  a9 := Tryd.isAgg9
  z9 := Tryd.sizeOf9
  v9 := Tryd.zeroValue9
  t20 := Tryd.underlying20
  a20 := Tryd.isAgg20
  z20 := Tryd.sizeOf20
  v20 := Tryd.zeroValue20
  t37 := Tryd.underlying71
  a37 := Tryd.isAgg71
  z37 := Tryd.sizeOf71
  v37 := Tryd.zeroValue71
  t46 := Tryd.underlying66
  a46 := Tryd.isAgg66
  z46 := Tryd.sizeOf66
  v46 := Tryd.zeroValue66
  t51 := Tryd.underlying106
  a51 := Tryd.isAgg106
  z51 := Tryd.sizeOf106
  v51 := Tryd.zeroValue106
  t53 := Tryd.underlying23
  a53 := Tryd.isAgg23
  z53 := Tryd.sizeOf23
  v53 := Tryd.zeroValue23
  t171 := Tryd.underlying111
  a171 := Tryd.isAgg111
  z171 := Tryd.sizeOf111
  v171 := Tryd.zeroValue111
  t173 := Tryd.underlying114
  a173 := Tryd.isAgg114
  z173 := Tryd.sizeOf114
  v173 := Tryd.zeroValue114
  t212 := Tryd.underlying123
  a212 := Tryd.isAgg123
  z212 := Tryd.sizeOf123
  v212 := Tryd.zeroValue123
  t213 := Tryd.underlying124
  a213 := Tryd.isAgg124
  z213 := Tryd.sizeOf124
  t232 := Tryd.underlying132
  a232 := Tryd.isAgg132
  z232 := Tryd.sizeOf132
  v232 := Tryd.zeroValue132
  t233 := Tryd.underlying133
  a233 := Tryd.isAgg133
  z233 := Tryd.sizeOf133
  v233 := Tryd.zeroValue133
  g17 := by kernel_rfl
  g18 := by kernel_rfl
  g19 := by kernel_rfl
  i0 := by kernel_rfl
  i2 := by kernel_rfl
  i3 := by kernel_rfl
  i4 := by kernel_rfl
  i5 := by kernel_rfl
  i9 := by kernel_rfl
  i20 := by kernel_rfl
  i37 := by kernel_rfl
  i46 := by kernel_rfl
  i51 := by kernel_rfl
  i53 := by kernel_rfl
  i171 := by kernel_rfl
  i173 := by kernel_rfl
  i212 := by kernel_rfl
  i232 := by kernel_rfl
  i233 := by kernel_rfl
  m17 := by kernel_rfl
  m18 := by kernel_rfl
  m19 := by kernel_rfl }
theorem lib_strconv_Itoa (n : Int) (h0 : -9223372036854775808 ≤ n) (h1 : n ≤ 9223372036854775807) (w : World) (htab : Lib.TabIs Tryd.prog w "internal/strconv.uint64pow10" .u64 Lib.pow10Tab) :
    Calls Tryd.prog 53 #[.int .i64 n] w fun e w' => e = .returned (.string ⟨(Lib.itoa n).toArray⟩) ∧ ∃ k os, w' = grow (w.drewN k) os := Any.strconv_Itoa laysM171 n h0 h1 w htab
def lays144_ren : Go.Shelf.Ren := ⟨fun | 144 => 39 | 143 => 63 | 219 => 78 | 217 => 89 | 225 => 90 | 224 => 91 | 267 => 92 | 266 => 104 | 314 => 105 | n => n, fun | 9 => 9 | 4 => 4 | 3 => 3 | 5 => 5 | 46 => 66 | 146 => 107 | 51 => 106 | n => n, fun | 1 => 0 | n => n⟩
theorem lays144 : Go.Proofs.Lays.n144 Tryd.prog lays144_ren := {
  mixed := by kernel_rfl
  f143 := Tryd.func63.trans (congrArg some (by kernel_rfl))
  f144 := Tryd.func39.trans (congrArg some (by kernel_rfl))
  f217 := Tryd.func89.trans (congrArg some (by kernel_rfl))
  f219 := Tryd.func78.trans (congrArg some (by kernel_rfl))
  f224 := Tryd.func91.trans (congrArg some (by kernel_rfl))
  f225 := Tryd.func90.trans (congrArg some (by kernel_rfl))
  f266 := Tryd.func104.trans (congrArg some (by kernel_rfl))
  f267 := Tryd.func92.trans (congrArg some (by kernel_rfl))
  f314 := Tryd.func105.trans (congrArg some (by kernel_rfl))
  t3 := Tryd.underlying3
  a3 := Tryd.isAgg3
  z3 := Tryd.sizeOf3
  v3 := Tryd.zeroValue3
  t4 := Tryd.underlying4
  a4 := Tryd.isAgg4
  z4 := Tryd.sizeOf4
  v4 := Tryd.zeroValue4
  t5 := Tryd.underlying5
  a5 := Tryd.isAgg5
  z5 := Tryd.sizeOf5
  v5 := Tryd.zeroValue5
  t9 := Tryd.underlying9
  a9 := Tryd.isAgg9
  z9 := Tryd.sizeOf9
  v9 := Tryd.zeroValue9
  t46 := Tryd.underlying66
  a46 := Tryd.isAgg66
  z46 := Tryd.sizeOf66
  v46 := Tryd.zeroValue66
  t51 := Tryd.underlying106
  a51 := Tryd.isAgg106
  z51 := Tryd.sizeOf106
  v51 := Tryd.zeroValue106
  t146 := Tryd.underlying107
  a146 := Tryd.isAgg107
  z146 := Tryd.sizeOf107
  v146 := Tryd.zeroValue107
  g1 := by kernel_rfl }
theorem lib_strings_Contains_one (s : ByteArray) (c : UInt8) (w : World) :
    Calls Tryd.prog 39 #[.string s, .string ⟨#[c]⟩] w fun e w' => e = .returned (.bool (decide (0 ≤ Lib.indexByte s.data.toList c))) ∧ w' = w := Any.strings_Contains_one lays144 s c w
def lays145_ren : Go.Shelf.Ren := ⟨fun | 145 => 44 | 220 => 69 | 219 => 78 | 217 => 89 | 225 => 90 | 224 => 91 | 267 => 92 | 266 => 104 | 314 => 105 | n => n, fun | 9 => 9 | 4 => 4 | 59 => 52 | 3 => 3 | 5 => 5 | 46 => 66 | 146 => 107 | 51 => 106 | n => n, fun | 1 => 0 | n => n⟩
theorem lays145 : Go.Proofs.Lays.n145 Tryd.prog lays145_ren := {
  mixed := by kernel_rfl
  f145 := Tryd.func44.trans (congrArg some (by kernel_rfl))
  f217 := Tryd.func89.trans (congrArg some (by kernel_rfl))
  f219 := Tryd.func78.trans (congrArg some (by kernel_rfl))
  f220 := Tryd.func69.trans (congrArg some (by kernel_rfl))
  f224 := Tryd.func91.trans (congrArg some (by kernel_rfl))
  f225 := Tryd.func90.trans (congrArg some (by kernel_rfl))
  f266 := Tryd.func104.trans (congrArg some (by kernel_rfl))
  f267 := Tryd.func92.trans (congrArg some (by kernel_rfl))
  f314 := Tryd.func105.trans (congrArg some (by kernel_rfl))
  t3 := Tryd.underlying3
  a3 := Tryd.isAgg3
  z3 := Tryd.sizeOf3
  v3 := Tryd.zeroValue3
  t4 := Tryd.underlying4
  a4 := Tryd.isAgg4
  z4 := Tryd.sizeOf4
  v4 := Tryd.zeroValue4
  t5 := Tryd.underlying5
  a5 := Tryd.isAgg5
  z5 := Tryd.sizeOf5
  v5 := Tryd.zeroValue5
  t9 := Tryd.underlying9
  a9 := Tryd.isAgg9
  z9 := Tryd.sizeOf9
  v9 := Tryd.zeroValue9
  t46 := Tryd.underlying66
  a46 := Tryd.isAgg66
  z46 := Tryd.sizeOf66
  v46 := Tryd.zeroValue66
  t51 := Tryd.underlying106
  a51 := Tryd.isAgg106
  z51 := Tryd.sizeOf106
  v51 := Tryd.zeroValue106
  t59 := Tryd.underlying52
  a59 := Tryd.isAgg52
  z59 := Tryd.sizeOf52
  v59 := Tryd.zeroValue52
  t146 := Tryd.underlying107
  a146 := Tryd.isAgg107
  z146 := Tryd.sizeOf107
  v146 := Tryd.zeroValue107
  g1 := by kernel_rfl }
theorem lib_strings_Cut (s sep : ByteArray) (m : Int) (w : World) (hs : s.size < 4294967281) (hm : w.cell? ⟨0, 0, none⟩ = some (.int .i64 m)) :
    Calls Tryd.prog 44 #[.string s, .string sep] w fun e w' => e = .returned (.tuple #[.string ⟨(Lib.cut s.data.toList sep.data.toList).1.toArray⟩, .string ⟨(Lib.cut s.data.toList sep.data.toList).2.1.toArray⟩, .bool (Lib.cut s.data.toList sep.data.toList).2.2]) ∧ ∃ n, w' = w.drewN n := Any.strings_Cut lays145 s sep m w hs hm
def lays146_ren : Go.Shelf.Ren := ⟨fun | 146 => 66 | 221 => 82 | 268 => 96 | 138 => 97 | 143 => 63 | 195 => 106 | 197 => 107 | 218 => 108 | 219 => 78 | 260 => 114 | 217 => 89 | 225 => 90 | 224 => 91 | 267 => 92 | 266 => 104 | 314 => 105 | n => n, fun | 9 => 9 | 31 => 57 | 3 => 3 | 4 => 4 | 0 => 0 | 105 => 120 | 21 => 21 | 5 => 5 | 46 => 66 | 119 => 128 | 139 => 131 | 138 => 130 | 146 => 107 | 51 => 106 | n => n, fun | 1 => 0 | 3 => 2 | 4 => 3 | n => n⟩
theorem lays146 : Go.Proofs.Lays.n146 Tryd.prog lays146_ren := {
  mixed := by kernel_rfl
  f138 := Tryd.func97.trans (congrArg some (by kernel_rfl))
  f143 := Tryd.func63.trans (congrArg some (by kernel_rfl))
  f146 := Tryd.func66.trans (congrArg some (by kernel_rfl))
  f195 := Tryd.func106.trans (congrArg some (by kernel_rfl))
  f197 := Tryd.func107.trans (congrArg some (by kernel_rfl))
  f217 := Tryd.func89.trans (congrArg some (by kernel_rfl))
  f218 := Tryd.func108.trans (congrArg some (by kernel_rfl))
  f219 := Tryd.func78.trans (congrArg some (by kernel_rfl))
  f221 := Tryd.func82.trans (congrArg some (by kernel_rfl))
  f224 := Tryd.func91.trans (congrArg some (by kernel_rfl))
  f225 := Tryd.func90.trans (congrArg some (by kernel_rfl))
  f260 := Tryd.func114.trans (congrArg some (by kernel_rfl))
  f266 := Tryd.func104.trans (congrArg some (by kernel_rfl))
  f267 := Tryd.func92.trans (congrArg some (by kernel_rfl))
  f268 := Tryd.func96.trans (congrArg some (by kernel_rfl))
  f314 := Tryd.func105.trans (congrArg some (by kernel_rfl))
  t0 := Tryd.underlying0
  a0 := Tryd.isAgg0
  z0 := Tryd.sizeOf0
  v0 := Tryd.zeroValue0
  t3 := Tryd.underlying3
  a3 := Tryd.isAgg3
  z3 := Tryd.sizeOf3
  v3 := Tryd.zeroValue3
  t4 := Tryd.underlying4
  a4 := Tryd.isAgg4
  z4 := Tryd.sizeOf4
  v4 := Tryd.zeroValue4
  t5 := Tryd.underlying5
  a5 := Tryd.isAgg5
  z5 := Tryd.sizeOf5
  v5 := Tryd.zeroValue5
  t9 := Tryd.underlying9
  a9 := Tryd.isAgg9
  z9 := Tryd.sizeOf9
  v9 := Tryd.zeroValue9
  t21 := Tryd.underlying21
  a21 := Tryd.isAgg21
  z21 := Tryd.sizeOf21
  v21 := Tryd.zeroValue21
  t31 := Tryd.underlying57
  a31 := Tryd.isAgg57
  z31 := Tryd.sizeOf57
  v31 := Tryd.zeroValue57
  t46 := Tryd.underlying66
  a46 := Tryd.isAgg66
  z46 := Tryd.sizeOf66
  v46 := Tryd.zeroValue66
  t51 := Tryd.underlying106
  a51 := Tryd.isAgg106
  z51 := Tryd.sizeOf106
  v51 := Tryd.zeroValue106
  t105 := Tryd.underlying120
  a105 := Tryd.isAgg120
  z105 := Tryd.sizeOf120
  v105 := Tryd.zeroValue120
  t119 := Tryd.underlying128
  a119 := Tryd.isAgg128
  z119 := Tryd.sizeOf128
  t138 := Tryd.underlying130
  a138 := Tryd.isAgg130
  z138 := Tryd.sizeOf130
  v138 := Tryd.zeroValue130
  t139 := Tryd.underlying131
  a139 := Tryd.isAgg131
  z139 := Tryd.sizeOf131
  v139 := Tryd.zeroValue131
  t146 := Tryd.underlying107
  a146 := Tryd.isAgg107
  z146 := Tryd.sizeOf107
  v146 := Tryd.zeroValue107
  g1 := by kernel_rfl
  g3 := by kernel_rfl
  g4 := by kernel_rfl }
theorem lib_strings_Split (s sep : ByteArray) (m : Int) (w : World) (hs : s.size < 4294967281) (hm : w.cell? ⟨0, 0, none⟩ = some (.int .i64 m)) (h1 : 1 ≤ sep.size) :
    Calls Tryd.prog 66 #[.string s, .string sep] w fun e w' =>
      e = .returned (.slice (some ⟨w.heap.size, 0, none⟩) (Lib.countB s sep + 1) (Lib.countB s sep + 1)) ∧ w' = w.alloc (.cells ((Lib.splitB sep 0 (Lib.countB s sep) s).map Value.string).toArray 9) := Any.strings_Split lays146 (by kernel_rfl) s sep m w hs hm h1
def lays105_ren : Go.Shelf.Ren := ⟨fun | 105 => 65 | 212 => 79 | 99 => 80 | 165 => 75 | 166 => 76 | 170 => 81 | 169 => 77 | 263 => 93 | 264 => 94 | 206 => 95 | 240 => 87 | 241 => 88 | 276 => 102 | 277 => 103 | n => n, fun | 9 => 9 | 3 => 3 | 4 => 4 | 20 => 20 | 0 => 0 | 46 => 66 | 109 => 97 | 5 => 5 | 72 => 89 | 76 => 93 | 51 => 106 | 146 => 107 | 53 => 23 | 148 => 61 | 70 => 87 | 37 => 71 | 75 => 92 | 127 => 103 | 164 => 116 | 80 => 95 | n => n, fun | n => n⟩
theorem lays105 : Go.Proofs.Lays.n105 Tryd.prog lays105_ren := {
  mixed := by kernel_rfl
  f99 := Tryd.func80.trans (congrArg some (by kernel_rfl))
  f105 := Tryd.func65.trans (congrArg some (by kernel_rfl))
  f165 := Tryd.func75.trans (congrArg some (by kernel_rfl))
  f166 := Tryd.func76.trans (congrArg some (by kernel_rfl))
  f169 := Tryd.func77.trans (congrArg some (by kernel_rfl))
  f170 := Tryd.func81.trans (congrArg some (by kernel_rfl))
  f206 := Tryd.func95.trans (congrArg some (by kernel_rfl))
  f212 := Tryd.func79.trans (congrArg some (by kernel_rfl))
  f240 := Tryd.func87.trans (congrArg some (by kernel_rfl))
  f241 := Tryd.func88.trans (congrArg some (by kernel_rfl))
  f263 := Tryd.func93.trans (congrArg some (by kernel_rfl))
  f264 := Tryd.func94.trans (congrArg some (by kernel_rfl))
  f276 := Tryd.func102.trans (congrArg some (by kernel_rfl))
  f277 := Tryd.func103.trans (congrArg some (by kernel_rfl))
  t0 := Tryd.underlying0
  a0 := Tryd.isAgg0
  z0 := Tryd.sizeOf0
  v0 := Tryd.zeroValue0
  t3 := Tryd.underlying3
  a3 := Tryd.isAgg3
  z3 := Tryd.sizeOf3
  v3 := Tryd.zeroValue3
  t4 := Tryd.underlying4
  a4 := Tryd.isAgg4
  z4 := Tryd.sizeOf4
  v4 := Tryd.zeroValue4
  t5 := Tryd.underlying5
  a5 := Tryd.isAgg5
  z5 := Tryd.sizeOf5
  v5 := Tryd.zeroValue5
  t9 := Tryd.underlying9
  a9 := Tryd.isAgg9
  z9 := Tryd.sizeOf9
  v9 := Tryd.zeroValue9
  t20 := Tryd.underlying20
  a20 := Tryd.isAgg20
  z20 := Tryd.sizeOf20
  v20 := Tryd.zeroValue20
  t37 := Tryd.underlying71
  a37 := Tryd.isAgg71
  z37 := Tryd.sizeOf71
  v37 := Tryd.zeroValue71
  t46 := Tryd.underlying66
  a46 := Tryd.isAgg66
  z46 := Tryd.sizeOf66
  v46 := Tryd.zeroValue66
  t51 := Tryd.underlying106
  a51 := Tryd.isAgg106
  z51 := Tryd.sizeOf106
  v51 := Tryd.zeroValue106
  t53 := Tryd.underlying23
  a53 := Tryd.isAgg23
  z53 := Tryd.sizeOf23
  v53 := Tryd.zeroValue23
  t70 := Tryd.underlying87
  a70 := Tryd.isAgg87
  z70 := Tryd.sizeOf87
  v70 := Tryd.zeroValue87
  t72 := Tryd.underlying89
  a72 := Tryd.isAgg89
  z72 := Tryd.sizeOf89
  v72 := Tryd.zeroValue89
  t75 := Tryd.underlying92
  a75 := Tryd.isAgg92
  z75 := Tryd.sizeOf92
  v75 := Tryd.zeroValue92
  t76 := Tryd.underlying93
  a76 := Tryd.isAgg93
  z76 := Tryd.sizeOf93
  v76 := Tryd.zeroValue93
  t109 := Tryd.underlying97
  a109 := Tryd.isAgg97
  z109 := Tryd.sizeOf97
  v109 := Tryd.zeroValue97
  t127 := Tryd.underlying103
  a127 := Tryd.isAgg103
  z127 := Tryd.sizeOf103
  v127 := Tryd.zeroValue103
  t146 := Tryd.underlying107
  a146 := Tryd.isAgg107
  z146 := Tryd.sizeOf107
  v146 := Tryd.zeroValue107
  t148 := Tryd.underlying61
  a148 := Tryd.isAgg61
  z148 := Tryd.sizeOf61
  v148 := Tryd.zeroValue61
  t164 := Tryd.underlying116
  a164 := Tryd.isAgg116
  z164 := Tryd.sizeOf116
  v164 := Tryd.zeroValue116 }
theorem Builder_Extra_105 : Builder.Extra Tryd.prog lays105_ren := {
  sizeBuilder := by kernel_rfl
  liesBuilder := by kernel_rfl
  t5 := Tryd.underlying5
  a5 := Tryd.isAgg5
  z5 := Tryd.sizeOf5
  v5 := Tryd.zeroValue5
  infoByte := by kernel_rfl
  cellsByte := by kernel_rfl
  sizeByte := by kernel_rfl
  neB5 := by decide }
theorem lib_strings_Repeat (s : ByteArray) (c : Nat) (w : World) (hc : c ≤ 9223372036854775807) (hlen : s.size * c ≤ 140737488355328) :
    Calls Tryd.prog 65 #[.string s, .int .i64 c] w fun e w' => e = .returned (.string ⟨(Lib.repeatL s.data.toList c).toArray⟩) ∧ Below w.heap.size w w' := Any.strings_Repeat lays105 Builder_Extra_105 s c w hc hlen
end Go.Proofs.YtcblgbonijloiaaDoor

/- What the walks of layer 6 ask of memory (the library's variables); Split, and lists of strings. -/
namespace Go.Proofs.YtcblgbonijloiaaDoor
open Go.ChangeShapes Go.WideShapes Go.ChangeAt Go.RowKit
set_option linter.unusedVariables false

theorem lt_of_cell {w : World} {g i : Nat} {v : Value} (h : w.cell? ⟨g, i, none⟩ = some v) : g < w.heap.size := by
  apply Decidable.byContradiction
  intro hn
  have : w.heap[g]? = none := Array.getElem?_eq_none (by omega)
  simp [World.cell?, this] at h
/-- What the walks ask of memory. -/
structure TW (w : World) : Prop where
  mx : ∃ m, w.cell? ⟨0, 0, none⟩ = some (.int .i64 m)
  p10 : Lib.TabIs Tryd.prog w "internal/strconv.uint64pow10" .u64 Lib.pow10Tab
  db : w.cell? ⟨5, 15, none⟩ = some (.int .u8 4)
theorem gPow10 : Tryd.prog.globalNamed "internal/strconv.uint64pow10" = some 1 := by kernel_rfl
theorem TW.kept {w w' : World} (h : TW w) (hb : Below w.heap.size w w') : TW w' := by
  obtain ⟨⟨m, h1⟩, h2, h3⟩ := h
  refine ⟨⟨m, ?_⟩, ?_, ?_⟩
  · rw [World.cell?_of_block (w := w) (w' := w') (a := ⟨0, 0, none⟩) (hb.block _ (lt_of_cell h1))]
    exact h1
  · unfold Lib.TabIs World.var? at h2 ⊢
    rw [gPow10] at h2 ⊢
    simp only [Option.bind_some] at h2 ⊢
    have hlt : 1 < w.heap.size := by
      apply Decidable.byContradiction
      intro hn
      have : w.heap[1]? = none := Array.getElem?_eq_none (by omega)
      rw [this] at h2
      cases h2
    rw [hb.block _ hlt]
    exact h2
  · rw [World.cell?_of_block (w := w) (w' := w') (a := ⟨5, 15, none⟩) (hb.block _ (lt_of_cell h3))]
    exact h3
/-- The same behind a part of the call. -/
theorem TW.on {B : Nat} {w w' : World} (h : TW w) (hb : Below B w w') (hB : w.heap.size ≤ B) : TW w' := h.kept (hb.mono hB)
theorem byte_str (c : UInt8) : (⟨#[c]⟩ : ByteArray).data.toList = [c] := rfl
theorem split_at6 (s : ByteArray) (c : UInt8) (i : Nat) (p : By) (h : (splitL c s.data.toList)[i]? = some p) : (((Lib.splitB ⟨#[c]⟩ 0 (Lib.countB s ⟨#[c]⟩) s).map Value.string).toArray)[i]? = some (.string (str p)) := by
  rw [← split_bytes, List.getElem?_map] at h
  rw [List.getElem?_toArray, List.getElem?_map]
  cases hq : (Lib.splitB ⟨#[c]⟩ 0 (Lib.countB s ⟨#[c]⟩) s)[i]? with
  | none => rw [hq] at h; cases h
  | some q =>
    rw [hq] at h
    have e : q.data.toList = p := Option.some.inj h
    rw [← e, str_of]
    rfl
/-- Split, as the walks use it. -/
theorem psplit6 (s : ByteArray) (c : UInt8) (w : World) (hs : s.size ≤ 1000) (ht : TW w) :
    Calls Tryd.prog 66 #[.string s, .string ⟨#[c]⟩] w fun e w' => e = .returned (.slice (some ⟨w.heap.size, 0, none⟩) (splitL c s.data.toList).length (splitL c s.data.toList).length) ∧ w.heap.size < w'.heap.size ∧ (∀ (i : Nat) (p : By), (splitL c s.data.toList)[i]? = some p → w'.cell? ⟨w.heap.size, i, none⟩ = some (.string (str p))) ∧ Below w.heap.size w w' := by
  obtain ⟨m, hm⟩ := ht.mx
  refine (lib_strings_Split s ⟨#[c]⟩ m w (by omega) hm (Nat.le_refl 1)).mono ?_
  rintro e w' ⟨rfl, rfl⟩
  have hl : (splitL c s.data.toList).length = Lib.countB s ⟨#[c]⟩ + 1 := by
    rw [← split_bytes, List.length_map, split_length]
  refine ⟨by rw [hl], alloc_lt6 w _, fun i p h => ?_, below_alloc6 w _⟩
  rw [World.cell?_alloc_at _ _ _ _ rfl]
  exact split_at6 s c i p h
end Go.Proofs.YtcblgbonijloiaaDoor

/- Contract of strconv.FormatUint at base 16 for numbers of 16 bits. -/
namespace Go.Proofs.YtcblgbonijloiaaDoor
open Go.ChangeShapes Go.WideShapes Go.ChangeAt Go.RowKit
set_option linter.unusedVariables false

theorem hexL_get : ∀ (k n : Nat), n < 16 ^ (k + 1) → (k = 0 ∨ 16 ^ k ≤ n) → (hexL n).length = k + 1 ∧ ∀ j, j < k + 1 → (hexL n)[j]? = some (hexd (n / 16 ^ (k - j) % 16))
  | 0, n, h, _ => by
    have h16 : n < 16 := by simpa using h
    rw [hexL, if_pos (by omega)]
    refine ⟨rfl, fun j hj => ?_⟩
    obtain rfl : j = 0 := by omega
    simp [Nat.mod_eq_of_lt h16]
  | k + 1, n, h, hk => by
    have h1 : 16 ^ (k + 1) ≤ n := by rcases hk with e | e; · omega
                                     · exact e
    have hp : 16 ≤ 16 ^ (k + 1) := by
      have := Nat.pow_le_pow_right (n := 16) (by omega) (show 1 ≤ k + 1 by omega)
      simpa using this
    have h2 : n / 16 < 16 ^ (k + 1) := by rw [Nat.div_lt_iff_lt_mul (by omega), ← Nat.pow_succ]; exact h
    have h3 : k = 0 ∨ 16 ^ k ≤ n / 16 := by
      right
      rw [Nat.le_div_iff_mul_le (by omega), ← Nat.pow_succ]; exact h1
    obtain ⟨ih1, ih2⟩ := hexL_get k (n / 16) h2 h3
    rw [hexL, if_neg (by omega)]
    refine ⟨by rw [List.length_append, ih1]; rfl, fun j hj => ?_⟩
    by_cases hjk : j < k + 1
    · rw [List.getElem?_append_left (by rw [ih1]; exact hjk), ih2 j hjk, Nat.div_div_eq_div_mul, Nat.mul_comm 16, ← Nat.pow_succ, show (k - j).succ = k + 1 - j by omega]
    · obtain rfl : j = k + 1 := by omega
      rw [List.getElem?_append_right (by rw [ih1]; exact Nat.le_refl _), ih1, Nat.sub_self, Nat.pow_zero, Nat.div_one]
      rfl
set_option maxRecDepth 20000 in
theorem lpow2_16 (w : World) : Calls Tryd.prog 112 #[.int .i64 16] w fun e w' => e = .returned (.bool true) ∧ w' = w := by
  have h : bits .and .i64 16 15 = 0 := by decide
  go_enter Tryd.func112, Tryd.ntmps112
  go_wp2_with fail
  go_ret
  exact ⟨rfl, rfl⟩
set_option maxRecDepth 20000 in
theorem ltrail64_16 (w : World) (ht : TW w) : Calls Tryd.prog 116 #[.int .u64 16] w fun e w' => e = .returned (.int .i64 4) ∧ w' = w := by
  have hdb := ht.db
  have h0 : IntKind.u64.wrap (-16) = 18446744073709551600 := by decide
  have h1 : bits .and .u64 16 18446744073709551600 = 16 := by decide
  have h2 : IntKind.u64.wrap (16 * 285870213051353865) = 4573923408821661840 := by decide
  have h3 : IntKind.u64.wrap 4573923408821661840 = 4573923408821661840 := by decide
  go_enter Tryd.func116, Tryd.ntmps116
  go_wp2_with fail
  go_ret
  exact ⟨rfl, rfl⟩
set_option maxRecDepth 20000 in
theorem ltrail_16 (w : World) (ht : TW w) : Calls Tryd.prog 113 #[.int .u64 16] w fun e w' => e = .returned (.int .i64 4) ∧ w' = w := by
  have H := Lib.hid (ltrail64_16 w ht)
  go_enter Tryd.func113, Tryd.ntmps113
  go_wp2_with fail
  refine H.out.mono ?_
  rintro e w2 ⟨rfl, hw⟩
  have hw' := hw.symm
  clear hw
  subst hw'
  go_wp2_with fail
  go_ret
  exact ⟨rfl, rfl⟩
/-- The digits, one by one. -/
theorem dig36 (j : Nat) (h : j < 16) (W : World) : (Instr.index 9 (.string ⟨#[48, 49, 50, 51, 52, 53, 54, 55, 56, 57, 97, 98, 99, 100, 101, 102, 103, 104, 105, 106, 107, 108, 109, 110, 111, 112, 113, 114, 115, 116, 117, 118, 119, 120, 121, 122]⟩) (.int .u64 (j : Int))).run Tryd.prog W = .ok (.int .u8 (((hexd j).toNat : Nat) : Int)) W := by
  have i0 : ∀ V, (Instr.index 9 (.string ⟨#[48, 49, 50, 51, 52, 53, 54, 55, 56, 57, 97, 98, 99, 100, 101, 102, 103, 104, 105, 106, 107, 108, 109, 110, 111, 112, 113, 114, 115, 116, 117, 118, 119, 120, 121, 122]⟩) (.int .u64 0)).run Tryd.prog V = .ok (.int .u8 48) V := fun _ => by kernel_rfl
  have i1 : ∀ V, (Instr.index 9 (.string ⟨#[48, 49, 50, 51, 52, 53, 54, 55, 56, 57, 97, 98, 99, 100, 101, 102, 103, 104, 105, 106, 107, 108, 109, 110, 111, 112, 113, 114, 115, 116, 117, 118, 119, 120, 121, 122]⟩) (.int .u64 1)).run Tryd.prog V = .ok (.int .u8 49) V := fun _ => by kernel_rfl
  have i2 : ∀ V, (Instr.index 9 (.string ⟨#[48, 49, 50, 51, 52, 53, 54, 55, 56, 57, 97, 98, 99, 100, 101, 102, 103, 104, 105, 106, 107, 108, 109, 110, 111, 112, 113, 114, 115, 116, 117, 118, 119, 120, 121, 122]⟩) (.int .u64 2)).run Tryd.prog V = .ok (.int .u8 50) V := fun _ => by kernel_rfl
  have i3 : ∀ V, (Instr.index 9 (.string ⟨#[48, 49, 50, 51, 52, 53, 54, 55, 56, 57, 97, 98, 99, 100, 101, 102, 103, 104, 105, 106, 107, 108, 109, 110, 111, 112, 113, 114, 115, 116, 117, 118, 119, 120, 121, 122]⟩) (.int .u64 3)).run Tryd.prog V = .ok (.int .u8 51) V := fun _ => by kernel_rfl
  have i4 : ∀ V, (Instr.index 9 (.string ⟨#[48, 49, 50, 51, 52, 53, 54, 55, 56, 57, 97, 98, 99, 100, 101, 102, 103, 104, 105, 106, 107, 108, 109, 110, 111, 112, 113, 114, 115, 116, 117, 118, 119, 120, 121, 122]⟩) (.int .u64 4)).run Tryd.prog V = .ok (.int .u8 52) V := fun _ => by kernel_rfl
  have i5 : ∀ V, (Instr.index 9 (.string ⟨#[48, 49, 50, 51, 52, 53, 54, 55, 56, 57, 97, 98, 99, 100, 101, 102, 103, 104, 105, 106, 107, 108, 109, 110, 111, 112, 113, 114, 115, 116, 117, 118, 119, 120, 121, 122]⟩) (.int .u64 5)).run Tryd.prog V = .ok (.int .u8 53) V := fun _ => by kernel_rfl
  have i6 : ∀ V, (Instr.index 9 (.string ⟨#[48, 49, 50, 51, 52, 53, 54, 55, 56, 57, 97, 98, 99, 100, 101, 102, 103, 104, 105, 106, 107, 108, 109, 110, 111, 112, 113, 114, 115, 116, 117, 118, 119, 120, 121, 122]⟩) (.int .u64 6)).run Tryd.prog V = .ok (.int .u8 54) V := fun _ => by kernel_rfl
  have i7 : ∀ V, (Instr.index 9 (.string ⟨#[48, 49, 50, 51, 52, 53, 54, 55, 56, 57, 97, 98, 99, 100, 101, 102, 103, 104, 105, 106, 107, 108, 109, 110, 111, 112, 113, 114, 115, 116, 117, 118, 119, 120, 121, 122]⟩) (.int .u64 7)).run Tryd.prog V = .ok (.int .u8 55) V := fun _ => by kernel_rfl
  have i8 : ∀ V, (Instr.index 9 (.string ⟨#[48, 49, 50, 51, 52, 53, 54, 55, 56, 57, 97, 98, 99, 100, 101, 102, 103, 104, 105, 106, 107, 108, 109, 110, 111, 112, 113, 114, 115, 116, 117, 118, 119, 120, 121, 122]⟩) (.int .u64 8)).run Tryd.prog V = .ok (.int .u8 56) V := fun _ => by kernel_rfl
  have i9 : ∀ V, (Instr.index 9 (.string ⟨#[48, 49, 50, 51, 52, 53, 54, 55, 56, 57, 97, 98, 99, 100, 101, 102, 103, 104, 105, 106, 107, 108, 109, 110, 111, 112, 113, 114, 115, 116, 117, 118, 119, 120, 121, 122]⟩) (.int .u64 9)).run Tryd.prog V = .ok (.int .u8 57) V := fun _ => by kernel_rfl
  have i10 : ∀ V, (Instr.index 9 (.string ⟨#[48, 49, 50, 51, 52, 53, 54, 55, 56, 57, 97, 98, 99, 100, 101, 102, 103, 104, 105, 106, 107, 108, 109, 110, 111, 112, 113, 114, 115, 116, 117, 118, 119, 120, 121, 122]⟩) (.int .u64 10)).run Tryd.prog V = .ok (.int .u8 97) V := fun _ => by kernel_rfl
  have i11 : ∀ V, (Instr.index 9 (.string ⟨#[48, 49, 50, 51, 52, 53, 54, 55, 56, 57, 97, 98, 99, 100, 101, 102, 103, 104, 105, 106, 107, 108, 109, 110, 111, 112, 113, 114, 115, 116, 117, 118, 119, 120, 121, 122]⟩) (.int .u64 11)).run Tryd.prog V = .ok (.int .u8 98) V := fun _ => by kernel_rfl
  have i12 : ∀ V, (Instr.index 9 (.string ⟨#[48, 49, 50, 51, 52, 53, 54, 55, 56, 57, 97, 98, 99, 100, 101, 102, 103, 104, 105, 106, 107, 108, 109, 110, 111, 112, 113, 114, 115, 116, 117, 118, 119, 120, 121, 122]⟩) (.int .u64 12)).run Tryd.prog V = .ok (.int .u8 99) V := fun _ => by kernel_rfl
  have i13 : ∀ V, (Instr.index 9 (.string ⟨#[48, 49, 50, 51, 52, 53, 54, 55, 56, 57, 97, 98, 99, 100, 101, 102, 103, 104, 105, 106, 107, 108, 109, 110, 111, 112, 113, 114, 115, 116, 117, 118, 119, 120, 121, 122]⟩) (.int .u64 13)).run Tryd.prog V = .ok (.int .u8 100) V := fun _ => by kernel_rfl
  have i14 : ∀ V, (Instr.index 9 (.string ⟨#[48, 49, 50, 51, 52, 53, 54, 55, 56, 57, 97, 98, 99, 100, 101, 102, 103, 104, 105, 106, 107, 108, 109, 110, 111, 112, 113, 114, 115, 116, 117, 118, 119, 120, 121, 122]⟩) (.int .u64 14)).run Tryd.prog V = .ok (.int .u8 101) V := fun _ => by kernel_rfl
  have i15 : ∀ V, (Instr.index 9 (.string ⟨#[48, 49, 50, 51, 52, 53, 54, 55, 56, 57, 97, 98, 99, 100, 101, 102, 103, 104, 105, 106, 107, 108, 109, 110, 111, 112, 113, 114, 115, 116, 117, 118, 119, 120, 121, 122]⟩) (.int .u64 15)).run Tryd.prog V = .ok (.int .u8 102) V := fun _ => by kernel_rfl
  have hk : j = 0 ∨ j = 1 ∨ j = 2 ∨ j = 3 ∨ j = 4 ∨ j = 5 ∨ j = 6 ∨ j = 7 ∨ j = 8 ∨ j = 9 ∨ j = 10 ∨ j = 11 ∨ j = 12 ∨ j = 13 ∨ j = 14 ∨ j = 15 := by omega
  rcases hk with rfl | rfl | rfl | rfl | rfl | rfl | rfl | rfl | rfl | rfl | rfl | rfl | rfl | rfl | rfl | rfl
  · exact i0 W
  · exact i1 W
  · exact i2 W
  · exact i3 W
  · exact i4 W
  · exact i5 W
  · exact i6 W
  · exact i7 W
  · exact i8 W
  · exact i9 W
  · exact i10 W
  · exact i11 W
  · exact i12 W
  · exact i13 W
  · exact i14 W
  · exact i15 W
theorem and15 (u : Nat) (h : u < 18446744073709551616) : bits .and .u64 (u : Int) 15 = ((u % 16 : Nat) : Int) := by
  have := u64_and_nat u 15 h (by omega)
  rw [show ((15 : Nat) : Int) = 15 from rfl] at this
  rw [this]
  congr 1
  exact Nat.and_two_pow_sub_one_eq_mod u 4
theorem row65 (w : World) (cs : Array Value) (h : cs = Array.replicate 65 (.int .u8 0)) : (w.alloc (.cells cs 124)).rowIs w.heap.size 124 65 (fun _ => .int .u8 0) := by
  subst h
  refine World.rowIs.congr (World.rowIs_alloc w _ _ (fun _ => .int .u8 0) ?_) (fun i _ => rfl)
  intro i hi
  rw [Array.size_replicate] at hi
  rw [Array.getElem?_replicate, if_pos hi]
theorem zero65 : Tryd.zeroCells124 = Array.replicate 65 (.int .u8 0) := by kernel_rfl
set_option maxHeartbeats 2000000 in
set_option maxRecDepth 40000 in
theorem lbits_any (n : Nat) (w : World) (hn : n < 65536) (ht : TW w) :
    Calls Tryd.prog 101 #[.slice none 0 0, .int .u64 n, .int .i64 16, .bool false, .bool false] w fun e w' => e = .returned (.tuple #[.slice none 0 0, .string (str (hexL n))]) ∧ Below w.heap.size w w' := by
  obtain ⟨W0, hW0⟩ : ∃ W0, W0 = w.alloc (.cells Tryd.zeroCells124 124) := ⟨_, rfl⟩
  have HT0 := Lib.hid (show TW W0 by rw [hW0]; exact ht.kept (below_alloc6 w _))
  have HB0 := Lib.hid (show Below w.heap.size w W0 by rw [hW0]; exact below_alloc6 w _)
  have HR0 := Lib.hid (show W0.rowIs w.heap.size 124 65 (fun _ => .int .u8 0) by rw [hW0]; exact row65 w _ zero65)
  have HIX := Lib.hid (fun j h => dig36 j h)
  have HPW := Lib.hid (fun W => lpow2_16 W)
  have HTR := Lib.hid (fun W h => ltrail_16 W h)
  have HA := Lib.hid (fun u h => and15 u h)
  clear ht
  go_enter Tryd.func101, Tryd.ntmps101
  go_wp2_with fail
  rw [← hW0]
  refine (HPW.out _).mono ?_
  rintro e w1 ⟨rfl, hw⟩
  have hw' := hw.symm
  clear hw hW0
  subst hw'
  go_wp2_with fail
  refine (HTR.out _ HT0.out).mono ?_
  rintro e w1 ⟨rfl, hw⟩
  have hw' := hw.symm
  clear hw
  subst hw'
  go_wp2_with fail
  go_loopw [1, 13] (fun v1 v13 wr => ∃ k u i : Nat, i + k = 65 ∧ k ≤ 4 ∧ v1 = .int .u64 u ∧ v13 = .int .i64 i ∧ u < 65536 ∧ Hid (u = n / 16 ^ k ∧ (k = 0 ∨ 16 ^ k ≤ n)) ∧ wr.rowIs w.heap.size 124 65 (fun x => .int .u8 (if i ≤ x then (((hexd (n / 16 ^ (64 - x) % 16)).toNat : Nat) : Int) else 0)) ∧ Below w.heap.size w wr) (fun v1 v13 _ => (intOf v13).toNat)
  case atStart => exact ⟨0, n, 65, rfl, by omega, rfl, rfl, hn, Lib.hid ⟨by simp, .inl rfl⟩, HR0.out.congr (fun x hx => by rw [if_neg (by omega)]), HB0.out⟩
  case round =>
    clear HR0 HB0
    obtain ⟨k, u, i, hik, hk4, rfl, rfl, hu, HU, hrow, hb⟩ := hrel
    obtain ⟨q, hq⟩ : ∃ q, i = q + 1 := ⟨i - 1, by omega⟩
    have hqi : (i : Int) - 1 = (q : Int) := by omega
    have hq65 : q < 65 := by omega
    have hc := hrow.cell hq65
    rw [if_neg (by omega)] at hc
    have hf := hrow.frozen q
    have HU16 := Lib.hid (show n / 16 ^ (64 - q) % 16 = u % 16 by rw [HU.out.1, show 64 - q = k by omega])
    have hq0 : (0 : Int) ≤ (q : Int) := by omega
    have hq1 : (q : Int) < 65 := by omega
    have HIK := Lib.hid (show i = q + 1 ∧ i + k = 65 from ⟨hq, hik⟩)
    by_cases h16 : 16 ≤ u
    · have d16 : decide ((16 : Int) ≤ (u : Int)) = true := by rw [decide_eq_true_eq]; omega
      have hand := HA.out u (by omega)
      have hix := HIX.out (u % 16) (by omega)
      obtain ⟨u1, hu1⟩ : ∃ u1, u1 = u / 16 := ⟨_, rfl⟩
      have hu1i : (u : Int) / 16 = (u1 : Int) := by omega
      have hu1j : (u : Int) / 2 ^ 4 = (u1 : Int) := by omega
      have hu1b : u1 < 65536 := by omega
      have HN := Lib.hid (show u1 = n / 16 ^ (k + 1) ∧ (k + 1 = 0 ∨ 16 ^ (k + 1) ≤ n) from ⟨by rw [hu1, HU.out.1, Nat.div_div_eq_div_mul, ← Nat.pow_succ], .inr (by
        have := HU.out.1
        rw [this, Nat.le_div_iff_mul_le (Nat.two_pow_pos 0 |> fun _ => Nat.pow_pos (by omega)), Nat.mul_comm, ← Nat.pow_succ] at h16
        exact h16)⟩)
      have hk3 : k + 1 ≤ 4 := by
        have h1 := HN.out.2.resolve_left (by omega)
        apply Decidable.byContradiction
        intro hc
        obtain rfl : k = 4 := by omega
        have e : (16 : Nat) ^ (4 + 1) = 1048576 := by decide
        omega
      obtain ⟨j, hj⟩ : ∃ j, j = u % 16 := ⟨_, rfl⟩
      rw [← hj] at hand hix HU16
      generalize hd : hexd j = d at *
      have HD := Lib.hid hd
      clear hj hu1 hq hik hd
      go_wp2_with fail
      exact ⟨⟨k + 1, u1, q, by have := HIK.out; omega, hk3, rfl, rfl, hu1b, HN, (hrow.set q _).congr (fun x hx => by
        have := HIK.out
        by_cases e : x = q
        · subst e
          rw [if_pos rfl, if_pos (by omega), HU16.out, HD.out]
        · rw [if_neg e]
          by_cases e2 : i ≤ x
          · rw [if_pos e2, if_pos (by omega)]
          · rw [if_neg e2, if_neg (by omega)]), hb.setCell (Nat.le_refl _) _⟩, by have := HIK.out; simp [intOf]; omega⟩
    · have d16 : decide ((16 : Int) ≤ (u : Int)) = false := by rw [decide_eq_false_iff_not]; omega
      have d16n : ¬ 16 ≤ u := h16
      have hix := HIX.out u (by omega)
      have HX := Lib.hid (hexL_get k n (by
        have e := HU.out.1
        rw [e] at h16
        rw [Nat.pow_succ]
        apply Decidable.byContradiction
        intro hc
        apply h16
        rw [Nat.le_div_iff_mul_le (Nat.pow_pos (by omega)), Nat.mul_comm]
        omega) HU.out.2)
      have HUM := Lib.hid (show n / 16 ^ (64 - q) % 16 = u by rw [HU16.out]; omega)
      generalize hd : hexd u = d at *
      have HD := Lib.hid hd
      clear hq hik hd HU HU16
      have hrow2 := hrow.set q (.int .u8 (d.toNat : Nat))
      have hb2 := hb.setCell (p := ⟨w.heap.size, q, none⟩) (Nat.le_refl _) (.int .u8 (d.toNat : Nat))
      obtain ⟨m, hm⟩ : ∃ m, m = k + 1 := ⟨_, rfl⟩
      have hqm : q + m = 65 := by have := HIK.out; omega
      have hl : (hexL n).length = m := by rw [HX.out.1, hm]
      have hbs : BS (wr.setCell ⟨w.heap.size, q, none⟩ (.int .u8 (d.toNat : Nat))) w.heap.size (.slice (some ⟨w.heap.size, q, none⟩) (hexL n).length m) (hexL n) := by
        refine ⟨some ⟨w.heap.size, q, none⟩, m, rfl, by omega, fun _ => ⟨w.heap.size, q, rfl, Nat.le_refl _, hrow2.lt, fun x hx => ?_⟩⟩
        have hx65 : q + x < 65 := by omega
        refine ⟨?_, hrow2.frozen (q + x)⟩
        rw [hrow2.cell hx65]
        have hg := HX.out.2 x (by omega)
        rw [List.getElem?_eq_getElem hx] at hg
        rw [Option.some.inj hg]
        by_cases e : x = 0
        · subst e
          rw [if_pos (by omega)]
          have e1 : k - 0 = 64 - q := by omega
          rw [e1, HUM.out, HD.out]
        · rw [if_neg (by omega), if_pos (by have := HIK.out; omega), show 64 - (q + x) = k - x by omega]
      have hcv := bs_string hbs
      rw [hl] at hcv
      have hmi : (65 : Int) - (q : Int) = (m : Int) := by omega
      have hmn : 65 - q = m := by omega
      have hq65i : (q : Int) ≤ 65 := by omega
      clear hbs hm hl hrow2
      have HB2 := Lib.hid hb2
      go_wp2_with fail
      go_ret2
      exact ⟨rfl, HB2.out⟩
set_option maxRecDepth 20000 in
theorem lfmti_any (n : Nat) (w : World) (hn : n < 65536) (ht : TW w) :
    Calls Tryd.prog 85 #[.int .u64 n, .int .i64 16] w fun e w' => e = .returned (.string (str (hexL n))) ∧ Below w.heap.size w w' := by
  have H := Lib.hid (lbits_any n w hn ht)
  go_enter Tryd.func85, Tryd.ntmps85
  go_wp2_with fail
  refine H.out.mono ?_
  rintro e w2 ⟨rfl, hb⟩
  have HB := Lib.hid hb
  go_wp2_with fail
  go_ret
  exact ⟨rfl, HB.out⟩
set_option maxRecDepth 20000 in
/-- strconv.FormatUint(n, 16). -/
theorem lfmt_any (n : Nat) (w : World) (hn : n < 65536) (ht : TW w) :
    Calls Tryd.prog 72 #[.int .u64 n, .int .i64 16] w fun e w' => e = .returned (.string (str (hexL n))) ∧ Below w.heap.size w w' := by
  have H := Lib.hid (lfmti_any n w hn ht)
  go_enter Tryd.func72, Tryd.ntmps72
  go_wp2_with fail
  refine H.out.mono ?_
  rintro e w2 ⟨rfl, hb⟩
  have HB := Lib.hid hb
  go_wp2_with fail
  go_ret
  exact ⟨rfl, HB.out⟩
/-- Join, as the walks use it. -/
theorem pjoin6 (g o cap : Nat) (L : List By) (c : UInt8) (w : World) (hg : g < w.heap.size) (hcells : ∀ (j : Nat) p, L[j]? = some p → w.cell? ⟨g, o + j, none⟩ = some (.string (str p))) (hcap : L.length ≤ cap) (hN : L.length ≤ 1000) (hlen : (joinC c L).length ≤ 100000) :
    Calls Tryd.prog 54 #[.slice (some ⟨g, o, none⟩) L.length cap, .string ⟨#[c]⟩] w fun e w' => e = .returned (.string (str (joinC c L))) ∧ Below w.heap.size w w' := by
  have hm : (L.map str).map (·.data.toList) = L := by
    rw [List.map_map]
    exact (List.map_congr_left (fun p _ => str_toList p)).trans (List.map_id L)
  have hl : (L.map str).length = L.length := List.length_map ..
  have h := lib_strings_Join g o cap (L.map str) ⟨#[c]⟩ w (fun j x hx => by
    rw [List.getElem?_map] at hx
    cases hq : L[j]? with
    | none => rw [hq] at hx; cases hx
    | some p =>
      rw [hq] at hx
      obtain rfl := Option.some.inj hx
      exact hcells j p hq) hg (by rw [hl]; omega) (by rw [hl]; exact hcap) (by rw [hm, byte_str, join_joinC]; omega)
  rw [hm, byte_str, join_joinC, hl] at h
  exact h
/-- Itoa, as the walks use it. -/
theorem pitoa6 (n : Nat) (w : World) (hn : n < 1000000) (ht : TW w) :
    Calls Tryd.prog 53 #[.int .i64 n] w fun e w' => e = .returned (.string (str (numL n))) ∧ Below w.heap.size w w' := by
  refine (lib_strconv_Itoa n (by omega) (by omega) w ht.p10).mono ?_
  rintro e w' ⟨rfl, k, os, rfl⟩
  refine ⟨by rw [itoa_num]; rfl, ?_⟩
  refine ⟨rfl, rfl, rfl, ?_, fun j hj => ?_⟩
  · show w.heap.size ≤ (w.heap ++ os).size
    rw [Array.size_append]; omega
  · show (w.heap ++ os)[j]? = w.heap[j]?
    rw [Array.getElem?_append_left hj]
end Go.Proofs.YtcblgbonijloiaaDoor

/- Contract of the program's layer 6: zeroRun. -/
namespace Go.Proofs.YtcblgbonijloiaaDoor
open Go.ChangeShapes Go.WideShapes Go.ChangeAt Go.RowKit
set_option linter.unusedVariables false

/-- Where the run that is left out begins and ends, as the program counts. -/
def runFT (r : Option Nat × Nat) : Nat × Nat := match r.1 with
  | none => (0, 0)
  | some f => (f, f + r.2)
theorem hexL_is0 (n : Nat) : (hexL n == [48]) = decide (n = 0) := by
  by_cases h : n = 0
  · subst h
    rw [hexL]; rfl
  · rw [decide_eq_false h, beq_eq_false_iff_ne]
    intro e
    have h2 := hexGo_hex n
    rw [e] at h2
    have h3 : hexGo 0 [48] = some 0 := by decide
    rw [h3] at h2
    exact h (Option.some.inj h2).symm
theorem zeros_step {l : List Nat} {e : Nat} (h : e < l.length) (h0 : l[e] = 0) : zeros (l.drop e) = zeros (l.drop (e + 1)) + 1 := by
  rw [List.drop_eq_getElem_cons h, h0, zeros]
theorem zeros_stop {l : List Nat} {e : Nat} (h : e < l.length) (h0 : l[e] ≠ 0) : zeros (l.drop e) = 0 := by
  rw [List.drop_eq_getElem_cons h]
  cases hq : l[e] with
  | zero => exact absurd hq h0
  | succ n => rfl
theorem best_hit {l : List Nat} {k q : Nat} {at_ : Option Nat} {most : Nat} (hk : k < l.length) (hz : zeros (l.drop k) = q) (h : most < q) : bestGo (l.drop k) k at_ most = bestGo (l.drop (k + 1)) (k + 1) (some k) q := by
  rw [List.drop_eq_getElem_cons hk] at hz ⊢
  rw [bestGo, hz, if_pos h]
theorem best_miss {l : List Nat} {k q : Nat} {at_ : Option Nat} {most : Nat} (hk : k < l.length) (hz : zeros (l.drop k) = q) (h : ¬ most < q) : bestGo (l.drop k) k at_ most = bestGo (l.drop (k + 1)) (k + 1) at_ most := by
  rw [List.drop_eq_getElem_cons hk] at hz ⊢
  rw [bestGo, hz, if_neg h]
set_option maxHeartbeats 1000000 in
set_option maxRecDepth 20000 in
theorem qzero_any (l : List Nat) (g cap : Nat) (w : World) (hl : l.length ≤ 1000) (hcell : ∀ (i : Nat) (n : Nat), l[i]? = some n → w.cell? ⟨g, i, none⟩ = some (.string (str (hexL n)))) :
    Calls Tryd.prog 73 #[.slice (some ⟨g, 0, none⟩) l.length cap] w fun e w' => e = .returned (.tuple #[.int .i64 ((runFT (best l)).1 : Nat), .int .i64 ((runFT (best l)).2 : Nat)]) ∧ w' = w := by
  obtain ⟨F, hF⟩ : ∃ F, F = (runFT (best l)).1 := ⟨_, rfl⟩
  obtain ⟨T, hT⟩ : ∃ T, T = (runFT (best l)).2 := ⟨_, rfl⟩
  rw [← hF, ← hT]
  have HC := Lib.hid hcell
  have H0 := Lib.hid (show F = (runFT (bestGo (l.drop 0) 0 none 1)).1 ∧ T = (runFT (bestGo (l.drop 0) 0 none 1)).2 from ⟨hF, hT⟩)
  obtain ⟨n, hn⟩ : ∃ n, n = l.length := ⟨_, rfl⟩
  rw [← hn] at hl ⊢
  have HN := Lib.hid hn
  clear hF hT hcell hn
  go_enter Tryd.func73, Tryd.ntmps73
  go_wp2_with fail
  go_loop [2, 3, 8] (fun v2 v3 v8 => ∃ k f t : Nat, ∃ at_ : Option Nat, ∃ most : Nat, k ≤ n ∧ v2 = .int .i64 f ∧ v3 = .int .i64 t ∧ v8 = .int .i64 k ∧ f ≤ t ∧ t ≤ n ∧ Hid (F = (runFT (bestGo (l.drop k) k at_ most)).1 ∧ T = (runFT (bestGo (l.drop k) k at_ most)).2 ∧ (f, t) = runFT (at_, most) ∧ most = max (t - f) 1)) (fun _ _ v8 => n - (intOf v8).toNat)
  case atStart => exact ⟨0, 0, 0, none, 1, Nat.zero_le _, rfl, rfl, rfl, Nat.le_refl _, Nat.zero_le _, Lib.hid ⟨H0.out.1, H0.out.2, rfl, rfl⟩⟩
  case round =>
    clear H0
    obtain ⟨k, f, t, at_, most, hk, rfl, rfl, rfl, hft, htn, HS⟩ := hrel
    obtain ⟨k1, hk1⟩ : ∃ k1, k1 = k + 1 := ⟨_, rfl⟩
    have k1i : (k : Int) + 1 = (k1 : Int) := by omega
    obtain ⟨dd, hdd⟩ : ∃ dd, dd = t - f := ⟨_, rfl⟩
    have hddi : (t : Int) - (f : Int) = (dd : Int) := by omega
    obtain ⟨M, hM⟩ : ∃ M, M = max dd 1 := ⟨_, rfl⟩
    have hMi : max (dd : Int) 1 = (M : Int) := by omega
    by_cases hlt : k < n
    · have dlt : decide ((k : Int) < (n : Int)) = true := by simp; omega
      have hlti : (k : Int) < (n : Int) := by omega
      have HK1 := Lib.hid (show k1 = k + 1 ∧ k1 ≤ n from ⟨hk1, by omega⟩)
      have HM := Lib.hid (show M = most by rw [HS.out.2.2.2, hM, hdd])
      clear hk1 hM hdd
      go_wp2_with fail
      go_loop [5] (fun v5 => ∃ e : Nat, k ≤ e ∧ e ≤ n ∧ v5 = .int .i64 e ∧ Hid (zeros (l.drop k) = (e - k) + zeros (l.drop e))) (fun v5 => n - (intOf v5).toNat)
      case atStart => exact ⟨k, Nat.le_refl _, hk, rfl, Lib.hid (by omega)⟩
      case round =>
        obtain ⟨e, hke, hen, rfl, HZ⟩ := hrel
        obtain ⟨e1, he1⟩ : ∃ e1, e1 = e + 1 := ⟨_, rfl⟩
        have e1i : (e : Int) + 1 = (e1 : Int) := by omega
        by_cases hel : e < n
        · have del : decide ((e : Int) < (n : Int)) = true := by simp; omega
          have heli : (e : Int) < (n : Int) := by omega
          have he0 : (0 : Int) ≤ (e : Int) := by omega
          have hell : e < l.length := by have := HN.out; omega
          have hc := HC.out e l[e] (List.getElem?_eq_getElem hell)
          have hs : ((str (hexL l[e])).toList == [48]) = decide (l[e] = 0) := by
            rw [(ByteArray.toList_eq _).trans (str_toList _)]; exact hexL_is0 _
          by_cases hz : l[e] = 0
          · rw [decide_eq_true hz] at hs
            have HZ2 := Lib.hid (show zeros (l.drop k) = (e1 - k) + zeros (l.drop e1) by rw [HZ.out, zeros_step hell hz, he1]; omega)
            have HE1 := Lib.hid (show e1 = e + 1 ∧ e1 ≤ n from ⟨he1, by omega⟩)
            clear hz he1 HZ
            generalize str (hexL l[e]) = S at *
            go_wp2_with fail
            go_round
            case rel => have := HE1.out; exact ⟨e1, by omega, by omega, by go_num, HZ2⟩
            case measure => have := HE1.out; simp [intOf]; omega
          · rw [decide_eq_false hz] at hs
            have HZ2 := Lib.hid (show zeros (l.drop k) = e - k by rw [HZ.out, zeros_stop hell hz]; omega)
            clear hz HZ
            generalize str (hexL l[e]) = S at *
            obtain ⟨q, hq⟩ : ∃ q, q = e - k := ⟨_, rfl⟩
            have hqi : (e : Int) - (k : Int) = (q : Int) := by omega
            have hkl : k < l.length := by have := HN.out; omega
            have hzq : zeros (l.drop k) = q := by rw [HZ2.out, hq]
            by_cases hM : M < q
            · have dM : decide ((M : Int) < (q : Int)) = true := by rw [decide_eq_true_eq]; omega
              have hb := best_hit (at_ := at_) (most := most) hkl hzq (by rw [← HM.out]; exact hM)
              have HS2 := Lib.hid (show F = (runFT (bestGo (l.drop k1) k1 (some k) q)).1 ∧ T = (runFT (bestGo (l.drop k1) k1 (some k) q)).2 ∧ (k, e) = runFT (some k, q) ∧ q = max (e - k) 1 by
                rw [HK1.out.1, ← hb]
                exact ⟨HS.out.1, HS.out.2.1, by show (k, e) = (k, k + q); rw [show k + q = e by omega], by have := HM.out; have := HS.out.2.2.2; omega⟩)
              clear hq hb hzq HS HZ2 he1
              go_wp2_with fail
              exact ⟨⟨k1, k, e, some k, q, HK1.out.2, rfl, rfl, rfl, hke, hen, HS2⟩, by have := HK1.out; simp [intOf]; omega⟩
            · have dM : decide ((M : Int) < (q : Int)) = false := by rw [decide_eq_false_iff_not]; omega
              have hb := best_miss (at_ := at_) (most := most) hkl hzq (by rw [← HM.out]; exact hM)
              have HS2 := Lib.hid (show F = (runFT (bestGo (l.drop k1) k1 at_ most)).1 ∧ T = (runFT (bestGo (l.drop k1) k1 at_ most)).2 ∧ (f, t) = runFT (at_, most) ∧ most = max (t - f) 1 by
                rw [HK1.out.1, ← hb]
                exact HS.out)
              clear hq hb hzq HS HZ2 he1
              go_wp2_with fail
              exact ⟨⟨k1, f, t, at_, most, HK1.out.2, rfl, rfl, rfl, hft, htn, HS2⟩, by have := HK1.out; simp [intOf]; omega⟩
        · obtain rfl : e = n := by omega
          have del : decide ((e : Int) < (e : Int)) = false := by simp
          have HZ2 := Lib.hid (show zeros (l.drop k) = e - k by rw [HZ.out, List.drop_of_length_le (l := l) (by have := HN.out; omega)]; rfl)
          clear HZ
          obtain ⟨q, hq⟩ : ∃ q, q = e - k := ⟨_, rfl⟩
          have hqi : (e : Int) - (k : Int) = (q : Int) := by omega
          have hkl : k < l.length := by have := HN.out; omega
          have hzq : zeros (l.drop k) = q := by rw [HZ2.out, hq]
          by_cases hM : M < q
          · have dM : decide ((M : Int) < (q : Int)) = true := by rw [decide_eq_true_eq]; omega
            have hb := best_hit (at_ := at_) (most := most) hkl hzq (by rw [← HM.out]; exact hM)
            have HS2 := Lib.hid (show F = (runFT (bestGo (l.drop k1) k1 (some k) q)).1 ∧ T = (runFT (bestGo (l.drop k1) k1 (some k) q)).2 ∧ (k, e) = runFT (some k, q) ∧ q = max (e - k) 1 by
              rw [HK1.out.1, ← hb]
              exact ⟨HS.out.1, HS.out.2.1, by show (k, e) = (k, k + q); rw [show k + q = e by omega], by have := HM.out; have := HS.out.2.2.2; omega⟩)
            clear hq hb hzq HS HZ2 he1
            go_wp2_with fail
            exact ⟨⟨k1, k, e, some k, q, HK1.out.2, rfl, rfl, rfl, hke, hen, HS2⟩, by have := HK1.out; simp [intOf]; omega⟩
          · have dM : decide ((M : Int) < (q : Int)) = false := by rw [decide_eq_false_iff_not]; omega
            have hb := best_miss (at_ := at_) (most := most) hkl hzq (by rw [← HM.out]; exact hM)
            have HS2 := Lib.hid (show F = (runFT (bestGo (l.drop k1) k1 at_ most)).1 ∧ T = (runFT (bestGo (l.drop k1) k1 at_ most)).2 ∧ (f, t) = runFT (at_, most) ∧ most = max (t - f) 1 by
              rw [HK1.out.1, ← hb]
              exact HS.out)
            clear hq hb hzq HS HZ2 he1
            go_wp2_with fail
            exact ⟨⟨k1, f, t, at_, most, HK1.out.2, rfl, rfl, rfl, hft, htn, HS2⟩, by have := HK1.out; simp [intOf]; omega⟩
    · obtain rfl : k = n := by omega
      have dlt : decide ((k : Int) < (k : Int)) = false := by simp
      have hs := HS.out
      rw [List.drop_of_length_le (by have := HN.out; omega)] at hs
      obtain ⟨s1, s2, s3, s4⟩ := hs
      have e1 : F = (runFT (at_, most)).1 := s1
      have e2 : T = (runFT (at_, most)).2 := s2
      rw [← s3] at e1 e2
      have HF := Lib.hid (show f = F ∧ t = T from ⟨e1.symm, e2.symm⟩)
      clear s1 s2 s3 s4 e1 e2 HS hM hMi hdd hk1
      go_wp2_with fail
      go_ret2
      exact ⟨by rw [← HF.out.1, ← HF.out.2]; rfl, rfl⟩
end Go.Proofs.YtcblgbonijloiaaDoor

/- Contract of the program's layer 6: groupBytes. -/
namespace Go.Proofs.YtcblgbonijloiaaDoor
open Go.ChangeShapes Go.WideShapes Go.ChangeAt Go.RowKit
set_option linter.unusedVariables false

/-- The bytes of groups. -/
def gbytes : List Nat → By
  | [] => []
  | n :: r => UInt8.ofNat (n / 256) :: UInt8.ofNat (n % 256) :: gbytes r
theorem gbytes_length : ∀ l : List Nat, (gbytes l).length = 2 * l.length
  | [] => rfl
  | n :: r => by rw [gbytes, List.length_cons, List.length_cons, gbytes_length r, List.length_cons]; omega
theorem gbytes_append : ∀ (a b : List Nat), gbytes (a ++ b) = gbytes a ++ gbytes b
  | [], b => rfl
  | n :: r, b => by rw [List.cons_append, gbytes, gbytes, gbytes_append r b]; rfl
def gbRes : Option (List Nat) → Value
  | some l => .tuple #[.string (str (gbytes l)), .bool true]
  | none => .tuple #[.string ⟨#[]⟩, .bool false]
theorem grpAll_some {p : By} {r : List By} {n : Nat} (h : grpS p = some n) (out : List Nat) : (grpAll (p :: r)).map (out ++ ·) = (grpAll r).map ((out ++ [n]) ++ ·) := by
  rw [grpAll, h]
  cases grpAll r <;> simp
theorem grpAll_none {p : By} {r : List By} (h : grpS p = none) : grpAll (p :: r) = none := by rw [grpAll, h]
set_option maxHeartbeats 1000000 in
set_option maxRecDepth 20000 in
theorem qgroups_any (s : ByteArray) (w : World) (hs : s.size ≤ 1000) (ht : TW w) :
    Calls Tryd.prog 64 #[.string s] w fun e w' => e = .returned (gbRes (groupsS s.data.toList)) ∧ Below w.heap.size w w' := by
  have hlen := toList_length6 s
  by_cases h0 : s.data.toList = []
  · have em : s.toList.isEmpty = true := by rw [isEmpty6, h0]; rfl
    have HR := Lib.hid (show groupsS s.data.toList = some [] by rw [groupsS, if_pos h0])
    have HB := Lib.hid (Below.refl w.heap.size w)
    generalize groupsS s.data.toList = R at *
    clear hlen
    go_enter Tryd.func64, Tryd.ntmps64
    go_wp2_with fail
    go_ret2
    exact ⟨by rw [HR.out]; rfl, HB.out⟩
  have em : s.toList.isEmpty = false := by
    rw [isEmpty6]
    cases hc : s.data.toList with
    | nil => exact absurd hc h0
    | cons => rfl
  obtain ⟨R, hR⟩ : ∃ R, R = groupsS s.data.toList := ⟨_, rfl⟩
  rw [← hR]
  rw [groupsS, if_neg h0] at hR
  have HSP := Lib.hid (psplit6 s 58 w hs ht)
  have HPL := Lib.hid (fun (p : By) (h : p ∈ splitL 58 s.data.toList) => (split_len h : p.length ≤ s.data.toList.length))
  have hcn := split_count 58 s.data.toList
  rw [hlen] at HPL hcn
  obtain ⟨L, hL⟩ : ∃ L, L = splitL 58 s.data.toList := ⟨_, rfl⟩
  rw [← hL] at HSP HPL hcn hR
  have HRR := Lib.hid (show (grpAll (L.drop 0)).map ([] ++ ·) = R by rw [hR, List.drop_zero]; cases grpAll L <;> simp)
  obtain ⟨i0, hinf, hz0, hz1, hz2⟩ := info_parts info5
  clear hR hL hlen h0 ht
  go_enter Tryd.func64, Tryd.ntmps64
  go_wp2_with fail
  refine HSP.out.mono ?_
  rintro e w1 ⟨rfl, hgl, hcell, hb⟩
  obtain ⟨g, hg⟩ : ∃ g, g = w.heap.size := ⟨_, rfl⟩
  have HC := Lib.hid (show ∀ (i : Nat) (p : By), L[i]? = some p → w1.cell? ⟨g, i, none⟩ = some (.string (str p)) from by rw [hg]; exact hcell)
  have hgl1 : g < w1.heap.size := by rw [hg]; exact hgl
  rw [← hg]
  have HB1 := Lib.hid hb
  have HBr := Lib.hid (Below.refl w1.heap.size w1)
  have HO0 := Lib.hid (show w1.ownsRow w1.heap.size 5 1 (.slice none (gbytes []).length 0) (gbytes []).length (cellsOf (gbytes [])) from World.ownsRow_nil w1 w1.heap.size 5 1)
  obtain ⟨n, hn⟩ : ∃ n, n = L.length := ⟨_, rfl⟩
  rw [← hn] at hcn ⊢
  have HN := Lib.hid hn
  have hn0 := hcn.1
  have hn1 := hcn.2
  clear hb hcell hcn hn HSP hgl hg
  go_wp2_with fail
  go_loopw [4, 14] (fun v4 v14 wr => ∃ k cap' : Nat, ∃ A' : Option Addr, ∃ out : List Nat, ∃ M : By, v4 = .slice A' M.length cap' ∧ v14 = .int .i64 k ∧ k ≤ n ∧ Hid (M = gbytes out) ∧ M.length ≤ 2 * k ∧ Hid ((grpAll (L.drop k)).map (out ++ ·) = R) ∧ Hid (Below w1.heap.size w1 wr) ∧ Hid (wr.ownsRow w1.heap.size 5 1 (.slice A' M.length cap') M.length (cellsOf M))) (fun _ v14 _ => n - (intOf v14).toNat)
  case atStart => exact ⟨0, 0, none, [], gbytes [], rfl, rfl, Nat.zero_le _, Lib.hid rfl, Nat.zero_le _, HRR, HBr, HO0⟩
  case round =>
    clear HRR HBr HO0
    obtain ⟨k, cap', A', out, M, rfl, rfl, hk, HM, hol, HQ, HB, HO⟩ := hrel
    obtain ⟨k1, hk1⟩ : ∃ k1, k1 = k + 1 := ⟨_, rfl⟩
    have k1i : (k : Int) + 1 = (k1 : Int) := by omega
    have hsz := HB.out.size
    by_cases hlt : k < n
    · have dlt : decide ((k : Int) < (n : Int)) = true := by simp; omega
      have hlti : (k : Int) < (n : Int) := by omega
      have hki0 : (0 : Int) ≤ (k : Int) := by omega
      have hkl : k < L.length := by have := HN.out; omega
      have k1n : k1 ≤ n := by omega
      obtain ⟨p, hp⟩ : ∃ p, p = L[k] := ⟨_, rfl⟩
      have hdrop : L.drop k = p :: L.drop k1 := by rw [List.drop_eq_getElem_cons hkl, hp, hk1]
      have hpl : (str p).size ≤ 1000 := by
        rw [str_size]
        have := HPL.out p (by rw [hp]; exact List.getElem_mem hkl)
        omega
      have hcell : wr.cell? ⟨g, k, none⟩ = some (.string (str p)) := by
        rw [World.cell?_of_block (w := w1) (w' := wr) (a := ⟨g, k, none⟩) (HB.out.block g hgl1)]
        exact HC.out k p (by rw [List.getElem?_eq_getElem hkl, hp])
      have HG := Lib.hid (fun W => qvalue_any (str p) 16 W hpl (by omega) (by omega))
      rw [str_toList] at HG
      have hq := HQ.out
      rw [hdrop] at hq
      have hgv := grpS_val p
      have hpz : (str p).size = p.length := str_size p
      rw [← hpz] at hgv
      cases hv : valS 16 p with
      | none =>
        rw [hv] at hgv HG
        have hgn : grpS p = none := by rw [hgv]; split <;> rfl
        rw [grpAll_none hgn] at hq
        have HE := Lib.hid (show R = none from hq.symm)
        have HBB := Lib.hid (HB1.out.trans (HB.out.mono HB1.out.size))
        simp only [vRes] at HG
        clear hq hp hdrop hpl hk1 HQ hgv hgn hpz hv
        generalize str p = S at *
        go_wp2_with fail
        refine (HG.out _).mono ?_
        rintro e w2 ⟨rfl, rfl⟩
        go_wp2_with fail
        go_ret2
        exact ⟨by rw [HE.out]; rfl, HBB.out⟩
      | some m =>
        rw [hv] at hgv HG
        simp only [vRes] at HG
        by_cases h4 : 4 < (str p).size
        · rw [if_pos h4] at hgv
          rw [grpAll_none hgv] at hq
          have HE := Lib.hid (show R = none from hq.symm)
          have HBB := Lib.hid (HB1.out.trans (HB.out.mono HB1.out.size))
          have d4 : decide ((4 : Int) < ((str p).size : Int)) = true := by rw [decide_eq_true_eq]; omega
          clear hq hp hdrop hk1 HQ hgv hpz hv
          generalize str p = S at *
          go_wp2_with fail
          refine (HG.out _).mono ?_
          rintro e w2 ⟨rfl, rfl⟩
          go_wp2_with fail
          go_ret2
          exact ⟨by rw [HE.out]; rfl, HBB.out⟩
        · rw [if_neg h4] at hgv
          rw [grpAll_some hgv] at hq
          have HQ2 := Lib.hid hq
          have d4 : decide ((4 : Int) < ((str p).size : Int)) = false := by rw [decide_eq_false_iff_not]; omega
          obtain ⟨q, hqq⟩ : ∃ q, q = m / 256 := ⟨_, rfl⟩
          have hqi : (m : Int) / 256 = (q : Int) := by omega
          obtain ⟨X, hX⟩ : ∃ X : Nat, X = (UInt8.ofNat (m / 256)).toNat := ⟨_, rfl⟩
          obtain ⟨Y, hY⟩ : ∃ Y : Nat, Y = (UInt8.ofNat (m % 256)).toNat := ⟨_, rfl⟩
          have hXi : (q : Int) % 256 = (X : Int) := by rw [hX, UInt8.toNat_ofNat', hqq]; simp
          have hYi : (m : Int) % 256 = (Y : Int) := by rw [hY, UInt8.toNat_ofNat']; simp
          have hmb : m ≤ 65536 := by
            unfold valS at hv
            split at hv
            · cases hv
            · exact valGo_le 16 p 0 m (by omega) hv
          have hM2 : M ++ [UInt8.ofNat (m / 256), UInt8.ofNat (m % 256)] = gbytes (out ++ [m]) := by
            rw [gbytes_append, ← HM.out]; rfl
          obtain ⟨M2, hM2e⟩ : ∃ M2, M2 = M ++ [UInt8.ofNat (m / 256), UInt8.ofNat (m % 256)] := ⟨_, rfl⟩
          have HM2 := Lib.hid (show M2 = gbytes (out ++ [m]) by rw [hM2e, hM2])
          have HSN := Lib.hid (show cellsOf M ++ [.int .u8 X, .int .u8 Y] = cellsOf M2 by rw [hM2e, hX, hY]; simp [cellsOf])
          have hMl : M.length + 2 = M2.length := by rw [hM2e]; simp
          have hMk : M2.length ≤ 2 * k1 := by omega
          have hMb : M.length ≤ 3000 := by omega
          have HB2 := Lib.hid (HB.out.alloc hsz (.cells #[.int .u8 X, .int .u8 Y] 5))
          have HK1 := Lib.hid hk1
          clear hq hp hdrop hk1 HQ hgv hpz hv hqq hX hY hM2 hM2e
          generalize str p = S at *
          go_wp2_with fail
          refine (HG.out _).mono ?_
          rintro e w2 ⟨rfl, hw⟩
          have hw' := hw.symm
          subst hw'
          clear hw
          go_wp2_with (at_builtin; refine wpList_append_lies _ rfl _ _ 71 rfl w1.heap.size 5 i0 (.int .u8 0) 1 1 Tryd.underlying71 hinf hz0 hz1 hz2 rfl (by omega) _ M.length (cellsOf M) rfl (HO.out.alloc _) ⟨wr.heap.size, 0, none⟩ 2 2 [.int .u8 X, .int .u8 Y] rfl rfl ?c1 ?c2 (by omega) ?c3 ?c4 ?c5 _ rfl ?_)
          case c1 => exact World.news_of_block (cs := #[.int .u8 X, .int .u8 Y]) (t := 5) (fr := (0, 0)) (heap_alloc_new wr _)
          case c2 => simp [Value.oneCell']
          case c3 => unfold maxLen; omega
          case c4 => omega
          case c5 => simp; omega
          intro g2 cap2 w3 hown3 hgrow hat hlt2
          have hB3 := HB2.out.grown hgrow (by simp; omega) (fun j hj => (HO.out.lt j hj).1)
          rw [HSN.out] at hown3
          try rw [hMl] at hown3
          try rw [hMl]
          have HB3 := Lib.hid hB3
          have HO3 := Lib.hid hown3
          clear hB3 hown3 hgrow hat hlt2 HB HO HB2 hMl
          go_wp2_with fail
          go_roundw
          case rel => exact ⟨k1, cap2, some ⟨g2, 0, none⟩, out ++ [m], M2, rfl, by go_num, k1n, HM2, hMk, HQ2, HB3, HO3⟩
          case measure => have := HK1.out; simp [intOf]; omega
    · have dlt : decide ((k : Int) < (n : Int)) = false := by simp; omega
      have nlt : ¬ (k : Int) < (n : Int) := by omega
      have hq := HQ.out
      rw [List.drop_of_length_le (by have := HN.out; omega), grpAll] at hq
      have e : R = some out := by rw [← hq]; simp
      have HE := Lib.hid e
      have hcv := bs_string (bs_of_own HO.out)
      have HF := Lib.hid (show str M = str (gbytes out) by rw [HM.out])
      clear hq e HQ hk1 HM
      generalize str M = S at *
      go_wp2_with fail
      go_ret2
      exact ⟨by rw [HE.out]; show _ = Ending.returned (.tuple #[.string (str (gbytes out)), .bool true]); rw [← HF.out]; rfl, HB1.out.trans (HB.out.mono HB1.out.size)⟩
end Go.Proofs.YtcblgbonijloiaaDoor

/- Contract of the program's layer 6: parse4. -/
namespace Go.Proofs.YtcblgbonijloiaaDoor
open Go.ChangeShapes Go.WideShapes Go.ChangeAt Go.RowKit
set_option linter.unusedVariables false

/-- An address, or ErrFormat. -/
def adRes : Option (Bool × Nat × Nat) → Value
  | some (v6, hi, lo) => .tuple #[.agg #[.bool v6, .int .u64 hi, .int .u64 lo], .int .i64 0]
  | none => .tuple #[.agg #[.bool false, .int .u64 0, .int .u64 0], .int .i64 2]
def bytesN (l : List Nat) : By := l.map UInt8.ofNat
theorem num_from : ∀ (l : List Nat) (a : Nat), (∀ n ∈ l, n < 256) → (bytesN l).foldl (fun a c => a * 256 + c.toNat) a = l.foldl (fun n d => n * 256 + d) a
  | [], a, _ => rfl
  | n :: r, a, h => by
    have hn := h n (by simp)
    show (bytesN r).foldl _ (a * 256 + (UInt8.ofNat n).toNat) = r.foldl _ (a * 256 + n)
    rw [num_from r _ (fun m hm => h m (by simp [hm])), UInt8.toNat_ofNat', Nat.mod_eq_of_lt hn]
theorem num_bytesN {l : List Nat} (h : ∀ n ∈ l, n < 256) : num (bytesN l) = ofDigits 256 l := num_from l 0 h
theorem decAll_some {p : By} {r : List By} {n : Nat} (h : decV p = some n) (hn : n ≤ 255) (out : List Nat) : (decAll (p :: r)).map (out ++ ·) = (decAll r).map ((out ++ [n]) ++ ·) := by
  have hd := decS_decV (most := 255) (by omega) p
  rw [h] at hd
  have hd2 : decS 255 p = (n : Int) := by rw [hd]; show (if 255 < n then (-2 : Int) else n) = n; rw [if_neg (by omega)]
  rw [decAll, hd2]
  show ((decAll r).map (n :: ·)).map _ = _
  cases decAll r <;> simp
theorem decAll_none {p : By} {r : List By} (h : decV p = none) : decAll (p :: r) = none := by
  have hd := decS_decV (most := 255) (by omega) p
  rw [h] at hd
  have hd2 : decS 255 p = -1 := hd
  rw [decAll, hd2]
  rfl
theorem decAll_big {p : By} {r : List By} {n : Nat} (h : decV p = some n) (hn : 255 < n) : decAll (p :: r) = none := by
  have hd := decS_decV (most := 255) (by omega) p
  rw [h] at hd
  have hd2 : decS 255 p = -2 := by rw [hd]; show (if 255 < n then (-2 : Int) else n) = -2; rw [if_pos hn]
  rw [decAll, hd2]
  rfl
set_option maxHeartbeats 1000000 in
set_option maxRecDepth 20000 in
theorem qparse4_any (s : ByteArray) (w : World) (hs : s.size ≤ 1000) (ht : TW w) :
    Calls Tryd.prog 41 #[.string s] w fun e w' => e = .returned (adRes ((parse4 s.data.toList).map fun l => (false, 0, ofDigits 256 l))) ∧ Below w.heap.size w w' := by
  have hlen := toList_length6 s
  obtain ⟨R, hR⟩ : ∃ R, R = parse4 s.data.toList := ⟨_, rfl⟩
  rw [← hR]
  unfold parse4 at hR
  have hcn := split_count 46 s.data.toList
  have HPL := Lib.hid (fun (p : By) (h : p ∈ splitL 46 s.data.toList) => (split_len h : p.length ≤ s.data.toList.length))
  obtain ⟨W0, hW0⟩ : ∃ W0, W0 = w.alloc (.cells #[.bool false, .int .u64 0, .int .u64 0] 25) := ⟨_, rfl⟩
  have HB0 := Lib.hid (show Below w.heap.size w W0 by rw [hW0]; exact below_alloc6 w _)
  have HX0 := Lib.hid (show AB W0 w.heap.size false 0 0 by rw [hW0]; exact ab_new w false 0 0)
  have HSP := Lib.hid (psplit6 s 46 W0 hs (ht.kept (by rw [hW0]; exact below_alloc6 w _)))
  rw [hlen] at HPL hcn
  obtain ⟨L, hL⟩ : ∃ L, L = splitL 46 s.data.toList := ⟨_, rfl⟩
  rw [← hL] at HSP HPL hcn hR
  obtain ⟨i0, hinf, hz0, hz1, hz2⟩ := info_parts info5
  have HRR := Lib.hid (show (decAll (L.drop 0)).map ([] ++ ·) = decAll L by rw [List.drop_zero]; cases decAll L <;> simp)
  have HDA := Lib.hid hR
  clear hR hL hlen ht
  go_enter Tryd.func41, Tryd.ntmps41
  go_wp2_with fail
  rw [← hW0]
  refine HSP.out.mono ?_
  rintro e w1 ⟨rfl, hgl, hcell, hb⟩
  obtain ⟨g, hg⟩ : ∃ g, g = W0.heap.size := ⟨_, rfl⟩
  have HC := Lib.hid (show ∀ (i : Nat) (p : By), L[i]? = some p → w1.cell? ⟨g, i, none⟩ = some (.string (str p)) from by rw [hg]; exact hcell)
  have hgl1 : g < w1.heap.size := by rw [hg]; exact hgl
  rw [← hg]
  have HB1 := Lib.hid (HB0.out.trans (hb.mono HB0.out.size))
  have HX1 := Lib.hid (HX0.out.kept hb HX0.out.lt)
  have HBr := Lib.hid (Below.refl w1.heap.size w1)
  have HO0 := Lib.hid (show w1.ownsRow w1.heap.size 5 1 (.slice none (bytesN []).length 0) (bytesN []).length (cellsOf (bytesN [])) from World.ownsRow_nil w1 w1.heap.size 5 1)
  obtain ⟨n, hn⟩ : ∃ n, n = L.length := ⟨_, rfl⟩
  rw [← hn] at hcn ⊢
  have HN := Lib.hid hn
  have hn0 := hcn.1
  have hn1 := hcn.2
  clear hb hcell hcn hn HSP hgl hg HB0 HX0 hW0
  go_wp2_with fail
  go_loopw [4, 12] (fun v4 v12 wr => ∃ k cap' : Nat, ∃ A' : Option Addr, ∃ out : List Nat, ∃ M : By, v4 = .slice A' M.length cap' ∧ v12 = .int .i64 k ∧ k ≤ n ∧ Hid (M = bytesN out ∧ ∀ m ∈ out, m < 256) ∧ Hid (M.length = k) ∧ Hid ((decAll (L.drop k)).map (out ++ ·) = decAll L) ∧ Hid (Below w1.heap.size w1 wr) ∧ Hid (wr.ownsRow w1.heap.size 5 1 (.slice A' M.length cap') M.length (cellsOf M))) (fun _ v12 _ => n - (intOf v12).toNat)
  case atStart => exact ⟨0, 0, none, [], bytesN [], rfl, rfl, Nat.zero_le _, Lib.hid ⟨rfl, by simp⟩, Lib.hid rfl, HRR, HBr, HO0⟩
  case round =>
    clear HRR HBr HO0
    obtain ⟨k, cap', A', out, M, rfl, rfl, hk, HM, HOL, HQ, HB, HO⟩ := hrel
    obtain ⟨k1, hk1⟩ : ∃ k1, k1 = k + 1 := ⟨_, rfl⟩
    have k1i : (k : Int) + 1 = (k1 : Int) := by omega
    have hsz := HB.out.size
    have HX := Lib.hid (HX1.out.kept HB.out HX1.out.lt)
    have x0 := HX.out.c0
    have x1 := HX.out.c1
    have x2 := HX.out.c2
    have xf0 := HX.out.f 0
    have xf1 := HX.out.f 1
    have xf2 := HX.out.f 2
    have HBB := Lib.hid (HB1.out.trans (HB.out.mono HB1.out.size))
    by_cases hlt : k < n
    · have dlt : decide ((k : Int) < (n : Int)) = true := by simp; omega
      have hlti : (k : Int) < (n : Int) := by omega
      have hki0 : (0 : Int) ≤ (k : Int) := by omega
      have hkl : k < L.length := by have := HN.out; omega
      have k1n : k1 ≤ n := by omega
      obtain ⟨p, hp⟩ : ∃ p, p = L[k] := ⟨_, rfl⟩
      have hdrop : L.drop k = p :: L.drop k1 := by rw [List.drop_eq_getElem_cons hkl, hp, hk1]
      have hpl : (str p).size ≤ 1000 := by
        rw [str_size]
        have := HPL.out p (by rw [hp]; exact List.getElem_mem hkl)
        omega
      have hcell : wr.cell? ⟨g, k, none⟩ = some (.string (str p)) := by
        rw [World.cell?_of_block (w := w1) (w' := wr) (a := ⟨g, k, none⟩) (HB.out.block g hgl1)]
        exact HC.out k p (by rw [List.getElem?_eq_getElem hkl, hp])
      have HG := Lib.hid (fun W => qdecimal_any (str p) W hpl)
      rw [str_toList] at HG
      have hq := HQ.out
      rw [hdrop] at hq
      cases hv : decV p with
      | none =>
        rw [hv] at HG
        rw [decAll_none hv] at hq
        have HE := Lib.hid (show R = none from by
          have e : decAll L = none := hq.symm
          rw [HDA.out, e]; split <;> rfl)
        simp only [vRes] at HG
        clear hq hp hdrop hpl hk1 HQ hv HB HO
        generalize str p = S at *
        go_wp2_with fail
        refine (HG.out _).mono ?_
        rintro e w2 ⟨rfl, hw⟩
        have hw' := hw.symm
        subst hw'
        clear hw
        go_wp2_with fail
        change bodyPost _ _ _ _ _ (aset wr w.heap.size false 0 0)
        exact bodyPost_ret (res_addr2 rfl _ _ rfl (HX.out.set false 0 0)) rfl ⟨by rw [HE.out]; rfl, aset_below HBB.out (Nat.le_refl _) false 0 0⟩
      | some m =>
        rw [hv] at HG
        simp only [vRes] at HG
        by_cases h4 : 255 < m
        · rw [decAll_big hv h4] at hq
          have HE := Lib.hid (show R = none from by
            have e : decAll L = none := hq.symm
            rw [HDA.out, e]; split <;> rfl)
          have d4 : decide ((255 : Int) < (m : Int)) = true := by rw [decide_eq_true_eq]; omega
          clear hq hp hdrop hpl hk1 HQ hv HB HO
          generalize str p = S at *
          go_wp2_with fail
          refine (HG.out _).mono ?_
          rintro e w2 ⟨rfl, hw⟩
          have hw' := hw.symm
          subst hw'
          clear hw
          go_wp2_with fail
          change bodyPost _ _ _ _ _ (aset wr w.heap.size false 0 0)
          exact bodyPost_ret (res_addr2 rfl _ _ rfl (HX.out.set false 0 0)) rfl ⟨by rw [HE.out]; rfl, aset_below HBB.out (Nat.le_refl _) false 0 0⟩
        · rw [decAll_some hv (by omega)] at hq
          have HQ2 := Lib.hid hq
          have d4 : decide ((255 : Int) < (m : Int)) = false := by rw [decide_eq_false_iff_not]; omega
          have hm255 : m ≤ 255 := by omega
          obtain ⟨Y, hY⟩ : ∃ Y : Nat, Y = (UInt8.ofNat m).toNat := ⟨_, rfl⟩
          have hYm : Y = m := by rw [hY, UInt8.toNat_ofNat']; omega
          obtain ⟨M2, hM2e⟩ : ∃ M2, M2 = M ++ [UInt8.ofNat m] := ⟨_, rfl⟩
          have HM2 := Lib.hid (show M2 = bytesN (out ++ [m]) ∧ ∀ x ∈ out ++ [m], x < 256 from ⟨by rw [hM2e, HM.out.1]; simp [bytesN], fun x hx => by
            rcases List.mem_append.1 hx with h | h
            · exact HM.out.2 x h
            · rw [List.mem_singleton] at h; omega⟩)
          have HSN := Lib.hid (show cellsOf M ++ [.int .u8 m] = cellsOf M2 by rw [hM2e, ← hYm, hY]; simp [cellsOf])
          have hMl : M.length + 1 = M2.length := by rw [hM2e]; simp
          have hMk := Lib.hid (show M2.length = k1 by have := HOL.out; omega)
          have hMb : M.length ≤ 3000 := by have := HOL.out; omega
          have HB2 := Lib.hid (HB.out.alloc hsz (.cells #[.int .u8 m] 5))
          have HK1 := Lib.hid hk1
          clear hq hp hdrop hk1 HQ hv hY hYm hM2e HBB
          generalize str p = S at *
          go_wp2_with fail
          refine (HG.out _).mono ?_
          rintro e w2 ⟨rfl, hw⟩
          have hw' := hw.symm
          subst hw'
          clear hw
          go_wp2_with (at_builtin; refine wpList_append_lies _ rfl _ _ 71 rfl w1.heap.size 5 i0 (.int .u8 0) 1 1 Tryd.underlying71 hinf hz0 hz1 hz2 rfl (by omega) _ M.length (cellsOf M) rfl (HO.out.alloc _) ⟨wr.heap.size, 0, none⟩ 1 1 [.int .u8 m] rfl rfl ?c1 ?c2 (by omega) ?c3 ?c4 ?c5 _ rfl ?_)
          case c1 => exact World.news_of_block (cs := #[.int .u8 m]) (t := 5) (fr := (0, 0)) (heap_alloc_new wr _)
          case c2 => simp [Value.oneCell']
          case c3 => unfold maxLen; omega
          case c4 => omega
          case c5 => simp; omega
          intro g2 cap2 w3 hown3 hgrow hat hlt2
          have hB3 := HB2.out.grown hgrow (by simp; omega) (fun j hj => (HO.out.lt j hj).1)
          rw [HSN.out] at hown3
          try rw [hMl] at hown3
          try rw [hMl]
          have HB3 := Lib.hid hB3
          have HO3 := Lib.hid hown3
          clear hB3 hown3 hgrow hat hlt2 HB HO HB2 hMl
          go_wp2_with fail
          go_roundw
          case rel => exact ⟨k1, cap2, some ⟨g2, 0, none⟩, out ++ [m], M2, rfl, by go_num, k1n, HM2, hMk, HQ2, HB3, HO3⟩
          case measure => have := HK1.out; simp [intOf]; omega
    · have dlt : decide ((k : Int) < (n : Int)) = false := by simp; omega
      have nlt : ¬ (k : Int) < (n : Int) := by omega
      have hq := HQ.out
      rw [List.drop_of_length_le (by have := HN.out; omega), decAll] at hq
      have e : decAll L = some out := by rw [← hq]; simp
      have hcv := bs_string (bs_of_own HO.out)
      have hml : M.length = n := by have := HOL.out; omega
      by_cases h4 : n = 4
      · have HE := Lib.hid (show R.map (fun l => (false, 0, ofDigits 256 l)) = some (false, 0, num M) by
          rw [HDA.out, if_pos (by have := HN.out; omega), e, HM.out.1, num_bytesN HM.out.2]; rfl)
        have hf := fun W => qfrom_any (str M) W (by rw [str_size]; omega)
        have hfr : fbRes M = .tuple #[.agg #[.bool false, .int .u64 0, .int .u64 (num M : Nat)], .int .i64 0] := by unfold fbRes; rw [if_pos (by omega)]
        rw [str_toList, hfr] at hf
        have HF := Lib.hid hf
        have dm : ((M.length : Int) != 4) = false := by rw [show M.length = 4 by omega]; rfl
        have dm2 : ((M.length : Int) == 4) = true := by rw [show M.length = 4 by omega]; rfl
        have ml4 : M.length = 4 := by omega
        rw [ml4] at hcv
        clear hq e HQ hk1 HM hf hfr hml h4 hk
        generalize num M = lo at *
        generalize str M = S at *
        go_wp2_with fail
        refine (HF.out _).mono ?_
        rintro e w5 ⟨rfl, hb5⟩
        have HX5 := Lib.hid (HX.out.kept hb5 HX.out.lt)
        have HB5 := Lib.hid (HBB.out.trans (hb5.mono HBB.out.size))
        clear hb5 x0 x1 x2 xf0 xf1 xf2 HX HBB
        have x0 := HX5.out.c0
        have x1 := HX5.out.c1
        have x2 := HX5.out.c2
        have xf0 := HX5.out.f 0
        have xf1 := HX5.out.f 1
        have xf2 := HX5.out.f 2
        go_wp2_with fail
        change bodyPost _ _ _ _ _ (aset w5 w.heap.size false 0 lo)
        exact bodyPost_ret (res_addr2 rfl _ _ rfl (HX5.out.set false 0 lo)) rfl ⟨by rw [HE.out]; rfl, aset_below HB5.out (Nat.le_refl _) false 0 lo⟩
      · have HE := Lib.hid (show R = none by rw [HDA.out, if_neg (by have := HN.out; omega)])
        have dm : ((M.length : Int) != 4) = true := by rw [bne_iff_ne]; omega
        have dm2 : ((M.length : Int) == 4) = false := by rw [beq_eq_false_iff_ne]; omega
        have ml4 : ¬ (M.length : Int) = 4 := by omega
        have ml5 : ¬ M.length = 4 := by omega
        clear hq e HQ hk1 HM hml
        go_wp2_with fail
        change bodyPost _ _ _ _ _ (aset wr w.heap.size false 0 0)
        exact bodyPost_ret (res_addr2 rfl _ _ rfl (HX.out.set false 0 0)) rfl ⟨by rw [HE.out]; rfl, aset_below HBB.out (Nat.le_refl _) false 0 0⟩
end Go.Proofs.YtcblgbonijloiaaDoor

/- Plain mathematics of parse6: the sixteen bytes of a text. -/
namespace Go.Proofs.YtcblgbonijloiaaDoor
set_option linter.unusedVariables false

theorem grp_lt {p : By} {n : Nat} (h : grpS p = some n) : n < 65536 := by
  unfold grpS at h
  split at h
  · cases h
  · have key : ∀ (s : By) (a j m : Nat), a < 16 ^ j → hexGo a s = some m → m < 16 ^ (j + s.length) := by
      intro s
      induction s with
      | nil => intro a j m ha e; rw [hexGo] at e; obtain rfl := Option.some.inj e; exact ha
      | cons c r ih =>
        intro a j m ha e
        rw [hexGo, dgN_hex] at e
        split at e
        · rename_i d hd
          have hd2 : d < 16 := by
            split at hd
            · obtain rfl := Option.some.inj hd; assumption
            · cases hd
          have := ih (16 * a + d) (j + 1) m (by rw [Nat.pow_succ]; omega) e
          rw [List.length_cons, show j + (r.length + 1) = j + 1 + r.length by omega]
          exact this
        · cases e
    have h1 := key p 0 0 n (by decide) h
    have h2 : 16 ^ (0 + p.length) ≤ 16 ^ 4 := Nat.pow_le_pow_right (by omega) (by omega)
    have h4 : (16 : Nat) ^ 4 = 65536 := by decide
    omega
theorem grpAll_lt : ∀ (l : List By) (x : List Nat), grpAll l = some x → ∀ n ∈ x, n < 65536
  | [], x, h, n, hn => by rw [grpAll] at h; obtain rfl := Option.some.inj h; simp at hn
  | p :: r, x, h, n, hn => by
    rw [grpAll] at h
    cases hg : grpS p with
    | none => rw [hg] at h; cases h
    | some m =>
      rw [hg] at h
      simp only at h
      cases hr : grpAll r with
      | none => rw [hr] at h; cases h
      | some y =>
        rw [hr] at h
        obtain rfl := Option.some.inj h
        rcases List.mem_cons.1 hn with rfl | hn
        · exact grp_lt hg
        · exact grpAll_lt r y hr n hn
theorem groups_lt {s : By} {x : List Nat} (h : groupsS s = some x) : ∀ n ∈ x, n < 65536 := by
  unfold groupsS at h
  split at h
  · obtain rfl := Option.some.inj h; intro n hn; simp at hn
  · exact grpAll_lt _ x h
theorem parse6_lt {s : By} {l : List Nat} (h : parse6 s = some l) : l.length = 8 ∧ ∀ n ∈ l, n < 65536 := by
  unfold parse6 at h
  split at h
  · split at h
    · rename_i x hx
      split at h
      · rename_i h8
        obtain rfl := Option.some.inj h
        exact ⟨h8, groups_lt hx⟩
      · cases h
    · cases h
  · split at h
    · rename_i x y hx hy
      split at h
      · rename_i h7
        obtain rfl := Option.some.inj h
        refine ⟨by simp; omega, fun n hn => ?_⟩
        rcases List.mem_append.1 hn with hn | hn
        · rcases List.mem_append.1 hn with hn | hn
          · exact groups_lt hx n hn
          · rw [List.eq_of_mem_replicate hn]; omega
        · exact groups_lt hy n hn
      · cases h
    · cases h
/-- Sixteen bytes of eight groups: the two halves. -/
theorem num_gbytes : ∀ (l : List Nat) (a : Nat), (∀ n ∈ l, n < 65536) → (gbytes l).foldl (fun a c => a * 256 + c.toNat) a = l.foldl (fun n d => n * 65536 + d) a
  | [], a, _ => rfl
  | n :: r, a, h => by
    have hn := h n (by simp)
    rw [gbytes, List.foldl_cons, List.foldl_cons, List.foldl_cons, num_gbytes r _ (fun m hm => h m (by simp [hm])), UInt8.toNat_ofNat', UInt8.toNat_ofNat']
    have e : (a * 256 + n / 256 % 2 ^ 8) * 256 + n % 256 % 2 ^ 8 = a * 65536 + n := by omega
    rw [e]
theorem num_groups {l : List Nat} (h : ∀ n ∈ l, n < 65536) : num (gbytes l) = ofDigits 65536 l := num_gbytes l 0 h
theorem gbytes_zero (k : Nat) : gbytes (List.replicate k 0) = List.replicate (2 * k) 0 := by
  induction k with
  | zero => rfl
  | succ k ih =>
    rw [List.replicate_succ, gbytes, ih, show 2 * (k + 1) = 2 * k + 1 + 1 by omega, List.replicate_succ, List.replicate_succ]
    rfl
/-- The halves of eight groups. -/
def halfH (l : List Nat) : Nat := ofDigits 65536 (l.take 4)
def halfL (l : List Nat) : Nat := ofDigits 65536 (l.drop 4)
theorem fb_groups {l : List Nat} (h8 : l.length = 8) (h : ∀ n ∈ l, n < 65536) : fbRes (gbytes l) = adRes (some (true, halfH l, halfL l)) := by
  unfold fbRes
  rw [if_neg (by rw [gbytes_length]; omega), if_pos (by rw [gbytes_length]; omega)]
  have e : gbytes l = gbytes (l.take 4) ++ gbytes (l.drop 4) := by rw [← gbytes_append, List.take_append_drop]
  have h4 : (gbytes (l.take 4)).length = 8 := by rw [gbytes_length, List.length_take]; omega
  rw [e, List.take_append_of_le_length (by omega), List.take_of_length_le (by omega), List.drop_append_of_le_length (by omega), List.drop_of_length_le (by omega), List.nil_append]
  rw [num_groups (fun n hn => h n (List.mem_of_mem_take hn)), num_groups (fun n hn => h n (List.mem_of_mem_drop hn))]
  rfl
/-- What parse6 reads, by the program's tests. -/
def cutL (s : By) : By × By × Bool := match cutGap s with | some (a, b) => (a, b, true) | none => (s, [], false)
theorem parse6_none_head {s : By} (h : groupsS (cutL s).1 = none) : parse6 s = none := by
  unfold cutL at h
  unfold parse6
  cases hc : cutGap s with
  | none => rw [hc] at h; simp only at h; rw [h]
  | some p =>
    obtain ⟨a, b⟩ := p
    rw [hc] at h
    simp only at h ⊢
    rw [h]
theorem parse6_none_tail {s : By} (h : groupsS (cutL s).2.1 = none) : parse6 s = none := by
  unfold cutL at h
  unfold parse6
  cases hc : cutGap s with
  | none => rw [hc] at h; simp only at h; rw [groupsS, if_pos rfl] at h; cases h
  | some p =>
    obtain ⟨a, b⟩ := p
    rw [hc] at h
    simp only at h ⊢
    rw [h]
    cases groupsS a <;> rfl
theorem parse6_both {s : By} {x y : List Nat} (hx : groupsS (cutL s).1 = some x) (hy : groupsS (cutL s).2.1 = some y) :
    parse6 s = if x.length + y.length ≤ 8 ∧ ((cutL s).2.2 = true ↔ x.length + y.length < 8) then some (x ++ List.replicate (8 - (x.length + y.length)) 0 ++ y) else none := by
  unfold cutL at hx hy ⊢
  unfold parse6
  cases hc : cutGap s with
  | none =>
    rw [hc] at hx hy
    simp only at hx hy ⊢
    rw [groupsS, if_pos rfl] at hy
    obtain rfl := Option.some.inj hy
    rw [hx]
    simp only [List.length_nil, Nat.add_zero, Bool.false_eq_true, false_iff]
    by_cases h8 : x.length = 8
    · rw [if_pos h8, if_pos ⟨by omega, by omega⟩, h8]; simp
    · rw [if_neg h8, if_neg (by omega)]
  | some p =>
    obtain ⟨a, b⟩ := p
    rw [hc] at hx hy
    simp only at hx hy ⊢
    rw [hx, hy]
    simp only [true_iff]
    by_cases h8 : x.length + y.length ≤ 7
    · rw [if_pos h8, if_pos ⟨by omega, by omega⟩]
    · rw [if_neg h8, if_neg (by omega)]
/-- Which of the two texts: one with a colon. -/
theorem decGo_no {most : Nat} : ∀ (s : By) (n m : Nat), decGo most n s = some m → ∀ c ∈ s, c ≠ 58
  | [], n, m, h, c, hc => by simp at hc
  | x :: r, n, m, h, c, hc => by
    rw [decGo] at h
    split at h
    · rename_i hx
      rcases List.mem_cons.1 hc with rfl | hc
      · intro e; subst e; exact absurd hx.2 (by decide)
      · exact decGo_no r _ m h c hc
    · cases h
theorem decAll_no : ∀ (l : List By) (x : List Nat), decAll l = some x → ∀ p ∈ l, ∀ c ∈ p, c ≠ 58
  | [], x, h, p, hp, c, hc => by simp at hp
  | q :: r, x, h, p, hp, c, hc => by
    rw [decAll] at h
    cases hd : decS 255 q with
    | negSucc n => rw [hd] at h; cases h
    | ofNat n =>
      rw [hd] at h
      simp only at h
      rcases List.mem_cons.1 hp with rfl | hp
      · unfold decS at hd
        split at hd
        · cases hd
        · split at hd
          · cases hd
          · rename_i m hm
            exact decGo_no p 0 m hm c hc
      · cases hr : decAll r with
        | none => rw [hr] at h; cases h
        | some y => exact decAll_no r y hr p hp c hc
theorem splitGo_mem (c x : UInt8) (hx : x ≠ c) : ∀ (s cur : By), (x ∈ cur ∨ x ∈ s) → ∃ p ∈ splitGo c cur s, x ∈ p
  | [], cur, h => ⟨cur, by rw [splitGo]; simp, by simpa using h⟩
  | y :: r, cur, h => by
    rw [splitGo]
    split
    · rename_i hy
      rcases h with h | h
      · exact ⟨cur, by simp, h⟩
      · rcases List.mem_cons.1 h with e | h
        · exact absurd (e.trans hy) hx
        · obtain ⟨p, hp, hxp⟩ := splitGo_mem c x hx r [] (.inr h)
          exact ⟨p, by simp [hp], hxp⟩
    · apply splitGo_mem c x hx r (cur ++ [y])
      rcases h with h | h
      · exact .inl (by simp [h])
      · rcases List.mem_cons.1 h with e | h
        · exact .inl (by simp [e])
        · exact .inr h
theorem parse4_colon {s : By} (h : (58 : UInt8) ∈ s) : parse4 s = none := by
  unfold parse4
  split
  · cases hd : decAll (splitL 46 s) with
    | none => rfl
    | some x =>
      obtain ⟨p, hp, hc⟩ := splitGo_mem 46 58 (by decide) s [] (.inr h)
      exact absurd rfl (decAll_no _ x hd p hp 58 hc)
  · rfl
theorem cutGap_no : ∀ (s : By), (58 : UInt8) ∉ s → cutGap s = none
  | [], _ => rfl
  | [x], _ => rfl
  | x :: y :: r, h => by
    rw [cutGap, if_neg (fun e => h (by rw [e.1]; simp)), cutGap_no (y :: r) (fun e => h (List.mem_cons_of_mem _ e))]
    rfl
theorem parse6_no_colon {s : By} (h : (58 : UInt8) ∉ s) : parse6 s = none := by
  unfold parse6
  rw [cutGap_no s h]
  simp only
  unfold groupsS
  split
  · rename_i x hx
    split at hx
    · obtain rfl := Option.some.inj hx; rfl
    · have e : splitL 58 s = [s] := by
        unfold splitL
        rw [splitGo_none s [] (fun z hz e => h (by rw [← e]; exact hz))]; rfl
      rw [e] at hx
      rw [grpAll] at hx
      cases hg : grpS s with
      | none => rw [hg] at hx; cases hx
      | some n =>
        rw [hg] at hx
        have : x = [n] := by
          have h2 : (grpAll []).map (n :: ·) = some x := hx
          exact (Option.some.inj h2).symm
        rw [this]; rfl
  · rfl
/-- The address that a text denotes: its family, its two halves. -/
def prs (s : By) : Option (Bool × Nat × Nat) := match parse4 s with
  | some l => some (false, 0, ofDigits 256 l)
  | none => (parse6 s).map fun l => (true, halfH l, halfL l)
theorem prs_colon {s : By} (h : (58 : UInt8) ∈ s) : prs s = (parse6 s).map fun l => (true, halfH l, halfL l) := by
  unfold prs; rw [parse4_colon h]
theorem prs_no_colon {s : By} (h : (58 : UInt8) ∉ s) : prs s = (parse4 s).map fun l => (false, 0, ofDigits 256 l) := by
  unfold prs
  cases parse4 s with
  | some l => rfl
  | none => rw [parse6_no_colon h]; rfl
end Go.Proofs.YtcblgbonijloiaaDoor
