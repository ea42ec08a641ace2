/- Numbers of digits: plain mathematics; contracts of the program's value, decimal. -/
import Derived.Test.YtcblgbonijloiaaDoorAdqDig
namespace Go.Proofs.YtcblgbonijloiaaDoor
open Go.ChangeShapes Go.WideShapes Go.ChangeAt Go.RowKit
set_option linter.unusedVariables false

/-- The number that digits form to a base, 65536 if it is greater. -/
def valGo (b : Nat) : Nat → By → Option Nat
  | n, [] => some n
  | n, c :: r => if dgN c.toNat < b then valGo b (min (n * b + dgN c.toNat) 65536) r else none
def valS (b : Nat) (s : By) : Option Nat := if s = [] then none else valGo b 0 s
def decV (s : By) : Option Nat := if 1 < s.length ∧ s.head? = some 48 then none else valS 10 s
def vRes : Option Nat → Value
  | some n => .tuple #[.int .i64 n, .bool true]
  | none => .tuple #[.int .i64 0, .bool false]
theorem valGo_le (b : Nat) : ∀ (s : By) (n m : Nat), n ≤ 65536 → valGo b n s = some m → m ≤ 65536
  | [], n, m, h, e => by
    rw [valGo] at e
    obtain rfl := Option.some.inj e
    exact h
  | c :: r, n, m, h, e => by
    rw [valGo] at e
    split at e
    · exact valGo_le b r _ m (by omega) e
    · cases e
theorem decV_le {s : By} {n : Nat} (h : decV s = some n) : n ≤ 65536 := by
  unfold decV at h
  split at h
  · cases h
  · unfold valS at h
    split at h
    · cases h
    · exact valGo_le 10 s 0 n (by omega) h
theorem dgN_dec (x : Nat) : dgN x < 10 ↔ 48 ≤ x ∧ x ≤ 57 := by unfold dgN; split <;> (try split) <;> (try split) <;> omega
theorem dgN_dec_val {x : Nat} (h : 48 ≤ x ∧ x ≤ 57) : dgN x = x - 48 := by unfold dgN; rw [if_pos h]
theorem sat_both (most : Nat) : ∀ (s : By) (x : Nat), (∃ X, decGo most (min x (most + 1)) s = some (min X (most + 1)) ∧ valGo 10 (min x 65536) s = some (min X 65536)) ∨ (decGo most (min x (most + 1)) s = none ∧ valGo 10 (min x 65536) s = none)
  | [], x => .inl ⟨x, rfl, rfl⟩
  | c :: r, x => by
    rw [decGo, valGo]
    by_cases h : 48 ≤ c.toNat ∧ c.toNat ≤ 57
    · rw [if_pos h, if_pos ((dgN_dec _).2 h), dgN_dec_val h]
      have e1 : min (10 * min x (most + 1) + (c.toNat - 48)) (most + 1) = min (10 * x + (c.toNat - 48)) (most + 1) := by omega
      have e2 : min (min x 65536 * 10 + (c.toNat - 48)) 65536 = min (10 * x + (c.toNat - 48)) 65536 := by omega
      rw [e1, e2]
      exact sat_both most r _
    · rw [if_neg h, if_neg (fun k => h ((dgN_dec _).1 k))]
      exact .inr ⟨rfl, rfl⟩
/-- The two ways to read a decimal number. -/
theorem decS_decV {most : Nat} (hm : most < 65536) (s : By) : decS most s = match decV s with | none => -1 | some n => if most < n then -2 else (n : Int) := by
  unfold decS decV
  by_cases h1 : 1 < s.length ∧ s.head? = some 48
  · rw [if_pos (.inr h1), if_pos h1]
  · rw [if_neg h1]
    unfold valS
    by_cases h0 : s = []
    · rw [if_pos h0, if_pos (.inl (by rw [h0]; rfl))]
    · rw [if_neg h0, if_neg (by
        rintro (e | e)
        · exact h0 (List.length_eq_zero_iff.1 e)
        · exact h1 e)]
      have hs := sat_both most s 0
      rw [Nat.zero_min, Nat.zero_min] at hs
      rcases hs with ⟨X, e1, e2⟩ | ⟨e1, e2⟩
      · rw [e1, e2]
        show (if most < min X (most + 1) then (-2 : Int) else ((min X (most + 1) : Nat) : Int)) = if most < min X 65536 then (-2 : Int) else ((min X 65536 : Nat) : Int)
        by_cases hX : most < X
        · rw [if_pos (by omega), if_pos (by omega)]
        · rw [if_neg (by omega), if_neg (by omega), Nat.min_eq_left (by omega), Nat.min_eq_left (by omega)]
      · rw [e1, e2]
theorem valGo_hex : ∀ (s : By) (n j : Nat), n < 16 ^ j → s.length + j ≤ 4 → valGo 16 n s = hexGo n s
  | [], n, j, _, _ => rfl
  | c :: r, n, j, h, hl => by
    rw [valGo, hexGo, dgN_hex]
    by_cases hd : dgN c.toNat < 16
    · rw [if_pos hd, if_pos hd]
      have h1 : 16 * n + dgN c.toNat < 16 ^ (j + 1) := by rw [Nat.pow_succ]; omega
      have h2 : 16 ^ (j + 1) ≤ 16 ^ 4 := Nat.pow_le_pow_right (by omega) (by simp at hl; omega)
      have h4 : (16 : Nat) ^ 4 = 65536 := by decide
      rw [show min (n * 16 + dgN c.toNat) 65536 = 16 * n + dgN c.toNat by omega]
      exact valGo_hex r _ (j + 1) h1 (by simp at hl; omega)
    · rw [if_neg hd, if_neg hd]
theorem grpS_val (s : By) : grpS s = if 4 < s.length then none else valS 16 s := by
  unfold grpS
  by_cases h4 : 4 < s.length
  · rw [if_pos h4, if_pos (.inr h4)]
  · rw [if_neg h4]
    unfold valS
    by_cases h0 : s = []
    · rw [if_pos h0, if_pos (.inl (by rw [h0]; decide))]
    · rw [if_neg h0, if_neg (by have : s.length ≠ 0 := fun e => h0 (List.length_eq_zero_iff.1 e); omega), valGo_hex s 0 0 (by decide) (by omega)]
set_option maxHeartbeats 1000000 in
set_option maxRecDepth 20000 in
theorem qvalue_any (s : ByteArray) (b : Nat) (w : World) (hs : s.size ≤ 1000) (hb1 : 1 ≤ b) (hb : b ≤ 16) :
    Calls Tryd.prog 70 #[.string s, .int .i64 b] w fun e w' => e = .returned (vRes (valS b s.data.toList)) ∧ w' = w := by
  have hlen := toList_length6 s
  obtain ⟨R, hR⟩ : ∃ R, R = valS b s.data.toList := ⟨_, rfl⟩
  rw [← hR]
  unfold valS at hR
  by_cases h0 : s.data.toList = []
  · have em : s.toList.isEmpty = true := by rw [isEmpty6, h0]; rfl
    rw [if_pos h0] at hR
    have HR := Lib.hid hR
    clear hlen h0 hR
    go_enter Tryd.func70, Tryd.ntmps70
    go_wp2_with fail
    go_ret2
    exact ⟨by rw [HR.out]; rfl, rfl⟩
  have em : s.toList.isEmpty = false := by
    rw [isEmpty6]
    cases hc : s.data.toList with
    | nil => exact absurd hc h0
    | cons => rfl
  rw [if_neg h0] at hR
  have H0 := Lib.hid (show valGo b 0 (s.data.toList.drop 0) = R by rw [hR]; rfl)
  have HLN := Lib.hid hlen
  have HD := Lib.hid (fun x W h => qdigit_any x W h)
  clear hR h0 hlen
  go_enter Tryd.func70, Tryd.ntmps70
  go_wp2_with fail
  go_loop [6, 13] (fun v6 v13 => ∃ k n : Nat, k ≤ s.size ∧ n ≤ 65536 ∧ Hid (valGo b n (s.data.toList.drop k) = R) ∧ v6 = .int .i64 n ∧ v13 = .int .i64 k) (fun _ v13 => s.size - (intOf v13).toNat)
  case atStart => exact ⟨0, 0, Nat.zero_le _, by omega, H0, rfl, rfl⟩
  case round =>
    clear H0
    obtain ⟨k, n, hk, hn, HN, rfl, rfl⟩ := hrel
    by_cases hlt : k < s.size
    · have dlt : decide ((k : Int) < (s.size : Int)) = true := by simp; omega
      have hlti : (k : Int) < (s.size : Int) := by omega
      have hki0 : (0 : Int) ≤ (k : Int) := by omega
      have hx8 := u8_lt s[k]
      have hll : k < s.data.toList.length := by have := HLN.out; omega
      have ha : s.data.toList[k]'hll = s[k]'hlt := rfl
      obtain ⟨k1, hk1⟩ : ∃ k1, k1 = k + 1 := ⟨_, rfl⟩
      have k1i : (k : Int) + 1 = (k1 : Int) := by omega
      have k1s : k1 ≤ s.size := by omega
      have hdrop : s.data.toList.drop k = s[k]'hlt :: s.data.toList.drop k1 := by rw [List.drop_eq_getElem_cons hll, ha, hk1]
      have hq := HN.out
      rw [hdrop, valGo] at hq
      have HK1 := Lib.hid hk1
      have hd16 := dgN_le (s[k]'hlt).toNat
      have hdg := HD.out (s[k]'hlt).toNat
      have HDG := Lib.hid (fun W => hdg W hx8)
      clear hdg ha
      generalize hxc : s[k]'hlt = c at *
      generalize dgN c.toNat = d at *
      by_cases hd : d < b
      · rw [if_pos hd] at hq
        have dd : decide ((b : Int) ≤ (d : Int)) = false := by rw [decide_eq_false_iff_not]; omega
        have dn : ¬ b ≤ d := by omega
        obtain ⟨p, hp⟩ : ∃ p, p = n * b := ⟨_, rfl⟩
        have hpi : (n : Int) * (b : Int) = (p : Int) := by rw [hp]; simp
        have hp1 : p ≤ 1048576 := by rw [hp]; exact Nat.le_trans (Nat.mul_le_mul hn hb) (by omega)
        rw [← hp] at hq
        obtain ⟨m, hm⟩ : ∃ m, m = min (p + d) 65536 := ⟨_, rfl⟩
        have hmi : min ((p : Int) + (d : Int)) 65536 = (m : Int) := by omega
        have hm1 : m ≤ 65536 := by omega
        rw [← hm] at hq
        have HQ := Lib.hid hq
        clear hq hm hp hd hdrop hk1 HN
        go_wp2_with fail
        refine (HDG.out _).mono ?_
        rintro e w2 ⟨rfl, hw⟩
        have hw' := hw.symm
        subst hw'
        clear hw
        go_wp2_with fail
        go_round
        case rel => exact ⟨k1, m, k1s, hm1, HQ, by go_num, by go_num⟩
        case measure => have := HK1.out; simp [intOf]; omega
      · rw [if_neg hd] at hq
        have dd : decide ((b : Int) ≤ (d : Int)) = true := by rw [decide_eq_true_eq]; omega
        have dn : b ≤ d := by omega
        have HQ := Lib.hid hq
        clear hq hd hdrop hk1 HN
        go_wp2_with fail
        refine (HDG.out _).mono ?_
        rintro e w2 ⟨rfl, rfl⟩
        go_wp2_with fail
        go_ret2
        exact ⟨by rw [← HQ.out]; rfl, rfl⟩
    · have dlt : decide ((k : Int) < (s.size : Int)) = false := by simp; omega
      have nlt : ¬ (k : Int) < (s.size : Int) := by omega
      have hq := HN.out
      rw [List.drop_of_length_le (by rw [HLN.out]; omega), valGo] at hq
      have HQ := Lib.hid hq
      clear hq HN
      go_wp2_with fail
      go_ret2
      exact ⟨by rw [← HQ.out]; rfl, rfl⟩
set_option maxHeartbeats 1000000 in
set_option maxRecDepth 20000 in
theorem qdecimal_any (s : ByteArray) (w : World) (hs : s.size ≤ 1000) :
    Calls Tryd.prog 46 #[.string s] w fun e w' => e = .returned (vRes (decV s.data.toList)) ∧ w' = w := by
  have hlen := toList_length6 s
  have HV := Lib.hid (fun W => qvalue_any s 10 W hs (by omega) (by omega))
  obtain ⟨R, hR⟩ : ∃ R, R = decV s.data.toList := ⟨_, rfl⟩
  rw [← hR]
  unfold decV at hR
  by_cases h1 : 1 < s.size
  · have d1 : decide ((1 : Int) < (s.size : Int)) = true := by rw [decide_eq_true_eq]; omega
    have h0 : 0 < s.size := by omega
    have h0i : (0 : Int) < (s.size : Int) := by omega
    have hh : s.data.toList.head? = some (s[0]'h0) := by
      rw [List.head?_eq_getElem?, List.getElem?_eq_getElem (by rw [hlen]; exact h0)]; rfl
    rw [hh, hlen] at hR
    by_cases hz : s[0]'h0 = 48
    · rw [if_pos ⟨h1, by rw [hz]⟩] at hR
      have HR := Lib.hid hR
      have dz : (((s[0]'h0).toNat : Int) == 48) = true := by rw [hz]; rfl
      clear hR hh hlen hz
      go_enter Tryd.func46, Tryd.ntmps46
      go_wp2_with fail
      go_ret2
      exact ⟨by rw [HR.out]; rfl, rfl⟩
    · rw [if_neg (by rintro ⟨_, e⟩; exact hz (Option.some.inj e))] at hR
      have hx : (s[0]'h0).toNat ≠ 48 := fun e => hz (UInt8.toNat_inj.1 e)
      have dz : (((s[0]'h0).toNat : Int) == 48) = false := by rw [beq_eq_false_iff_ne]; omega
      rw [← hR] at HV
      clear hR hh hlen hz hx
      cases R with
      | none =>
        simp only [vRes] at HV ⊢
        go_enter Tryd.func46, Tryd.ntmps46
        go_wp2_with fail
        refine (HV.out _).mono ?_
        rintro e w2 ⟨rfl, rfl⟩
        go_wp2_with fail
        go_ret2
        exact ⟨rfl, rfl⟩
      | some n =>
        simp only [vRes] at HV ⊢
        go_enter Tryd.func46, Tryd.ntmps46
        go_wp2_with fail
        refine (HV.out _).mono ?_
        rintro e w2 ⟨rfl, rfl⟩
        go_wp2_with fail
        go_ret2
        exact ⟨rfl, rfl⟩
  · have d1 : decide ((1 : Int) < (s.size : Int)) = false := by rw [decide_eq_false_iff_not]; omega
    rw [if_neg (by rintro ⟨e, _⟩; omega)] at hR
    rw [← hR] at HV
    clear hR hlen
    cases R with
    | none =>
      simp only [vRes] at HV ⊢
      go_enter Tryd.func46, Tryd.ntmps46
      go_wp2_with fail
      refine (HV.out _).mono ?_
      rintro e w2 ⟨rfl, rfl⟩
      go_wp2_with fail
      go_ret2
      exact ⟨rfl, rfl⟩
    | some n =>
      simp only [vRes] at HV ⊢
      go_enter Tryd.func46, Tryd.ntmps46
      go_wp2_with fail
      refine (HV.out _).mono ?_
      rintro e w2 ⟨rfl, rfl⟩
      go_wp2_with fail
      go_ret2
      exact ⟨rfl, rfl⟩
end Go.Proofs.YtcblgbonijloiaaDoor
