/- Contracts of the reference of layer 6: group. -/
import Derived.Test.YtcblgbonijloiaaDoorAdrDec
namespace Go.Proofs.YtcblgbonijloiaaDoor
open Go.ChangeShapes Go.WideShapes Go.ChangeAt Go.RowKit
set_option linter.unusedVariables false

/-- What the reference's group answers. -/
def grpI (s : By) : Int := match grpS s with
  | none => -1
  | some n => n
theorem pow16_le {k : Nat} (h : k < 4) : 16 ^ k ≤ 4096 := by
  calc 16 ^ k ≤ 16 ^ 3 := Nat.pow_le_pow_right (by omega) (by omega)
    _ = 4096 := rfl
set_option maxHeartbeats 800000 in
set_option maxRecDepth 20000 in
theorem rgroup6_any (s : ByteArray) (w : World) (hs0 : s.size ≤ 1000) :
    Calls Tryd.prog 83 #[.string s] w fun e w' => e = .returned (.int .i64 (grpI s.data.toList)) ∧ w = w' := by
  obtain ⟨R, hR⟩ : ∃ R, R = grpI s.data.toList := ⟨_, rfl⟩
  rw [← hR]
  have hlen : s.data.toList.length = s.size := by show s.data.toList.length = s.data.size; simp only [Array.length_toList]
  by_cases c0 : s.size < 1
  · have e : R = -1 := by rw [hR, grpI, grpS, if_pos (Or.inl (by rw [hlen]; exact c0))]
    have d0 : decide ((s.size : Int) < 1) = true := by simp; omega
    clear hR hlen
    go_enter Tryd.func83, Tryd.ntmps83
    go_wp2_with fail
    go_ret
    exact ⟨by first | rfl | (rw [e]; rfl), rfl⟩
  have d0 : decide ((s.size : Int) < 1) = false := by simp; omega
  by_cases c1 : 4 < s.size
  · have e : R = -1 := by rw [hR, grpI, grpS, if_pos (Or.inr (by rw [hlen]; exact c1))]
    have d1 : decide ((4 : Int) < (s.size : Int)) = true := by simp; omega
    clear hR hlen
    go_enter Tryd.func83, Tryd.ntmps83
    go_wp2_with fail
    go_ret
    exact ⟨by first | rfl | (rw [e]; rfl), rfl⟩
  have d1 : decide ((4 : Int) < (s.size : Int)) = false := by simp; omega
  have h4 : s.size ≤ 4 := by omega
  rw [grpI, grpS, if_neg (by rw [hlen]; omega)] at hR
  obtain ⟨D, hD⟩ : ∃ D, D = hexGo 0 (s.data.toList.drop 0) := ⟨_, rfl⟩
  rw [List.drop_zero] at hD
  rw [← hD] at hR
  have HR := Lib.hid hR
  have HD := Lib.hid (show hexGo 0 (s.data.toList.drop 0) = D by rw [hD, List.drop_zero])
  have HM0 := Lib.hid (show 0 < 16 ^ 0 by decide)
  clear hR hD hlen
  go_enter Tryd.func83, Tryd.ntmps83
  go_wp2_with fail
  go_loopw [3, 4, 5] (fun v3 v4 _ wr => ∃ m k : Nat, v3 = .int .i64 m ∧ v4 = .int .i64 k ∧ k ≤ s.size ∧ Hid (m < 16 ^ k) ∧ Hid (hexGo m (s.data.toList.drop k) = D) ∧ w = wr) (fun _ v4 _ _ => s.size - (intOf v4).toNat)
  case atStart => exact ⟨0, 0, rfl, rfl, Nat.zero_le _, HM0, HD, rfl⟩
  case round =>
    obtain ⟨m, k, rfl, rfl, hk, HM, HQ, rfl⟩ := hrel
    by_cases hlt : k < s.size
    · have hki : (k : Int) < (s.size : Int) := by omega
      have hki0 : (0 : Int) ≤ (k : Int) := by omega
      have hx8 := u8_lt s[k]
      have hm4 : m < 4096 := Nat.lt_of_lt_of_le HM.out (pow16_le (by omega))
      have hq := HQ.out
      rw [drop_at6 s k hlt, hexGo, hexV] at hq
      obtain ⟨k1, hk1⟩ : ∃ k1, k1 = k + 1 := ⟨_, rfl⟩
      have k1i : (k : Int) + 1 = (k1 : Int) := by omega
      have k1s : k1 ≤ s.size := by omega
      have hstep : ∀ d, d < 16 → 16 * m + d < 16 ^ k1 := by
        intro d hd
        have := HM.out
        rw [hk1, Nat.pow_succ]; omega
      rw [← hk1] at hq
      have HST := Lib.hid hstep
      have HK1 := Lib.hid hk1
      clear hk1 hstep
      by_cases a1 : 48 ≤ s[k].toNat ∧ s[k].toNat ≤ 57
      · rw [if_pos a1] at hq
        obtain ⟨y, hy⟩ : ∃ y, y = s[k].toNat - 48 := ⟨_, rfl⟩
        have ey : (s[k].toNat : Int) - 48 = (y : Int) := by omega
        have ly : y < 16 := by omega
        have ny : ¬ (y : Int) < 0 := by omega
        have dy : decide ((y : Int) < 0) = false := by simp
        have t1 : decide ((48 : Int) ≤ (s[k].toNat : Int)) = true := by simp; omega
        have t2 : decide ((s[k].toNat : Int) ≤ 57) = true := by simp; omega
        rw [← hy] at hq
        have HQ2 := Lib.hid (show hexGo (16 * m + y) (s.data.toList.drop k1) = D from hq)
        clear hq hy
        go_wp2_with fail
        go_roundw
        case rel => exact ⟨16 * m + y, k1, by go_num, by go_num, k1s, Lib.hid (HST.out y ly), HQ2, by first | trivial | rfl⟩
        case measure => have := HK1.out; simp [intOf]; omega
      · rw [if_neg a1] at hq
        have T1 : (decide ((48 : Int) ≤ (s[k].toNat : Int)) = false) ∨ (decide ((48 : Int) ≤ (s[k].toNat : Int)) = true ∧ decide ((s[k].toNat : Int) ≤ 57) = false) := by
          by_cases h : 48 ≤ s[k].toNat
          · exact Or.inr ⟨by simp; omega, by simp; omega⟩
          · exact Or.inl (by simp; omega)
        by_cases a2 : 97 ≤ s[k].toNat ∧ s[k].toNat ≤ 102
        · rw [if_pos a2] at hq
          obtain ⟨y, hy⟩ : ∃ y, y = s[k].toNat - 87 := ⟨_, rfl⟩
          have ey : (s[k].toNat : Int) - 87 = (y : Int) := by omega
          have ly : y < 16 := by omega
          have ny : ¬ (y : Int) < 0 := by omega
          have dy : decide ((y : Int) < 0) = false := by simp
          have p1 : decide ((97 : Int) ≤ (s[k].toNat : Int)) = true := by simp; omega
          have p2 : decide ((s[k].toNat : Int) ≤ 102) = true := by simp; omega
          rw [← hy] at hq
          have HQ2 := Lib.hid (show hexGo (16 * m + y) (s.data.toList.drop k1) = D from hq)
          clear hq hy
          rcases T1 with t1 | ⟨t1, t2⟩
          all_goals
          go_wp2_with fail
          go_roundw
          case rel => exact ⟨16 * m + y, k1, by go_num, by go_num, k1s, Lib.hid (HST.out y ly), HQ2, by first | trivial | rfl⟩
          case measure => have := HK1.out; simp [intOf]; omega
        · rw [if_neg a2] at hq
          have T2 : (decide ((97 : Int) ≤ (s[k].toNat : Int)) = false) ∨ (decide ((97 : Int) ≤ (s[k].toNat : Int)) = true ∧ decide ((s[k].toNat : Int) ≤ 102) = false) := by
            by_cases h : 97 ≤ s[k].toNat
            · exact Or.inr ⟨by simp; omega, by simp; omega⟩
            · exact Or.inl (by simp; omega)
          by_cases a3 : 65 ≤ s[k].toNat ∧ s[k].toNat ≤ 70
          · rw [if_pos a3] at hq
            obtain ⟨y, hy⟩ : ∃ y, y = s[k].toNat - 55 := ⟨_, rfl⟩
            have ey : (s[k].toNat : Int) - 55 = (y : Int) := by omega
            have ly : y < 16 := by omega
            have ny : ¬ (y : Int) < 0 := by omega
            have dy : decide ((y : Int) < 0) = false := by simp
            have p1 : decide ((65 : Int) ≤ (s[k].toNat : Int)) = true := by simp; omega
            have p2 : decide ((s[k].toNat : Int) ≤ 70) = true := by simp; omega
            rw [← hy] at hq
            have HQ2 := Lib.hid (show hexGo (16 * m + y) (s.data.toList.drop k1) = D from hq)
            clear hq hy
            rcases T1 with t1 | ⟨t1, t2⟩
            all_goals
            rcases T2 with u1 | ⟨u1, u2⟩
            all_goals
            go_wp2_with fail
            go_roundw
            case rel => exact ⟨16 * m + y, k1, by go_num, by go_num, k1s, Lib.hid (HST.out y ly), HQ2, by first | trivial | rfl⟩
            case measure => have := HK1.out; simp [intOf]; omega
          · rw [if_neg a3] at hq
            have T3 : (decide ((65 : Int) ≤ (s[k].toNat : Int)) = false) ∨ (decide ((65 : Int) ≤ (s[k].toNat : Int)) = true ∧ decide ((s[k].toNat : Int) ≤ 70) = false) := by
              by_cases h : 65 ≤ s[k].toNat
              · exact Or.inr ⟨by simp; omega, by simp; omega⟩
              · exact Or.inl (by simp; omega)
            have e : R = -1 := by rw [HR.out, ← hq]
            clear hq
            rcases T1 with t1 | ⟨t1, t2⟩
            all_goals
            rcases T2 with u1 | ⟨u1, u2⟩
            all_goals
            rcases T3 with z1 | ⟨z1, z2⟩
            all_goals
            go_wp2_with fail
            go_ret
            exact ⟨by first | rfl | (rw [e]; rfl), rfl⟩
    · have ek : k = s.size := by omega
      have hq := HQ.out
      rw [List.drop_of_length_le (by rw [ek]; show s.data.toList.length ≤ s.data.size; simp), hexGo] at hq
      have e : R = (m : Int) := by rw [HR.out, ← hq]
      have nlt : ¬ (k : Int) < (s.size : Int) := by omega
      have dlt : decide ((k : Int) < (s.size : Int)) = false := by simp; omega
      clear hq ek
      go_wp2_with fail
      go_ret
      exact ⟨by first | rfl | (rw [e]; rfl), rfl⟩
end Go.Proofs.YtcblgbonijloiaaDoor
