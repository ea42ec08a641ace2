/- Contract of the reference of layer 6: Decimal. -/
import Derived.Test.YtcblgbonijloiaaDoorAdrNum
namespace Go.Proofs.YtcblgbonijloiaaDoor
open Go.ChangeShapes Go.WideShapes Go.ChangeAt Go.RowKit
set_option linter.unusedVariables false

theorem drop_at6 (s : ByteArray) (k : Nat) (h : k < s.size) : s.data.toList.drop k = s[k] :: s.data.toList.drop (k + 1) := by
  rw [List.drop_eq_getElem_cons (by simpa using h)]; rfl
set_option maxHeartbeats 400000 in
set_option maxRecDepth 20000 in
theorem rdec6_any (s : ByteArray) (most : Nat) (w : World) (hm : most ≤ 1000) (hs : s.size ≤ 1000) :
    Calls Tryd.prog 49 #[.string s, .int .i64 most] w fun e w' => e = .returned (.int .i64 (decS most s.data.toList)) ∧ w = w' := by
  obtain ⟨R, hR⟩ : ∃ R, R = decS most s.data.toList := ⟨_, rfl⟩
  rw [← hR]
  have hlen : s.data.toList.length = s.size := by show s.data.toList.length = s.data.size; simp only [Array.length_toList]
  by_cases c0 : s.size = 0
  · have e : R = -1 := by rw [hR, decS, if_pos (Or.inl (by rw [hlen, c0]))]
    subst e
    have d0 : ((s.size : Int) == 0) = true := by simp [c0]
    clear hR hlen c0
    go_enter Tryd.func49, Tryd.ntmps49
    go_wp2_with fail
    go_ret
    exact ⟨rfl, rfl⟩
  have h0 : 0 < s.size := Nat.pos_of_ne_zero c0
  have hd : s.data.toList.head? = some s[0] := by
    have := drop_at6 s 0 h0
    rw [List.drop_zero] at this
    rw [this]; rfl
  have d0 : ((s.size : Int) == 0) = false := by rw [beq_eq_false_iff_ne]; omega
  by_cases c1 : 1 < s.size ∧ s[0].toNat = 48
  · have hz : s[0] = 48 := UInt8.toNat_inj.mp (by rw [c1.2]; rfl)
    have e : R = -1 := by rw [hR, decS, if_pos (Or.inr ⟨by rw [hlen]; exact c1.1, by rw [hd, hz]⟩)]
    subst e
    have d1 : decide ((1 : Int) < (s.size : Int)) = true := by simp; omega
    have d2 : ((s[0].toNat : Int) == 48) = true := by simp; omega
    clear hR hlen hd hz
    go_enter Tryd.func49, Tryd.ntmps49
    go_wp2_with fail
    go_ret
    exact ⟨rfl, rfl⟩
  have hne : ¬ (s.data.toList.length = 0 ∨ (1 < s.data.toList.length ∧ s.data.toList.head? = some 48)) := by
    rintro (h | ⟨h, h'⟩)
    · omega
    · rw [hd] at h'
      have : s[0] = 48 := Option.some.inj h'
      exact c1 ⟨by omega, by rw [this]; rfl⟩
  rw [decS, if_neg hne] at hR
  obtain ⟨D, hD⟩ : ∃ D, D = decGo most 0 (s.data.toList.drop 0) := ⟨_, rfl⟩
  rw [List.drop_zero] at hD
  rw [← hD] at hR
  have HR := Lib.hid hR
  have HD := Lib.hid (show decGo most 0 (s.data.toList.drop 0) = D by rw [hD, List.drop_zero])
  have hguard : decide ((1 : Int) < (s.size : Int)) = false ∨ (decide ((1 : Int) < (s.size : Int)) = true ∧ ((s[0].toNat : Int) == 48) = false) := by
    by_cases h : 1 < s.size
    · exact Or.inr ⟨by simp; omega, by rw [beq_eq_false_iff_ne]; intro e; exact c1 ⟨h, by omega⟩⟩
    · exact Or.inl (by simp; omega)
  clear hR hD hlen hd hne c1
  go_enter Tryd.func49, Tryd.ntmps49
  rcases hguard with g1 | ⟨g1, g2⟩
  all_goals
  go_wp2_with fail
  go_loopw [5, 6] (fun v5 v6 wr => ∃ m k : Nat, v5 = .int .i64 m ∧ v6 = .int .i64 k ∧ k ≤ s.size ∧ m ≤ most + 1 ∧ Hid (decGo most m (s.data.toList.drop k) = D) ∧ w = wr) (fun _ v6 _ => s.size - (intOf v6).toNat)
  case atStart => exact ⟨0, 0, rfl, rfl, Nat.zero_le _, Nat.zero_le _, HD, rfl⟩
  case round =>
    obtain ⟨m, k, rfl, rfl, hk, hmm, HQ, rfl⟩ := hrel
    by_cases hlt : k < s.size
    · have hki : (k : Int) < (s.size : Int) := by omega
      have hki0 : (0 : Int) ≤ (k : Int) := by omega
      have hx8 := u8_lt s[k]
      have hq := HQ.out
      rw [drop_at6 s k hlt, decGo] at hq
      obtain ⟨k1, hk1⟩ : ∃ k1, k1 = k + 1 := ⟨_, rfl⟩
      have k1i : (k : Int) + 1 = (k1 : Int) := by omega
      have k1s : k1 ≤ s.size := by omega
      rw [← hk1] at hq
      have HK1 := Lib.hid hk1
      clear hk1
      by_cases hdg : 48 ≤ s[k].toNat ∧ s[k].toNat ≤ 57
      · rw [if_pos hdg] at hq
        obtain ⟨m1, hm1⟩ : ∃ m1, m1 = min (10 * m + (s[k].toNat - 48)) (most + 1) := ⟨_, rfl⟩
        rw [← hm1] at hq
        have hm1l : m1 ≤ most + 1 := by omega
        have em : min (10 * (m : Int) + (s[k].toNat : Int) - 48) ((most : Int) + 1) = (m1 : Int) := by omega
        have t1 : decide ((s[k].toNat : Int) < 48) = false := by simp; omega
        have t2 : decide ((57 : Int) < (s[k].toNat : Int)) = false := by simp; omega
        have HQ2 := Lib.hid hq
        clear hq hm1
        go_wp2_with fail
        go_roundw
        case rel => exact ⟨m1, k1, by rw [← em], by go_num, k1s, hm1l, HQ2, by first | trivial | rfl⟩
        case measure => have := HK1.out; simp [intOf]; omega
      · rw [if_neg hdg] at hq
        have e : R = -1 := by rw [HR.out, ← hq]
        by_cases hl : s[k].toNat < 48
        · have t1 : decide ((s[k].toNat : Int) < 48) = true := by simp; omega
          clear hq
          go_wp2_with fail
          go_ret
          exact ⟨by first | rfl | (rw [e]; rfl), rfl⟩
        · have t1 : decide ((s[k].toNat : Int) < 48) = false := by simp; omega
          have t2 : decide ((57 : Int) < (s[k].toNat : Int)) = true := by simp; omega
          clear hq
          go_wp2_with fail
          go_ret
          exact ⟨by first | rfl | (rw [e]; rfl), rfl⟩
    · have ek : k = s.size := by omega
      have hq := HQ.out
      rw [List.drop_of_length_le (by rw [ek]; show s.data.toList.length ≤ s.data.size; simp), decGo] at hq
      have e : R = if most < m then -2 else (m : Int) := by rw [HR.out, ← hq]
      have nlt : ¬ (k : Int) < (s.size : Int) := by omega
      have dlt : decide ((k : Int) < (s.size : Int)) = false := by simp; omega
      clear hq ek
      by_cases hmo : most < m
      · have t : decide ((most : Int) < (m : Int)) = true := by simp; omega
        rw [if_pos hmo] at e
        go_wp2_with fail
        go_ret
        exact ⟨by first | rfl | (rw [e]; rfl), rfl⟩
      · have t : decide ((most : Int) < (m : Int)) = false := by simp; omega
        rw [if_neg hmo] at e
        go_wp2_with fail
        go_ret
        exact ⟨by first | rfl | (rw [e]; rfl), rfl⟩
end Go.Proofs.YtcblgbonijloiaaDoor
