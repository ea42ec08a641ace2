/- Contract of the program's layer 6: zeroRun. -/
import Derived.Test.YtcblgbonijloiaaDoorAdqHex
namespace Go.Proofs.YtcblgbonijloiaaDoor
open Go.ChangeShapes Go.WideShapes Go.ChangeAt Go.RowKit
set_option linter.unusedVariables false

/-- Where the run that is left out begins and ends, as the program counts. -/
def runFT (r : Option Nat × Nat) : Nat × Nat := match r.1 with
  | none => (0, 0)
  | some f => (f, f + r.2)
theorem hexL_is0 (n : Nat) : (hexL n == [48]) = decide (n = 0) := by
  by_cases h : n = 0
  · subst h
    rw [hexL]; rfl
  · rw [decide_eq_false h, beq_eq_false_iff_ne]
    intro e
    have h2 := hexGo_hex n
    rw [e] at h2
    have h3 : hexGo 0 [48] = some 0 := by decide
    rw [h3] at h2
    exact h (Option.some.inj h2).symm
theorem zeros_step {l : List Nat} {e : Nat} (h : e < l.length) (h0 : l[e] = 0) : zeros (l.drop e) = zeros (l.drop (e + 1)) + 1 := by
  rw [List.drop_eq_getElem_cons h, h0, zeros]
theorem zeros_stop {l : List Nat} {e : Nat} (h : e < l.length) (h0 : l[e] ≠ 0) : zeros (l.drop e) = 0 := by
  rw [List.drop_eq_getElem_cons h]
  cases hq : l[e] with
  | zero => exact absurd hq h0
  | succ n => rfl
theorem best_hit {l : List Nat} {k q : Nat} {at_ : Option Nat} {most : Nat} (hk : k < l.length) (hz : zeros (l.drop k) = q) (h : most < q) : bestGo (l.drop k) k at_ most = bestGo (l.drop (k + 1)) (k + 1) (some k) q := by
  rw [List.drop_eq_getElem_cons hk] at hz ⊢
  rw [bestGo, hz, if_pos h]
theorem best_miss {l : List Nat} {k q : Nat} {at_ : Option Nat} {most : Nat} (hk : k < l.length) (hz : zeros (l.drop k) = q) (h : ¬ most < q) : bestGo (l.drop k) k at_ most = bestGo (l.drop (k + 1)) (k + 1) at_ most := by
  rw [List.drop_eq_getElem_cons hk] at hz ⊢
  rw [bestGo, hz, if_neg h]
set_option maxHeartbeats 1000000 in
set_option maxRecDepth 20000 in
theorem qzero_any (l : List Nat) (g cap : Nat) (w : World) (hl : l.length ≤ 1000) (hcell : ∀ (i : Nat) (n : Nat), l[i]? = some n → w.cell? ⟨g, i, none⟩ = some (.string (str (hexL n)))) :
    Calls Tryd.prog 73 #[.slice (some ⟨g, 0, none⟩) l.length cap] w fun e w' => e = .returned (.tuple #[.int .i64 ((runFT (best l)).1 : Nat), .int .i64 ((runFT (best l)).2 : Nat)]) ∧ w' = w := by
  obtain ⟨F, hF⟩ : ∃ F, F = (runFT (best l)).1 := ⟨_, rfl⟩
  obtain ⟨T, hT⟩ : ∃ T, T = (runFT (best l)).2 := ⟨_, rfl⟩
  rw [← hF, ← hT]
  have HC := Lib.hid hcell
  have H0 := Lib.hid (show F = (runFT (bestGo (l.drop 0) 0 none 1)).1 ∧ T = (runFT (bestGo (l.drop 0) 0 none 1)).2 from ⟨hF, hT⟩)
  obtain ⟨n, hn⟩ : ∃ n, n = l.length := ⟨_, rfl⟩
  rw [← hn] at hl ⊢
  have HN := Lib.hid hn
  clear hF hT hcell hn
  go_enter Tryd.func73, Tryd.ntmps73
  go_wp2_with fail
  go_loop [2, 3, 8] (fun v2 v3 v8 => ∃ k f t : Nat, ∃ at_ : Option Nat, ∃ most : Nat, k ≤ n ∧ v2 = .int .i64 f ∧ v3 = .int .i64 t ∧ v8 = .int .i64 k ∧ f ≤ t ∧ t ≤ n ∧ Hid (F = (runFT (bestGo (l.drop k) k at_ most)).1 ∧ T = (runFT (bestGo (l.drop k) k at_ most)).2 ∧ (f, t) = runFT (at_, most) ∧ most = max (t - f) 1)) (fun _ _ v8 => n - (intOf v8).toNat)
  case atStart => exact ⟨0, 0, 0, none, 1, Nat.zero_le _, rfl, rfl, rfl, Nat.le_refl _, Nat.zero_le _, Lib.hid ⟨H0.out.1, H0.out.2, rfl, rfl⟩⟩
  case round =>
    clear H0
    obtain ⟨k, f, t, at_, most, hk, rfl, rfl, rfl, hft, htn, HS⟩ := hrel
    obtain ⟨k1, hk1⟩ : ∃ k1, k1 = k + 1 := ⟨_, rfl⟩
    have k1i : (k : Int) + 1 = (k1 : Int) := by omega
    obtain ⟨dd, hdd⟩ : ∃ dd, dd = t - f := ⟨_, rfl⟩
    have hddi : (t : Int) - (f : Int) = (dd : Int) := by omega
    obtain ⟨M, hM⟩ : ∃ M, M = max dd 1 := ⟨_, rfl⟩
    have hMi : max (dd : Int) 1 = (M : Int) := by omega
    by_cases hlt : k < n
    · have dlt : decide ((k : Int) < (n : Int)) = true := by simp; omega
      have hlti : (k : Int) < (n : Int) := by omega
      have HK1 := Lib.hid (show k1 = k + 1 ∧ k1 ≤ n from ⟨hk1, by omega⟩)
      have HM := Lib.hid (show M = most by rw [HS.out.2.2.2, hM, hdd])
      clear hk1 hM hdd
      go_wp2_with fail
      go_loop [5] (fun v5 => ∃ e : Nat, k ≤ e ∧ e ≤ n ∧ v5 = .int .i64 e ∧ Hid (zeros (l.drop k) = (e - k) + zeros (l.drop e))) (fun v5 => n - (intOf v5).toNat)
      case atStart => exact ⟨k, Nat.le_refl _, hk, rfl, Lib.hid (by omega)⟩
      case round =>
        obtain ⟨e, hke, hen, rfl, HZ⟩ := hrel
        obtain ⟨e1, he1⟩ : ∃ e1, e1 = e + 1 := ⟨_, rfl⟩
        have e1i : (e : Int) + 1 = (e1 : Int) := by omega
        by_cases hel : e < n
        · have del : decide ((e : Int) < (n : Int)) = true := by simp; omega
          have heli : (e : Int) < (n : Int) := by omega
          have he0 : (0 : Int) ≤ (e : Int) := by omega
          have hell : e < l.length := by have := HN.out; omega
          have hc := HC.out e l[e] (List.getElem?_eq_getElem hell)
          have hs : ((str (hexL l[e])).toList == [48]) = decide (l[e] = 0) := by
            rw [(ByteArray.toList_eq _).trans (str_toList _)]; exact hexL_is0 _
          by_cases hz : l[e] = 0
          · rw [decide_eq_true hz] at hs
            have HZ2 := Lib.hid (show zeros (l.drop k) = (e1 - k) + zeros (l.drop e1) by rw [HZ.out, zeros_step hell hz, he1]; omega)
            have HE1 := Lib.hid (show e1 = e + 1 ∧ e1 ≤ n from ⟨he1, by omega⟩)
            clear hz he1 HZ
            generalize str (hexL l[e]) = S at *
            go_wp2_with fail
            go_round
            case rel => have := HE1.out; exact ⟨e1, by omega, by omega, by go_num, HZ2⟩
            case measure => have := HE1.out; simp [intOf]; omega
          · rw [decide_eq_false hz] at hs
            have HZ2 := Lib.hid (show zeros (l.drop k) = e - k by rw [HZ.out, zeros_stop hell hz]; omega)
            clear hz HZ
            generalize str (hexL l[e]) = S at *
            obtain ⟨q, hq⟩ : ∃ q, q = e - k := ⟨_, rfl⟩
            have hqi : (e : Int) - (k : Int) = (q : Int) := by omega
            have hkl : k < l.length := by have := HN.out; omega
            have hzq : zeros (l.drop k) = q := by rw [HZ2.out, hq]
            by_cases hM : M < q
            · have dM : decide ((M : Int) < (q : Int)) = true := by rw [decide_eq_true_eq]; omega
              have hb := best_hit (at_ := at_) (most := most) hkl hzq (by rw [← HM.out]; exact hM)
              have HS2 := Lib.hid (show F = (runFT (bestGo (l.drop k1) k1 (some k) q)).1 ∧ T = (runFT (bestGo (l.drop k1) k1 (some k) q)).2 ∧ (k, e) = runFT (some k, q) ∧ q = max (e - k) 1 by
                rw [HK1.out.1, ← hb]
                exact ⟨HS.out.1, HS.out.2.1, by show (k, e) = (k, k + q); rw [show k + q = e by omega], by have := HM.out; have := HS.out.2.2.2; omega⟩)
              clear hq hb hzq HS HZ2 he1
              go_wp2_with fail
              exact ⟨⟨k1, k, e, some k, q, HK1.out.2, rfl, rfl, rfl, hke, hen, HS2⟩, by have := HK1.out; simp [intOf]; omega⟩
            · have dM : decide ((M : Int) < (q : Int)) = false := by rw [decide_eq_false_iff_not]; omega
              have hb := best_miss (at_ := at_) (most := most) hkl hzq (by rw [← HM.out]; exact hM)
              have HS2 := Lib.hid (show F = (runFT (bestGo (l.drop k1) k1 at_ most)).1 ∧ T = (runFT (bestGo (l.drop k1) k1 at_ most)).2 ∧ (f, t) = runFT (at_, most) ∧ most = max (t - f) 1 by
                rw [HK1.out.1, ← hb]
                exact HS.out)
              clear hq hb hzq HS HZ2 he1
              go_wp2_with fail
              exact ⟨⟨k1, f, t, at_, most, HK1.out.2, rfl, rfl, rfl, hft, htn, HS2⟩, by have := HK1.out; simp [intOf]; omega⟩
        · obtain rfl : e = n := by omega
          have del : decide ((e : Int) < (e : Int)) = false := by simp
          have HZ2 := Lib.hid (show zeros (l.drop k) = e - k by rw [HZ.out, List.drop_of_length_le (l := l) (by have := HN.out; omega)]; rfl)
          clear HZ
          obtain ⟨q, hq⟩ : ∃ q, q = e - k := ⟨_, rfl⟩
          have hqi : (e : Int) - (k : Int) = (q : Int) := by omega
          have hkl : k < l.length := by have := HN.out; omega
          have hzq : zeros (l.drop k) = q := by rw [HZ2.out, hq]
          by_cases hM : M < q
          · have dM : decide ((M : Int) < (q : Int)) = true := by rw [decide_eq_true_eq]; omega
            have hb := best_hit (at_ := at_) (most := most) hkl hzq (by rw [← HM.out]; exact hM)
            have HS2 := Lib.hid (show F = (runFT (bestGo (l.drop k1) k1 (some k) q)).1 ∧ T = (runFT (bestGo (l.drop k1) k1 (some k) q)).2 ∧ (k, e) = runFT (some k, q) ∧ q = max (e - k) 1 by
              rw [HK1.out.1, ← hb]
              exact ⟨HS.out.1, HS.out.2.1, by show (k, e) = (k, k + q); rw [show k + q = e by omega], by have := HM.out; have := HS.out.2.2.2; omega⟩)
            clear hq hb hzq HS HZ2 he1
            go_wp2_with fail
            exact ⟨⟨k1, k, e, some k, q, HK1.out.2, rfl, rfl, rfl, hke, hen, HS2⟩, by have := HK1.out; simp [intOf]; omega⟩
          · have dM : decide ((M : Int) < (q : Int)) = false := by rw [decide_eq_false_iff_not]; omega
            have hb := best_miss (at_ := at_) (most := most) hkl hzq (by rw [← HM.out]; exact hM)
            have HS2 := Lib.hid (show F = (runFT (bestGo (l.drop k1) k1 at_ most)).1 ∧ T = (runFT (bestGo (l.drop k1) k1 at_ most)).2 ∧ (f, t) = runFT (at_, most) ∧ most = max (t - f) 1 by
              rw [HK1.out.1, ← hb]
              exact HS.out)
            clear hq hb hzq HS HZ2 he1
            go_wp2_with fail
            exact ⟨⟨k1, f, t, at_, most, HK1.out.2, rfl, rfl, rfl, hft, htn, HS2⟩, by have := HK1.out; simp [intOf]; omega⟩
    · obtain rfl : k = n := by omega
      have dlt : decide ((k : Int) < (k : Int)) = false := by simp
      have hs := HS.out
      rw [List.drop_of_length_le (by have := HN.out; omega)] at hs
      obtain ⟨s1, s2, s3, s4⟩ := hs
      have e1 : F = (runFT (at_, most)).1 := s1
      have e2 : T = (runFT (at_, most)).2 := s2
      rw [← s3] at e1 e2
      have HF := Lib.hid (show f = F ∧ t = T from ⟨e1.symm, e2.symm⟩)
      clear s1 s2 s3 s4 e1 e2 HS hM hMi hdd hk1
      go_wp2_with fail
      go_ret2
      exact ⟨by rw [← HF.out.1, ← HF.out.2]; rfl, rfl⟩
end Go.Proofs.YtcblgbonijloiaaDoor
