/- Contracts of the functions, part 3: AdrVal, AdrNum, AdrDec, AdrSplit, AdrGrp, AdrGrps, AdrRun, AdrP4, AdrFrom, AdqStr. -/
import Derived.Deep.QuietTactic
import Derived.OwnWalk
import Derived.Deep.AppendLies
import Derived.Deep.RegionHeld3
import Derived.Laws.OwnMore
import Derived.Test.YtcblgbonijloiaaDoorFo1
import Derived.Test.YtcblgbonijloiaaDoorFo2
/- Contracts of the reference of layer 6 in the program's words: with; ValidPrefix. -/
namespace Go.Proofs.YtcblgbonijloiaaDoor
open Go.ChangeShapes Go.WideShapes Go.ChangeAt Go.RowKit
set_option linter.unusedVariables false

theorem width_le (v : Bool) : width v ≤ 128 := by unfold width; split <;> omega
theorem wst_mk {v : Bool} {hi lo k hi' lo' : Nat} (h : Wst (numA hi lo) (width v) k (width v) false hi' lo') (h1 : hi < 18446744073709551616) (h2 : lo < 18446744073709551616) : hi' = mkH v k hi ∧ lo' = mkL v k lo := by
  have he := wst_end h (numA_lt h1 h2) (by have := width_le v; omega)
  rw [if_neg (by decide), ← low_cut v k h2] at he
  exact (numA_inj h.h2 (Nat.lt_of_le_of_lt (lowZ_le _ _) h2)).1 he
theorem wst_fill {v : Bool} {hi lo k hi' lo' : Nat} (h : Wst (numA hi lo) (width v) k (width v) true hi' lo') (h1 : hi < 18446744073709551616) (h2 : lo < 18446744073709551616) : hi' = lowO (frH v k) hi ∧ lo' = lowO (frL v k) lo := by
  have he := wst_end h (numA_lt h1 h2) (by have := width_le v; omega)
  rw [if_pos rfl, ← low_fill v k h2] at he
  exact (numA_inj h.h2 (lowO_lt h2 (frL_le _ _))).1 he
theorem rwithF_any (v6 : Bool) (hi lo k : Nat) (w : World) (h1 : hi < 18446744073709551616) (h2 : lo < 18446744073709551616) (hb : k ≤ width v6) :
    Calls Tryd.prog 50 #[.agg #[.bool v6, .int .u64 hi, .int .u64 lo], .int .i64 k, .bool false] w fun e w' => e = .returned (.agg #[.bool v6, .int .u64 (mkH v6 k hi : Nat), .int .u64 (mkL v6 k lo : Nat)]) ∧ Below w.heap.size w w' := by
  refine (rwith6_any v6 false hi lo k w h1 h2 hb).mono ?_
  rintro e w' ⟨⟨hi', lo', rfl, hst⟩, hbel⟩
  obtain ⟨e1, e2⟩ := wst_mk hst h1 h2
  subst e1 e2
  exact ⟨rfl, hbel⟩
theorem rwithT_any (v6 : Bool) (hi lo k : Nat) (w : World) (h1 : hi < 18446744073709551616) (h2 : lo < 18446744073709551616) (hb : k ≤ width v6) :
    Calls Tryd.prog 50 #[.agg #[.bool v6, .int .u64 hi, .int .u64 lo], .int .i64 k, .bool true] w fun e w' => e = .returned (.agg #[.bool v6, .int .u64 (lowO (frH v6 k) hi : Nat), .int .u64 (lowO (frL v6 k) lo : Nat)]) ∧ Below w.heap.size w w' := by
  refine (rwith6_any v6 true hi lo k w h1 h2 hb).mono ?_
  rintro e w' ⟨⟨hi', lo', rfl, hst⟩, hbel⟩
  obtain ⟨e1, e2⟩ := wst_fill hst h1 h2
  subst e1 e2
  exact ⟨rfl, hbel⟩
set_option maxHeartbeats 4000000 in
set_option maxRecDepth 20000 in
/-- Not an address, or a number of bits below 0. -/
theorem rvalidp_case (v6 : Bool) (hi lo : Nat) (k : Int) (w : World) (b1 : hi < 18446744073709551616) (b2 : lo < 18446744073709551616) (a d1 d2 q : Bool)
    (ha : a = vldA v6 hi lo) (hd1 : d1 = decide (0 ≤ k)) (hd2 : d2 = decide (k ≤ (width v6 : Nat))) (hq : q = (v6 == v6 && (((mkH v6 k.toNat hi : Nat) : Int) == (hi : Int) && ((mkL v6 k.toNat lo : Nat) : Int) == (lo : Int)))) :
    Calls Tryd.prog 18 #[.agg #[.bool v6, .int .u64 hi, .int .u64 lo, .int .i64 k]] w fun e w' => e = .returned (.bool (a && (d1 && d2 && q))) ∧ Below w.heap.size w w' := by
  have hm := addr_guard
  have HX := Lib.hid (pb_new w v6 hi lo k)
  have HB := Lib.hid (below_alloc6 w (.cells #[.bool v6, .int .u64 hi, .int .u64 lo, .int .i64 k] 30))
  have HV := Lib.hid (fun W => rvalid6_any v6 hi lo W)
  rw [← ha] at HV
  have HWD := Lib.hid (fun W => rwidth_any v6 hi lo W)
  have HWI := Lib.hid (fun (h : 0 ≤ k ∧ k ≤ (width v6 : Nat)) W => show Calls Tryd.prog 50 #[.agg #[.bool v6, .int .u64 hi, .int .u64 lo], .int .i64 k, .bool false] W fun e w' => e = .returned (.agg #[.bool v6, .int .u64 (mkH v6 k.toNat hi : Nat), .int .u64 (mkL v6 k.toNat lo : Nat)]) ∧ Below W.heap.size W w' from by
    have := rwithF_any v6 hi lo k.toNat W b1 b2 (by omega)
    rwa [Int.toNat_of_nonneg h.1] at this)
  have qe := fun W => addr_eql v6 v6 (mkH v6 k.toNat hi : Nat) hi (mkL v6 k.toNat lo : Nat) lo W
  rw [← hq] at qe
  generalize mkH v6 k.toNat hi = hi' at *
  generalize mkL v6 k.toNat lo = lo' at *
  generalize width v6 = wd at *
  have HD := Lib.hid (And.intro hd1 hd2)
  clear ha hd1 hd2 hq b1 b2
  go_enter Tryd.func18, Tryd.ntmps18
  go_wp2_with fail
  have x0 := HX.out.c0
  generalize w.alloc (.cells #[.bool v6, .int .u64 hi, .int .u64 lo, .int .i64 k] 30) = W at *
  refine wp_region_pick (fun w' => Below W.heap.size W w') (by kernel_rfl) (by kernel_rfl) (Below.refl _ _) ⟨rfl, rfl, rfl, Nat.le_refl _, fun _ _ => rfl⟩ (fun p hp hq => ?_)
  have p0 : ∀ u, (p u).cell? ⟨w.heap.size, 0, none⟩ = some (.bool v6) := fun u => (HX.out.kept (hp u) HX.out.lt).c0
  have p1 : ∀ u, (p u).cell? ⟨w.heap.size, 1, none⟩ = some (.int .u64 hi) := fun u => (HX.out.kept (hp u) HX.out.lt).c1
  have p2 : ∀ u, (p u).cell? ⟨w.heap.size, 2, none⟩ = some (.int .u64 lo) := fun u => (HX.out.kept (hp u) HX.out.lt).c2
  have p3 : ∀ u, (p u).cell? ⟨w.heap.size, 3, none⟩ = some (.int .i64 k) := fun u => (HX.out.kept (hp u) HX.out.lt).c3
  have HP := Lib.hid hp
  have HQ := Lib.hid hq
  clear hp hq x0
  have key : Hid (d1 = true → d2 = true → 0 ≤ k ∧ k ≤ (wd : Int)) := Lib.hid (fun h1 h2 => by
    have := HD.out
    rw [h1, h2] at this
    exact ⟨of_decide_eq_true this.1.symm, of_decide_eq_true this.2.symm⟩)
  cases a
  · repeat (go_big_quiet_step ((first | with_reducible exact Calls.pick_of HQ.out (fun W' hb => (HP.out _).trans (hb.mono (HP.out _).size)) (HV.out _))))
    refine wpQuiet_nil ?_
    rintro _ ⟨u, rfl⟩
    have HS := Lib.hid (HP.out u)
    generalize p u = W2 at *
    clear p0 p1 p2 p3 HQ HP
    go_wp2_with fail
    go_ret
    exact ⟨rfl, HB.out.trans (HS.out.mono HB.out.size)⟩
  · cases d1
    · have t1 : decide (0 ≤ k) = false := HD.out.1.symm
      repeat (go_big_quiet_step ((first | with_reducible exact Calls.pick_of HQ.out (fun W' hb => (HP.out _).trans (hb.mono (HP.out _).size)) (HV.out _))))
      refine wpQuiet_nil ?_
      rintro _ ⟨u, rfl⟩
      have HS := Lib.hid (HP.out u)
      generalize p u = W2 at *
      clear p0 p1 p2 p3 HQ HP
      go_wp2_with fail
      go_ret
      exact ⟨rfl, HB.out.trans (HS.out.mono HB.out.size)⟩
    · have t1 : decide (0 ≤ k) = true := HD.out.1.symm
      cases d2
      · have t2 : decide (k ≤ (wd : Int)) = false := HD.out.2.symm
        repeat (go_big_quiet_step ((first | with_reducible exact Calls.pick_of HQ.out (fun W' hb => (HP.out _).trans (hb.mono (HP.out _).size)) (HV.out _) | with_reducible exact Calls.pick_of HQ.out (fun W' hb => (HP.out _).trans (hb.mono (HP.out _).size)) (HWD.out _))))
        refine wpQuiet_nil ?_
        rintro _ ⟨u, rfl⟩
        have HS := Lib.hid (HP.out u)
        generalize p u = W2 at *
        clear p0 p1 p2 p3 HQ HP
        go_wp2_with fail
        go_ret
        exact ⟨rfl, HB.out.trans (HS.out.mono HB.out.size)⟩
      · have t2 : decide (k ≤ (wd : Int)) = true := HD.out.2.symm
        repeat (go_big_quiet_step ((first | with_reducible exact Calls.pick_of HQ.out (fun W' hb => (HP.out _).trans (hb.mono (HP.out _).size)) (HV.out _) | with_reducible exact Calls.pick_of HQ.out (fun W' hb => (HP.out _).trans (hb.mono (HP.out _).size)) (HWD.out _) | with_reducible exact Calls.pick_of HQ.out (fun W' hb => (HP.out _).trans (hb.mono (HP.out _).size)) (HWI.out (key.out rfl rfl) _))))
        refine wpQuiet_nil ?_
        rintro _ ⟨u, rfl⟩
        have HS := Lib.hid (HP.out u)
        generalize p u = W2 at *
        clear p0 p1 p2 p3 HQ HP
        go_wp2_with fail
        go_ret
        exact ⟨rfl, HB.out.trans (HS.out.mono HB.out.size)⟩
theorem rvalidp_any (v6 : Bool) (hi lo : Nat) (k : Int) (w : World) (b1 : hi < 18446744073709551616) (b2 : lo < 18446744073709551616) :
    Calls Tryd.prog 18 #[.agg #[.bool v6, .int .u64 hi, .int .u64 lo, .int .i64 k]] w fun e w' => e = .returned (.bool (vldP v6 hi lo k)) ∧ Below w.heap.size w w' := by
  have h := rvalidp_case v6 hi lo k w b1 b2 _ _ _ _ rfl rfl rfl rfl
  rwa [show (vldA v6 hi lo && (decide (0 ≤ k) && decide (k ≤ (width v6 : Nat)) && (v6 == v6 && (((mkH v6 k.toNat hi : Nat) : Int) == (hi : Int) && ((mkL v6 k.toNat lo : Nat) : Int) == (lo : Int))))) = vldP v6 hi lo k from by
    unfold vldP cntB
    rw [show decide (0 ≤ k ∧ k ≤ (width v6 : Nat)) = (decide (0 ≤ k) && decide (k ≤ (width v6 : Nat))) from by rw [Bool.eq_iff_iff]; simp]] at h
end Go.Proofs.YtcblgbonijloiaaDoor

/- Contracts of the reference of layer 6: Number, hex, Decimal, group. -/
namespace Go.Proofs.YtcblgbonijloiaaDoor
open Go.ChangeShapes Go.WideShapes Go.ChangeAt Go.RowKit
set_option linter.unusedVariables false

set_option maxRecDepth 20000 in
theorem rnum6_any (n : Nat) (w : World) (hn : n ≤ 1000000000) :
    Calls Tryd.prog 55 #[.int .i64 n] w fun e w' => e = .returned (.string (str (numL n))) ∧ Below w.heap.size w w' := by
  obtain ⟨R, hR⟩ : ∃ R, R = numL n := ⟨_, rfl⟩
  rw [← hR]
  have HR := Lib.hid hR
  have hRl : R.length ≤ 10 := by rw [hR]; exact num_len_pow 9 n (by omega)
  have HB := Lib.hid (Below.refl w.heap.size w)
  clear hR
  go_enter Tryd.func55, Tryd.ntmps55
  go_wp2_with fail
  go_loopw [0, 3] (fun v0 v3 wr => ∃ k : Nat, ∃ q : By, v0 = .int .i64 k ∧ v3 = .string (str q) ∧ k ≤ 1000000000 ∧ Hid (numL k ++ q = R) ∧ Hid (Below w.heap.size w wr)) (fun v0 _ _ => (intOf v0).toNat)
  case atStart => exact ⟨n, [], rfl, rfl, hn, Lib.hid (by rw [HR.out]; simp), HB⟩
  case round =>
    clear HB
    obtain ⟨k, q, rfl, rfl, hk, HQ, HB⟩ := hrel
    have hq : q.length ≤ 10 := by
      have := congrArg List.length HQ.out
      rw [List.length_append] at this
      omega
    by_cases h9 : 9 < k
    · have d9 : decide ((9 : Int) < (k : Int)) = true := by simp; omega
      have hcv := fun W g => one_string W g (48 + (k : Int) % 10) (by omega) (by omega)
      rw [show (48 + (k : Int) % 10).toNat = 48 + k % 10 by omega] at hcv
      have hfin : str [UInt8.ofNat (48 + k % 10)] ++ str q = str (dig (k % 10) :: q) := str_append _ _
      have hcat : (9223372036854775807 < (str [UInt8.ofNat (48 + k % 10)]).size + (str q).size) = False := by
        rw [str_size, str_size]; simp; omega
      have HF := Lib.hid hfin
      have HQ2 := Lib.hid (show numL (k / 10) ++ (dig (k % 10) :: q) = R by
        rw [← HQ.out]
        rw [show numL k = numL (k / 10) ++ [dig (k % 10)] by rw [numL, if_neg (by omega)]]
        simp)
      have HB2 := Lib.hid (HB.out.alloc HB.out.size (.cells #[.int .u8 (48 + (k : Int) % 10)] 5))
      clear hfin
      generalize str q = S at *
      generalize str [UInt8.ofNat (48 + k % 10)] = U at *
      go_wp2_with fail
      go_roundw
      case rel => exact ⟨k / 10, dig (k % 10) :: q, by go_num, by rw [HF.out], by omega, HQ2, HB2⟩
      case measure => simp [intOf]; omega
    · have d9 : decide ((9 : Int) < (k : Int)) = false := by simp; omega
      have hcv := fun W g => one_string W g (48 + (k : Int)) (by omega) (by omega)
      rw [show (48 + (k : Int)).toNat = 48 + k by omega] at hcv
      have hfin : str [UInt8.ofNat (48 + k)] ++ str q = str R := by
        rw [str_append, ← HQ.out, numL, if_pos (by omega)]; rfl
      have hcat : (9223372036854775807 < (str [UInt8.ofNat (48 + k)]).size + (str q).size) = False := by
        rw [str_size, str_size]; simp; omega
      have HF := Lib.hid hfin
      have HB2 := Lib.hid (HB.out.alloc HB.out.size (.cells #[.int .u8 (48 + (k : Int))] 5))
      clear hfin
      generalize str q = S at *
      generalize str [UInt8.ofNat (48 + k)] = U at *
      go_wp2_with fail
      go_ret
      exact ⟨by rw [← HF.out]; rfl, HB2.out⟩
end Go.Proofs.YtcblgbonijloiaaDoor

/- Contract of the reference of layer 6: Decimal. -/
namespace Go.Proofs.YtcblgbonijloiaaDoor
open Go.ChangeShapes Go.WideShapes Go.ChangeAt Go.RowKit
set_option linter.unusedVariables false

theorem drop_at6 (s : ByteArray) (k : Nat) (h : k < s.size) : s.data.toList.drop k = s[k] :: s.data.toList.drop (k + 1) := by
  rw [List.drop_eq_getElem_cons (by simpa using h)]; rfl
set_option maxHeartbeats 400000 in
set_option maxRecDepth 20000 in
theorem rdec6_any (s : ByteArray) (most : Nat) (w : World) (hm : most ≤ 1000) (hs : s.size ≤ 1000) :
    Calls Tryd.prog 49 #[.string s, .int .i64 most] w fun e w' => e = .returned (.int .i64 (decS most s.data.toList)) ∧ w = w' := by
  obtain ⟨R, hR⟩ : ∃ R, R = decS most s.data.toList := ⟨_, rfl⟩
  rw [← hR]
  have hlen : s.data.toList.length = s.size := by show s.data.toList.length = s.data.size; simp only [Array.length_toList]
  by_cases c0 : s.size = 0
  · have e : R = -1 := by rw [hR, decS, if_pos (Or.inl (by rw [hlen, c0]))]
    subst e
    have d0 : ((s.size : Int) == 0) = true := by simp [c0]
    clear hR hlen c0
    go_enter Tryd.func49, Tryd.ntmps49
    go_wp2_with fail
    go_ret
    exact ⟨rfl, rfl⟩
  have h0 : 0 < s.size := Nat.pos_of_ne_zero c0
  have hd : s.data.toList.head? = some s[0] := by
    have := drop_at6 s 0 h0
    rw [List.drop_zero] at this
    rw [this]; rfl
  have d0 : ((s.size : Int) == 0) = false := by rw [beq_eq_false_iff_ne]; omega
  by_cases c1 : 1 < s.size ∧ s[0].toNat = 48
  · have hz : s[0] = 48 := UInt8.toNat_inj.mp (by rw [c1.2]; rfl)
    have e : R = -1 := by rw [hR, decS, if_pos (Or.inr ⟨by rw [hlen]; exact c1.1, by rw [hd, hz]⟩)]
    subst e
    have d1 : decide ((1 : Int) < (s.size : Int)) = true := by simp; omega
    have d2 : ((s[0].toNat : Int) == 48) = true := by simp; omega
    clear hR hlen hd hz
    go_enter Tryd.func49, Tryd.ntmps49
    go_wp2_with fail
    go_ret
    exact ⟨rfl, rfl⟩
  have hne : ¬ (s.data.toList.length = 0 ∨ (1 < s.data.toList.length ∧ s.data.toList.head? = some 48)) := by
    rintro (h | ⟨h, h'⟩)
    · omega
    · rw [hd] at h'
      have : s[0] = 48 := Option.some.inj h'
      exact c1 ⟨by omega, by rw [this]; rfl⟩
  rw [decS, if_neg hne] at hR
  obtain ⟨D, hD⟩ : ∃ D, D = decGo most 0 (s.data.toList.drop 0) := ⟨_, rfl⟩
  rw [List.drop_zero] at hD
  rw [← hD] at hR
  have HR := Lib.hid hR
  have HD := Lib.hid (show decGo most 0 (s.data.toList.drop 0) = D by rw [hD, List.drop_zero])
  have hguard : decide ((1 : Int) < (s.size : Int)) = false ∨ (decide ((1 : Int) < (s.size : Int)) = true ∧ ((s[0].toNat : Int) == 48) = false) := by
    by_cases h : 1 < s.size
    · exact Or.inr ⟨by simp; omega, by rw [beq_eq_false_iff_ne]; intro e; exact c1 ⟨h, by omega⟩⟩
    · exact Or.inl (by simp; omega)
  clear hR hD hlen hd hne c1
  go_enter Tryd.func49, Tryd.ntmps49
  rcases hguard with g1 | ⟨g1, g2⟩
  all_goals
  go_wp2_with fail
  go_loopw [5, 6] (fun v5 v6 wr => ∃ m k : Nat, v5 = .int .i64 m ∧ v6 = .int .i64 k ∧ k ≤ s.size ∧ m ≤ most + 1 ∧ Hid (decGo most m (s.data.toList.drop k) = D) ∧ w = wr) (fun _ v6 _ => s.size - (intOf v6).toNat)
  case atStart => exact ⟨0, 0, rfl, rfl, Nat.zero_le _, Nat.zero_le _, HD, rfl⟩
  case round =>
    obtain ⟨m, k, rfl, rfl, hk, hmm, HQ, rfl⟩ := hrel
    by_cases hlt : k < s.size
    · have hki : (k : Int) < (s.size : Int) := by omega
      have hki0 : (0 : Int) ≤ (k : Int) := by omega
      have hx8 := u8_lt s[k]
      have hq := HQ.out
      rw [drop_at6 s k hlt, decGo] at hq
      obtain ⟨k1, hk1⟩ : ∃ k1, k1 = k + 1 := ⟨_, rfl⟩
      have k1i : (k : Int) + 1 = (k1 : Int) := by omega
      have k1s : k1 ≤ s.size := by omega
      rw [← hk1] at hq
      have HK1 := Lib.hid hk1
      clear hk1
      by_cases hdg : 48 ≤ s[k].toNat ∧ s[k].toNat ≤ 57
      · rw [if_pos hdg] at hq
        obtain ⟨m1, hm1⟩ : ∃ m1, m1 = min (10 * m + (s[k].toNat - 48)) (most + 1) := ⟨_, rfl⟩
        rw [← hm1] at hq
        have hm1l : m1 ≤ most + 1 := by omega
        have em : min (10 * (m : Int) + (s[k].toNat : Int) - 48) ((most : Int) + 1) = (m1 : Int) := by omega
        have t1 : decide ((s[k].toNat : Int) < 48) = false := by simp; omega
        have t2 : decide ((57 : Int) < (s[k].toNat : Int)) = false := by simp; omega
        have HQ2 := Lib.hid hq
        clear hq hm1
        go_wp2_with fail
        go_roundw
        case rel => exact ⟨m1, k1, by rw [← em], by go_num, k1s, hm1l, HQ2, by first | trivial | rfl⟩
        case measure => have := HK1.out; simp [intOf]; omega
      · rw [if_neg hdg] at hq
        have e : R = -1 := by rw [HR.out, ← hq]
        by_cases hl : s[k].toNat < 48
        · have t1 : decide ((s[k].toNat : Int) < 48) = true := by simp; omega
          clear hq
          go_wp2_with fail
          go_ret
          exact ⟨by first | rfl | (rw [e]; rfl), rfl⟩
        · have t1 : decide ((s[k].toNat : Int) < 48) = false := by simp; omega
          have t2 : decide ((57 : Int) < (s[k].toNat : Int)) = true := by simp; omega
          clear hq
          go_wp2_with fail
          go_ret
          exact ⟨by first | rfl | (rw [e]; rfl), rfl⟩
    · have ek : k = s.size := by omega
      have hq := HQ.out
      rw [List.drop_of_length_le (by rw [ek]; show s.data.toList.length ≤ s.data.size; simp), decGo] at hq
      have e : R = if most < m then -2 else (m : Int) := by rw [HR.out, ← hq]
      have nlt : ¬ (k : Int) < (s.size : Int) := by omega
      have dlt : decide ((k : Int) < (s.size : Int)) = false := by simp; omega
      clear hq ek
      by_cases hmo : most < m
      · have t : decide ((most : Int) < (m : Int)) = true := by simp; omega
        rw [if_pos hmo] at e
        go_wp2_with fail
        go_ret
        exact ⟨by first | rfl | (rw [e]; rfl), rfl⟩
      · have t : decide ((most : Int) < (m : Int)) = false := by simp; omega
        rw [if_neg hmo] at e
        go_wp2_with fail
        go_ret
        exact ⟨by first | rfl | (rw [e]; rfl), rfl⟩
end Go.Proofs.YtcblgbonijloiaaDoor

/- Contract of the reference of layer 6: Split (a list of strings in memory). -/
namespace Go.Proofs.YtcblgbonijloiaaDoor
open Go.ChangeShapes Go.WideShapes Go.ChangeAt Go.RowKit
set_option linter.unusedVariables false

theorem extract_str6 (s : ByteArray) (a b : Nat) : s.extract a b = str ((s.data.toList.drop a).take (b - a)) := by
  apply ByteArray.ext
  apply Array.ext'
  rw [Lib.extract_data]
  simp [str]
theorem toList_length6 (s : ByteArray) : s.data.toList.length = s.size := by show s.data.toList.length = s.data.size; simp only [Array.length_toList]
def strC (L : List By) : List Value := L.map fun p => .string (str p)
theorem strC_snoc (L : List By) (p : By) : strC (L ++ [p]) = strC L ++ [.string (str p)] := by simp [strC]
theorem info_str6 : (Tryd.prog.info? 9).map (fun i => (i.zero, i.size, i.bytes)) = some (some (.string ⟨#[]⟩), 1, 16) := by kernel_rfl
/-- What is still to come at index k, the piece under way having begun at f. -/
def restS (c : UInt8) (s : By) (f k : Nat) : List By := if k ≤ s.length then splitGo c ((s.drop f).take (k - f)) (s.drop k) else []
theorem restS_zero (c : UInt8) (s : By) : restS c s 0 0 = splitL c s := by
  rw [restS, if_pos (Nat.zero_le _)]; rfl
theorem restS_end (c : UInt8) (s : By) (f k : Nat) (h : k = s.length) (k1 : Nat) (hk1 : k1 = k + 1) : restS c s f k = [(s.drop f).take (k - f)] ++ restS c s k1 k1 := by
  have hd : s.drop k = [] := List.drop_of_length_le (by omega)
  rw [restS, if_pos (by omega), hd, splitGo, restS, if_neg (by omega)]; rfl
theorem restS_at (c : UInt8) (s : By) (f k : Nat) (h : k < s.length) (hc : s[k] = c) (k1 : Nat) (hk1 : k1 = k + 1) : restS c s f k = [(s.drop f).take (k - f)] ++ restS c s k1 k1 := by
  rw [restS, if_pos (by omega), List.drop_eq_getElem_cons h, splitGo, if_pos hc, restS, if_pos (by omega), Nat.sub_self, List.take_zero, hk1]; rfl
theorem restS_on (c : UInt8) (s : By) (f k : Nat) (h : k < s.length) (hf : f ≤ k) (hc : s[k] ≠ c) (k1 : Nat) (hk1 : k1 = k + 1) : restS c s f k = restS c s f k1 := by
  rw [restS, if_pos (by omega), List.drop_eq_getElem_cons h, splitGo, if_neg hc, restS, if_pos (by omega), hk1]
  congr 1
  rw [show k + 1 - f = (k - f) + 1 by omega, List.take_succ_eq_append_getElem (by rw [List.length_drop]; omega), List.getElem_drop]
  congr 3; omega
theorem restS_over (c : UInt8) (s : By) (f k : Nat) (h : ¬ k ≤ s.length) : restS c s f k = [] := by rw [restS, if_neg h]
set_option maxHeartbeats 800000 in
set_option maxRecDepth 20000 in
theorem rsplit6_any (s : ByteArray) (c : UInt8) (w : World) (hs : s.size ≤ 1000) :
    Calls Tryd.prog 47 #[.string s, .int .u8 c.toNat] w fun e w' => ∃ A cap, e = .returned (.slice A (splitL c s.data.toList).length cap) ∧ w'.ownsRow w.heap.size 9 1 (.slice A (splitL c s.data.toList).length cap) (splitL c s.data.toList).length (strC (splitL c s.data.toList)) ∧ Below w.heap.size w w' := by
  obtain ⟨R, hR⟩ : ∃ R, R = splitL c s.data.toList := ⟨_, rfl⟩
  rw [← hR]
  have H0 := Lib.hid (show [] ++ restS c s.data.toList 0 0 = R by rw [restS_zero, hR]; rfl)
  have HB0 := Lib.hid (Below.refl w.heap.size w)
  have HO0 := Lib.hid (World.ownsRow_nil w w.heap.size 9 1)
  have hc8 := u8_lt c
  obtain ⟨i0, hinf, hz0, hz1, hz2⟩ := info_parts info_str6
  clear hR
  go_enter Tryd.func47, Tryd.ntmps47
  go_wp2_with fail
  go_loopw [5, 6, 7] (fun v5 v6 v7 wr => ∃ f k cap' : Nat, ∃ A' : Option Addr, ∃ out : List By, v5 = .slice A' out.length cap' ∧ v6 = .int .i64 f ∧ v7 = .int .i64 k ∧ f ≤ k ∧ k ≤ s.size + 1 ∧ out.length ≤ k ∧ Hid (out ++ restS c s.data.toList f k = R) ∧ Hid (Below w.heap.size w wr) ∧ Hid (wr.ownsRow w.heap.size 9 1 (.slice A' out.length cap') out.length (strC out))) (fun _ _ v7 _ => s.size + 1 - (intOf v7).toNat)
  case atStart => exact ⟨0, 0, 0, none, [], rfl, rfl, rfl, Nat.le_refl _, Nat.zero_le _, Nat.le_refl _, H0, HB0, HO0⟩
  case round =>
    clear H0 HB0 HO0
    obtain ⟨f, k, cap', A', out, rfl, rfl, rfl, hfk, hk, hol, HQ, HB, HO⟩ := hrel
    have hlen := toList_length6 s
    obtain ⟨k1, hk1⟩ : ∃ k1, k1 = k + 1 := ⟨_, rfl⟩
    have k1i : (k : Int) + 1 = (k1 : Int) := by omega
    by_cases hle : k ≤ s.size
    · have dle : decide ((k : Int) ≤ (s.size : Int)) = true := by simp; omega
      have hle' : (k : Int) ≤ (s.size : Int) := by omega
      have k1s : k1 ≤ s.size + 1 := by omega
      have hPs : s.extract f k = str ((s.data.toList.drop f).take (k - f)) := extract_str6 s f k
      obtain ⟨M, hM⟩ : ∃ M, M = out ++ [(s.data.toList.drop f).take (k - f)] := ⟨_, rfl⟩
      have HSN := Lib.hid (show strC out ++ [.string (s.extract f k)] = strC M by rw [hM, strC_snoc, hPs])
      have hMl : out.length + 1 = M.length := by rw [hM]; simp
      have hMk : M.length ≤ k1 := by omega
      have hsz := HB.out.size
      have HB1 := Lib.hid (HB.out.alloc hsz (.cells #[.string (s.extract f k)] 9))
      have HT : (s.size = k ∧ ((k : Int) == (s.size : Int)) = true ∨ ((k : Int) == (s.size : Int)) = false ∧ ∃ hk : k < s.size, True) := by
        by_cases e : k = s.size
        · exact Or.inl ⟨e.symm, by simp [e]⟩
        · exact Or.inr ⟨by rw [beq_eq_false_iff_ne]; omega, by omega, trivial⟩
      rcases HT with ⟨hke, tb⟩ | ⟨tb, hks, -⟩
      · have hq := HQ.out
        rw [restS_end _ _ _ _ (by omega) k1 hk1, ← List.append_assoc, ← hM] at hq
        have HQ2 := Lib.hid hq
        clear hq hPs hM HQ hle hlen
        go_wp2_with (at_builtin; refine wpList_append_lies _ rfl _ _ 57 rfl w.heap.size 9 i0 (.string ⟨#[]⟩) 1 16 Tryd.underlying57 hinf hz0 hz1 hz2 rfl (by omega) _ out.length (strC out) rfl (HO.out.alloc _) ⟨wr.heap.size, 0, none⟩ 1 1 [.string (s.extract f k)] rfl rfl ?c1 ?c2 (by omega) ?c3 ?c4 ?c5 _ rfl ?_)
        case c1 => exact World.news_of_block (cs := #[.string (s.extract f k)]) (t := 9) (fr := (0, 0)) (heap_alloc_new wr _)
        case c2 => simp [Value.oneCell']
        case c3 => unfold maxLen; omega
        case c4 => omega
        case c5 => simp; omega
        intro g2 cap2 w3 hown3 hgrow hat hlt2
        have hB3 := HB1.out.grown hgrow (by simp; omega) (fun j hj => (HO.out.lt j hj).1)
        rw [HSN.out] at hown3
        try rw [hMl] at hown3
        try rw [hMl]
        have HB3 := Lib.hid hB3
        have HO3 := Lib.hid hown3
        have HK1 := Lib.hid hk1
        clear hB3 hown3 hgrow hat hlt2 HB HO HB1 hMl hk1
        go_wp2_with fail
        go_roundw
        case rel => exact ⟨k1, k1, cap2, some ⟨g2, 0, none⟩, M, rfl, by go_num, by go_num, Nat.le_refl _, k1s, hMk, HQ2, HB3, HO3⟩
        case measure => have := HK1.out; simp [intOf]; omega
      · have hks' : (k : Int) < (s.size : Int) := by omega
        have ha : s.data.toList[k]'(by omega) = s[k] := rfl
        have hx8 := u8_lt s[k]
        by_cases hcc : s[k] = c
        · have tc : ((s[k].toNat : Int) == (c.toNat : Int)) = true := by rw [hcc]; simp
          have hq := HQ.out
          rw [restS_at _ _ _ _ (by omega) (by rw [ha]; exact hcc) k1 hk1, ← List.append_assoc, ← hM] at hq
          have HQ2 := Lib.hid hq
          clear hq hPs hM HQ hlen ha hcc
          go_wp2_with (at_builtin; refine wpList_append_lies _ rfl _ _ 57 rfl w.heap.size 9 i0 (.string ⟨#[]⟩) 1 16 Tryd.underlying57 hinf hz0 hz1 hz2 rfl (by omega) _ out.length (strC out) rfl (HO.out.alloc _) ⟨wr.heap.size, 0, none⟩ 1 1 [.string (s.extract f k)] rfl rfl ?c1 ?c2 (by omega) ?c3 ?c4 ?c5 _ rfl ?_)
          case c1 => exact World.news_of_block (cs := #[.string (s.extract f k)]) (t := 9) (fr := (0, 0)) (heap_alloc_new wr _)
          case c2 => simp [Value.oneCell']
          case c3 => unfold maxLen; omega
          case c4 => omega
          case c5 => simp; omega
          intro g2 cap2 w3 hown3 hgrow hat hlt2
          have hB3 := HB1.out.grown hgrow (by simp; omega) (fun j hj => (HO.out.lt j hj).1)
          rw [HSN.out] at hown3
          try rw [hMl] at hown3
          try rw [hMl]
          have HB3 := Lib.hid hB3
          have HO3 := Lib.hid hown3
          have HK1 := Lib.hid hk1
          clear hB3 hown3 hgrow hat hlt2 HB HO HB1 hMl hk1
          go_wp2_with fail
          go_roundw
          case rel => exact ⟨k1, k1, cap2, some ⟨g2, 0, none⟩, M, rfl, by go_num, by go_num, Nat.le_refl _, k1s, hMk, HQ2, HB3, HO3⟩
          case measure => have := HK1.out; simp [intOf]; omega
        · have tc : ((s[k].toNat : Int) == (c.toNat : Int)) = false := by
            rw [beq_eq_false_iff_ne]; intro e
            exact hcc (UInt8.toNat_inj.mp (by omega))
          have hq := HQ.out
          rw [restS_on _ _ _ _ (by omega) hfk (by rw [ha]; exact hcc) k1 hk1] at hq
          have HQ2 := Lib.hid hq
          have hok : out.length ≤ k1 := by omega
          have hfk1 : f ≤ k1 := by omega
          have HK1 := Lib.hid hk1
          clear hq hPs hM HQ hlen ha hcc HSN hMl hMk HB1 hk1
          go_wp2_with fail
          go_roundw
          case rel => exact ⟨f, k1, cap', A', out, rfl, rfl, by go_num, hfk1, k1s, hok, HQ2, HB, HO⟩
          case measure => have := HK1.out; simp [intOf]; omega
    · have dle : decide ((k : Int) ≤ (s.size : Int)) = false := by simp; omega
      have nle : ¬ (k : Int) ≤ (s.size : Int) := by omega
      have hq := HQ.out
      rw [restS_over _ _ _ _ (by omega), List.append_nil] at hq
      subst hq
      clear HQ hk1
      go_wp2_with fail
      go_ret
      exact ⟨A', cap', rfl, HO.out, HB.out⟩
end Go.Proofs.YtcblgbonijloiaaDoor

/- Contracts of the reference of layer 6: group. -/
namespace Go.Proofs.YtcblgbonijloiaaDoor
open Go.ChangeShapes Go.WideShapes Go.ChangeAt Go.RowKit
set_option linter.unusedVariables false

/-- What the reference's group answers. -/
def grpI (s : By) : Int := match grpS s with
  | none => -1
  | some n => n
theorem pow16_le {k : Nat} (h : k < 4) : 16 ^ k ≤ 4096 := by
  calc 16 ^ k ≤ 16 ^ 3 := Nat.pow_le_pow_right (by omega) (by omega)
    _ = 4096 := rfl
set_option maxHeartbeats 800000 in
set_option maxRecDepth 20000 in
theorem rgroup6_any (s : ByteArray) (w : World) (hs0 : s.size ≤ 1000) :
    Calls Tryd.prog 83 #[.string s] w fun e w' => e = .returned (.int .i64 (grpI s.data.toList)) ∧ w = w' := by
  obtain ⟨R, hR⟩ : ∃ R, R = grpI s.data.toList := ⟨_, rfl⟩
  rw [← hR]
  have hlen : s.data.toList.length = s.size := by show s.data.toList.length = s.data.size; simp only [Array.length_toList]
  by_cases c0 : s.size < 1
  · have e : R = -1 := by rw [hR, grpI, grpS, if_pos (Or.inl (by rw [hlen]; exact c0))]
    have d0 : decide ((s.size : Int) < 1) = true := by simp; omega
    clear hR hlen
    go_enter Tryd.func83, Tryd.ntmps83
    go_wp2_with fail
    go_ret
    exact ⟨by first | rfl | (rw [e]; rfl), rfl⟩
  have d0 : decide ((s.size : Int) < 1) = false := by simp; omega
  by_cases c1 : 4 < s.size
  · have e : R = -1 := by rw [hR, grpI, grpS, if_pos (Or.inr (by rw [hlen]; exact c1))]
    have d1 : decide ((4 : Int) < (s.size : Int)) = true := by simp; omega
    clear hR hlen
    go_enter Tryd.func83, Tryd.ntmps83
    go_wp2_with fail
    go_ret
    exact ⟨by first | rfl | (rw [e]; rfl), rfl⟩
  have d1 : decide ((4 : Int) < (s.size : Int)) = false := by simp; omega
  have h4 : s.size ≤ 4 := by omega
  rw [grpI, grpS, if_neg (by rw [hlen]; omega)] at hR
  obtain ⟨D, hD⟩ : ∃ D, D = hexGo 0 (s.data.toList.drop 0) := ⟨_, rfl⟩
  rw [List.drop_zero] at hD
  rw [← hD] at hR
  have HR := Lib.hid hR
  have HD := Lib.hid (show hexGo 0 (s.data.toList.drop 0) = D by rw [hD, List.drop_zero])
  have HM0 := Lib.hid (show 0 < 16 ^ 0 by decide)
  clear hR hD hlen
  go_enter Tryd.func83, Tryd.ntmps83
  go_wp2_with fail
  go_loopw [3, 4, 5] (fun v3 v4 _ wr => ∃ m k : Nat, v3 = .int .i64 m ∧ v4 = .int .i64 k ∧ k ≤ s.size ∧ Hid (m < 16 ^ k) ∧ Hid (hexGo m (s.data.toList.drop k) = D) ∧ w = wr) (fun _ v4 _ _ => s.size - (intOf v4).toNat)
  case atStart => exact ⟨0, 0, rfl, rfl, Nat.zero_le _, HM0, HD, rfl⟩
  case round =>
    obtain ⟨m, k, rfl, rfl, hk, HM, HQ, rfl⟩ := hrel
    by_cases hlt : k < s.size
    · have hki : (k : Int) < (s.size : Int) := by omega
      have hki0 : (0 : Int) ≤ (k : Int) := by omega
      have hx8 := u8_lt s[k]
      have hm4 : m < 4096 := Nat.lt_of_lt_of_le HM.out (pow16_le (by omega))
      have hq := HQ.out
      rw [drop_at6 s k hlt, hexGo, hexV] at hq
      obtain ⟨k1, hk1⟩ : ∃ k1, k1 = k + 1 := ⟨_, rfl⟩
      have k1i : (k : Int) + 1 = (k1 : Int) := by omega
      have k1s : k1 ≤ s.size := by omega
      have hstep : ∀ d, d < 16 → 16 * m + d < 16 ^ k1 := by
        intro d hd
        have := HM.out
        rw [hk1, Nat.pow_succ]; omega
      rw [← hk1] at hq
      have HST := Lib.hid hstep
      have HK1 := Lib.hid hk1
      clear hk1 hstep
      by_cases a1 : 48 ≤ s[k].toNat ∧ s[k].toNat ≤ 57
      · rw [if_pos a1] at hq
        obtain ⟨y, hy⟩ : ∃ y, y = s[k].toNat - 48 := ⟨_, rfl⟩
        have ey : (s[k].toNat : Int) - 48 = (y : Int) := by omega
        have ly : y < 16 := by omega
        have ny : ¬ (y : Int) < 0 := by omega
        have dy : decide ((y : Int) < 0) = false := by simp
        have t1 : decide ((48 : Int) ≤ (s[k].toNat : Int)) = true := by simp; omega
        have t2 : decide ((s[k].toNat : Int) ≤ 57) = true := by simp; omega
        rw [← hy] at hq
        have HQ2 := Lib.hid (show hexGo (16 * m + y) (s.data.toList.drop k1) = D from hq)
        clear hq hy
        go_wp2_with fail
        go_roundw
        case rel => exact ⟨16 * m + y, k1, by go_num, by go_num, k1s, Lib.hid (HST.out y ly), HQ2, by first | trivial | rfl⟩
        case measure => have := HK1.out; simp [intOf]; omega
      · rw [if_neg a1] at hq
        have T1 : (decide ((48 : Int) ≤ (s[k].toNat : Int)) = false) ∨ (decide ((48 : Int) ≤ (s[k].toNat : Int)) = true ∧ decide ((s[k].toNat : Int) ≤ 57) = false) := by
          by_cases h : 48 ≤ s[k].toNat
          · exact Or.inr ⟨by simp; omega, by simp; omega⟩
          · exact Or.inl (by simp; omega)
        by_cases a2 : 97 ≤ s[k].toNat ∧ s[k].toNat ≤ 102
        · rw [if_pos a2] at hq
          obtain ⟨y, hy⟩ : ∃ y, y = s[k].toNat - 87 := ⟨_, rfl⟩
          have ey : (s[k].toNat : Int) - 87 = (y : Int) := by omega
          have ly : y < 16 := by omega
          have ny : ¬ (y : Int) < 0 := by omega
          have dy : decide ((y : Int) < 0) = false := by simp
          have p1 : decide ((97 : Int) ≤ (s[k].toNat : Int)) = true := by simp; omega
          have p2 : decide ((s[k].toNat : Int) ≤ 102) = true := by simp; omega
          rw [← hy] at hq
          have HQ2 := Lib.hid (show hexGo (16 * m + y) (s.data.toList.drop k1) = D from hq)
          clear hq hy
          rcases T1 with t1 | ⟨t1, t2⟩
          all_goals
          go_wp2_with fail
          go_roundw
          case rel => exact ⟨16 * m + y, k1, by go_num, by go_num, k1s, Lib.hid (HST.out y ly), HQ2, by first | trivial | rfl⟩
          case measure => have := HK1.out; simp [intOf]; omega
        · rw [if_neg a2] at hq
          have T2 : (decide ((97 : Int) ≤ (s[k].toNat : Int)) = false) ∨ (decide ((97 : Int) ≤ (s[k].toNat : Int)) = true ∧ decide ((s[k].toNat : Int) ≤ 102) = false) := by
            by_cases h : 97 ≤ s[k].toNat
            · exact Or.inr ⟨by simp; omega, by simp; omega⟩
            · exact Or.inl (by simp; omega)
          by_cases a3 : 65 ≤ s[k].toNat ∧ s[k].toNat ≤ 70
          · rw [if_pos a3] at hq
            obtain ⟨y, hy⟩ : ∃ y, y = s[k].toNat - 55 := ⟨_, rfl⟩
            have ey : (s[k].toNat : Int) - 55 = (y : Int) := by omega
            have ly : y < 16 := by omega
            have ny : ¬ (y : Int) < 0 := by omega
            have dy : decide ((y : Int) < 0) = false := by simp
            have p1 : decide ((65 : Int) ≤ (s[k].toNat : Int)) = true := by simp; omega
            have p2 : decide ((s[k].toNat : Int) ≤ 70) = true := by simp; omega
            rw [← hy] at hq
            have HQ2 := Lib.hid (show hexGo (16 * m + y) (s.data.toList.drop k1) = D from hq)
            clear hq hy
            rcases T1 with t1 | ⟨t1, t2⟩
            all_goals
            rcases T2 with u1 | ⟨u1, u2⟩
            all_goals
            go_wp2_with fail
            go_roundw
            case rel => exact ⟨16 * m + y, k1, by go_num, by go_num, k1s, Lib.hid (HST.out y ly), HQ2, by first | trivial | rfl⟩
            case measure => have := HK1.out; simp [intOf]; omega
          · rw [if_neg a3] at hq
            have T3 : (decide ((65 : Int) ≤ (s[k].toNat : Int)) = false) ∨ (decide ((65 : Int) ≤ (s[k].toNat : Int)) = true ∧ decide ((s[k].toNat : Int) ≤ 70) = false) := by
              by_cases h : 65 ≤ s[k].toNat
              · exact Or.inr ⟨by simp; omega, by simp; omega⟩
              · exact Or.inl (by simp; omega)
            have e : R = -1 := by rw [HR.out, ← hq]
            clear hq
            rcases T1 with t1 | ⟨t1, t2⟩
            all_goals
            rcases T2 with u1 | ⟨u1, u2⟩
            all_goals
            rcases T3 with z1 | ⟨z1, z2⟩
            all_goals
            go_wp2_with fail
            go_ret
            exact ⟨by first | rfl | (rw [e]; rfl), rfl⟩
    · have ek : k = s.size := by omega
      have hq := HQ.out
      rw [List.drop_of_length_le (by rw [ek]; show s.data.toList.length ≤ s.data.size; simp), hexGo] at hq
      have e : R = (m : Int) := by rw [HR.out, ← hq]
      have nlt : ¬ (k : Int) < (s.size : Int) := by omega
      have dlt : decide ((k : Int) < (s.size : Int)) = false := by simp; omega
      clear hq ek
      go_wp2_with fail
      go_ret
      exact ⟨by first | rfl | (rw [e]; rfl), rfl⟩
end Go.Proofs.YtcblgbonijloiaaDoor

/- Contract of the reference of layer 6: groups. -/
namespace Go.Proofs.YtcblgbonijloiaaDoor
open Go.ChangeShapes Go.WideShapes Go.ChangeAt Go.RowKit
set_option linter.unusedVariables false

/-- A list of strings in memory. -/
def StL (w : World) (A : Option Addr) (L : List By) : Prop :=
  0 < L.length → ∃ g, A = some ⟨g, 0, none⟩ ∧ g < w.heap.size ∧ ∀ (i : Nat) (p : By), L[i]? = some p → w.cell? ⟨g, i, none⟩ = some (.string (str p))
theorem StL.kept {w w' : World} {A : Option Addr} {L : List By} (h : StL w A L) (hb : Below w.heap.size w w') : StL w' A L := fun hp => by
  obtain ⟨g, e, hg, hc⟩ := h hp
  have hB := hb.block g hg
  refine ⟨g, e, Nat.lt_of_lt_of_le hg hb.size, fun i p hi => ?_⟩
  rw [World.cell?_of_block (w := w) (w' := w') (a := ⟨g, i, none⟩) hB]
  exact hc i p hi
theorem own_stl {w : World} {base : Nat} {A : Option Addr} {cap : Nat} {L : List By} (h : w.ownsRow base 9 1 (.slice A L.length cap) L.length (strC L)) : StL w A L := fun hp => by
  obtain ⟨g, c, hform, _, _⟩ := World.ownsRow.form h hp
  cases hform
  refine ⟨g, rfl, (h.lt g rfl).2, fun i p hi => ?_⟩
  obtain ⟨hil, hie⟩ := List.getElem?_eq_some_iff.1 hi
  rw [h.cellAt i (by rw [Nat.mul_one]; exact hil)]
  unfold strC
  rw [List.getElem?_map, hi]; rfl
theorem splitGo_len (c : UInt8) : ∀ (s cur : By), ∀ p ∈ splitGo c cur s, p.length ≤ cur.length + s.length
  | [], cur, p, h => by rw [splitGo, List.mem_singleton] at h; subst h; simp
  | x :: r, cur, p, h => by
    rw [splitGo] at h
    split at h
    · rcases List.mem_cons.1 h with rfl | h
      · omega
      · have := splitGo_len c r [] p h; simp at this ⊢; omega
    · have := splitGo_len c r _ p h; simp at this ⊢; omega
theorem split_len {c : UInt8} {s p : By} (h : p ∈ splitL c s) : p.length ≤ s.length := by
  have := splitGo_len c s [] p h; simpa using this
theorem splitGo_count (c : UInt8) : ∀ (s cur : By), 0 < (splitGo c cur s).length ∧ (splitGo c cur s).length ≤ s.length + 1
  | [], cur => by rw [splitGo]; simp
  | x :: r, cur => by
    rw [splitGo]
    split
    · have := splitGo_count c r []; simp; omega
    · have := splitGo_count c r (cur ++ [x]); simp; omega
theorem split_count (c : UInt8) (s : By) : 0 < (splitL c s).length ∧ (splitL c s).length ≤ s.length + 1 := splitGo_count c s []
theorem own_mono6 {w : World} {base base' : Nat} {e : TypeId} {size : Nat} {v : Value} {n : Nat} {xs : List Value} (h : w.ownsRow base e size v n xs) (hb : base' ≤ base) : w.ownsRow base' e size v n xs := by
  refine ⟨h.1, ?_⟩
  rcases h.2 with hn | ⟨g, cap, cur, hv, hg, rest⟩
  · exact .inl hn
  · exact .inr ⟨g, cap, cur, hv, Nat.le_trans hb hg, rest⟩
def natC (l : List Nat) : List Value := l.map fun n : Nat => Value.int .i64 (n : Int)
theorem natC_snoc (l : List Nat) (n : Nat) : natC (l ++ [n]) = natC l ++ [.int .i64 n] := by simp [natC]
theorem info_int6 : (Tryd.prog.info? 3).map (fun i => (i.zero, i.size, i.bytes)) = some (some (.int .i64 0), 1, 8) := by kernel_rfl
/-- What the reference's groups leaves. -/
def GrpsP (w : World) (R : Option (List Nat)) (e : Ending) (w' : World) : Prop := match R with
  | none => e = .returned (.tuple #[.slice none 0 0, .bool false])
  | some l => ∃ A cap, e = .returned (.tuple #[.slice A l.length cap, .bool true]) ∧ w'.ownsRow w.heap.size 3 1 (.slice A l.length cap) l.length (natC l)
theorem grpAll_step {p : By} {r : List By} {n : Nat} (h : grpI p = (n : Int)) (out : List Nat) : (grpAll (p :: r)).map (out ++ ·) = (grpAll r).map ((out ++ [n]) ++ ·) := by
  unfold grpI at h
  rw [grpAll]
  cases hg : grpS p with
  | none =>
    rw [hg] at h
    have : (-1 : Int) = (n : Int) := h
    omega
  | some m =>
    rw [hg] at h
    have h' : (m : Int) = (n : Int) := h
    have hm : m = n := by omega
    subst hm
    cases grpAll r <;> simp
theorem grpAll_stop {p : By} {r : List By} (h : grpI p < 0) : grpAll (p :: r) = none := by
  unfold grpI at h
  rw [grpAll]
  cases hg : grpS p with
  | none => rfl
  | some m =>
    rw [hg] at h
    have h' : (m : Int) < 0 := h
    omega
theorem str_isEmpty6 (l : List UInt8) : (str l).toList.isEmpty = l.isEmpty := by
  rw [(ByteArray.toList_eq _).trans (str_toList l)]
theorem isEmpty6 (s : ByteArray) : s.toList.isEmpty = s.data.toList.isEmpty := by
  have := str_isEmpty6 s.data.toList
  rwa [str_of] at this
set_option maxHeartbeats 800000 in
set_option maxRecDepth 20000 in
theorem rgroups6_any (s : ByteArray) (w : World) (hs : s.size ≤ 1000) :
    Calls Tryd.prog 68 #[.string s] w fun e w' => GrpsP w (groupsS s.data.toList) e w' ∧ Below w.heap.size w w' := by
  have hlen := toList_length6 s
  by_cases h0 : s.data.toList = []
  · have em : s.toList.isEmpty = true := by rw [isEmpty6, h0]; rfl
    have HR := Lib.hid (show groupsS s.data.toList = some [] by rw [groupsS, if_pos h0])
    have HO := Lib.hid (World.ownsRow_nil w w.heap.size 3 1)
    have HB := Lib.hid (Below.refl w.heap.size w)
    generalize groupsS s.data.toList = R at *
    clear hlen
    go_enter Tryd.func68, Tryd.ntmps68
    go_wp2_with fail
    go_ret2
    rw [HR.out]
    exact ⟨⟨none, 0, rfl, HO.out⟩, HB.out⟩
  have em : s.toList.isEmpty = false := by
    rw [isEmpty6]
    cases hc : s.data.toList with
    | nil => exact absurd hc h0
    | cons => rfl
  obtain ⟨R, hR⟩ : ∃ R, R = groupsS s.data.toList := ⟨_, rfl⟩
  rw [← hR]
  rw [groupsS, if_neg h0] at hR
  have HSP := Lib.hid (fun W => rsplit6_any s 58 W hs)
  have HPL := Lib.hid (fun (p : By) (h : p ∈ splitL 58 s.data.toList) => (split_len h : p.length ≤ s.data.toList.length))
  have hcn := split_count 58 s.data.toList
  rw [hlen] at HPL hcn
  obtain ⟨L, hL⟩ : ∃ L, L = splitL 58 s.data.toList := ⟨_, rfl⟩
  rw [← hL] at HSP HPL hcn hR
  have HRR := Lib.hid (show (grpAll (L.drop 0)).map ([] ++ ·) = R by rw [hR, List.drop_zero]; cases grpAll L <;> simp)
  obtain ⟨i0, hinf, hz0, hz1, hz2⟩ := info_parts info_int6
  clear hR hL hlen h0
  go_enter Tryd.func68, Tryd.ntmps68
  go_wp2_with fail
  refine (HSP.out _).mono ?_
  rintro e w1 ⟨A, cap, rfl, hown, hb⟩
  obtain ⟨g, hA, hgl, hcell⟩ := own_stl hown hcn.1
  subst hA
  have HC := Lib.hid hcell
  have HB1 := Lib.hid hb
  have HBr := Lib.hid (Below.refl w1.heap.size w1)
  have HO0 := Lib.hid (World.ownsRow_nil w1 w1.heap.size 3 1)
  obtain ⟨n, hn⟩ : ∃ n, n = L.length := ⟨_, rfl⟩
  rw [← hn] at hcn ⊢
  have HN := Lib.hid hn
  have hn0 := hcn.1
  have hn1 := hcn.2
  clear hb hown hcell hcn hn HSP
  go_wp2_with fail
  go_loopw [4, 6, 7] (fun v4 v6 _ wr => ∃ k cap' : Nat, ∃ A' : Option Addr, ∃ out : List Nat, v4 = .slice A' out.length cap' ∧ v6 = .int .i64 k ∧ k ≤ n ∧ out.length ≤ k ∧ Hid ((grpAll (L.drop k)).map (out ++ ·) = R) ∧ Hid (Below w1.heap.size w1 wr) ∧ Hid (wr.ownsRow w1.heap.size 3 1 (.slice A' out.length cap') out.length (natC out))) (fun _ v6 _ _ => n - (intOf v6).toNat)
  case atStart => exact ⟨0, 0, none, [], rfl, rfl, Nat.zero_le _, Nat.le_refl _, HRR, HBr, HO0⟩
  case round =>
    clear HRR HBr HO0
    obtain ⟨k, cap', A', out, rfl, rfl, hk, hol, HQ, HB, HO⟩ := hrel
    obtain ⟨k1, hk1⟩ : ∃ k1, k1 = k + 1 := ⟨_, rfl⟩
    have k1i : (k : Int) + 1 = (k1 : Int) := by omega
    have hsz := HB.out.size
    by_cases hlt : k < n
    · have dlt : decide ((k : Int) < (n : Int)) = true := by simp; omega
      have hlti : (k : Int) < (n : Int) := by omega
      have hkl : k < L.length := by have := HN.out; omega
      have k1n : k1 ≤ n := by omega
      obtain ⟨p, hp⟩ : ∃ p, p = L[k] := ⟨_, rfl⟩
      have hdrop : L.drop k = p :: L.drop k1 := by rw [List.drop_eq_getElem_cons hkl, hp, hk1]
      have hpl : (str p).size ≤ 1000 := by
        rw [str_size]
        have := HPL.out p (by rw [hp]; exact List.getElem_mem hkl)
        omega
      have hcell : wr.cell? ⟨g, k, none⟩ = some (.string (str p)) := by
        rw [World.cell?_of_block (w := w1) (w' := wr) (a := ⟨g, k, none⟩) (HB.out.block g hgl)]
        exact HC.out k p (by rw [List.getElem?_eq_getElem hkl, hp])
      have HG := Lib.hid (fun W => rgroup6_any (str p) W hpl)
      rw [str_toList] at HG
      have hq := HQ.out
      rw [hdrop] at hq
      by_cases hv : grpI p < 0
      · have dv : decide (grpI p < 0) = true := by simpa using hv
        rw [grpAll_stop hv] at hq
        have e : R = none := hq.symm
        have HE := Lib.hid e
        have HBB := Lib.hid (HB1.out.trans (HB.out.mono HB1.out.size))
        clear hq hp hdrop hpl e hk1 HQ
        generalize str p = S at *
        generalize grpI p = V at *
        go_wp2_with fail
        refine (HG.out _).mono ?_
        rintro e w2 ⟨rfl, rfl⟩
        go_wp2_with fail
        go_ret2
        rw [HE.out]
        exact ⟨rfl, HBB.out⟩
      · obtain ⟨m, hm⟩ : ∃ m : Nat, grpI p = (m : Int) := ⟨(grpI p).toNat, by omega⟩
        rw [grpAll_step hm] at hq
        have HQ2 := Lib.hid hq
        rw [hm] at HG
        obtain ⟨M, hM⟩ : ∃ M, M = out ++ [m] := ⟨_, rfl⟩
        rw [← hM] at HQ2
        have HSN := Lib.hid (show natC out ++ [.int .i64 m] = natC M by rw [hM, natC_snoc])
        have hMl : out.length + 1 = M.length := by rw [hM]; simp
        have hMk : M.length ≤ k1 := by omega
        have HB2 := Lib.hid (HB.out.alloc hsz (.cells #[.int .i64 m] 3))
        have dm : decide ((m : Int) < 0) = false := by simp
        have HK1 := Lib.hid hk1
        clear hq hp hdrop hpl hk1 HQ hv hm hM
        generalize str p = S at *
        go_wp2_with fail
        refine (HG.out _).mono ?_
        rintro e w2 ⟨rfl, rfl⟩
        go_wp2_with (at_builtin; refine wpList_append_lies _ rfl _ _ 67 rfl w1.heap.size 3 i0 (.int .i64 0) 1 8 Tryd.underlying67 hinf hz0 hz1 hz2 rfl (by omega) _ out.length (natC out) rfl (HO.out.alloc _) ⟨wr.heap.size, 0, none⟩ 1 1 [.int .i64 m] rfl rfl ?c1 ?c2 (by omega) ?c3 ?c4 ?c5 _ rfl ?_)
        case c1 => exact World.news_of_block (cs := #[.int .i64 m]) (t := 3) (fr := (0, 0)) (heap_alloc_new wr _)
        case c2 => simp [Value.oneCell']
        case c3 => unfold maxLen; omega
        case c4 => omega
        case c5 => simp; omega
        intro g2 cap2 w3 hown3 hgrow hat hlt2
        have hB3 := HB2.out.grown hgrow (by simp; omega) (fun j hj => (HO.out.lt j hj).1)
        rw [HSN.out] at hown3
        try rw [hMl] at hown3
        try rw [hMl]
        have HB3 := Lib.hid hB3
        have HO3 := Lib.hid hown3
        clear hB3 hown3 hgrow hat hlt2 HB HO HB2 hMl
        go_wp2_with fail
        go_roundw
        case rel => exact ⟨k1, cap2, some ⟨g2, 0, none⟩, M, rfl, by go_num, k1n, hMk, HQ2, HB3, HO3⟩
        case measure => have := HK1.out; simp [intOf]; omega
    · have dlt : decide ((k : Int) < (n : Int)) = false := by simp; omega
      have nlt : ¬ (k : Int) < (n : Int) := by omega
      have hq := HQ.out
      rw [List.drop_of_length_le (by have := HN.out; omega), grpAll] at hq
      have e : R = some out := by rw [← hq]; simp
      have HE := Lib.hid e
      clear hq e HQ hk1
      go_wp2_with fail
      go_ret2
      rw [HE.out]
      exact ⟨⟨A', cap', rfl, own_mono6 HO.out HB1.out.size⟩, HB1.out.trans (HB.out.mono HB1.out.size)⟩
end Go.Proofs.YtcblgbonijloiaaDoor

/- Lists of numbers in memory; contract of the reference of layer 6: run. -/
namespace Go.Proofs.YtcblgbonijloiaaDoor
open Go.ChangeShapes Go.WideShapes Go.ChangeAt Go.RowKit
set_option linter.unusedVariables false

/-- A list of numbers in memory. -/
def NaL (w : World) (A : Option Addr) (L : List Nat) : Prop :=
  0 < L.length → ∃ g, A = some ⟨g, 0, none⟩ ∧ g < w.heap.size ∧ ∀ (i x : Nat), L[i]? = some x → w.cell? ⟨g, i, none⟩ = some (.int .i64 x)
theorem NaL.kept {w w' : World} {A : Option Addr} {L : List Nat} (h : NaL w A L) (hb : Below w.heap.size w w') : NaL w' A L := fun hp => by
  obtain ⟨g, e, hg, hc⟩ := h hp
  have hB := hb.block g hg
  refine ⟨g, e, Nat.lt_of_lt_of_le hg hb.size, fun i p hi => ?_⟩
  rw [World.cell?_of_block (w := w) (w' := w') (a := ⟨g, i, none⟩) hB]
  exact hc i p hi
theorem own_nal {w : World} {base : Nat} {A : Option Addr} {cap : Nat} {L : List Nat} (h : w.ownsRow base 3 1 (.slice A L.length cap) L.length (natC L)) : NaL w A L := fun hp => by
  obtain ⟨g, c, hform, _, _⟩ := World.ownsRow.form h hp
  cases hform
  refine ⟨g, rfl, (h.lt g rfl).2, fun i p hi => ?_⟩
  obtain ⟨hil, hie⟩ := List.getElem?_eq_some_iff.1 hi
  rw [h.cellAt i (by rw [Nat.mul_one]; exact hil)]
  unfold natC
  rw [List.getElem?_map, hi]; rfl
theorem zeros_snoc : ∀ (l : List Nat) (k : Nat), k ≤ zeros l → zeros l = k + zeros (l.drop k)
  | l, 0, _ => by simp
  | [], k + 1, h => by rw [zeros] at h; omega; simp
  | 0 :: r, k + 1, h => by
    rw [zeros] at h ⊢
    rw [List.drop_succ_cons, zeros_snoc r k (by omega)]; omega
  | (x + 1) :: r, k + 1, h => by rw [zeros] at h; omega; simp
set_option maxHeartbeats 400000 in
set_option maxRecDepth 20000 in
theorem rrun6_any (A : Option Addr) (cap i : Nat) (L : List Nat) (w : World) (h : NaL w A L) (hl : L.length ≤ 1000) (hi : i ≤ L.length) :
    Calls Tryd.prog 57 #[.slice A L.length cap, .int .i64 i] w fun e w' => e = .returned (.int .i64 (zeros (L.drop i) : Nat)) ∧ w = w' := by
  obtain ⟨R, hR⟩ : ∃ R, R = zeros (L.drop i) := ⟨_, rfl⟩
  rw [← hR]
  have HR := Lib.hid hR
  have HM := Lib.hid h
  obtain ⟨n, hn⟩ : ∃ n, n = L.length := ⟨_, rfl⟩
  rw [← hn] at hl hi ⊢
  have HN := Lib.hid hn
  have H0 := Lib.hid (show 0 ≤ R from Nat.zero_le _)
  clear hR h hn
  go_enter Tryd.func57, Tryd.ntmps57
  go_wp2_with fail
  go_loopw [5] (fun v5 wr => ∃ k : Nat, v5 = .int .i64 k ∧ i + k ≤ n ∧ Hid (k ≤ R) ∧ w = wr) (fun v5 _ => n - (intOf v5).toNat)
  case atStart => exact ⟨0, rfl, by omega, H0, rfl⟩
  case round =>
    clear H0
    obtain ⟨k, rfl, hk, HK, rfl⟩ := hrel
    obtain ⟨q, hq⟩ : ∃ q, q = i + k := ⟨_, rfl⟩
    obtain ⟨k1, hk1⟩ : ∃ k1, k1 = k + 1 := ⟨_, rfl⟩
    have qi : (i : Int) + (k : Int) = (q : Int) := by omega
    have k1i : (k : Int) + 1 = (k1 : Int) := by omega
    have hz := zeros_snoc (L.drop i) k (by rw [← HR.out]; exact HK.out)
    rw [← HR.out, List.drop_drop, ← hq] at hz
    by_cases hlt : q < n
    · have dlt : decide ((q : Int) < (n : Int)) = true := by simp; omega
      have hlti : (q : Int) < (n : Int) := by omega
      have hql : q < L.length := by have := HN.out; omega
      obtain ⟨g, hA, hgl, hcell⟩ := HM.out (by omega)
      obtain ⟨x, hx⟩ : ∃ x, x = L[q] := ⟨_, rfl⟩
      have hc := hcell q x (by rw [List.getElem?_eq_getElem hql, hx])
      rw [List.drop_eq_getElem_cons hql, ← hx] at hz
      have HA := Lib.hid hA
      subst hA
      by_cases h0 : x = 0
      · subst h0
        rw [zeros] at hz
        have HK2 := Lib.hid (show k1 ≤ R by omega)
        have hk1n : i + k1 ≤ n := by omega
        have hc0 : w.cell? ⟨g, q, none⟩ = some (.int .i64 0) := hc
        have HK1 := Lib.hid hk1
        clear hz hx hcell hc hk1 hq HK
        go_wp2_with fail
        go_roundw
        case rel => exact ⟨k1, by go_num, hk1n, HK2, by first | trivial | rfl⟩
        case measure => have := HK1.out; simp [intOf]; omega
      · have dx : ((x : Int) == 0) = false := by rw [beq_eq_false_iff_ne]; omega
        have hz0 : zeros (x :: L.drop (q + 1)) = 0 := by
          cases x with
          | zero => exact absurd rfl h0
          | succ x => rfl
        rw [hz0] at hz
        have HE := Lib.hid (show R = k by omega)
        clear hz hx hcell hz0 hk1 hq HK
        go_wp2_with fail
        go_ret
        exact ⟨by rw [HE.out]; rfl, rfl⟩
    · have dlt : decide ((q : Int) < (n : Int)) = false := by simp; omega
      have nlt : ¬ (q : Int) < (n : Int) := by omega
      rw [List.drop_of_length_le (by have := HN.out; omega)] at hz
      have HE := Lib.hid (show R = k by rw [hz]; rfl)
      clear hz hk1 hq HK
      go_wp2_with fail
      go_ret
      exact ⟨by rw [HE.out]; rfl, rfl⟩
end Go.Proofs.YtcblgbonijloiaaDoor

/- Contract of the reference of layer 6: parse4. -/
namespace Go.Proofs.YtcblgbonijloiaaDoor
open Go.ChangeShapes Go.WideShapes Go.ChangeAt Go.RowKit
set_option linter.unusedVariables false

/-- 'a<<8 | b' of a uint64. -/
theorem or_u64 (a b : Nat) (h1 : a * 256 < 18446744073709551616) (h2 : b < 256) : bits .or .u64 ((a : Int) * 256) (b : Int) = ((a * 256 + b : Nat) : Int) := by
  have nn : ∀ x : Nat, x < 2 ^ 64 → (BitVec.ofInt 64 (x : Int)).toNat = x := fun x hx => by
    rw [BitVec.ofInt_natCast, BitVec.toNat_ofNat]
    exact Nat.mod_eq_of_lt (by omega)
  have e : a * 256 ||| b = a * 256 + b := by
    have h := Nat.shiftLeft_add_eq_or_of_lt (i := 8) (b := b) (by omega) a
    rw [Nat.shiftLeft_eq, show 2 ^ 8 = 256 from rfl] at h
    omega
  rw [show ((a : Int) * 256) = ((a * 256 : Nat) : Int) by omega]
  show IntKind.u64.wrap ((BitVec.ofInt 64 ((a * 256 : Nat) : Int) ||| BitVec.ofInt 64 (b : Int)).toNat : Int) = _
  rw [BitVec.toNat_or, nn _ (by omega), nn _ (by omega), e]
  exact wrap_u64_in (by omega) (by omega)
theorem decGo_le (most : Nat) : ∀ (s : By) (n m : Nat), n ≤ most + 1 → decGo most n s = some m → m ≤ most + 1
  | [], n, m, hn, h => by rw [decGo] at h; cases h; exact hn
  | c :: r, n, m, hn, h => by
    rw [decGo] at h
    split at h
    · exact decGo_le most r _ m (by omega) h
    · exact absurd h (by simp)
theorem decS_le {most : Nat} {s : By} {n : Nat} (h : decS most s = (n : Int)) : n ≤ most := by
  unfold decS at h
  split at h
  · omega
  · split at h
    · omega
    · split at h <;> omega
/-- The address of four bytes, the first of which make n. -/
def dfrom (n : Nat) (l : List Nat) : Nat := l.foldl (fun n d => n * 256 + d) n
theorem decAll_step {p : By} {r : List By} {n : Nat} (h : decS 255 p = (n : Int)) (lo : Nat) : (decAll (p :: r)).map (dfrom lo) = (decAll r).map (dfrom (lo * 256 + n)) := by
  rw [decAll, h]
  show ((decAll r).map (n :: ·)).map (dfrom lo) = _
  cases decAll r <;> simp [dfrom]
theorem decAll_stop {p : By} {r : List By} (h : decS 255 p < 0) : decAll (p :: r) = none := by
  rw [decAll]
  split
  · rename_i n hn; rw [hn] at h; exact absurd h (by simp)
  · rfl
theorem pow256_le {k : Nat} (h : k < 4) : 256 ^ k ≤ 16777216 := by
  calc 256 ^ k ≤ 256 ^ 3 := Nat.pow_le_pow_right (by omega) (by omega)
    _ = 16777216 := rfl
def P4 : Option Nat → Value
  | none => .tuple #[.agg #[.bool false, .int .u64 0, .int .u64 0], .bool false]
  | some n => .tuple #[.agg #[.bool false, .int .u64 0, .int .u64 n], .bool true]
set_option maxHeartbeats 800000 in
set_option maxRecDepth 20000 in
theorem rparse46_any (s : ByteArray) (w : World) (hs : s.size ≤ 1000) :
    Calls Tryd.prog 42 #[.string s] w fun e w' => e = .returned (P4 ((parse4 s.data.toList).map (ofDigits 256))) ∧ Below w.heap.size w w' := by
  obtain ⟨R, hR⟩ : ∃ R, R = (parse4 s.data.toList).map (ofDigits 256) := ⟨_, rfl⟩
  rw [← hR]
  have hlen := toList_length6 s
  have HSP := Lib.hid (fun W => rsplit6_any s 46 W hs)
  have HPL := Lib.hid (fun (p : By) (h : p ∈ splitL 46 s.data.toList) => (split_len h : p.length ≤ s.data.toList.length))
  have hcn := split_count 46 s.data.toList
  rw [parse4] at hR
  rw [hlen] at HPL hcn
  obtain ⟨L, hL⟩ : ∃ L, L = splitL 46 s.data.toList := ⟨_, rfl⟩
  rw [← hL] at HSP HPL hcn hR
  have HR := Lib.hid hR
  have HX := Lib.hid (ab_new w false 0 0)
  have HB := Lib.hid (below_alloc6 w (.cells #[.bool false, .int .u64 0, .int .u64 0] 25))
  have hn0 := hcn.1
  have hn1 := hcn.2
  clear hR hL hlen hcn
  go_enter Tryd.func42, Tryd.ntmps42
  go_wp2_with fail
  refine (HSP.out _).mono ?_
  rintro e w1 ⟨A, cap, rfl, hown, hb⟩
  obtain ⟨g, hA, hgl, hcell⟩ := own_stl hown hn0
  subst hA
  have HC := Lib.hid hcell
  have HX1 := Lib.hid (HX.out.kept hb HX.out.lt)
  have HB1 := Lib.hid (HB.out.trans (hb.mono HB.out.size))
  obtain ⟨n, hn⟩ : ∃ n, n = L.length := ⟨_, rfl⟩
  rw [← hn] at hn0 hn1 ⊢
  have hsz1 := HB1.out.size
  have hxl := HX1.out.lt
  clear hb hown hcell HSP HX HB
  by_cases h4 : n = 4
  · have d4 : ((n : Int) == 4) = true := by simp [h4]
    have hr := HR.out
    rw [if_pos (by omega)] at hr
    have HQ0 := Lib.hid (show (decAll (L.drop 0)).map (dfrom 0) = R by rw [hr, List.drop_zero]; rfl)
    have HN := Lib.hid hn
    have HL0 := Lib.hid (show 0 < 256 ^ 0 by decide)
    have HX2 := Lib.hid (HX1.out.kept (below_alloc6 w1 (.cells #[.bool false, .int .u64 0, .int .u64 0] 25)) hxl)
    have HB2 := Lib.hid (HB1.out.alloc HB1.out.size (.cells #[.bool false, .int .u64 0, .int .u64 0] 25))
    have HY2 := Lib.hid (ab_new w1 false 0 0)
    have HBk := Lib.hid (below_alloc6 w1 (.cells #[.bool false, .int .u64 0, .int .u64 0] 25))
    have HG1 := Lib.hid (show ((w1.alloc (.cells #[.bool false, .int .u64 0, .int .u64 0] 25)).heap[g]? = w1.heap[g]?) from HBk.out.block g hgl)
    subst h4
    clear hn hr HR
    go_wp2_with fail
    go_loopw [6, 7] (fun v6 _ wr => ∃ k lo : Nat, v6 = .int .i64 k ∧ k ≤ 4 ∧ Hid (lo < 256 ^ k) ∧ Hid ((decAll (L.drop k)).map (dfrom lo) = R) ∧ Hid (AB wr w1.heap.size false 0 lo) ∧ Hid (AB wr w.heap.size false 0 0) ∧ Hid (Below w.heap.size w wr) ∧ Hid (wr.heap[g]? = w1.heap[g]?)) (fun v6 _ _ => 4 - (intOf v6).toNat)
    case atStart => exact ⟨0, 0, rfl, Nat.zero_le _, HL0, HQ0, HY2, HX2, HB2, HG1⟩
    case round =>
      clear HL0 HQ0 HY2 HX2 HB2 HG1
      obtain ⟨k, lo, rfl, hk, HL, HQ, HY, HX, HB, HG⟩ := hrel
      obtain ⟨k1, hk1⟩ : ∃ k1, k1 = k + 1 := ⟨_, rfl⟩
      have k1i : (k : Int) + 1 = (k1 : Int) := by omega
      by_cases hlt : k < 4
      · have dlt : decide ((k : Int) < 4) = true := by simp; omega
        have hlti : (k : Int) < 4 := by omega
        have hkl : k < L.length := by have := HN.out; omega
        have k1n : k1 ≤ 4 := by omega
        obtain ⟨p, hp⟩ : ∃ p, p = L[k] := ⟨_, rfl⟩
        have hdrop : L.drop k = p :: L.drop k1 := by rw [List.drop_eq_getElem_cons hkl, hp, hk1]
        have hpl : (str p).size ≤ 1000 := by
          rw [str_size]
          have := HPL.out p (by rw [hp]; exact List.getElem_mem hkl)
          omega
        have hcell : wr.cell? ⟨g, k, none⟩ = some (.string (str p)) := by
          rw [World.cell?_of_block (w := w1) (w' := wr) (a := ⟨g, k, none⟩) HG.out]
          exact HC.out k p (by rw [List.getElem?_eq_getElem hkl, hp])
        have HD := Lib.hid (fun W => rdec6_any (str p) 255 W (by omega) hpl)
        rw [str_toList] at HD
        have hq := HQ.out
        rw [hdrop] at hq
        have x0 := HX.out.c0
        have x1 := HX.out.c1
        have x2 := HX.out.c2
        have xf0 := HX.out.f 0
        have xf1 := HX.out.f 1
        have xf2 := HX.out.f 2
        have y0 := HY.out.c0
        have y1 := HY.out.c1
        have y2 := HY.out.c2
        have yf2 := HY.out.f 2
        by_cases hv : decS 255 p < 0
        · have dv : decide (decS 255 p < 0) = true := by simpa using hv
          rw [decAll_stop hv] at hq
          have HE := Lib.hid (show R = none from hq.symm)
          clear hq hp hdrop hpl hk1 HQ
          generalize str p = S at *
          generalize decS 255 p = V at *
          go_wp2_with fail
          refine (HD.out _).mono ?_
          rintro e w2 ⟨rfl, rfl⟩
          go_wp2_with fail
          change bodyPost _ _ _ _ _ (aset wr w.heap.size false 0 0)
          exact bodyPost_ret (res_addr2 rfl _ _ rfl (HX.out.set false 0 0)) rfl ⟨by rw [HE.out]; rfl, aset_below HB.out (Nat.le_refl _) false 0 0⟩
        · obtain ⟨m, hm⟩ : ∃ m : Nat, decS 255 p = (m : Int) := ⟨(decS 255 p).toNat, by omega⟩
          have hm2 : m ≤ 255 := decS_le hm
          rw [decAll_step hm] at hq
          rw [hm] at HD
          have hlo : lo < 16777216 := Nat.lt_of_lt_of_le HL.out (pow256_le hlt)
          have HOR := Lib.hid (or_u64 lo m (by omega) (by omega))
          have HQ2 := Lib.hid hq
          have HL2 := Lib.hid (show lo * 256 + m < 256 ^ k1 by have := HL.out; rw [hk1, Nat.pow_succ]; omega)
          have dm : decide ((m : Int) < 0) = false := by simp
          have HK1 := Lib.hid hk1
          have HX3 := Lib.hid (HX.out.far (b := w1.heap.size) (i := 2) (by omega) (.int .u64 ((lo * 256 + m : Nat) : Int)))
          have HY3 := Lib.hid (HY.out.set2 (lo * 256 + m))
          have HB3 := Lib.hid (HB.out.setCell (p := ⟨w1.heap.size, 2, none⟩) hsz1 (.int .u64 ((lo * 256 + m : Nat) : Int)))
          have HG3 := Lib.hid ((Below.heap_setCell wr ⟨w1.heap.size, 2, none⟩ (.int .u64 ((lo * 256 + m : Nat) : Int)) g (Nat.ne_of_lt hgl)).trans HG.out)
          clear hq hp hdrop hpl hk1 HQ hv hm
          generalize str p = S at *
          go_wp2_with fail
          refine (HD.out _).mono ?_
          rintro e w2 ⟨rfl, rfl⟩
          go_wp2_with fail
          go_roundw
          case rel =>
            rw [HOR.out]
            exact ⟨k1, lo * 256 + m, by go_num, k1n, HL2, HQ2, HY3, HX3, HB3, HG3⟩
          case measure => have := HK1.out; simp [intOf]; omega
      · have dlt : decide ((k : Int) < 4) = false := by simp; omega
        have nlt : ¬ (k : Int) < 4 := by omega
        have hq := HQ.out
        rw [List.drop_of_length_le (by have := HN.out; omega), decAll] at hq
        have HE := Lib.hid (show R = some lo from hq.symm)
        have x0 := HX.out.c0
        have x1 := HX.out.c1
        have x2 := HX.out.c2
        have xf0 := HX.out.f 0
        have xf1 := HX.out.f 1
        have xf2 := HX.out.f 2
        have y0 := HY.out.c0
        have y1 := HY.out.c1
        have y2 := HY.out.c2
        clear hq HQ hk1
        go_wp2_with fail
        change bodyPost _ _ _ _ _ (aset wr w.heap.size false 0 lo)
        exact bodyPost_ret (res_addr2 rfl _ _ rfl (HX.out.set false 0 lo)) rfl ⟨by rw [HE.out]; rfl, aset_below HB.out (Nat.le_refl _) false 0 lo⟩
  · have d4 : ((n : Int) == 4) = false := by rw [beq_eq_false_iff_ne]; omega
    have hr := HR.out
    rw [if_neg (by omega)] at hr
    have HE := Lib.hid (show R = none from hr)
    have x0 := HX1.out.c0
    have x1 := HX1.out.c1
    have x2 := HX1.out.c2
    have xf0 := HX1.out.f 0
    have xf1 := HX1.out.f 1
    have xf2 := HX1.out.f 2
    clear hn hr HR
    go_wp2_with fail
    change bodyPost _ _ _ _ _ (aset w1 w.heap.size false 0 0)
    exact bodyPost_ret (res_addr2 rfl _ _ rfl (HX1.out.set false 0 0)) rfl ⟨by rw [HE.out]; rfl, aset_below HB1.out (Nat.le_refl _) false 0 0⟩
end Go.Proofs.YtcblgbonijloiaaDoor

/- Contract of the reference of layer 6: FromBytes. -/
namespace Go.Proofs.YtcblgbonijloiaaDoor
open Go.ChangeShapes Go.WideShapes Go.ChangeAt Go.RowKit
set_option linter.unusedVariables false

/-- The address under way behind k bytes. -/
def FB (v6 : Bool) (L : By) (k hi lo : Nat) : Prop :=
  if v6 then hi = num (L.take (min k 8)) ∧ lo = num ((L.take k).drop 8) else hi = 0 ∧ lo = num (L.take k)
theorem fb_zero (v6 : Bool) (L : By) : FB v6 L 0 0 0 := by cases v6 <;> simp [FB, num_nil]
theorem fb_hi {L : By} {k hi lo : Nat} (h : FB true L k hi lo) (hk : k < 8) (hl : k < L.length) : hi < 72057594037927936 ∧ FB true L (k + 1) (hi * 256 + L[k].toNat) lo := by
  obtain ⟨h1, h2⟩ := h
  rw [Nat.min_eq_left (by omega)] at h1
  refine ⟨by rw [h1]; exact num_le7 (by rw [List.length_take]; omega), ?_, ?_⟩
  · rw [Nat.min_eq_left (by omega), List.take_succ_eq_append_getElem hl, num_snoc, h1]
  · rw [h2, List.drop_of_length_le (by rw [List.length_take]; omega), List.drop_of_length_le (by rw [List.length_take]; omega)]
theorem fb_lo6 {L : By} {k hi lo : Nat} (h : FB true L k hi lo) (hk : 8 ≤ k) (hl : k < L.length) (hL : L.length = 16) : lo < 72057594037927936 ∧ FB true L (k + 1) hi (lo * 256 + L[k].toNat) := by
  obtain ⟨h1, h2⟩ := h
  rw [Nat.min_eq_right hk] at h1
  refine ⟨by rw [h2]; exact num_le7 (by rw [List.length_drop, List.length_take]; omega), ?_, ?_⟩
  · rw [Nat.min_eq_right (by omega), h1]
  · rw [List.take_succ_eq_append_getElem hl, List.drop_append_of_le_length (by rw [List.length_take]; omega), num_snoc, h2]
theorem fb_lo4 {L : By} {k hi lo : Nat} (h : FB false L k hi lo) (hl : k < L.length) (hL : L.length = 4) : lo < 72057594037927936 ∧ FB false L (k + 1) hi (lo * 256 + L[k].toNat) := by
  obtain ⟨h1, h2⟩ := h
  refine ⟨by rw [h2]; exact num_le7 (by rw [List.length_take]; omega), h1, ?_⟩
  rw [List.take_succ_eq_append_getElem hl, num_snoc, h2]
/-- One round: which half takes the byte. -/
theorem fb_step {v6 : Bool} {L : By} {k hi lo : Nat} (h : FB v6 L k hi lo) (hl : k < L.length) (hL : L.length = if v6 then 16 else 4) :
    ((v6 && decide ((k : Int) < 8)) = true ∧ hi < 72057594037927936 ∧ FB v6 L (k + 1) (hi * 256 + L[k].toNat) lo) ∨ ((v6 && decide ((k : Int) < 8)) = false ∧ lo < 72057594037927936 ∧ FB v6 L (k + 1) hi (lo * 256 + L[k].toNat)) := by
  cases v6 with
  | false => exact .inr ⟨rfl, fb_lo4 h hl hL⟩
  | true =>
    by_cases h8 : k < 8
    · exact .inl ⟨by simp; omega, fb_hi h h8 hl⟩
    · exact .inr ⟨by simp; omega, fb_lo6 h (by omega) hl hL⟩
set_option maxHeartbeats 800000 in
set_option maxRecDepth 20000 in
theorem rfrom6_true (s : ByteArray) (w : World) (hs : s.size = 16) :
    Calls Tryd.prog 30 #[.string s] w fun e w' => (∃ hi lo : Nat, e = .returned (.tuple #[.agg #[.bool true, .int .u64 hi, .int .u64 lo], .int .i64 0]) ∧ FB true s.data.toList s.size hi lo) ∧ Below w.heap.size w w' := by
  have hlen := toList_length6 s
  have H0 := Lib.hid (fb_zero true s.data.toList)
  have HST := Lib.hid (fun k hi lo (h : FB true s.data.toList k hi lo) (hl : k < s.data.toList.length) => fb_step h hl (by rw [hlen]; exact hs))
  have dg : ((s.size : Int) == 4) = false := by rw [hs]; rfl
  have dh : ((s.size : Int) == 16) = true := by rw [hs]; rfl
  have n4 : ¬ (s.size : Int) = 4 := by omega
  have d4 : ((s.size : Int) != 4) = true := by rw [hs]; rfl
  have d16 : ((s.size : Int) != 16) = false := by rw [hs]; rfl
  have hsz : s.size ≤ 16 := by omega
  have HLN := Lib.hid hlen
  have HX := Lib.hid (ab_new w false 0 0 |>.kept (below_alloc6 _ (.cells #[.bool true, .int .u64 0, .int .u64 0] 25)) (alloc_lt6 w _))
  have HY := Lib.hid (ab2 w (.cells #[.bool false, .int .u64 0, .int .u64 0] 25) true 0 0)
  have HB := Lib.hid (below2 w (.cells #[.bool false, .int .u64 0, .int .u64 0] 25) (.cells #[.bool true, .int .u64 0, .int .u64 0] 25))
  clear hlen hs
  go_enter Tryd.func30, Tryd.ntmps30
  go_wp2_with fail
  generalize (w.alloc (.cells #[.bool false, .int .u64 0, .int .u64 0] 25)).alloc (.cells #[.bool true, .int .u64 0, .int .u64 0] 25) = w1 at *
  go_loopw [5] (fun v5 wr => ∃ k hi lo : Nat, v5 = .int .i64 k ∧ k ≤ s.size ∧ Hid (FB true s.data.toList k hi lo) ∧ Hid (AB wr (w.heap.size + 1) true hi lo) ∧ Hid (AB wr w.heap.size false 0 0) ∧ Hid (Below w.heap.size w wr)) (fun v5 _ => s.size - (intOf v5).toNat)
  case atStart => exact ⟨0, 0, 0, rfl, Nat.zero_le _, H0, HY, HX, HB⟩
  case round =>
    clear H0 HY HX HB
    obtain ⟨k, hi, lo, rfl, hk, HF, HY, HX, HB⟩ := hrel
    have y0 := HY.out.c0
    have y1 := HY.out.c1
    have y2 := HY.out.c2
    have yf1 := HY.out.f 1
    have yf2 := HY.out.f 2
    by_cases hlt : k < s.size
    · have dlt : decide ((k : Int) < (s.size : Int)) = true := by simp; omega
      have hlti : (k : Int) < (s.size : Int) := by omega
      have hki0 : (0 : Int) ≤ (k : Int) := by omega
      have hx8 := u8_lt s[k]
      have hll : k < s.data.toList.length := by have := HLN.out; omega
      have ha : s.data.toList[k]'hll = s[k]'hlt := rfl
      have hst := HST.out k hi lo HF.out hll
      rw [ha] at hst
      obtain ⟨k1, hk1⟩ : ∃ k1, k1 = k + 1 := ⟨_, rfl⟩
      have k1i : (k : Int) + 1 = (k1 : Int) := by omega
      have k1s : k1 ≤ s.size := by omega
      rw [← hk1] at hst
      have HK1 := Lib.hid hk1
      generalize hxc : s[k]'hlt = x at *
      clear hk1 ha
      rcases hst with ⟨d8, hq⟩ | ⟨d8, hq⟩
      · have d8 : decide ((k : Int) < 8) = true := d8
        have hw := hq.1
        have HOR := Lib.hid (or_u64 hi x.toNat (by omega) (by omega))
        have HF2 := Lib.hid hq.2
        have HX3 := Lib.hid (HX.out.far (b := w.heap.size + 1) (i := 1) (by omega) (.int .u64 ((hi * 256 + x.toNat : Nat) : Int)))
        have HY3 := Lib.hid (HY.out.set1 (hi * 256 + x.toNat))
        have HB3 := Lib.hid (HB.out.setCell (p := ⟨w.heap.size + 1, 1, none⟩) (Nat.le_succ _) (.int .u64 ((hi * 256 + x.toNat : Nat) : Int)))
        clear hq
        go_wp2_with fail
        go_region
        all_goals
          go_wp2_with fail
          go_roundw
          case rel =>
            rw [HOR.out]
            exact ⟨k1, hi * 256 + x.toNat, lo, by go_num, k1s, HF2, HY3, HX3, Lib.hid (HB3.out.drew)⟩
          case measure => have := HK1.out; simp [intOf]; omega
      · have d8 : decide ((k : Int) < 8) = false := d8
        have hw := hq.1
        have HOR := Lib.hid (or_u64 lo x.toNat (by omega) (by omega))
        have HF2 := Lib.hid hq.2
        have HX3 := Lib.hid (HX.out.far (b := w.heap.size + 1) (i := 2) (by omega) (.int .u64 ((lo * 256 + x.toNat : Nat) : Int)))
        have HY3 := Lib.hid (HY.out.set2 (lo * 256 + x.toNat))
        have HB3 := Lib.hid (HB.out.setCell (p := ⟨w.heap.size + 1, 2, none⟩) (Nat.le_succ _) (.int .u64 ((lo * 256 + x.toNat : Nat) : Int)))
        clear hq
        go_wp2_with fail
        go_region
        all_goals
          go_wp2_with fail
          go_roundw
          case rel =>
            rw [HOR.out]
            exact ⟨k1, hi, lo * 256 + x.toNat, by go_num, k1s, HF2, HY3, HX3, Lib.hid (HB3.out.drew)⟩
          case measure => have := HK1.out; simp [intOf]; omega
    · have dlt : decide ((k : Int) < (s.size : Int)) = false := by simp; omega
      have nlt : ¬ (k : Int) < (s.size : Int) := by omega
      obtain rfl : k = s.size := by omega
      have x0 := HX.out.c0
      have x1 := HX.out.c1
      have x2 := HX.out.c2
      have xf0 := HX.out.f 0
      have xf1 := HX.out.f 1
      have xf2 := HX.out.f 2
      go_wp2_with fail
      change bodyPost _ _ _ _ _ (aset wr w.heap.size true hi lo)
      exact bodyPost_ret (res_addr2 rfl _ _ rfl (HX.out.set true hi lo)) rfl ⟨⟨hi, lo, rfl, HF.out⟩, aset_below HB.out (Nat.le_refl _) true hi lo⟩
set_option maxHeartbeats 800000 in
set_option maxRecDepth 20000 in
theorem rfrom6_false (s : ByteArray) (w : World) (hs : s.size = 4) :
    Calls Tryd.prog 30 #[.string s] w fun e w' => (∃ hi lo : Nat, e = .returned (.tuple #[.agg #[.bool false, .int .u64 hi, .int .u64 lo], .int .i64 0]) ∧ FB false s.data.toList s.size hi lo) ∧ Below w.heap.size w w' := by
  have hlen := toList_length6 s
  have H0 := Lib.hid (fb_zero false s.data.toList)
  have HST := Lib.hid (fun k hi lo (h : FB false s.data.toList k hi lo) (hl : k < s.data.toList.length) => fb_step h hl (by rw [hlen]; exact hs))
  have dg : ((s.size : Int) == 4) = true := by rw [hs]; rfl
  have dh : ((s.size : Int) == 16) = false := by rw [hs]; rfl
  have n4 : (s.size : Int) = 4 := by omega
  have d4 : ((s.size : Int) != 4) = false := by rw [hs]; rfl
  have d16 : ((s.size : Int) != 16) = true := by rw [hs]; rfl
  have hsz : s.size ≤ 16 := by omega
  have HLN := Lib.hid hlen
  have HX := Lib.hid (ab_new w false 0 0 |>.kept (below_alloc6 _ (.cells #[.bool false, .int .u64 0, .int .u64 0] 25)) (alloc_lt6 w _))
  have HY := Lib.hid (ab2 w (.cells #[.bool false, .int .u64 0, .int .u64 0] 25) false 0 0)
  have HB := Lib.hid (below2 w (.cells #[.bool false, .int .u64 0, .int .u64 0] 25) (.cells #[.bool false, .int .u64 0, .int .u64 0] 25))
  clear hlen hs
  go_enter Tryd.func30, Tryd.ntmps30
  go_wp2_with fail
  generalize (w.alloc (.cells #[.bool false, .int .u64 0, .int .u64 0] 25)).alloc (.cells #[.bool false, .int .u64 0, .int .u64 0] 25) = w1 at *
  go_loopw [5] (fun v5 wr => ∃ k hi lo : Nat, v5 = .int .i64 k ∧ k ≤ s.size ∧ Hid (FB false s.data.toList k hi lo) ∧ Hid (AB wr (w.heap.size + 1) false hi lo) ∧ Hid (AB wr w.heap.size false 0 0) ∧ Hid (Below w.heap.size w wr)) (fun v5 _ => s.size - (intOf v5).toNat)
  case atStart => exact ⟨0, 0, 0, rfl, Nat.zero_le _, H0, HY, HX, HB⟩
  case round =>
    clear H0 HY HX HB
    obtain ⟨k, hi, lo, rfl, hk, HF, HY, HX, HB⟩ := hrel
    have y0 := HY.out.c0
    have y1 := HY.out.c1
    have y2 := HY.out.c2
    have yf1 := HY.out.f 1
    have yf2 := HY.out.f 2
    by_cases hlt : k < s.size
    · have dlt : decide ((k : Int) < (s.size : Int)) = true := by simp; omega
      have hlti : (k : Int) < (s.size : Int) := by omega
      have hki0 : (0 : Int) ≤ (k : Int) := by omega
      have hx8 := u8_lt s[k]
      have hll : k < s.data.toList.length := by have := HLN.out; omega
      have ha : s.data.toList[k]'hll = s[k]'hlt := rfl
      have hst := HST.out k hi lo HF.out hll
      rw [ha] at hst
      obtain ⟨k1, hk1⟩ : ∃ k1, k1 = k + 1 := ⟨_, rfl⟩
      have k1i : (k : Int) + 1 = (k1 : Int) := by omega
      have k1s : k1 ≤ s.size := by omega
      rw [← hk1] at hst
      have HK1 := Lib.hid hk1
      generalize hxc : s[k]'hlt = x at *
      clear hk1 ha
      rcases hst with ⟨d8, hq⟩ | ⟨d8, hq⟩
      · exact absurd d8 (by simp)
      · clear d8
        have hw := hq.1
        have HOR := Lib.hid (or_u64 lo x.toNat (by omega) (by omega))
        have HF2 := Lib.hid hq.2
        have HX3 := Lib.hid (HX.out.far (b := w.heap.size + 1) (i := 2) (by omega) (.int .u64 ((lo * 256 + x.toNat : Nat) : Int)))
        have HY3 := Lib.hid (HY.out.set2 (lo * 256 + x.toNat))
        have HB3 := Lib.hid (HB.out.setCell (p := ⟨w.heap.size + 1, 2, none⟩) (Nat.le_succ _) (.int .u64 ((lo * 256 + x.toNat : Nat) : Int)))
        clear hq
        go_wp2_with fail
        go_region
        all_goals
          go_wp2_with fail
          go_roundw
          case rel =>
            rw [HOR.out]
            exact ⟨k1, hi, lo * 256 + x.toNat, by go_num, k1s, HF2, HY3, HX3, Lib.hid (HB3.out.drew)⟩
          case measure => have := HK1.out; simp [intOf]; omega
    · have dlt : decide ((k : Int) < (s.size : Int)) = false := by simp; omega
      have nlt : ¬ (k : Int) < (s.size : Int) := by omega
      obtain rfl : k = s.size := by omega
      have x0 := HX.out.c0
      have x1 := HX.out.c1
      have x2 := HX.out.c2
      have xf0 := HX.out.f 0
      have xf1 := HX.out.f 1
      have xf2 := HX.out.f 2
      go_wp2_with fail
      change bodyPost _ _ _ _ _ (aset wr w.heap.size false hi lo)
      exact bodyPost_ret (res_addr2 rfl _ _ rfl (HX.out.set false hi lo)) rfl ⟨⟨hi, lo, rfl, HF.out⟩, aset_below HB.out (Nat.le_refl _) false hi lo⟩
end Go.Proofs.YtcblgbonijloiaaDoor

/- Contracts of the program's layer 6: eightBytes, numberOf, Bytes, FromBytes. -/
namespace Go.Proofs.YtcblgbonijloiaaDoor
open Go.ChangeShapes Go.WideShapes Go.ChangeAt Go.RowKit
set_option linter.unusedVariables false

set_option maxHeartbeats 1000000 in
set_option maxRecDepth 20000 in
theorem qeight_any (n : Nat) (w : World) (hn : n < 18446744073709551616) :
    Calls Tryd.prog 59 #[.int .u64 n] w fun e w' => e = .returned (.string (str (leL 8 n).reverse)) ∧ Below w.heap.size w w' := by
  go_enter Tryd.func59, Tryd.ntmps59
  go_wp2_with fail
  go_loopw [0, 4] (fun v0 v4 wr => ∃ m N : Nat, m ≤ 8 ∧ Hid (N = n / pw m) ∧ v0 = .int .u64 N ∧ v4 = .int .i64 (7 - (m : Int)) ∧ wr.rowIs w.heap.size 96 8 (fun x => .int .u8 (if 8 - m ≤ x then ((n / 256 ^ (7 - x) % 256 : Nat) : Int) else 0)) ∧ Below w.heap.size w wr) (fun v0 v4 _ => (intOf v4 + 1).toNat)
  case atStart =>
    refine ⟨0, n, by omega, Lib.hid (by rw [pw_zero, Nat.div_one]), rfl, rfl, ?_, (Below.refl _ _).alloc (Nat.le_refl _) _⟩
    refine World.rowIs.congr (World.rowIs_alloc w _ _ (fun _ => .int .u8 0) ?_) (fun i hi => by rw [if_neg (by omega)])
    intro i hi
    have hk : i = 0 ∨ i = 1 ∨ i = 2 ∨ i = 3 ∨ i = 4 ∨ i = 5 ∨ i = 6 ∨ i = 7 := by
      have : i < 8 := hi
      omega
    rcases hk with rfl | rfl | rfl | rfl | rfl | rfl | rfl | rfl <;> rfl
  case round =>
    obtain ⟨m, N, hm, HN, rfl, rfl, hrow, hb⟩ := hrel
    by_cases hlt : m < 8
    · obtain ⟨q, hq⟩ : ∃ q, q + m = 7 := ⟨7 - m, by omega⟩
      have hqi : (7 - (m : Int)) = (q : Int) := by omega
      rw [hqi]
      have hq8 : q < 8 := by omega
      have hc := hrow.cell hq8
      rw [if_neg (by omega)] at hc
      have hf := hrow.frozen q
      have d0 : decide ((0 : Int) ≤ (q : Int)) = true := by simp
      have hqs : IntKind.i64.wrap ((q : Int) - 1) = (q : Int) - 1 := IntWalk.i64_in _ (by omega)
      have HQ := Lib.hid hq
      have HM := Lib.hid (show 7 - ((m + 1 : Nat) : Int) = (q : Int) - 1 by omega)
      clear hq hqi hm
      go_wp2_with fail
      go_roundw
      case rel =>
        have hq := HQ.out
        refine ⟨m + 1, N / 256, by omega, Lib.hid (by rw [HN.out, pw_succ, Nat.div_div_eq_div_mul]), by go_num, by rw [HM.out], (hrow.set q _).congr (fun x hx => ?_), hb.setCell (Nat.le_refl _) _⟩
        by_cases e : x = q
        · subst e
          rw [if_pos rfl, if_pos (by omega), HN.out]
          unfold pw
          rw [show 7 - x = m by omega]
          simp
        · rw [if_neg e]
          by_cases e2 : 8 - m ≤ x
          · rw [if_pos e2, if_pos (by omega)]
          · rw [if_neg e2, if_neg (by omega)]
      case measure => simp [intOf]
    · obtain rfl : m = 8 := by omega
      have hl8 : (leL 8 n).reverse.length = 8 := by rw [List.length_reverse, leL_length]
      have hbs : BS wr w.heap.size (.slice (some ⟨w.heap.size, 0, none⟩) (leL 8 n).reverse.length 8) (leL 8 n).reverse := by
        refine ⟨some ⟨w.heap.size, 0, none⟩, 8, rfl, by omega, fun _ => ⟨w.heap.size, 0, rfl, Nat.le_refl _, hrow.lt, fun x hx => ?_⟩⟩
        have hx8 : x < 8 := by omega
        rw [Nat.zero_add]
        refine ⟨?_, hrow.frozen x⟩
        rw [hrow.cell hx8, if_pos (by omega), List.getElem_reverse, leL_get, UInt8.toNat_ofNat', show (leL 8 n).length - 1 - x = 7 - x by rw [leL_length]]
        simp
      have hcv := bs_string hbs
      rw [hl8] at hcv
      have HB := Lib.hid hb
      have d0 : decide ((0 : Int) ≤ 7 - ((8 : Nat) : Int)) = false := by decide
      clear hb hbs hrow hl8 HN hm hlt
      go_wp2_with fail
      go_ret
      exact ⟨rfl, HB.out⟩
set_option maxHeartbeats 1000000 in
set_option maxRecDepth 20000 in
theorem qnumber_any (s : ByteArray) (w : World) (hs : s.size ≤ 8) :
    Calls Tryd.prog 60 #[.string s] w fun e w' => e = .returned (.int .u64 (num s.data.toList : Nat)) ∧ w' = w := by
  have HLN := Lib.hid (toList_length6 s)
  go_enter Tryd.func60, Tryd.ntmps60
  go_wp2_with fail
  go_loop [3, 7] (fun v3 v7 => ∃ k n : Nat, k ≤ s.size ∧ Hid (n = num (s.data.toList.take k)) ∧ v3 = .int .u64 n ∧ v7 = .int .i64 k) (fun v3 v7 => s.size - (intOf v7).toNat)
  case atStart => exact ⟨0, 0, Nat.zero_le _, Lib.hid rfl, rfl, rfl⟩
  case round =>
    obtain ⟨k, n, hk, HN, rfl, rfl⟩ := hrel
    by_cases hlt : k < s.size
    · have dlt : decide ((k : Int) < (s.size : Int)) = true := by simp; omega
      have hlti : (k : Int) < (s.size : Int) := by omega
      have hki0 : (0 : Int) ≤ (k : Int) := by omega
      have hx8 := u8_lt s[k]
      have hll : k < s.data.toList.length := by have := HLN.out; omega
      have ha : s.data.toList[k]'hll = s[k]'hlt := rfl
      have hn7 : n < 72057594037927936 := by rw [HN.out]; exact num_le7 (by rw [List.length_take]; omega)
      have hst : num (s.data.toList.take (k + 1)) = n * 256 + (s[k]'hlt).toNat := by rw [List.take_succ_eq_append_getElem hll, num_snoc, HN.out, ha]
      obtain ⟨k1, hk1⟩ : ∃ k1, k1 = k + 1 := ⟨_, rfl⟩
      have k1i : (k : Int) + 1 = (k1 : Int) := by omega
      have k1s : k1 ≤ s.size := by omega
      rw [← hk1] at hst
      have HK1 := Lib.hid hk1
      have HS := Lib.hid hst
      generalize hxc : s[k]'hlt = x at *
      have HOR := Lib.hid (or_u64 n x.toNat (by omega) (by omega))
      clear hk1 ha hst
      go_wp2_with fail
      go_round
      case rel => exact ⟨k1, n * 256 + x.toNat, k1s, Lib.hid HS.out.symm, by rw [HOR.out], by go_num⟩
      case measure => have := HK1.out; simp [intOf]; omega
    · have dlt : decide ((k : Int) < (s.size : Int)) = false := by simp; omega
      have nlt : ¬ (k : Int) < (s.size : Int) := by omega
      obtain rfl : k = s.size := by omega
      have HE := Lib.hid (show n = num s.data.toList by rw [HN.out, List.take_of_length_le (by rw [HLN.out]; exact Nat.le_refl _)])
      go_wp2_with fail
      go_ret
      exact ⟨by rw [← HE.out]; rfl, rfl⟩
/-- The bytes of an address. -/
def adrB (v6 : Bool) (hi lo : Nat) : By := if v6 then (leL 8 hi).reverse ++ (leL 8 lo).reverse else (leL 4 lo).reverse
theorem adrB_length (v6 : Bool) (hi lo : Nat) : (adrB v6 hi lo).length = if v6 then 16 else 4 := by
  unfold adrB; split <;> simp [leL_length]
theorem leL_add : ∀ (a b n : Nat), leL (a + b) n = leL a n ++ leL b (n / 256 ^ a) := by
  intro a b n
  apply List.ext_getElem
  · simp [leL_length]
  · intro i h1 h2
    rw [leL_get]
    by_cases hi : i < a
    · rw [List.getElem_append_left (by rw [leL_length]; exact hi), leL_get]
    · rw [List.getElem_append_right (by rw [leL_length]; omega), leL_get, leL_length, Nat.div_div_eq_div_mul, ← Nat.pow_add, show a + (i - a) = i by omega]
theorem adrB_tail (lo : Nat) : (str (leL 8 lo).reverse).extract 4 (str (leL 8 lo).reverse).size = str (leL 4 lo).reverse := by
  apply ByteArray.ext
  apply Array.ext'
  rw [Lib.extract_data, str_size, List.length_reverse, leL_length, str_toList, str_toList, show (8 : Nat) = 4 + 4 from rfl, leL_add, List.reverse_append]
  rw [List.drop_append_of_le_length (by simp [leL_length]), List.drop_eq_nil_of_le (by simp [leL_length]), List.nil_append, List.take_of_length_le (by simp [leL_length])]
theorem ret_str6 {a b : ByteArray} (h : a = b) : Ending.returned (.string a) = .returned (.string b) := by rw [h]
set_option maxHeartbeats 1000000 in
set_option maxRecDepth 20000 in
theorem qbytes_any (v6 : Bool) (hi lo : Nat) (w : World) (h1 : hi < 18446744073709551616) (h2 : lo < 18446744073709551616) :
    Calls Tryd.prog 23 #[.agg #[.bool v6, .int .u64 hi, .int .u64 lo]] w fun e w' => e = .returned (.string (str (adrB v6 hi lo))) ∧ Below w.heap.size w w' := by
  have H1 := Lib.hid (fun W => qeight_any hi W h1)
  have H2 := Lib.hid (fun W => qeight_any lo W h2)
  have HX := Lib.hid (ab_new w v6 hi lo)
  have HB := Lib.hid (below_alloc6 w (.cells #[.bool v6, .int .u64 hi, .int .u64 lo] 25))
  have hsz : (str (leL 8 lo).reverse).size = 8 := by rw [str_size, List.length_reverse, leL_length]
  have hle : 4 ≤ (str (leL 8 lo).reverse).size := by omega
  have hle2 : (4 : Int) ≤ ((str (leL 8 lo).reverse).size : Int) := by omega
  have hT := Lib.hid (adrB_tail lo)
  have hcat : (9223372036854775807 < (str (leL 8 hi).reverse).size + (str (leL 8 lo).reverse).size) = False := by
    rw [str_size, str_size]; simp [leL_length]
  have HC : Hid (str (leL 8 hi).reverse ++ str (leL 8 lo).reverse = str (adrB true hi lo)) := str_append _ _
  have HD : Hid (str (leL 4 lo).reverse = str (adrB false hi lo)) := rfl
  rw [hsz] at hT
  generalize str (leL 8 lo).reverse = B at *
  generalize str (leL 8 hi).reverse = A at *
  go_enter Tryd.func23, Tryd.ntmps23
  go_wp2_with fail
  refine (H2.out _).mono ?_
  rintro e w2 ⟨rfl, hb⟩
  have HX2 := Lib.hid (HX.out.kept hb HX.out.lt)
  have HB2 := Lib.hid (HB.out.trans (hb.mono HB.out.size))
  clear hb HX HB
  have x0 := HX2.out.c0
  have x1 := HX2.out.c1
  cases v6 with
  | true =>
    go_wp2_with fail
    refine (H1.out _).mono ?_
    rintro e w3 ⟨rfl, hb⟩
    have HB3 := Lib.hid (HB2.out.trans (hb.mono HB2.out.size))
    clear hb hsz hle hle2 hT
    go_wp2_with fail
    go_ret
    exact ⟨ret_str6 HC.out, HB3.out⟩
  | false =>
    go_wp2_with fail
    go_ret
    exact ⟨ret_str6 (by rw [← HD.out, ← hT.out]), HB2.out⟩
/-- What FromBytes answers. -/
def fbRes (l : By) : Value :=
  if l.length = 4 then .tuple #[.agg #[.bool false, .int .u64 0, .int .u64 (num l : Nat)], .int .i64 0]
  else if l.length = 16 then .tuple #[.agg #[.bool true, .int .u64 (num (l.take 8) : Nat), .int .u64 (num (l.drop 8) : Nat)], .int .i64 0]
  else .tuple #[.agg #[.bool false, .int .u64 0, .int .u64 0], .int .i64 2]
theorem extract_toList6 (s : ByteArray) (a b : Nat) : (s.extract a b).data.toList = (s.data.toList.drop a).take (b - a) := Lib.extract_data s a b
set_option maxHeartbeats 1000000 in
set_option maxRecDepth 20000 in
theorem qfrom_any (s : ByteArray) (w : World) (hs : s.size ≤ 1000) :
    Calls Tryd.prog 29 #[.string s] w fun e w' => e = .returned (fbRes s.data.toList) ∧ Below w.heap.size w w' := by
  have HLN := Lib.hid (toList_length6 s)
  have HX := Lib.hid (ab_new w false 0 0)
  have HB := Lib.hid (below_alloc6 w (.cells #[.bool false, .int .u64 0, .int .u64 0] 25))
  by_cases c4 : s.size = 4
  · have HN := Lib.hid (fun W => qnumber_any s W (by omega))
    have HR : Hid (fbRes s.data.toList = .tuple #[.agg #[.bool false, .int .u64 0, .int .u64 (num s.data.toList : Nat)], .int .i64 0]) := Lib.hid (by unfold fbRes; rw [if_pos (by rw [HLN.out, c4])])
    have d4 : ((s.size : Int) == 4) = true := by rw [c4]; rfl
    generalize num s.data.toList = n at *
    go_enter Tryd.func29, Tryd.ntmps29
    go_wp2_with fail
    refine (HN.out _).mono ?_
    rintro e w2 ⟨rfl, rfl⟩
    go_wp2_with fail
    exact bodyPost_ret (res_addr2 rfl _ _ rfl (ab_new w false 0 n)) rfl ⟨by rw [HR.out]; rfl, below_alloc6 w _⟩
  · have d4 : ((s.size : Int) == 4) = false := by rw [beq_eq_false_iff_ne]; omega
    have n4 : ¬ (s.size : Int) = 4 := by omega
    by_cases c16 : s.size = 16
    · have e1 : (s.extract 0 8).data.toList = s.data.toList.take 8 := by rw [extract_toList6]; rfl
      have e2 : (s.extract 8 s.size).data.toList = s.data.toList.drop 8 := by rw [extract_toList6, List.take_of_length_le (by rw [List.length_drop, HLN.out]; exact Nat.le_refl _)]
      have HN1 := Lib.hid (fun W => qnumber_any (s.extract 0 8) W (by rw [← toList_length6, e1, List.length_take]; omega))
      have HN2 := Lib.hid (fun W => qnumber_any (s.extract 8 s.size) W (by rw [← toList_length6, e2, List.length_drop, HLN.out]; omega))
      rw [e1] at HN1
      rw [e2] at HN2
      have HR : Hid (fbRes s.data.toList = .tuple #[.agg #[.bool true, .int .u64 (num (s.data.toList.take 8) : Nat), .int .u64 (num (s.data.toList.drop 8) : Nat)], .int .i64 0]) := Lib.hid (by unfold fbRes; rw [if_neg (by rw [HLN.out]; exact c4), if_pos (by rw [HLN.out, c16])])
      have d16 : ((s.size : Int) == 16) = true := by rw [c16]; rfl
      have l8 : 8 ≤ s.size := by omega
      have l8i : (8 : Int) ≤ (s.size : Int) := by omega
      generalize num (s.data.toList.take 8) = a at *
      generalize num (s.data.toList.drop 8) = b at *
      clear e1 e2
      have C16 := Lib.hid c16
      clear c16 c4
      go_enter Tryd.func29, Tryd.ntmps29
      go_wp2_with fail
      go_region_held3 (fun _ => True) (trivial) (first
        | (go_at_call_of 60 (Value.string (s.extract 0 8)); refine (HN1.out _).mono ?_; rintro e w5 ⟨rfl, rfl⟩)
        | (go_at_call_of 60 (Value.string (s.extract 8 s.size)); refine (HN2.out _).mono ?_; rintro e w6 ⟨rfl, rfl⟩))
      go_wp2_with fail
      exact bodyPost_ret (res_addr2 rfl _ _ rfl (show AB _ _ true a b from ab_new w true a b)) rfl ⟨by rw [HR.out]; rfl, (below_alloc6 w _).drew⟩
    · have HR : Hid (fbRes s.data.toList = .tuple #[.agg #[.bool false, .int .u64 0, .int .u64 0], .int .i64 2]) := Lib.hid (by unfold fbRes; rw [if_neg (by rw [HLN.out]; exact c4), if_neg (by rw [HLN.out]; exact c16)])
      have d16 : ((s.size : Int) == 16) = false := by rw [beq_eq_false_iff_ne]; omega
      have n16 : ¬ (s.size : Int) = 16 := by omega
      go_enter Tryd.func29, Tryd.ntmps29
      go_wp2_with fail
      exact bodyPost_ret (res_addr2 rfl _ _ rfl HX.out) rfl ⟨by rw [HR.out]; rfl, HB.out⟩
end Go.Proofs.YtcblgbonijloiaaDoor
