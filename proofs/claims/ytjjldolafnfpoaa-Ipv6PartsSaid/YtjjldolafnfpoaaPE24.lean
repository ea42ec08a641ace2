/- Contracts of the functions, part 24: AdrByt. -/
import Derived.Test.YtjjldolafnfpoaaPE23
/- Contract of the reference of layer 6: Bytes. -/
namespace Go.Proofs.Ytjjldolafnfpoaa
open Go.ChangeShapes Go.WideShapes Go.ChangeAt Go.RowKit
set_option linter.unusedVariables false

set_option maxHeartbeats 4000000 in
set_option maxRecDepth 20000 in
theorem rbytes_any (v6 : Bool) (hi lo : Nat) (w : World) (b1 : hi < 18446744073709551616) (b2 : lo < 18446744073709551616) :
    Calls Try.prog 37 #[.agg #[.bool v6, .int .u64 hi, .int .u64 lo]] w fun e w' => e = .returned (.string (str (adrB v6 hi lo))) ∧ Below w.heap.size w w' := by
  have HB0' := Lib.hid (below_alloc6 w (.cells #[.bool v6, .int .u64 hi, .int .u64 lo] 25))
  obtain ⟨W0, hW0⟩ : ∃ W, W = w.alloc (.cells #[.bool v6, .int .u64 hi, .int .u64 lo] 25) := ⟨_, rfl⟩
  have HXs := Lib.hid (show AB W0 w.heap.size v6 hi lo by rw [hW0]; exact ab_new w v6 hi lo)
  have HXL := Lib.hid (show w.heap.size < W0.heap.size from HXs.out.lt)
  have HBw := Lib.hid (show Below w.heap.size w W0 by rw [hW0]; exact below_alloc6 w _)
  have HBs := Lib.hid (Below.refl W0.heap.size W0)
  have HOs := Lib.hid (show W0.ownsRow W0.heap.size 5 1 (.slice none 0 0) 0 (cellsOf []) from World.ownsRow_nil W0 W0.heap.size 5 1)
  obtain ⟨i0, hinf, hz0, hz1, hz2⟩ := info_parts info5
  cases v6 with
  | true =>
    have HTs := Lib.hid (show ([] : By) ++ (leL 8 hi).reverse = (leL 8 hi).reverse from rfl)
    have x0 := HXs.out.c0
    go_enter Try.func37, Try.ntmps37
    go_wp2_with fail
    rw [← hW0]
    clear hW0
    go_loopw [3, 4] (fun v3 vi wr => ∃ (j cap : Nat) (i : Int) (A : Option Addr) (M : List UInt8), v3 = .slice A M.length cap ∧ vi = .int .i64 i ∧ i + 1 = (j : Int) ∧ j ≤ 8 ∧ M.length + j = 8 ∧ Hid (M ++ (leL j hi).reverse = (leL 8 hi).reverse) ∧ Hid (AB wr w.heap.size true hi lo) ∧ Hid (Below W0.heap.size W0 wr) ∧ Hid (wr.ownsRow W0.heap.size 5 1 (.slice A M.length cap) M.length (cellsOf M))) (fun _ vi _ => (intOf vi + 1).toNat)
    case atStart => exact ⟨8, 0, 7, none, [], rfl, rfl, rfl, Nat.le_refl _, rfl, HTs, HXs, HBs, HOs⟩
    case round =>
      clear HXs HBs HOs HTs
      obtain ⟨j, cap, i, A, M, rfl, rfl, hij, hj, hMl, HT, HX, HB, HO⟩ := hrel
      have hsz := HB.out.size
      cases j with
      | succ j =>
        obtain rfl : i = (j : Int) := by omega
        have d0 : decide ((0 : Int) ≤ (j : Int)) = true := by simp
        have p0 : (0 : Int) ≤ (j : Int) := by omega
        have hj8 : j < 8 := by omega
        obtain ⟨s, hs⟩ : ∃ s, s = 8 * j := ⟨_, rfl⟩
        have hsi : (8 : Int) * (j : Int) = (s : Int) := by omega
        have hs64 : s < 64 := by omega
        obtain ⟨q, hq⟩ : ∃ q, q = hi / 2 ^ s := ⟨_, rfl⟩
        have hqi : (hi : Int) / 2 ^ s = (q : Int) := by rw [hq, Int.natCast_ediv]; simp
        have hq64 : q < 18446744073709551616 := Nat.lt_of_le_of_lt (by rw [hq]; exact Nat.div_le_self _ _) b1
        have hqd : q = hi / (2 ^ 8) ^ j := by rw [hq, hs, Nat.pow_mul]
        obtain ⟨X, hX⟩ : ∃ X : Nat, X = (UInt8.ofNat (hi / 256 ^ j % 256)).toNat := ⟨_, rfl⟩
        have hXi : (q : Int) % 256 = (X : Int) := by rw [hX, UInt8.toNat_ofNat', hqd, show (2 ^ 8 : Nat) = 256 from rfl]; simp
        obtain ⟨M2, hM2e⟩ : ∃ M2, M2 = M ++ [UInt8.ofNat (hi / 256 ^ j % 256)] := ⟨_, rfl⟩
        have HSN := Lib.hid (show cellsOf M ++ [.int .u8 X] = cellsOf M2 by rw [hM2e, hX]; simp [cellsOf])
        have hM2l : M.length + 1 = M2.length := by rw [hM2e]; simp
        have HT2 := Lib.hid (show M2 ++ (leL j hi).reverse = (leL 8 hi).reverse by have h := HT.out; rw [leL_snoc, List.reverse_append] at h; rw [hM2e, ← h]; simp)
        clear hX
        have x1 := HX.out.c1
        have HB2 := Lib.hid (HB.out.alloc hsz (.cells #[.int .u8 X] 5))
        have HX2 := Lib.hid (HX.out.al (.cells #[.int .u8 X] 5))
        have HJ := Lib.hid hij
        have hMj : M2.length + j = 8 := by omega
        have hjm : j ≤ 8 := by omega
        have hMb : M.length ≤ 100 := by omega
        clear hq hs hqd hM2e HT hij
        go_wp2_with (at_builtin; refine wpList_append_lies _ rfl _ _ 83 rfl W0.heap.size 5 i0 (.int .u8 0) 1 1 Try.underlying83 hinf hz0 hz1 hz2 rfl (by omega) _ M.length (cellsOf M) rfl (HO.out.alloc _) ⟨wr.heap.size, 0, none⟩ 1 1 [.int .u8 X] rfl rfl ?c1 ?c2 (by omega) ?c3 ?c4 ?c5 _ rfl ?_)
        case c1 => exact World.news_of_block (cs := #[.int .u8 X]) (t := 5) (fr := (0, 0)) (heap_alloc_new wr _)
        case c2 => simp [Value.oneCell']
        case c3 => unfold maxLen; omega
        case c4 => omega
        case c5 => simp; omega
        intro g2 cap2 w3 hown3 hgrow hat hlt2
        have hB3 := HB2.out.grown hgrow (by simp; omega) (fun j hj => (HO.out.lt j hj).1)
        have hX3 : AB w3 w.heap.size true hi lo := HX.out.kept (((Below.refl W0.heap.size wr).alloc hsz (.cells #[.int .u8 X] 5)).grown hgrow (by simp; omega) (fun j hj => (HO.out.lt j hj).1)) HXL.out
        rw [HSN.out] at hown3
        try rw [hM2l] at hown3
        try rw [hM2l]
        have HB3 := Lib.hid hB3
        have HX3 := Lib.hid hX3
        have HO3 := Lib.hid hown3
        clear hB3 hown3 hgrow hat hlt2 HB HO HB2 HX HX2 hM2l hX3
        go_wp2_with fail
        go_roundw
        case rel => exact ⟨j, cap2, (j : Int) - 1, some ⟨g2, 0, none⟩, M2, rfl, by go_num, by omega, hjm, hMj, HT2, HX3, HB3, HO3⟩
        case measure => first | (simp [intOf]; done) | (simp [intOf]; omega)
      | zero =>
        obtain rfl : i = -1 := by omega
        have d0 : decide ((0 : Int) ≤ -1) = false := rfl
        have n0 : ¬ (0 : Int) ≤ -1 := by omega
        have hTT : M = (leL 8 hi).reverse := by have h := HT.out; simpa [leL] using h
        have HM8 := Lib.hid (show M.length = 8 by omega)
        clear HT hij hj hMl
        have HTs := Lib.hid (show M ++ (leL 8 lo).reverse = (leL 8 hi).reverse ++ (leL 8 lo).reverse from by rw [hTT])
        have HXs := HX
        have HBs := HB
        have HOs := HO
        have x2 := HX.out.c2
        clear hTT HX HB HO
        go_wp2_with fail
        go_loopw [3, 5] (fun v3 vi wr => ∃ (j cap : Nat) (i : Int) (A : Option Addr) (M : List UInt8), v3 = .slice A M.length cap ∧ vi = .int .i64 i ∧ i + 1 = (j : Int) ∧ j ≤ 8 ∧ M.length + j = 16 ∧ Hid (M ++ (leL j lo).reverse = (leL 8 hi).reverse ++ (leL 8 lo).reverse) ∧ Hid (AB wr w.heap.size true hi lo) ∧ Hid (Below W0.heap.size W0 wr) ∧ Hid (wr.ownsRow W0.heap.size 5 1 (.slice A M.length cap) M.length (cellsOf M))) (fun _ vi _ => (intOf vi + 1).toNat)
        case atStart => exact ⟨8, cap, 7, A, M, rfl, rfl, rfl, Nat.le_refl _, by have := HM8.out; omega, HTs, HXs, HBs, HOs⟩
        case round =>
          clear HXs HBs HOs HTs
          obtain ⟨j, cap, i, A, M, rfl, rfl, hij, hj, hMl, HT, HX, HB, HO⟩ := hrel
          have hsz := HB.out.size
          cases j with
          | succ j =>
            obtain rfl : i = (j : Int) := by omega
            have d0 : decide ((0 : Int) ≤ (j : Int)) = true := by simp
            have p0 : (0 : Int) ≤ (j : Int) := by omega
            have hj8 : j < 8 := by omega
            obtain ⟨s, hs⟩ : ∃ s, s = 8 * j := ⟨_, rfl⟩
            have hsi : (8 : Int) * (j : Int) = (s : Int) := by omega
            have hs64 : s < 64 := by omega
            obtain ⟨q, hq⟩ : ∃ q, q = lo / 2 ^ s := ⟨_, rfl⟩
            have hqi : (lo : Int) / 2 ^ s = (q : Int) := by rw [hq, Int.natCast_ediv]; simp
            have hq64 : q < 18446744073709551616 := Nat.lt_of_le_of_lt (by rw [hq]; exact Nat.div_le_self _ _) b2
            have hqd : q = lo / (2 ^ 8) ^ j := by rw [hq, hs, Nat.pow_mul]
            obtain ⟨X, hX⟩ : ∃ X : Nat, X = (UInt8.ofNat (lo / 256 ^ j % 256)).toNat := ⟨_, rfl⟩
            have hXi : (q : Int) % 256 = (X : Int) := by rw [hX, UInt8.toNat_ofNat', hqd, show (2 ^ 8 : Nat) = 256 from rfl]; simp
            obtain ⟨M2, hM2e⟩ : ∃ M2, M2 = M ++ [UInt8.ofNat (lo / 256 ^ j % 256)] := ⟨_, rfl⟩
            have HSN := Lib.hid (show cellsOf M ++ [.int .u8 X] = cellsOf M2 by rw [hM2e, hX]; simp [cellsOf])
            have hM2l : M.length + 1 = M2.length := by rw [hM2e]; simp
            have HT2 := Lib.hid (show M2 ++ (leL j lo).reverse = (leL 8 hi).reverse ++ (leL 8 lo).reverse by have h := HT.out; rw [leL_snoc, List.reverse_append] at h; rw [hM2e, ← h]; simp)
            clear hX
            have x2 := HX.out.c2
            have HB2 := Lib.hid (HB.out.alloc hsz (.cells #[.int .u8 X] 5))
            have HX2 := Lib.hid (HX.out.al (.cells #[.int .u8 X] 5))
            have HJ := Lib.hid hij
            have hMj : M2.length + j = 16 := by omega
            have hjm : j ≤ 8 := by omega
            have hMb : M.length ≤ 100 := by omega
            clear hq hs hqd hM2e HT hij
            go_wp2_with (at_builtin; refine wpList_append_lies _ rfl _ _ 83 rfl W0.heap.size 5 i0 (.int .u8 0) 1 1 Try.underlying83 hinf hz0 hz1 hz2 rfl (by omega) _ M.length (cellsOf M) rfl (HO.out.alloc _) ⟨wr.heap.size, 0, none⟩ 1 1 [.int .u8 X] rfl rfl ?c1 ?c2 (by omega) ?c3 ?c4 ?c5 _ rfl ?_)
            case c1 => exact World.news_of_block (cs := #[.int .u8 X]) (t := 5) (fr := (0, 0)) (heap_alloc_new wr _)
            case c2 => simp [Value.oneCell']
            case c3 => unfold maxLen; omega
            case c4 => omega
            case c5 => simp; omega
            intro g2 cap2 w3 hown3 hgrow hat hlt2
            have hB3 := HB2.out.grown hgrow (by simp; omega) (fun j hj => (HO.out.lt j hj).1)
            have hX3 : AB w3 w.heap.size true hi lo := HX.out.kept (((Below.refl W0.heap.size wr).alloc hsz (.cells #[.int .u8 X] 5)).grown hgrow (by simp; omega) (fun j hj => (HO.out.lt j hj).1)) HXL.out
            rw [HSN.out] at hown3
            try rw [hM2l] at hown3
            try rw [hM2l]
            have HB3 := Lib.hid hB3
            have HX3 := Lib.hid hX3
            have HO3 := Lib.hid hown3
            clear hB3 hown3 hgrow hat hlt2 HB HO HB2 HX HX2 hM2l hX3
            go_wp2_with fail
            go_roundw
            case rel => exact ⟨j, cap2, (j : Int) - 1, some ⟨g2, 0, none⟩, M2, rfl, by go_num, by omega, hjm, hMj, HT2, HX3, HB3, HO3⟩
            case measure => first | (simp [intOf]; done) | (simp [intOf]; omega)
          | zero =>
            obtain rfl : i = -1 := by omega
            have d0 : decide ((0 : Int) ≤ -1) = false := rfl
            have n0 : ¬ (0 : Int) ≤ -1 := by omega
            have hTT : M = (leL 8 hi).reverse ++ (leL 8 lo).reverse := by have h := HT.out; simpa [leL] using h
            have HM8 := Lib.hid (show M.length = 16 by omega)
            clear HT hij hj hMl
            have hcv := bs_string (bs_of_own HO.out)
            have HF := Lib.hid (show str M = str (adrB true hi lo) by rw [hTT]; rfl)
            have HBE := Lib.hid (HBw.out.trans (HB.out.mono HBw.out.size))
            generalize str M = S at *
            clear hTT
            go_wp2_with fail
            go_ret
            exact ⟨by rw [← HF.out]; rfl, HBE.out⟩
  | false =>
    have HTs := Lib.hid (show ([] : By) ++ (leL 4 lo).reverse = (leL 4 lo).reverse from rfl)
    have x0 := HXs.out.c0
    go_enter Try.func37, Try.ntmps37
    go_wp2_with fail
    rw [← hW0]
    clear hW0
    go_loopw [3, 6] (fun v3 vi wr => ∃ (j cap : Nat) (i : Int) (A : Option Addr) (M : List UInt8), v3 = .slice A M.length cap ∧ vi = .int .i64 i ∧ i + 1 = (j : Int) ∧ j ≤ 4 ∧ M.length + j = 4 ∧ Hid (M ++ (leL j lo).reverse = (leL 4 lo).reverse) ∧ Hid (AB wr w.heap.size false hi lo) ∧ Hid (Below W0.heap.size W0 wr) ∧ Hid (wr.ownsRow W0.heap.size 5 1 (.slice A M.length cap) M.length (cellsOf M))) (fun _ vi _ => (intOf vi + 1).toNat)
    case atStart => exact ⟨4, 0, 3, none, [], rfl, rfl, rfl, Nat.le_refl _, rfl, HTs, HXs, HBs, HOs⟩
    case round =>
      clear HXs HBs HOs HTs
      obtain ⟨j, cap, i, A, M, rfl, rfl, hij, hj, hMl, HT, HX, HB, HO⟩ := hrel
      have hsz := HB.out.size
      cases j with
      | succ j =>
        obtain rfl : i = (j : Int) := by omega
        have d0 : decide ((0 : Int) ≤ (j : Int)) = true := by simp
        have p0 : (0 : Int) ≤ (j : Int) := by omega
        have hj8 : j < 4 := by omega
        obtain ⟨s, hs⟩ : ∃ s, s = 8 * j := ⟨_, rfl⟩
        have hsi : (8 : Int) * (j : Int) = (s : Int) := by omega
        have hs64 : s < 64 := by omega
        obtain ⟨q, hq⟩ : ∃ q, q = lo / 2 ^ s := ⟨_, rfl⟩
        have hqi : (lo : Int) / 2 ^ s = (q : Int) := by rw [hq, Int.natCast_ediv]; simp
        have hq64 : q < 18446744073709551616 := Nat.lt_of_le_of_lt (by rw [hq]; exact Nat.div_le_self _ _) b2
        have hqd : q = lo / (2 ^ 8) ^ j := by rw [hq, hs, Nat.pow_mul]
        obtain ⟨X, hX⟩ : ∃ X : Nat, X = (UInt8.ofNat (lo / 256 ^ j % 256)).toNat := ⟨_, rfl⟩
        have hXi : (q : Int) % 256 = (X : Int) := by rw [hX, UInt8.toNat_ofNat', hqd, show (2 ^ 8 : Nat) = 256 from rfl]; simp
        obtain ⟨M2, hM2e⟩ : ∃ M2, M2 = M ++ [UInt8.ofNat (lo / 256 ^ j % 256)] := ⟨_, rfl⟩
        have HSN := Lib.hid (show cellsOf M ++ [.int .u8 X] = cellsOf M2 by rw [hM2e, hX]; simp [cellsOf])
        have hM2l : M.length + 1 = M2.length := by rw [hM2e]; simp
        have HT2 := Lib.hid (show M2 ++ (leL j lo).reverse = (leL 4 lo).reverse by have h := HT.out; rw [leL_snoc, List.reverse_append] at h; rw [hM2e, ← h]; simp)
        clear hX
        have x2 := HX.out.c2
        have HB2 := Lib.hid (HB.out.alloc hsz (.cells #[.int .u8 X] 5))
        have HX2 := Lib.hid (HX.out.al (.cells #[.int .u8 X] 5))
        have HJ := Lib.hid hij
        have hMj : M2.length + j = 4 := by omega
        have hjm : j ≤ 4 := by omega
        have hMb : M.length ≤ 100 := by omega
        clear hq hs hqd hM2e HT hij
        go_wp2_with (at_builtin; refine wpList_append_lies _ rfl _ _ 83 rfl W0.heap.size 5 i0 (.int .u8 0) 1 1 Try.underlying83 hinf hz0 hz1 hz2 rfl (by omega) _ M.length (cellsOf M) rfl (HO.out.alloc _) ⟨wr.heap.size, 0, none⟩ 1 1 [.int .u8 X] rfl rfl ?c1 ?c2 (by omega) ?c3 ?c4 ?c5 _ rfl ?_)
        case c1 => exact World.news_of_block (cs := #[.int .u8 X]) (t := 5) (fr := (0, 0)) (heap_alloc_new wr _)
        case c2 => simp [Value.oneCell']
        case c3 => unfold maxLen; omega
        case c4 => omega
        case c5 => simp; omega
        intro g2 cap2 w3 hown3 hgrow hat hlt2
        have hB3 := HB2.out.grown hgrow (by simp; omega) (fun j hj => (HO.out.lt j hj).1)
        have hX3 : AB w3 w.heap.size false hi lo := HX.out.kept (((Below.refl W0.heap.size wr).alloc hsz (.cells #[.int .u8 X] 5)).grown hgrow (by simp; omega) (fun j hj => (HO.out.lt j hj).1)) HXL.out
        rw [HSN.out] at hown3
        try rw [hM2l] at hown3
        try rw [hM2l]
        have HB3 := Lib.hid hB3
        have HX3 := Lib.hid hX3
        have HO3 := Lib.hid hown3
        clear hB3 hown3 hgrow hat hlt2 HB HO HB2 HX HX2 hM2l hX3
        go_wp2_with fail
        go_roundw
        case rel => exact ⟨j, cap2, (j : Int) - 1, some ⟨g2, 0, none⟩, M2, rfl, by go_num, by omega, hjm, hMj, HT2, HX3, HB3, HO3⟩
        case measure => first | (simp [intOf]; done) | (simp [intOf]; omega)
      | zero =>
        obtain rfl : i = -1 := by omega
        have d0 : decide ((0 : Int) ≤ -1) = false := rfl
        have n0 : ¬ (0 : Int) ≤ -1 := by omega
        have hTT : M = (leL 4 lo).reverse := by have h := HT.out; simpa [leL] using h
        have HM8 := Lib.hid (show M.length = 4 by omega)
        clear HT hij hj hMl
        have hcv := bs_string (bs_of_own HO.out)
        have HF := Lib.hid (show str M = str (adrB false hi lo) by rw [hTT]; rfl)
        have HBE := Lib.hid (HBw.out.trans (HB.out.mono HBw.out.size))
        generalize str M = S at *
        clear hTT
        go_wp2_with fail
        go_ret
        exact ⟨by rw [← HF.out]; rfl, HBE.out⟩
end Go.Proofs.Ytjjldolafnfpoaa
