/- Contract of the reference of layer 6: parse4. -/
import Derived.Test.YtcblgbonijloiaaDoorAdrGrps
import Derived.Test.YtcblgbonijloiaaDoorAdrWith
namespace Go.Proofs.YtcblgbonijloiaaDoor
open Go.ChangeShapes Go.WideShapes Go.ChangeAt Go.RowKit
set_option linter.unusedVariables false

/-- 'a<<8 | b' of a uint64. -/
theorem or_u64 (a b : Nat) (h1 : a * 256 < 18446744073709551616) (h2 : b < 256) : bits .or .u64 ((a : Int) * 256) (b : Int) = ((a * 256 + b : Nat) : Int) := by
  have nn : ∀ x : Nat, x < 2 ^ 64 → (BitVec.ofInt 64 (x : Int)).toNat = x := fun x hx => by
    rw [BitVec.ofInt_natCast, BitVec.toNat_ofNat]
    exact Nat.mod_eq_of_lt (by omega)
  have e : a * 256 ||| b = a * 256 + b := by
    have h := Nat.shiftLeft_add_eq_or_of_lt (i := 8) (b := b) (by omega) a
    rw [Nat.shiftLeft_eq, show 2 ^ 8 = 256 from rfl] at h
    omega
  rw [show ((a : Int) * 256) = ((a * 256 : Nat) : Int) by omega]
  show IntKind.u64.wrap ((BitVec.ofInt 64 ((a * 256 : Nat) : Int) ||| BitVec.ofInt 64 (b : Int)).toNat : Int) = _
  rw [BitVec.toNat_or, nn _ (by omega), nn _ (by omega), e]
  exact wrap_u64_in (by omega) (by omega)
theorem decGo_le (most : Nat) : ∀ (s : By) (n m : Nat), n ≤ most + 1 → decGo most n s = some m → m ≤ most + 1
  | [], n, m, hn, h => by rw [decGo] at h; cases h; exact hn
  | c :: r, n, m, hn, h => by
    rw [decGo] at h
    split at h
    · exact decGo_le most r _ m (by omega) h
    · exact absurd h (by simp)
theorem decS_le {most : Nat} {s : By} {n : Nat} (h : decS most s = (n : Int)) : n ≤ most := by
  unfold decS at h
  split at h
  · omega
  · split at h
    · omega
    · split at h <;> omega
/-- The address of four bytes, the first of which make n. -/
def dfrom (n : Nat) (l : List Nat) : Nat := l.foldl (fun n d => n * 256 + d) n
theorem decAll_step {p : By} {r : List By} {n : Nat} (h : decS 255 p = (n : Int)) (lo : Nat) : (decAll (p :: r)).map (dfrom lo) = (decAll r).map (dfrom (lo * 256 + n)) := by
  rw [decAll, h]
  show ((decAll r).map (n :: ·)).map (dfrom lo) = _
  cases decAll r <;> simp [dfrom]
theorem decAll_stop {p : By} {r : List By} (h : decS 255 p < 0) : decAll (p :: r) = none := by
  rw [decAll]
  split
  · rename_i n hn; rw [hn] at h; exact absurd h (by simp)
  · rfl
theorem pow256_le {k : Nat} (h : k < 4) : 256 ^ k ≤ 16777216 := by
  calc 256 ^ k ≤ 256 ^ 3 := Nat.pow_le_pow_right (by omega) (by omega)
    _ = 16777216 := rfl
def P4 : Option Nat → Value
  | none => .tuple #[.agg #[.bool false, .int .u64 0, .int .u64 0], .bool false]
  | some n => .tuple #[.agg #[.bool false, .int .u64 0, .int .u64 n], .bool true]
set_option maxHeartbeats 800000 in
set_option maxRecDepth 20000 in
theorem rparse46_any (s : ByteArray) (w : World) (hs : s.size ≤ 1000) :
    Calls Tryd.prog 42 #[.string s] w fun e w' => e = .returned (P4 ((parse4 s.data.toList).map (ofDigits 256))) ∧ Below w.heap.size w w' := by
  obtain ⟨R, hR⟩ : ∃ R, R = (parse4 s.data.toList).map (ofDigits 256) := ⟨_, rfl⟩
  rw [← hR]
  have hlen := toList_length6 s
  have HSP := Lib.hid (fun W => rsplit6_any s 46 W hs)
  have HPL := Lib.hid (fun (p : By) (h : p ∈ splitL 46 s.data.toList) => (split_len h : p.length ≤ s.data.toList.length))
  have hcn := split_count 46 s.data.toList
  rw [parse4] at hR
  rw [hlen] at HPL hcn
  obtain ⟨L, hL⟩ : ∃ L, L = splitL 46 s.data.toList := ⟨_, rfl⟩
  rw [← hL] at HSP HPL hcn hR
  have HR := Lib.hid hR
  have HX := Lib.hid (ab_new w false 0 0)
  have HB := Lib.hid (below_alloc6 w (.cells #[.bool false, .int .u64 0, .int .u64 0] 25))
  have hn0 := hcn.1
  have hn1 := hcn.2
  clear hR hL hlen hcn
  go_enter Tryd.func42, Tryd.ntmps42
  go_wp2_with fail
  refine (HSP.out _).mono ?_
  rintro e w1 ⟨A, cap, rfl, hown, hb⟩
  obtain ⟨g, hA, hgl, hcell⟩ := own_stl hown hn0
  subst hA
  have HC := Lib.hid hcell
  have HX1 := Lib.hid (HX.out.kept hb HX.out.lt)
  have HB1 := Lib.hid (HB.out.trans (hb.mono HB.out.size))
  obtain ⟨n, hn⟩ : ∃ n, n = L.length := ⟨_, rfl⟩
  rw [← hn] at hn0 hn1 ⊢
  have hsz1 := HB1.out.size
  have hxl := HX1.out.lt
  clear hb hown hcell HSP HX HB
  by_cases h4 : n = 4
  · have d4 : ((n : Int) == 4) = true := by simp [h4]
    have hr := HR.out
    rw [if_pos (by omega)] at hr
    have HQ0 := Lib.hid (show (decAll (L.drop 0)).map (dfrom 0) = R by rw [hr, List.drop_zero]; rfl)
    have HN := Lib.hid hn
    have HL0 := Lib.hid (show 0 < 256 ^ 0 by decide)
    have HX2 := Lib.hid (HX1.out.kept (below_alloc6 w1 (.cells #[.bool false, .int .u64 0, .int .u64 0] 25)) hxl)
    have HB2 := Lib.hid (HB1.out.alloc HB1.out.size (.cells #[.bool false, .int .u64 0, .int .u64 0] 25))
    have HY2 := Lib.hid (ab_new w1 false 0 0)
    have HBk := Lib.hid (below_alloc6 w1 (.cells #[.bool false, .int .u64 0, .int .u64 0] 25))
    have HG1 := Lib.hid (show ((w1.alloc (.cells #[.bool false, .int .u64 0, .int .u64 0] 25)).heap[g]? = w1.heap[g]?) from HBk.out.block g hgl)
    subst h4
    clear hn hr HR
    go_wp2_with fail
    go_loopw [6, 7] (fun v6 _ wr => ∃ k lo : Nat, v6 = .int .i64 k ∧ k ≤ 4 ∧ Hid (lo < 256 ^ k) ∧ Hid ((decAll (L.drop k)).map (dfrom lo) = R) ∧ Hid (AB wr w1.heap.size false 0 lo) ∧ Hid (AB wr w.heap.size false 0 0) ∧ Hid (Below w.heap.size w wr) ∧ Hid (wr.heap[g]? = w1.heap[g]?)) (fun v6 _ _ => 4 - (intOf v6).toNat)
    case atStart => exact ⟨0, 0, rfl, Nat.zero_le _, HL0, HQ0, HY2, HX2, HB2, HG1⟩
    case round =>
      clear HL0 HQ0 HY2 HX2 HB2 HG1
      obtain ⟨k, lo, rfl, hk, HL, HQ, HY, HX, HB, HG⟩ := hrel
      obtain ⟨k1, hk1⟩ : ∃ k1, k1 = k + 1 := ⟨_, rfl⟩
      have k1i : (k : Int) + 1 = (k1 : Int) := by omega
      by_cases hlt : k < 4
      · have dlt : decide ((k : Int) < 4) = true := by simp; omega
        have hlti : (k : Int) < 4 := by omega
        have hkl : k < L.length := by have := HN.out; omega
        have k1n : k1 ≤ 4 := by omega
        obtain ⟨p, hp⟩ : ∃ p, p = L[k] := ⟨_, rfl⟩
        have hdrop : L.drop k = p :: L.drop k1 := by rw [List.drop_eq_getElem_cons hkl, hp, hk1]
        have hpl : (str p).size ≤ 1000 := by
          rw [str_size]
          have := HPL.out p (by rw [hp]; exact List.getElem_mem hkl)
          omega
        have hcell : wr.cell? ⟨g, k, none⟩ = some (.string (str p)) := by
          rw [World.cell?_of_block (w := w1) (w' := wr) (a := ⟨g, k, none⟩) HG.out]
          exact HC.out k p (by rw [List.getElem?_eq_getElem hkl, hp])
        have HD := Lib.hid (fun W => rdec6_any (str p) 255 W (by omega) hpl)
        rw [str_toList] at HD
        have hq := HQ.out
        rw [hdrop] at hq
        have x0 := HX.out.c0
        have x1 := HX.out.c1
        have x2 := HX.out.c2
        have xf0 := HX.out.f 0
        have xf1 := HX.out.f 1
        have xf2 := HX.out.f 2
        have y0 := HY.out.c0
        have y1 := HY.out.c1
        have y2 := HY.out.c2
        have yf2 := HY.out.f 2
        by_cases hv : decS 255 p < 0
        · have dv : decide (decS 255 p < 0) = true := by simpa using hv
          rw [decAll_stop hv] at hq
          have HE := Lib.hid (show R = none from hq.symm)
          clear hq hp hdrop hpl hk1 HQ
          generalize str p = S at *
          generalize decS 255 p = V at *
          go_wp2_with fail
          refine (HD.out _).mono ?_
          rintro e w2 ⟨rfl, rfl⟩
          go_wp2_with fail
          change bodyPost _ _ _ _ _ (aset wr w.heap.size false 0 0)
          exact bodyPost_ret (res_addr2 rfl _ _ rfl (HX.out.set false 0 0)) rfl ⟨by rw [HE.out]; rfl, aset_below HB.out (Nat.le_refl _) false 0 0⟩
        · obtain ⟨m, hm⟩ : ∃ m : Nat, decS 255 p = (m : Int) := ⟨(decS 255 p).toNat, by omega⟩
          have hm2 : m ≤ 255 := decS_le hm
          rw [decAll_step hm] at hq
          rw [hm] at HD
          have hlo : lo < 16777216 := Nat.lt_of_lt_of_le HL.out (pow256_le hlt)
          have HOR := Lib.hid (or_u64 lo m (by omega) (by omega))
          have HQ2 := Lib.hid hq
          have HL2 := Lib.hid (show lo * 256 + m < 256 ^ k1 by have := HL.out; rw [hk1, Nat.pow_succ]; omega)
          have dm : decide ((m : Int) < 0) = false := by simp
          have HK1 := Lib.hid hk1
          have HX3 := Lib.hid (HX.out.far (b := w1.heap.size) (i := 2) (by omega) (.int .u64 ((lo * 256 + m : Nat) : Int)))
          have HY3 := Lib.hid (HY.out.set2 (lo * 256 + m))
          have HB3 := Lib.hid (HB.out.setCell (p := ⟨w1.heap.size, 2, none⟩) hsz1 (.int .u64 ((lo * 256 + m : Nat) : Int)))
          have HG3 := Lib.hid ((Below.heap_setCell wr ⟨w1.heap.size, 2, none⟩ (.int .u64 ((lo * 256 + m : Nat) : Int)) g (Nat.ne_of_lt hgl)).trans HG.out)
          clear hq hp hdrop hpl hk1 HQ hv hm
          generalize str p = S at *
          go_wp2_with fail
          refine (HD.out _).mono ?_
          rintro e w2 ⟨rfl, rfl⟩
          go_wp2_with fail
          go_roundw
          case rel =>
            rw [HOR.out]
            exact ⟨k1, lo * 256 + m, by go_num, k1n, HL2, HQ2, HY3, HX3, HB3, HG3⟩
          case measure => have := HK1.out; simp [intOf]; omega
      · have dlt : decide ((k : Int) < 4) = false := by simp; omega
        have nlt : ¬ (k : Int) < 4 := by omega
        have hq := HQ.out
        rw [List.drop_of_length_le (by have := HN.out; omega), decAll] at hq
        have HE := Lib.hid (show R = some lo from hq.symm)
        have x0 := HX.out.c0
        have x1 := HX.out.c1
        have x2 := HX.out.c2
        have xf0 := HX.out.f 0
        have xf1 := HX.out.f 1
        have xf2 := HX.out.f 2
        have y0 := HY.out.c0
        have y1 := HY.out.c1
        have y2 := HY.out.c2
        clear hq HQ hk1
        go_wp2_with fail
        change bodyPost _ _ _ _ _ (aset wr w.heap.size false 0 lo)
        exact bodyPost_ret (res_addr2 rfl _ _ rfl (HX.out.set false 0 lo)) rfl ⟨by rw [HE.out]; rfl, aset_below HB.out (Nat.le_refl _) false 0 lo⟩
  · have d4 : ((n : Int) == 4) = false := by rw [beq_eq_false_iff_ne]; omega
    have hr := HR.out
    rw [if_neg (by omega)] at hr
    have HE := Lib.hid (show R = none from hr)
    have x0 := HX1.out.c0
    have x1 := HX1.out.c1
    have x2 := HX1.out.c2
    have xf0 := HX1.out.f 0
    have xf1 := HX1.out.f 1
    have xf2 := HX1.out.f 2
    clear hn hr HR
    go_wp2_with fail
    change bodyPost _ _ _ _ _ (aset w1 w.heap.size false 0 0)
    exact bodyPost_ret (res_addr2 rfl _ _ rfl (HX1.out.set false 0 0)) rfl ⟨by rw [HE.out]; rfl, aset_below HB1.out (Nat.le_refl _) false 0 0⟩
end Go.Proofs.YtcblgbonijloiaaDoor
