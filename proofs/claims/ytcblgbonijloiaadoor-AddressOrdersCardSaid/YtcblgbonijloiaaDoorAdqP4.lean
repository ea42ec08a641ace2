/- Contract of the program's layer 6: parse4. -/
import Derived.Test.YtcblgbonijloiaaDoorAdqGrps
namespace Go.Proofs.YtcblgbonijloiaaDoor
open Go.ChangeShapes Go.WideShapes Go.ChangeAt Go.RowKit
set_option linter.unusedVariables false

/-- An address, or ErrFormat. -/
def adRes : Option (Bool × Nat × Nat) → Value
  | some (v6, hi, lo) => .tuple #[.agg #[.bool v6, .int .u64 hi, .int .u64 lo], .int .i64 0]
  | none => .tuple #[.agg #[.bool false, .int .u64 0, .int .u64 0], .int .i64 2]
def bytesN (l : List Nat) : By := l.map UInt8.ofNat
theorem num_from : ∀ (l : List Nat) (a : Nat), (∀ n ∈ l, n < 256) → (bytesN l).foldl (fun a c => a * 256 + c.toNat) a = l.foldl (fun n d => n * 256 + d) a
  | [], a, _ => rfl
  | n :: r, a, h => by
    have hn := h n (by simp)
    show (bytesN r).foldl _ (a * 256 + (UInt8.ofNat n).toNat) = r.foldl _ (a * 256 + n)
    rw [num_from r _ (fun m hm => h m (by simp [hm])), UInt8.toNat_ofNat', Nat.mod_eq_of_lt hn]
theorem num_bytesN {l : List Nat} (h : ∀ n ∈ l, n < 256) : num (bytesN l) = ofDigits 256 l := num_from l 0 h
theorem decAll_some {p : By} {r : List By} {n : Nat} (h : decV p = some n) (hn : n ≤ 255) (out : List Nat) : (decAll (p :: r)).map (out ++ ·) = (decAll r).map ((out ++ [n]) ++ ·) := by
  have hd := decS_decV (most := 255) (by omega) p
  rw [h] at hd
  have hd2 : decS 255 p = (n : Int) := by rw [hd]; show (if 255 < n then (-2 : Int) else n) = n; rw [if_neg (by omega)]
  rw [decAll, hd2]
  show ((decAll r).map (n :: ·)).map _ = _
  cases decAll r <;> simp
theorem decAll_none {p : By} {r : List By} (h : decV p = none) : decAll (p :: r) = none := by
  have hd := decS_decV (most := 255) (by omega) p
  rw [h] at hd
  have hd2 : decS 255 p = -1 := hd
  rw [decAll, hd2]
  rfl
theorem decAll_big {p : By} {r : List By} {n : Nat} (h : decV p = some n) (hn : 255 < n) : decAll (p :: r) = none := by
  have hd := decS_decV (most := 255) (by omega) p
  rw [h] at hd
  have hd2 : decS 255 p = -2 := by rw [hd]; show (if 255 < n then (-2 : Int) else n) = -2; rw [if_pos hn]
  rw [decAll, hd2]
  rfl
set_option maxHeartbeats 1000000 in
set_option maxRecDepth 20000 in
theorem qparse4_any (s : ByteArray) (w : World) (hs : s.size ≤ 1000) (ht : TW w) :
    Calls Tryd.prog 41 #[.string s] w fun e w' => e = .returned (adRes ((parse4 s.data.toList).map fun l => (false, 0, ofDigits 256 l))) ∧ Below w.heap.size w w' := by
  have hlen := toList_length6 s
  obtain ⟨R, hR⟩ : ∃ R, R = parse4 s.data.toList := ⟨_, rfl⟩
  rw [← hR]
  unfold parse4 at hR
  have hcn := split_count 46 s.data.toList
  have HPL := Lib.hid (fun (p : By) (h : p ∈ splitL 46 s.data.toList) => (split_len h : p.length ≤ s.data.toList.length))
  obtain ⟨W0, hW0⟩ : ∃ W0, W0 = w.alloc (.cells #[.bool false, .int .u64 0, .int .u64 0] 25) := ⟨_, rfl⟩
  have HB0 := Lib.hid (show Below w.heap.size w W0 by rw [hW0]; exact below_alloc6 w _)
  have HX0 := Lib.hid (show AB W0 w.heap.size false 0 0 by rw [hW0]; exact ab_new w false 0 0)
  have HSP := Lib.hid (psplit6 s 46 W0 hs (ht.kept (by rw [hW0]; exact below_alloc6 w _)))
  rw [hlen] at HPL hcn
  obtain ⟨L, hL⟩ : ∃ L, L = splitL 46 s.data.toList := ⟨_, rfl⟩
  rw [← hL] at HSP HPL hcn hR
  obtain ⟨i0, hinf, hz0, hz1, hz2⟩ := info_parts info5
  have HRR := Lib.hid (show (decAll (L.drop 0)).map ([] ++ ·) = decAll L by rw [List.drop_zero]; cases decAll L <;> simp)
  have HDA := Lib.hid hR
  clear hR hL hlen ht
  go_enter Tryd.func41, Tryd.ntmps41
  go_wp2_with fail
  rw [← hW0]
  refine HSP.out.mono ?_
  rintro e w1 ⟨rfl, hgl, hcell, hb⟩
  obtain ⟨g, hg⟩ : ∃ g, g = W0.heap.size := ⟨_, rfl⟩
  have HC := Lib.hid (show ∀ (i : Nat) (p : By), L[i]? = some p → w1.cell? ⟨g, i, none⟩ = some (.string (str p)) from by rw [hg]; exact hcell)
  have hgl1 : g < w1.heap.size := by rw [hg]; exact hgl
  rw [← hg]
  have HB1 := Lib.hid (HB0.out.trans (hb.mono HB0.out.size))
  have HX1 := Lib.hid (HX0.out.kept hb HX0.out.lt)
  have HBr := Lib.hid (Below.refl w1.heap.size w1)
  have HO0 := Lib.hid (show w1.ownsRow w1.heap.size 5 1 (.slice none (bytesN []).length 0) (bytesN []).length (cellsOf (bytesN [])) from World.ownsRow_nil w1 w1.heap.size 5 1)
  obtain ⟨n, hn⟩ : ∃ n, n = L.length := ⟨_, rfl⟩
  rw [← hn] at hcn ⊢
  have HN := Lib.hid hn
  have hn0 := hcn.1
  have hn1 := hcn.2
  clear hb hcell hcn hn HSP hgl hg HB0 HX0 hW0
  go_wp2_with fail
  go_loopw [4, 12] (fun v4 v12 wr => ∃ k cap' : Nat, ∃ A' : Option Addr, ∃ out : List Nat, ∃ M : By, v4 = .slice A' M.length cap' ∧ v12 = .int .i64 k ∧ k ≤ n ∧ Hid (M = bytesN out ∧ ∀ m ∈ out, m < 256) ∧ Hid (M.length = k) ∧ Hid ((decAll (L.drop k)).map (out ++ ·) = decAll L) ∧ Hid (Below w1.heap.size w1 wr) ∧ Hid (wr.ownsRow w1.heap.size 5 1 (.slice A' M.length cap') M.length (cellsOf M))) (fun _ v12 _ => n - (intOf v12).toNat)
  case atStart => exact ⟨0, 0, none, [], bytesN [], rfl, rfl, Nat.zero_le _, Lib.hid ⟨rfl, by simp⟩, Lib.hid rfl, HRR, HBr, HO0⟩
  case round =>
    clear HRR HBr HO0
    obtain ⟨k, cap', A', out, M, rfl, rfl, hk, HM, HOL, HQ, HB, HO⟩ := hrel
    obtain ⟨k1, hk1⟩ : ∃ k1, k1 = k + 1 := ⟨_, rfl⟩
    have k1i : (k : Int) + 1 = (k1 : Int) := by omega
    have hsz := HB.out.size
    have HX := Lib.hid (HX1.out.kept HB.out HX1.out.lt)
    have x0 := HX.out.c0
    have x1 := HX.out.c1
    have x2 := HX.out.c2
    have xf0 := HX.out.f 0
    have xf1 := HX.out.f 1
    have xf2 := HX.out.f 2
    have HBB := Lib.hid (HB1.out.trans (HB.out.mono HB1.out.size))
    by_cases hlt : k < n
    · have dlt : decide ((k : Int) < (n : Int)) = true := by simp; omega
      have hlti : (k : Int) < (n : Int) := by omega
      have hki0 : (0 : Int) ≤ (k : Int) := by omega
      have hkl : k < L.length := by have := HN.out; omega
      have k1n : k1 ≤ n := by omega
      obtain ⟨p, hp⟩ : ∃ p, p = L[k] := ⟨_, rfl⟩
      have hdrop : L.drop k = p :: L.drop k1 := by rw [List.drop_eq_getElem_cons hkl, hp, hk1]
      have hpl : (str p).size ≤ 1000 := by
        rw [str_size]
        have := HPL.out p (by rw [hp]; exact List.getElem_mem hkl)
        omega
      have hcell : wr.cell? ⟨g, k, none⟩ = some (.string (str p)) := by
        rw [World.cell?_of_block (w := w1) (w' := wr) (a := ⟨g, k, none⟩) (HB.out.block g hgl1)]
        exact HC.out k p (by rw [List.getElem?_eq_getElem hkl, hp])
      have HG := Lib.hid (fun W => qdecimal_any (str p) W hpl)
      rw [str_toList] at HG
      have hq := HQ.out
      rw [hdrop] at hq
      cases hv : decV p with
      | none =>
        rw [hv] at HG
        rw [decAll_none hv] at hq
        have HE := Lib.hid (show R = none from by
          have e : decAll L = none := hq.symm
          rw [HDA.out, e]; split <;> rfl)
        simp only [vRes] at HG
        clear hq hp hdrop hpl hk1 HQ hv HB HO
        generalize str p = S at *
        go_wp2_with fail
        refine (HG.out _).mono ?_
        rintro e w2 ⟨rfl, hw⟩
        have hw' := hw.symm
        subst hw'
        clear hw
        go_wp2_with fail
        change bodyPost _ _ _ _ _ (aset wr w.heap.size false 0 0)
        exact bodyPost_ret (res_addr2 rfl _ _ rfl (HX.out.set false 0 0)) rfl ⟨by rw [HE.out]; rfl, aset_below HBB.out (Nat.le_refl _) false 0 0⟩
      | some m =>
        rw [hv] at HG
        simp only [vRes] at HG
        by_cases h4 : 255 < m
        · rw [decAll_big hv h4] at hq
          have HE := Lib.hid (show R = none from by
            have e : decAll L = none := hq.symm
            rw [HDA.out, e]; split <;> rfl)
          have d4 : decide ((255 : Int) < (m : Int)) = true := by rw [decide_eq_true_eq]; omega
          clear hq hp hdrop hpl hk1 HQ hv HB HO
          generalize str p = S at *
          go_wp2_with fail
          refine (HG.out _).mono ?_
          rintro e w2 ⟨rfl, hw⟩
          have hw' := hw.symm
          subst hw'
          clear hw
          go_wp2_with fail
          change bodyPost _ _ _ _ _ (aset wr w.heap.size false 0 0)
          exact bodyPost_ret (res_addr2 rfl _ _ rfl (HX.out.set false 0 0)) rfl ⟨by rw [HE.out]; rfl, aset_below HBB.out (Nat.le_refl _) false 0 0⟩
        · rw [decAll_some hv (by omega)] at hq
          have HQ2 := Lib.hid hq
          have d4 : decide ((255 : Int) < (m : Int)) = false := by rw [decide_eq_false_iff_not]; omega
          have hm255 : m ≤ 255 := by omega
          obtain ⟨Y, hY⟩ : ∃ Y : Nat, Y = (UInt8.ofNat m).toNat := ⟨_, rfl⟩
          have hYm : Y = m := by rw [hY, UInt8.toNat_ofNat']; omega
          obtain ⟨M2, hM2e⟩ : ∃ M2, M2 = M ++ [UInt8.ofNat m] := ⟨_, rfl⟩
          have HM2 := Lib.hid (show M2 = bytesN (out ++ [m]) ∧ ∀ x ∈ out ++ [m], x < 256 from ⟨by rw [hM2e, HM.out.1]; simp [bytesN], fun x hx => by
            rcases List.mem_append.1 hx with h | h
            · exact HM.out.2 x h
            · rw [List.mem_singleton] at h; omega⟩)
          have HSN := Lib.hid (show cellsOf M ++ [.int .u8 m] = cellsOf M2 by rw [hM2e, ← hYm, hY]; simp [cellsOf])
          have hMl : M.length + 1 = M2.length := by rw [hM2e]; simp
          have hMk := Lib.hid (show M2.length = k1 by have := HOL.out; omega)
          have hMb : M.length ≤ 3000 := by have := HOL.out; omega
          have HB2 := Lib.hid (HB.out.alloc hsz (.cells #[.int .u8 m] 5))
          have HK1 := Lib.hid hk1
          clear hq hp hdrop hk1 HQ hv hY hYm hM2e HBB
          generalize str p = S at *
          go_wp2_with fail
          refine (HG.out _).mono ?_
          rintro e w2 ⟨rfl, hw⟩
          have hw' := hw.symm
          subst hw'
          clear hw
          go_wp2_with (at_builtin; refine wpList_append_lies _ rfl _ _ 71 rfl w1.heap.size 5 i0 (.int .u8 0) 1 1 Tryd.underlying71 hinf hz0 hz1 hz2 rfl (by omega) _ M.length (cellsOf M) rfl (HO.out.alloc _) ⟨wr.heap.size, 0, none⟩ 1 1 [.int .u8 m] rfl rfl ?c1 ?c2 (by omega) ?c3 ?c4 ?c5 _ rfl ?_)
          case c1 => exact World.news_of_block (cs := #[.int .u8 m]) (t := 5) (fr := (0, 0)) (heap_alloc_new wr _)
          case c2 => simp [Value.oneCell']
          case c3 => unfold maxLen; omega
          case c4 => omega
          case c5 => simp; omega
          intro g2 cap2 w3 hown3 hgrow hat hlt2
          have hB3 := HB2.out.grown hgrow (by simp; omega) (fun j hj => (HO.out.lt j hj).1)
          rw [HSN.out] at hown3
          try rw [hMl] at hown3
          try rw [hMl]
          have HB3 := Lib.hid hB3
          have HO3 := Lib.hid hown3
          clear hB3 hown3 hgrow hat hlt2 HB HO HB2 hMl
          go_wp2_with fail
          go_roundw
          case rel => exact ⟨k1, cap2, some ⟨g2, 0, none⟩, out ++ [m], M2, rfl, by go_num, k1n, HM2, hMk, HQ2, HB3, HO3⟩
          case measure => have := HK1.out; simp [intOf]; omega
    · have dlt : decide ((k : Int) < (n : Int)) = false := by simp; omega
      have nlt : ¬ (k : Int) < (n : Int) := by omega
      have hq := HQ.out
      rw [List.drop_of_length_le (by have := HN.out; omega), decAll] at hq
      have e : decAll L = some out := by rw [← hq]; simp
      have hcv := bs_string (bs_of_own HO.out)
      have hml : M.length = n := by have := HOL.out; omega
      by_cases h4 : n = 4
      · have HE := Lib.hid (show R.map (fun l => (false, 0, ofDigits 256 l)) = some (false, 0, num M) by
          rw [HDA.out, if_pos (by have := HN.out; omega), e, HM.out.1, num_bytesN HM.out.2]; rfl)
        have hf := fun W => qfrom_any (str M) W (by rw [str_size]; omega)
        have hfr : fbRes M = .tuple #[.agg #[.bool false, .int .u64 0, .int .u64 (num M : Nat)], .int .i64 0] := by unfold fbRes; rw [if_pos (by omega)]
        rw [str_toList, hfr] at hf
        have HF := Lib.hid hf
        have dm : ((M.length : Int) != 4) = false := by rw [show M.length = 4 by omega]; rfl
        have dm2 : ((M.length : Int) == 4) = true := by rw [show M.length = 4 by omega]; rfl
        have ml4 : M.length = 4 := by omega
        rw [ml4] at hcv
        clear hq e HQ hk1 HM hf hfr hml h4 hk
        generalize num M = lo at *
        generalize str M = S at *
        go_wp2_with fail
        refine (HF.out _).mono ?_
        rintro e w5 ⟨rfl, hb5⟩
        have HX5 := Lib.hid (HX.out.kept hb5 HX.out.lt)
        have HB5 := Lib.hid (HBB.out.trans (hb5.mono HBB.out.size))
        clear hb5 x0 x1 x2 xf0 xf1 xf2 HX HBB
        have x0 := HX5.out.c0
        have x1 := HX5.out.c1
        have x2 := HX5.out.c2
        have xf0 := HX5.out.f 0
        have xf1 := HX5.out.f 1
        have xf2 := HX5.out.f 2
        go_wp2_with fail
        change bodyPost _ _ _ _ _ (aset w5 w.heap.size false 0 lo)
        exact bodyPost_ret (res_addr2 rfl _ _ rfl (HX5.out.set false 0 lo)) rfl ⟨by rw [HE.out]; rfl, aset_below HB5.out (Nat.le_refl _) false 0 lo⟩
      · have HE := Lib.hid (show R = none by rw [HDA.out, if_neg (by have := HN.out; omega)])
        have dm : ((M.length : Int) != 4) = true := by rw [bne_iff_ne]; omega
        have dm2 : ((M.length : Int) == 4) = false := by rw [beq_eq_false_iff_ne]; omega
        have ml4 : ¬ (M.length : Int) = 4 := by omega
        have ml5 : ¬ M.length = 4 := by omega
        clear hq e HQ hk1 HM hml
        go_wp2_with fail
        change bodyPost _ _ _ _ _ (aset wr w.heap.size false 0 0)
        exact bodyPost_ret (res_addr2 rfl _ _ rfl (HX.out.set false 0 0)) rfl ⟨by rw [HE.out]; rfl, aset_below HBB.out (Nat.le_refl _) false 0 0⟩
end Go.Proofs.YtcblgbonijloiaaDoor
