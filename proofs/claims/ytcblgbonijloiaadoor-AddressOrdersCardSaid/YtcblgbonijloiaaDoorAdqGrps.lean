/- Contract of the program's layer 6: groupBytes. -/
import Derived.Test.YtcblgbonijloiaaDoorAdqMem
namespace Go.Proofs.YtcblgbonijloiaaDoor
open Go.ChangeShapes Go.WideShapes Go.ChangeAt Go.RowKit
set_option linter.unusedVariables false

/-- The bytes of groups. -/
def gbytes : List Nat → By
  | [] => []
  | n :: r => UInt8.ofNat (n / 256) :: UInt8.ofNat (n % 256) :: gbytes r
theorem gbytes_length : ∀ l : List Nat, (gbytes l).length = 2 * l.length
  | [] => rfl
  | n :: r => by rw [gbytes, List.length_cons, List.length_cons, gbytes_length r, List.length_cons]; omega
theorem gbytes_append : ∀ (a b : List Nat), gbytes (a ++ b) = gbytes a ++ gbytes b
  | [], b => rfl
  | n :: r, b => by rw [List.cons_append, gbytes, gbytes, gbytes_append r b]; rfl
def gbRes : Option (List Nat) → Value
  | some l => .tuple #[.string (str (gbytes l)), .bool true]
  | none => .tuple #[.string ⟨#[]⟩, .bool false]
theorem grpAll_some {p : By} {r : List By} {n : Nat} (h : grpS p = some n) (out : List Nat) : (grpAll (p :: r)).map (out ++ ·) = (grpAll r).map ((out ++ [n]) ++ ·) := by
  rw [grpAll, h]
  cases grpAll r <;> simp
theorem grpAll_none {p : By} {r : List By} (h : grpS p = none) : grpAll (p :: r) = none := by rw [grpAll, h]
set_option maxHeartbeats 1000000 in
set_option maxRecDepth 20000 in
theorem qgroups_any (s : ByteArray) (w : World) (hs : s.size ≤ 1000) (ht : TW w) :
    Calls Tryd.prog 64 #[.string s] w fun e w' => e = .returned (gbRes (groupsS s.data.toList)) ∧ Below w.heap.size w w' := by
  have hlen := toList_length6 s
  by_cases h0 : s.data.toList = []
  · have em : s.toList.isEmpty = true := by rw [isEmpty6, h0]; rfl
    have HR := Lib.hid (show groupsS s.data.toList = some [] by rw [groupsS, if_pos h0])
    have HB := Lib.hid (Below.refl w.heap.size w)
    generalize groupsS s.data.toList = R at *
    clear hlen
    go_enter Tryd.func64, Tryd.ntmps64
    go_wp2_with fail
    go_ret2
    exact ⟨by rw [HR.out]; rfl, HB.out⟩
  have em : s.toList.isEmpty = false := by
    rw [isEmpty6]
    cases hc : s.data.toList with
    | nil => exact absurd hc h0
    | cons => rfl
  obtain ⟨R, hR⟩ : ∃ R, R = groupsS s.data.toList := ⟨_, rfl⟩
  rw [← hR]
  rw [groupsS, if_neg h0] at hR
  have HSP := Lib.hid (psplit6 s 58 w hs ht)
  have HPL := Lib.hid (fun (p : By) (h : p ∈ splitL 58 s.data.toList) => (split_len h : p.length ≤ s.data.toList.length))
  have hcn := split_count 58 s.data.toList
  rw [hlen] at HPL hcn
  obtain ⟨L, hL⟩ : ∃ L, L = splitL 58 s.data.toList := ⟨_, rfl⟩
  rw [← hL] at HSP HPL hcn hR
  have HRR := Lib.hid (show (grpAll (L.drop 0)).map ([] ++ ·) = R by rw [hR, List.drop_zero]; cases grpAll L <;> simp)
  obtain ⟨i0, hinf, hz0, hz1, hz2⟩ := info_parts info5
  clear hR hL hlen h0 ht
  go_enter Tryd.func64, Tryd.ntmps64
  go_wp2_with fail
  refine HSP.out.mono ?_
  rintro e w1 ⟨rfl, hgl, hcell, hb⟩
  obtain ⟨g, hg⟩ : ∃ g, g = w.heap.size := ⟨_, rfl⟩
  have HC := Lib.hid (show ∀ (i : Nat) (p : By), L[i]? = some p → w1.cell? ⟨g, i, none⟩ = some (.string (str p)) from by rw [hg]; exact hcell)
  have hgl1 : g < w1.heap.size := by rw [hg]; exact hgl
  rw [← hg]
  have HB1 := Lib.hid hb
  have HBr := Lib.hid (Below.refl w1.heap.size w1)
  have HO0 := Lib.hid (show w1.ownsRow w1.heap.size 5 1 (.slice none (gbytes []).length 0) (gbytes []).length (cellsOf (gbytes [])) from World.ownsRow_nil w1 w1.heap.size 5 1)
  obtain ⟨n, hn⟩ : ∃ n, n = L.length := ⟨_, rfl⟩
  rw [← hn] at hcn ⊢
  have HN := Lib.hid hn
  have hn0 := hcn.1
  have hn1 := hcn.2
  clear hb hcell hcn hn HSP hgl hg
  go_wp2_with fail
  go_loopw [4, 14] (fun v4 v14 wr => ∃ k cap' : Nat, ∃ A' : Option Addr, ∃ out : List Nat, ∃ M : By, v4 = .slice A' M.length cap' ∧ v14 = .int .i64 k ∧ k ≤ n ∧ Hid (M = gbytes out) ∧ M.length ≤ 2 * k ∧ Hid ((grpAll (L.drop k)).map (out ++ ·) = R) ∧ Hid (Below w1.heap.size w1 wr) ∧ Hid (wr.ownsRow w1.heap.size 5 1 (.slice A' M.length cap') M.length (cellsOf M))) (fun _ v14 _ => n - (intOf v14).toNat)
  case atStart => exact ⟨0, 0, none, [], gbytes [], rfl, rfl, Nat.zero_le _, Lib.hid rfl, Nat.zero_le _, HRR, HBr, HO0⟩
  case round =>
    clear HRR HBr HO0
    obtain ⟨k, cap', A', out, M, rfl, rfl, hk, HM, hol, HQ, HB, HO⟩ := hrel
    obtain ⟨k1, hk1⟩ : ∃ k1, k1 = k + 1 := ⟨_, rfl⟩
    have k1i : (k : Int) + 1 = (k1 : Int) := by omega
    have hsz := HB.out.size
    by_cases hlt : k < n
    · have dlt : decide ((k : Int) < (n : Int)) = true := by simp; omega
      have hlti : (k : Int) < (n : Int) := by omega
      have hki0 : (0 : Int) ≤ (k : Int) := by omega
      have hkl : k < L.length := by have := HN.out; omega
      have k1n : k1 ≤ n := by omega
      obtain ⟨p, hp⟩ : ∃ p, p = L[k] := ⟨_, rfl⟩
      have hdrop : L.drop k = p :: L.drop k1 := by rw [List.drop_eq_getElem_cons hkl, hp, hk1]
      have hpl : (str p).size ≤ 1000 := by
        rw [str_size]
        have := HPL.out p (by rw [hp]; exact List.getElem_mem hkl)
        omega
      have hcell : wr.cell? ⟨g, k, none⟩ = some (.string (str p)) := by
        rw [World.cell?_of_block (w := w1) (w' := wr) (a := ⟨g, k, none⟩) (HB.out.block g hgl1)]
        exact HC.out k p (by rw [List.getElem?_eq_getElem hkl, hp])
      have HG := Lib.hid (fun W => qvalue_any (str p) 16 W hpl (by omega) (by omega))
      rw [str_toList] at HG
      have hq := HQ.out
      rw [hdrop] at hq
      have hgv := grpS_val p
      have hpz : (str p).size = p.length := str_size p
      rw [← hpz] at hgv
      cases hv : valS 16 p with
      | none =>
        rw [hv] at hgv HG
        have hgn : grpS p = none := by rw [hgv]; split <;> rfl
        rw [grpAll_none hgn] at hq
        have HE := Lib.hid (show R = none from hq.symm)
        have HBB := Lib.hid (HB1.out.trans (HB.out.mono HB1.out.size))
        simp only [vRes] at HG
        clear hq hp hdrop hpl hk1 HQ hgv hgn hpz hv
        generalize str p = S at *
        go_wp2_with fail
        refine (HG.out _).mono ?_
        rintro e w2 ⟨rfl, rfl⟩
        go_wp2_with fail
        go_ret2
        exact ⟨by rw [HE.out]; rfl, HBB.out⟩
      | some m =>
        rw [hv] at hgv HG
        simp only [vRes] at HG
        by_cases h4 : 4 < (str p).size
        · rw [if_pos h4] at hgv
          rw [grpAll_none hgv] at hq
          have HE := Lib.hid (show R = none from hq.symm)
          have HBB := Lib.hid (HB1.out.trans (HB.out.mono HB1.out.size))
          have d4 : decide ((4 : Int) < ((str p).size : Int)) = true := by rw [decide_eq_true_eq]; omega
          clear hq hp hdrop hk1 HQ hgv hpz hv
          generalize str p = S at *
          go_wp2_with fail
          refine (HG.out _).mono ?_
          rintro e w2 ⟨rfl, rfl⟩
          go_wp2_with fail
          go_ret2
          exact ⟨by rw [HE.out]; rfl, HBB.out⟩
        · rw [if_neg h4] at hgv
          rw [grpAll_some hgv] at hq
          have HQ2 := Lib.hid hq
          have d4 : decide ((4 : Int) < ((str p).size : Int)) = false := by rw [decide_eq_false_iff_not]; omega
          obtain ⟨q, hqq⟩ : ∃ q, q = m / 256 := ⟨_, rfl⟩
          have hqi : (m : Int) / 256 = (q : Int) := by omega
          obtain ⟨X, hX⟩ : ∃ X : Nat, X = (UInt8.ofNat (m / 256)).toNat := ⟨_, rfl⟩
          obtain ⟨Y, hY⟩ : ∃ Y : Nat, Y = (UInt8.ofNat (m % 256)).toNat := ⟨_, rfl⟩
          have hXi : (q : Int) % 256 = (X : Int) := by rw [hX, UInt8.toNat_ofNat', hqq]; simp
          have hYi : (m : Int) % 256 = (Y : Int) := by rw [hY, UInt8.toNat_ofNat']; simp
          have hmb : m ≤ 65536 := by
            unfold valS at hv
            split at hv
            · cases hv
            · exact valGo_le 16 p 0 m (by omega) hv
          have hM2 : M ++ [UInt8.ofNat (m / 256), UInt8.ofNat (m % 256)] = gbytes (out ++ [m]) := by
            rw [gbytes_append, ← HM.out]; rfl
          obtain ⟨M2, hM2e⟩ : ∃ M2, M2 = M ++ [UInt8.ofNat (m / 256), UInt8.ofNat (m % 256)] := ⟨_, rfl⟩
          have HM2 := Lib.hid (show M2 = gbytes (out ++ [m]) by rw [hM2e, hM2])
          have HSN := Lib.hid (show cellsOf M ++ [.int .u8 X, .int .u8 Y] = cellsOf M2 by rw [hM2e, hX, hY]; simp [cellsOf])
          have hMl : M.length + 2 = M2.length := by rw [hM2e]; simp
          have hMk : M2.length ≤ 2 * k1 := by omega
          have hMb : M.length ≤ 3000 := by omega
          have HB2 := Lib.hid (HB.out.alloc hsz (.cells #[.int .u8 X, .int .u8 Y] 5))
          have HK1 := Lib.hid hk1
          clear hq hp hdrop hk1 HQ hgv hpz hv hqq hX hY hM2 hM2e
          generalize str p = S at *
          go_wp2_with fail
          refine (HG.out _).mono ?_
          rintro e w2 ⟨rfl, hw⟩
          have hw' := hw.symm
          subst hw'
          clear hw
          go_wp2_with (at_builtin; refine wpList_append_lies _ rfl _ _ 71 rfl w1.heap.size 5 i0 (.int .u8 0) 1 1 Tryd.underlying71 hinf hz0 hz1 hz2 rfl (by omega) _ M.length (cellsOf M) rfl (HO.out.alloc _) ⟨wr.heap.size, 0, none⟩ 2 2 [.int .u8 X, .int .u8 Y] rfl rfl ?c1 ?c2 (by omega) ?c3 ?c4 ?c5 _ rfl ?_)
          case c1 => exact World.news_of_block (cs := #[.int .u8 X, .int .u8 Y]) (t := 5) (fr := (0, 0)) (heap_alloc_new wr _)
          case c2 => simp [Value.oneCell']
          case c3 => unfold maxLen; omega
          case c4 => omega
          case c5 => simp; omega
          intro g2 cap2 w3 hown3 hgrow hat hlt2
          have hB3 := HB2.out.grown hgrow (by simp; omega) (fun j hj => (HO.out.lt j hj).1)
          rw [HSN.out] at hown3
          try rw [hMl] at hown3
          try rw [hMl]
          have HB3 := Lib.hid hB3
          have HO3 := Lib.hid hown3
          clear hB3 hown3 hgrow hat hlt2 HB HO HB2 hMl
          go_wp2_with fail
          go_roundw
          case rel => exact ⟨k1, cap2, some ⟨g2, 0, none⟩, out ++ [m], M2, rfl, by go_num, k1n, HM2, hMk, HQ2, HB3, HO3⟩
          case measure => have := HK1.out; simp [intOf]; omega
    · have dlt : decide ((k : Int) < (n : Int)) = false := by simp; omega
      have nlt : ¬ (k : Int) < (n : Int) := by omega
      have hq := HQ.out
      rw [List.drop_of_length_le (by have := HN.out; omega), grpAll] at hq
      have e : R = some out := by rw [← hq]; simp
      have HE := Lib.hid e
      have hcv := bs_string (bs_of_own HO.out)
      have HF := Lib.hid (show str M = str (gbytes out) by rw [HM.out])
      clear hq e HQ hk1 HM
      generalize str M = S at *
      go_wp2_with fail
      go_ret2
      exact ⟨by rw [HE.out]; show _ = Ending.returned (.tuple #[.string (str (gbytes out)), .bool true]); rw [← HF.out]; rfl, HB1.out.trans (HB.out.mono HB1.out.size)⟩
end Go.Proofs.YtcblgbonijloiaaDoor
