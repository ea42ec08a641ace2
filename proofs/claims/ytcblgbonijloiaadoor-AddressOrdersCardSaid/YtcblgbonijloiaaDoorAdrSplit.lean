/- Contract of the reference of layer 6: Split (a list of strings in memory). -/
import Derived.Test.YtcblgbonijloiaaDoorAdrDec
import Derived.Deep.AppendLies
import Derived.Deep.RegionHeld3
import Derived.Laws.OwnMore
namespace Go.Proofs.YtcblgbonijloiaaDoor
open Go.ChangeShapes Go.WideShapes Go.ChangeAt Go.RowKit
set_option linter.unusedVariables false

theorem extract_str6 (s : ByteArray) (a b : Nat) : s.extract a b = str ((s.data.toList.drop a).take (b - a)) := by
  apply ByteArray.ext
  apply Array.ext'
  rw [Lib.extract_data]
  simp [str]
theorem toList_length6 (s : ByteArray) : s.data.toList.length = s.size := by show s.data.toList.length = s.data.size; simp only [Array.length_toList]
def strC (L : List By) : List Value := L.map fun p => .string (str p)
theorem strC_snoc (L : List By) (p : By) : strC (L ++ [p]) = strC L ++ [.string (str p)] := by simp [strC]
theorem info_str6 : (Tryd.prog.info? 9).map (fun i => (i.zero, i.size, i.bytes)) = some (some (.string ⟨#[]⟩), 1, 16) := by kernel_rfl
/-- What is still to come at index k, the piece under way having begun at f. -/
def restS (c : UInt8) (s : By) (f k : Nat) : List By := if k ≤ s.length then splitGo c ((s.drop f).take (k - f)) (s.drop k) else []
theorem restS_zero (c : UInt8) (s : By) : restS c s 0 0 = splitL c s := by
  rw [restS, if_pos (Nat.zero_le _)]; rfl
theorem restS_end (c : UInt8) (s : By) (f k : Nat) (h : k = s.length) (k1 : Nat) (hk1 : k1 = k + 1) : restS c s f k = [(s.drop f).take (k - f)] ++ restS c s k1 k1 := by
  have hd : s.drop k = [] := List.drop_of_length_le (by omega)
  rw [restS, if_pos (by omega), hd, splitGo, restS, if_neg (by omega)]; rfl
theorem restS_at (c : UInt8) (s : By) (f k : Nat) (h : k < s.length) (hc : s[k] = c) (k1 : Nat) (hk1 : k1 = k + 1) : restS c s f k = [(s.drop f).take (k - f)] ++ restS c s k1 k1 := by
  rw [restS, if_pos (by omega), List.drop_eq_getElem_cons h, splitGo, if_pos hc, restS, if_pos (by omega), Nat.sub_self, List.take_zero, hk1]; rfl
theorem restS_on (c : UInt8) (s : By) (f k : Nat) (h : k < s.length) (hf : f ≤ k) (hc : s[k] ≠ c) (k1 : Nat) (hk1 : k1 = k + 1) : restS c s f k = restS c s f k1 := by
  rw [restS, if_pos (by omega), List.drop_eq_getElem_cons h, splitGo, if_neg hc, restS, if_pos (by omega), hk1]
  congr 1
  rw [show k + 1 - f = (k - f) + 1 by omega, List.take_succ_eq_append_getElem (by rw [List.length_drop]; omega), List.getElem_drop]
  congr 3; omega
theorem restS_over (c : UInt8) (s : By) (f k : Nat) (h : ¬ k ≤ s.length) : restS c s f k = [] := by rw [restS, if_neg h]
set_option maxHeartbeats 800000 in
set_option maxRecDepth 20000 in
theorem rsplit6_any (s : ByteArray) (c : UInt8) (w : World) (hs : s.size ≤ 1000) :
    Calls Tryd.prog 47 #[.string s, .int .u8 c.toNat] w fun e w' => ∃ A cap, e = .returned (.slice A (splitL c s.data.toList).length cap) ∧ w'.ownsRow w.heap.size 9 1 (.slice A (splitL c s.data.toList).length cap) (splitL c s.data.toList).length (strC (splitL c s.data.toList)) ∧ Below w.heap.size w w' := by
  obtain ⟨R, hR⟩ : ∃ R, R = splitL c s.data.toList := ⟨_, rfl⟩
  rw [← hR]
  have H0 := Lib.hid (show [] ++ restS c s.data.toList 0 0 = R by rw [restS_zero, hR]; rfl)
  have HB0 := Lib.hid (Below.refl w.heap.size w)
  have HO0 := Lib.hid (World.ownsRow_nil w w.heap.size 9 1)
  have hc8 := u8_lt c
  obtain ⟨i0, hinf, hz0, hz1, hz2⟩ := info_parts info_str6
  clear hR
  go_enter Tryd.func47, Tryd.ntmps47
  go_wp2_with fail
  go_loopw [5, 6, 7] (fun v5 v6 v7 wr => ∃ f k cap' : Nat, ∃ A' : Option Addr, ∃ out : List By, v5 = .slice A' out.length cap' ∧ v6 = .int .i64 f ∧ v7 = .int .i64 k ∧ f ≤ k ∧ k ≤ s.size + 1 ∧ out.length ≤ k ∧ Hid (out ++ restS c s.data.toList f k = R) ∧ Hid (Below w.heap.size w wr) ∧ Hid (wr.ownsRow w.heap.size 9 1 (.slice A' out.length cap') out.length (strC out))) (fun _ _ v7 _ => s.size + 1 - (intOf v7).toNat)
  case atStart => exact ⟨0, 0, 0, none, [], rfl, rfl, rfl, Nat.le_refl _, Nat.zero_le _, Nat.le_refl _, H0, HB0, HO0⟩
  case round =>
    clear H0 HB0 HO0
    obtain ⟨f, k, cap', A', out, rfl, rfl, rfl, hfk, hk, hol, HQ, HB, HO⟩ := hrel
    have hlen := toList_length6 s
    obtain ⟨k1, hk1⟩ : ∃ k1, k1 = k + 1 := ⟨_, rfl⟩
    have k1i : (k : Int) + 1 = (k1 : Int) := by omega
    by_cases hle : k ≤ s.size
    · have dle : decide ((k : Int) ≤ (s.size : Int)) = true := by simp; omega
      have hle' : (k : Int) ≤ (s.size : Int) := by omega
      have k1s : k1 ≤ s.size + 1 := by omega
      have hPs : s.extract f k = str ((s.data.toList.drop f).take (k - f)) := extract_str6 s f k
      obtain ⟨M, hM⟩ : ∃ M, M = out ++ [(s.data.toList.drop f).take (k - f)] := ⟨_, rfl⟩
      have HSN := Lib.hid (show strC out ++ [.string (s.extract f k)] = strC M by rw [hM, strC_snoc, hPs])
      have hMl : out.length + 1 = M.length := by rw [hM]; simp
      have hMk : M.length ≤ k1 := by omega
      have hsz := HB.out.size
      have HB1 := Lib.hid (HB.out.alloc hsz (.cells #[.string (s.extract f k)] 9))
      have HT : (s.size = k ∧ ((k : Int) == (s.size : Int)) = true ∨ ((k : Int) == (s.size : Int)) = false ∧ ∃ hk : k < s.size, True) := by
        by_cases e : k = s.size
        · exact Or.inl ⟨e.symm, by simp [e]⟩
        · exact Or.inr ⟨by rw [beq_eq_false_iff_ne]; omega, by omega, trivial⟩
      rcases HT with ⟨hke, tb⟩ | ⟨tb, hks, -⟩
      · have hq := HQ.out
        rw [restS_end _ _ _ _ (by omega) k1 hk1, ← List.append_assoc, ← hM] at hq
        have HQ2 := Lib.hid hq
        clear hq hPs hM HQ hle hlen
        go_wp2_with (at_builtin; refine wpList_append_lies _ rfl _ _ 57 rfl w.heap.size 9 i0 (.string ⟨#[]⟩) 1 16 Tryd.underlying57 hinf hz0 hz1 hz2 rfl (by omega) _ out.length (strC out) rfl (HO.out.alloc _) ⟨wr.heap.size, 0, none⟩ 1 1 [.string (s.extract f k)] rfl rfl ?c1 ?c2 (by omega) ?c3 ?c4 ?c5 _ rfl ?_)
        case c1 => exact World.news_of_block (cs := #[.string (s.extract f k)]) (t := 9) (fr := (0, 0)) (heap_alloc_new wr _)
        case c2 => simp [Value.oneCell']
        case c3 => unfold maxLen; omega
        case c4 => omega
        case c5 => simp; omega
        intro g2 cap2 w3 hown3 hgrow hat hlt2
        have hB3 := HB1.out.grown hgrow (by simp; omega) (fun j hj => (HO.out.lt j hj).1)
        rw [HSN.out] at hown3
        try rw [hMl] at hown3
        try rw [hMl]
        have HB3 := Lib.hid hB3
        have HO3 := Lib.hid hown3
        have HK1 := Lib.hid hk1
        clear hB3 hown3 hgrow hat hlt2 HB HO HB1 hMl hk1
        go_wp2_with fail
        go_roundw
        case rel => exact ⟨k1, k1, cap2, some ⟨g2, 0, none⟩, M, rfl, by go_num, by go_num, Nat.le_refl _, k1s, hMk, HQ2, HB3, HO3⟩
        case measure => have := HK1.out; simp [intOf]; omega
      · have hks' : (k : Int) < (s.size : Int) := by omega
        have ha : s.data.toList[k]'(by omega) = s[k] := rfl
        have hx8 := u8_lt s[k]
        by_cases hcc : s[k] = c
        · have tc : ((s[k].toNat : Int) == (c.toNat : Int)) = true := by rw [hcc]; simp
          have hq := HQ.out
          rw [restS_at _ _ _ _ (by omega) (by rw [ha]; exact hcc) k1 hk1, ← List.append_assoc, ← hM] at hq
          have HQ2 := Lib.hid hq
          clear hq hPs hM HQ hlen ha hcc
          go_wp2_with (at_builtin; refine wpList_append_lies _ rfl _ _ 57 rfl w.heap.size 9 i0 (.string ⟨#[]⟩) 1 16 Tryd.underlying57 hinf hz0 hz1 hz2 rfl (by omega) _ out.length (strC out) rfl (HO.out.alloc _) ⟨wr.heap.size, 0, none⟩ 1 1 [.string (s.extract f k)] rfl rfl ?c1 ?c2 (by omega) ?c3 ?c4 ?c5 _ rfl ?_)
          case c1 => exact World.news_of_block (cs := #[.string (s.extract f k)]) (t := 9) (fr := (0, 0)) (heap_alloc_new wr _)
          case c2 => simp [Value.oneCell']
          case c3 => unfold maxLen; omega
          case c4 => omega
          case c5 => simp; omega
          intro g2 cap2 w3 hown3 hgrow hat hlt2
          have hB3 := HB1.out.grown hgrow (by simp; omega) (fun j hj => (HO.out.lt j hj).1)
          rw [HSN.out] at hown3
          try rw [hMl] at hown3
          try rw [hMl]
          have HB3 := Lib.hid hB3
          have HO3 := Lib.hid hown3
          have HK1 := Lib.hid hk1
          clear hB3 hown3 hgrow hat hlt2 HB HO HB1 hMl hk1
          go_wp2_with fail
          go_roundw
          case rel => exact ⟨k1, k1, cap2, some ⟨g2, 0, none⟩, M, rfl, by go_num, by go_num, Nat.le_refl _, k1s, hMk, HQ2, HB3, HO3⟩
          case measure => have := HK1.out; simp [intOf]; omega
        · have tc : ((s[k].toNat : Int) == (c.toNat : Int)) = false := by
            rw [beq_eq_false_iff_ne]; intro e
            exact hcc (UInt8.toNat_inj.mp (by omega))
          have hq := HQ.out
          rw [restS_on _ _ _ _ (by omega) hfk (by rw [ha]; exact hcc) k1 hk1] at hq
          have HQ2 := Lib.hid hq
          have hok : out.length ≤ k1 := by omega
          have hfk1 : f ≤ k1 := by omega
          have HK1 := Lib.hid hk1
          clear hq hPs hM HQ hlen ha hcc HSN hMl hMk HB1 hk1
          go_wp2_with fail
          go_roundw
          case rel => exact ⟨f, k1, cap', A', out, rfl, rfl, by go_num, hfk1, k1s, hok, HQ2, HB, HO⟩
          case measure => have := HK1.out; simp [intOf]; omega
    · have dle : decide ((k : Int) ≤ (s.size : Int)) = false := by simp; omega
      have nle : ¬ (k : Int) ≤ (s.size : Int) := by omega
      have hq := HQ.out
      rw [restS_over _ _ _ _ (by omega), List.append_nil] at hq
      subst hq
      clear HQ hk1
      go_wp2_with fail
      go_ret
      exact ⟨A', cap', rfl, HO.out, HB.out⟩
end Go.Proofs.YtcblgbonijloiaaDoor
