/- Contracts of the functions, part 8: PrtRItem, PrtPItem, PrtRPar, PrtLay, PrtPPar, Awk08b, Tied08. -/
import Derived.Shelf.Small.Wraps
import Derived.Shelf.Strings.Count
import Derived.Test.YtepbmnpjpkmmfaaGreatDoorProg
import Derived.Test.YtepbmnpjpkmmfaaGreatDoorTie
import Derived.ProofKit
import Derived.LaidMore
import Derived.Lay
import Derived.LaidOnce
import Derived.OpenShut
import Derived.Stop.Joined
import Derived.Stop.LaidErr
import Derived.Lib.LaidTab
import Derived.SevenTiedAt
import Derived.HandedShaped
import Derived.Shelf.Vars
import Derived.Test.YtepbmnpjpkmmfaaGreatDoorPA2
import Derived.Test.YtepbmnpjpkmmfaaGreatDoorPA3
import Derived.Test.YtepbmnpjpkmmfaaGreatDoorPA4
import Derived.Test.YtepbmnpjpkmmfaaGreatDoorPA6
import Derived.Test.YtepbmnpjpkmmfaaGreatDoorPA7
/- Contract of the reference of layer 8: item. -/
namespace Go.Proofs.YtepbmnpjpkmmfaaGreatDoor
open Go.ChangeShapes Go.WideShapes Go.ChangeAt Go.RowKit
set_option linter.unusedVariables false

def itmRes (i : Itm) : Value := .tuple #[.agg #[.int .i64 i.lo, .int .i64 i.hi], .int .i64 i.e]
theorem str_eq8 (s : ByteArray) (l : By) : (s.toList == l) = (s.data.toList == l) := by rw [ByteArray.toList_eq]
theorem SB2.al8 {w : World} {g : Nat} {lo hi : Int} (h : SB2 w g lo hi) (o : Obj) : SB2 (w.alloc o) g lo hi := h.kept (below_alloc5 w o) h.lt
theorem colon_no : ∀ a : By, [a] ≠ splitL 58 [58] := fun a e => by
  have : splitL 58 [58] = [[], []] := by decide
  rw [this] at e
  cases e
theorem rngP_bad {x y : Nat} (h : 65535 < x ∨ 65535 < y ∨ y < x) : rngP x y = ⟨4, 0, 0⟩ := if_pos h
theorem rngP_good {x y : Nat} (h : ¬ (65535 < x ∨ 65535 < y ∨ y < x)) : rngP x y = ⟨0, x, y⟩ := if_neg h
set_option maxHeartbeats 4000000 in
set_option maxRecDepth 20000 in
theorem ritem8_any (s : ByteArray) (w : World) (hs : s.size ≤ 10000) :
    Calls Tryz.prog 30 #[.string s] w fun e w' => e = .returned (itmRes (itemP s.data.toList)) ∧ Below w.heap.size w w' := by
  have HSP := Lib.hid (fun W => rsplit8_any s 58 W hs)
  have HPL := Lib.hid (fun (p : By) (h : p ∈ splitL 58 s.data.toList) => (split_len h : p.length ≤ s.data.toList.length))
  have hlen := toList_length6 s
  rw [hlen] at HPL
  have hcolon := str_eq8 s [58]
  have hsc := split_colon (s := s.data.toList)
  obtain ⟨R, hR⟩ : ∃ R, R = itemP s.data.toList := ⟨_, rfl⟩
  rw [← hR]
  unfold itemP at hR
  have hcnt := (split_count 58 s.data.toList).1
  obtain ⟨L, hL⟩ : ∃ L, L = splitL 58 s.data.toList := ⟨_, rfl⟩
  rw [← hL] at HSP HPL hR hsc hcnt
  have hSB := sb2_new w 0 0
  have hB0 := below_alloc5 w (.cells #[.int .i64 0, .int .i64 0] 34)
  match L, hcnt with
  | [a], _ =>
    have hR : R = oneP a := hR
    clear hsc hcnt
    have ht0 : (s.toList == [58]) = false := by
      rw [hcolon, beq_eq_false_iff_ne]
      intro e
      rw [e] at hL
      exact colon_no a hL
    clear hL hcolon hlen
    have hal : (str a).size ≤ 10000 := by rw [str_size]; have := HPL.out a (by simp); omega
    have em := str_isEmpty6 a
    have HN := Lib.hid (fun W => rnum8_any (str a) W hal)
    rw [str_toList] at HN
    clear hal HPL
    unfold oneP at hR
    go_enter Tryz.func30, Tryz.ntmps30
    go_wp2_with fail
    refine (HSP.out _).mono ?_
    rintro e w1 ⟨A, cap, he, hown, hb⟩
    obtain rfl : e = .returned (.slice A 1 cap) := he
    obtain ⟨g, hA, hgl, hcell⟩ := own_stl hown (by simp)
    subst hA
    have c0 : w1.cell? ⟨g, 0, none⟩ = some (.string (str a)) := hcell 0 a rfl
    have HX := Lib.hid (hSB.kept hb (alloc_lt5 w _))
    have HB1 := Lib.hid (hB0.trans (hb.mono hB0.size))
    have e0 := HX.out.c0
    have e1 := HX.out.c1
    have f0 := HX.out.f 0
    have f1 := HX.out.f 1
    have hlx := HX.out.lt
    clear hown hcell hb hSB hB0 HSP
    obtain ⟨b, hb⟩ : ∃ b, b = a.isEmpty := ⟨_, rfl⟩
    rw [← hb] at em
    clear hb
    cases hq : numP a with
    | none =>
      rw [hq] at hR HN
      unfold numRes at HN
      simp only at hR HN
      clear hq
      generalize str a = S at *
      unfold synP at hR
      cases b
      all_goals
      go_wp2_with fail
      refine (HN.out _).mono ?_
      rintro e w2 ⟨rfl, rfl⟩
      go_wp2_with fail
      exact bodyPost_ret (res_span2 rfl _ _ rfl ((HX.out.set 0 0).al8 _)) rfl ⟨by rw [hR]; rfl, (sset_below HB1.out (Nat.le_refl _) 0 0).alloc (sset_below HB1.out (Nat.le_refl _) 0 0).size _⟩
    | some n =>
      rw [hq] at hR HN
      unfold numRes at HN
      simp only at hR HN
      clear hq
      generalize str a = S at *
      cases b
      all_goals
      go_wp2_with fail
      refine (HN.out _).mono ?_
      rintro e w2 ⟨rfl, rfl⟩
      by_cases h : 65535 < n ∨ 65535 < n ∨ n < n
      · rw [rngP_bad h] at hR
        have d0 : decide ((65535 : Int) < (n : Int)) = true := by simp; omega
        have n0 : 65535 < n := by omega
        clear h
        go_wp2_with fail
        exact bodyPost_ret (res_span2 rfl _ _ rfl ((HX.out.set 0 0).al8 _)) rfl ⟨by rw [hR]; rfl, (sset_below HB1.out (Nat.le_refl _) 0 0).alloc (sset_below HB1.out (Nat.le_refl _) 0 0).size _⟩
      · rw [rngP_good h] at hR
        have d0 : decide ((65535 : Int) < (n : Int)) = false := by simp; omega
        have n0 : ¬ 65535 < n := by omega
        have dxx : decide ((n : Int) < (n : Int)) = false := by simp
        clear h
        go_wp2_with fail
        exact bodyPost_ret (res_span2 rfl _ _ rfl ((HX.out.set n n).al8 _)) rfl ⟨by rw [hR]; rfl, (sset_below HB1.out (Nat.le_refl _) n n).alloc (sset_below HB1.out (Nat.le_refl _) n n).size _⟩
  | [a, b], _ =>
    have hR : R = twoP a b := hR
    clear hcnt
    by_cases hab : a = [] ∧ b = []
    · have ht0 : (s.toList == [58]) = true := by
        rw [hcolon, beq_iff_eq]
        exact hsc.1 (by rw [hab.1, hab.2])
      have hR : R = synP := by rw [hR]; exact if_pos hab
      unfold synP at hR
      clear hL hcolon hlen hsc HPL
      go_enter Tryz.func30, Tryz.ntmps30
      go_wp2_with fail
      refine (HSP.out _).mono ?_
      rintro e w1 ⟨A, cap, he, hown, hb⟩
      obtain rfl : e = .returned (.slice A 2 cap) := he
      have HX := Lib.hid (hSB.kept hb (alloc_lt5 w _))
      have HB1 := Lib.hid (hB0.trans (hb.mono hB0.size))
      have e0 := HX.out.c0
      have e1 := HX.out.c1
      have f0 := HX.out.f 0
      have f1 := HX.out.f 1
      have hlx := HX.out.lt
      clear hown hb hSB hB0 HSP
      go_wp2_with fail
      exact bodyPost_ret (res_span2 rfl _ _ rfl (HX.out.set 0 0)) rfl ⟨by rw [hR]; rfl, sset_below HB1.out (Nat.le_refl _) 0 0⟩
    have ht0 : (s.toList == [58]) = false := by
      rw [hcolon, beq_eq_false_iff_ne]
      intro e
      have := hsc.2 e
      simp only [List.cons.injEq, and_true] at this
      exact hab this
    have hR : R = (match loP a, hiP b with | some x, some y => rngP x y | _, _ => synP) := by rw [hR]; exact if_neg hab
    have hal : (str a).size ≤ 10000 := by rw [str_size]; have := HPL.out a (by simp); omega
    have hbl : (str b).size ≤ 10000 := by rw [str_size]; have := HPL.out b (by simp); omega
    have ema := str_isEmpty6 a
    have emb := str_isEmpty6 b
    have HN := Lib.hid (fun W => rnum8_any (str a) W hal)
    have HM := Lib.hid (fun W => rnum8_any (str b) W hbl)
    rw [str_toList] at HN HM
    clear hL hcolon hlen hsc HPL hal hbl
    unfold loP hiP at hR
    go_enter Tryz.func30, Tryz.ntmps30
    go_wp2_with fail
    refine (HSP.out _).mono ?_
    rintro e w1 ⟨A, cap, he, hown, hb⟩
    obtain rfl : e = .returned (.slice A 2 cap) := he
    obtain ⟨g, hA, hgl, hcell⟩ := own_stl hown (by simp)
    subst hA
    have c0 : w1.cell? ⟨g, 0, none⟩ = some (.string (str a)) := hcell 0 a rfl
    have c1 : w1.cell? ⟨g, 1, none⟩ = some (.string (str b)) := hcell 1 b rfl
    have HX := Lib.hid (hSB.kept hb (alloc_lt5 w _))
    have HB1 := Lib.hid (hB0.trans (hb.mono hB0.size))
    have e0 := HX.out.c0
    have e1 := HX.out.c1
    have f0 := HX.out.f 0
    have f1 := HX.out.f 1
    have hlx := HX.out.lt
    clear hown hcell hb hSB hB0 HSP
    by_cases ha : a = []
    · have hb : b ≠ [] := fun e => hab ⟨ha, e⟩
      rw [if_pos ha, if_neg hb] at hR
      rw [show a.isEmpty = true by rw [ha]; rfl] at ema
      rw [show b.isEmpty = false by simpa using hb] at emb
      clear ha hb hab HN
      generalize str a = S at *
      generalize str b = T at *
      cases hq : numP b with
      | none =>
        rw [hq] at hR HM
        unfold numRes at HM
        simp only at hR HM
        unfold synP at hR
        clear hq
        go_wp2_with fail
        refine (HM.out _).mono ?_
        rintro e w2 ⟨rfl, rfl⟩
        go_wp2_with fail
        exact bodyPost_ret (res_span2 rfl _ _ rfl ((HX.out.set 0 0).al8 _)) rfl ⟨by rw [hR]; rfl, (sset_below HB1.out (Nat.le_refl _) 0 0).alloc (sset_below HB1.out (Nat.le_refl _) 0 0).size _⟩
      | some m =>
        rw [hq] at hR HM
        unfold numRes at HM
        simp only at hR HM
        clear hq
        go_wp2_with fail
        refine (HM.out _).mono ?_
        rintro e w2 ⟨rfl, rfl⟩
        by_cases h : 65535 < 0 ∨ 65535 < m ∨ m < 0
        · rw [rngP_bad h] at hR
          have d0 : decide ((65535 : Int) < (m : Int)) = true := by simp; omega
          have n0 : 65535 < m := by omega
          clear h
          go_wp2_with fail
          exact bodyPost_ret (res_span2 rfl _ _ rfl ((HX.out.set 0 0).al8 _)) rfl ⟨by rw [hR]; rfl, (sset_below HB1.out (Nat.le_refl _) 0 0).alloc (sset_below HB1.out (Nat.le_refl _) 0 0).size _⟩
        · rw [rngP_good h] at hR
          have d0 : decide ((65535 : Int) < (m : Int)) = false := by simp; omega
          have n0 : ¬ 65535 < m := by omega
          clear h
          go_wp2_with fail
          exact bodyPost_ret (res_span2 rfl _ _ rfl ((HX.out.set 0 m).al8 _)) rfl ⟨by rw [hR]; rfl, (sset_below HB1.out (Nat.le_refl _) 0 m).alloc (sset_below HB1.out (Nat.le_refl _) 0 m).size _⟩
    · rw [if_neg ha] at hR
      rw [show a.isEmpty = false by simpa using ha] at ema
      clear ha hab
      generalize str a = S at *
      cases hp : numP a with
      | none =>
        rw [hp] at hR HN
        unfold numRes at HN
        simp only at hR HN
        unfold synP at hR
        clear hp HM emb
        generalize str b = T at *
        go_wp2_with fail
        refine (HN.out _).mono ?_
        rintro e w2 ⟨rfl, rfl⟩
        go_wp2_with fail
        exact bodyPost_ret (res_span2 rfl _ _ rfl ((HX.out.set 0 0).al8 _)) rfl ⟨by rw [hR]; rfl, (sset_below HB1.out (Nat.le_refl _) 0 0).alloc (sset_below HB1.out (Nat.le_refl _) 0 0).size _⟩
      | some n =>
        rw [hp] at hR HN
        unfold numRes at HN
        simp only at HN
        clear hp
        by_cases hb : b = []
        · rw [if_pos hb] at hR
          rw [show b.isEmpty = true by rw [hb]; rfl] at emb
          simp only at hR
          clear hb HM
          generalize str b = T at *
          go_wp2_with fail
          refine (HN.out _).mono ?_
          rintro e w2 ⟨rfl, rfl⟩
          by_cases h : 65535 < n ∨ 65535 < 65535 ∨ 65535 < n
          · rw [rngP_bad h] at hR
            have d0 : decide ((65535 : Int) < (n : Int)) = true := by simp; omega
            have n0 : 65535 < n := by omega
            clear h
            go_wp2_with fail
            exact bodyPost_ret (res_span2 rfl _ _ rfl ((HX.out.set 0 0).al8 _)) rfl ⟨by rw [hR]; rfl, (sset_below HB1.out (Nat.le_refl _) 0 0).alloc (sset_below HB1.out (Nat.le_refl _) 0 0).size _⟩
          · rw [rngP_good h] at hR
            have d0 : decide ((65535 : Int) < (n : Int)) = false := by simp; omega
            have n0 : ¬ 65535 < n := by omega
            clear h
            go_wp2_with fail
            exact bodyPost_ret (res_span2 rfl _ _ rfl ((HX.out.set n 65535).al8 _)) rfl ⟨by rw [hR]; rfl, (sset_below HB1.out (Nat.le_refl _) n 65535).alloc (sset_below HB1.out (Nat.le_refl _) n 65535).size _⟩
        · rw [if_neg hb] at hR
          rw [show b.isEmpty = false by simpa using hb] at emb
          clear hb
          generalize str b = T at *
          cases hq : numP b with
          | none =>
            rw [hq] at hR HM
            unfold numRes at HM
            simp only at hR HM
            unfold synP at hR
            clear hq
            go_wp2_with fail
            refine (HN.out _).mono ?_
            rintro e w2 ⟨rfl, rfl⟩
            go_wp2_with fail
            refine (HM.out _).mono ?_
            rintro e w2 ⟨rfl, rfl⟩
            go_wp2_with fail
            exact bodyPost_ret (res_span2 rfl _ _ rfl ((HX.out.set 0 0).al8 _)) rfl ⟨by rw [hR]; rfl, (sset_below HB1.out (Nat.le_refl _) 0 0).alloc (sset_below HB1.out (Nat.le_refl _) 0 0).size _⟩
          | some m =>
            rw [hq] at hR HM
            unfold numRes at HM
            simp only at hR HM
            clear hq
            go_wp2_with fail
            refine (HN.out _).mono ?_
            rintro e w2 ⟨rfl, rfl⟩
            go_wp2_with fail
            refine (HM.out _).mono ?_
            rintro e w2 ⟨rfl, rfl⟩
            by_cases h : 65535 < n ∨ 65535 < m ∨ m < n
            · rw [rngP_bad h] at hR
              by_cases h0 : 65535 < n
              · have d0 : decide ((65535 : Int) < (n : Int)) = true := by simp; omega
                clear h
                go_wp2_with fail
                exact bodyPost_ret (res_span2 rfl _ _ rfl ((HX.out.set 0 0).al8 _)) rfl ⟨by rw [hR]; rfl, (sset_below HB1.out (Nat.le_refl _) 0 0).alloc (sset_below HB1.out (Nat.le_refl _) 0 0).size _⟩
              · have d0 : decide ((65535 : Int) < (n : Int)) = false := by simp; omega
                by_cases h1 : 65535 < m
                · have d1 : decide ((65535 : Int) < (m : Int)) = true := by simp; omega
                  clear h
                  go_wp2_with fail
                  exact bodyPost_ret (res_span2 rfl _ _ rfl ((HX.out.set 0 0).al8 _)) rfl ⟨by rw [hR]; rfl, (sset_below HB1.out (Nat.le_refl _) 0 0).alloc (sset_below HB1.out (Nat.le_refl _) 0 0).size _⟩
                · have d1 : decide ((65535 : Int) < (m : Int)) = false := by simp; omega
                  have d2 : decide ((m : Int) < (n : Int)) = true := by simp; omega
                  have n2 : m < n := by omega
                  clear h
                  go_wp2_with fail
                  exact bodyPost_ret (res_span2 rfl _ _ rfl ((HX.out.set 0 0).al8 _)) rfl ⟨by rw [hR]; rfl, (sset_below HB1.out (Nat.le_refl _) 0 0).alloc (sset_below HB1.out (Nat.le_refl _) 0 0).size _⟩
            · rw [rngP_good h] at hR
              have d0 : decide ((65535 : Int) < (n : Int)) = false := by simp; omega
              have n0 : ¬ 65535 < n := by omega
              have d1 : decide ((65535 : Int) < (m : Int)) = false := by simp; omega
              have n1 : ¬ 65535 < m := by omega
              have d2 : decide ((m : Int) < (n : Int)) = false := by simp; omega
              have n2 : ¬ m < n := by omega
              clear h
              go_wp2_with fail
              exact bodyPost_ret (res_span2 rfl _ _ rfl ((HX.out.set n m).al8 _)) rfl ⟨by rw [hR]; rfl, (sset_below HB1.out (Nat.le_refl _) n m).alloc (sset_below HB1.out (Nat.le_refl _) n m).size _⟩
  | a :: b :: c :: r, _ =>
    have hR : R = synP := hR
    unfold synP at hR
    obtain ⟨n, hn⟩ : ∃ n, n = (a :: b :: c :: r).length := ⟨_, rfl⟩
    have hn2 : 2 < n := by rw [hn]; simp only [List.length_cons]; omega
    rw [← hn] at HSP
    have d2 : decide ((2 : Int) < (n : Int)) = true := by simp; omega
    clear hL hcolon hlen hsc hcnt HPL hn
    go_enter Tryz.func30, Tryz.ntmps30
    go_wp2_with fail
    refine (HSP.out _).mono ?_
    rintro e w1 ⟨A, cap, rfl, hown, hb⟩
    have HX := Lib.hid (hSB.kept hb (alloc_lt5 w _))
    have HB1 := Lib.hid (hB0.trans (hb.mono hB0.size))
    have e0 := HX.out.c0
    have e1 := HX.out.c1
    have f0 := HX.out.f 0
    have f1 := HX.out.f 1
    have hlx := HX.out.lt
    clear hown hb hSB hB0 HSP
    go_wp2_with fail
    exact bodyPost_ret (res_span2 rfl _ _ rfl (HX.out.set 0 0)) rfl ⟨by rw [hR]; rfl, sset_below HB1.out (Nat.le_refl _) 0 0⟩
end Go.Proofs.YtepbmnpjpkmmfaaGreatDoor

/- Contract of the program of layer 8: parseItem. -/
namespace Go.Proofs.YtepbmnpjpkmmfaaGreatDoor
open Go.ChangeShapes Go.WideShapes Go.ChangeAt Go.RowKit
set_option linter.unusedVariables false

theorem splitGo_cut8 (c : UInt8) : ∀ (s cur : By), splitGo c cur s = (cur ++ (cutAt c s).1) :: (match (cutAt c s).2 with | none => [] | some r => splitL c r)
  | [], cur => by simp [splitGo, cutAt]
  | x :: r, cur => by
    rw [splitGo, cutAt]
    split
    · simp [splitL]
    · rw [splitGo_cut8 c r (cur ++ [x])]; simp
theorem split_cut8 (c : UInt8) (s : By) : splitL c s = (cutAt c s).1 :: (match (cutAt c s).2 with | none => [] | some r => splitL c r) := by
  have := splitGo_cut8 c s []
  simpa [splitL] using this
theorem cutAt_len8 (c : UInt8) : ∀ s : By, (cutAt c s).1.length ≤ s.length ∧ ∀ r, (cutAt c s).2 = some r → r.length ≤ s.length
  | [] => ⟨by simp [cutAt], fun r h => by simp [cutAt] at h⟩
  | x :: q => by
    have ih := cutAt_len8 c q
    rw [cutAt]
    split
    · exact ⟨by simp, fun r h => by obtain rfl := Option.some.inj h; simp⟩
    · exact ⟨by simp only [List.length_cons]; omega, fun r h => by have := ih.2 r h; simp only [List.length_cons]; omega⟩
/-- Cut at a byte, as the walks use it. -/
theorem pcut8 (s : ByteArray) (c : UInt8) (w : World) (hs : s.size ≤ 10000) (ht : TW w) :
    Calls Tryz.prog 48 #[.string s, .string ⟨#[c]⟩] w fun e w' => e = .returned (.tuple #[.string (str (cutAt c s.data.toList).1), .string (str ((cutAt c s.data.toList).2.getD [])), .bool (cutAt c s.data.toList).2.isSome]) ∧ Below w.heap.size w w' := by
  obtain ⟨m, hm⟩ := ht.mx
  refine (lib_strings_Cut s ⟨#[c]⟩ m w (by omega) hm).mono ?_
  rintro e w' ⟨rfl, n, rfl⟩
  have h2 : Lib.cut s.data.toList (⟨#[c]⟩ : ByteArray).data.toList = ((cutAt c s.data.toList).1, (cutAt c s.data.toList).2.getD [], (cutAt c s.data.toList).2.isSome) := by
    rw [byte_str, cut_one]
    cases hq : cutAt c s.data.toList with
    | mk a o => cases o <;> rfl
  rw [h2]
  exact ⟨rfl, below_drewN5 (Below.refl _ _) n⟩
theorem decGo_stop {c : UInt8} (hc : ¬ (48 ≤ c.toNat ∧ c.toNat ≤ 57)) : ∀ (s : By) (m : Nat), c ∈ s → decGo 65535 m s = none
  | [], m, h => by cases h
  | x :: r, m, h => by
    rw [decGo]
    rcases List.mem_cons.1 h with rfl | h
    · rw [if_neg hc]
    · split
      · exact decGo_stop hc r _ h
      · rfl
theorem numP_stop {c : UInt8} (hc : ¬ (48 ≤ c.toNat ∧ c.toNat ≤ 57)) {s : By} (h : c ∈ s) : numP s = none := by
  unfold numP
  split
  · rfl
  · exact decGo_stop hc s 0 h
theorem numP_nil : numP [] = none := by unfold numP; exact if_pos (by simp)
theorem oneP_two (a : By) : oneP a = twoP a a := by
  unfold oneP twoP
  by_cases h : a = []
  · subst h
    rw [numP_nil, if_pos ⟨rfl, rfl⟩]
  · rw [if_neg (fun e => h e.1)]
    unfold loP hiP
    rw [if_neg h, if_neg h]
    cases numP a <;> rfl
/-- An item by its first colon. -/
theorem item_cut (s : By) : itemP s = twoP (cutAt 58 s).1 ((cutAt 58 s).2.getD (cutAt 58 s).1) := by
  unfold itemP
  rw [split_cut8]
  cases ho : (cutAt 58 s).2 with
  | none => exact oneP_two _
  | some r =>
    show (match (cutAt 58 s).1 :: splitL 58 r with | [a] => oneP a | [a, b] => twoP a b | _ => synP) = twoP (cutAt 58 s).1 r
    generalize (cutAt 58 s).1 = a
    by_cases h58 : (58 : UInt8) ∈ r
    · have hn : hiP r = none := by
        unfold hiP
        rw [if_neg (fun e => by rw [e] at h58; cases h58), numP_stop (by decide) h58]
      have h2 : twoP a r = synP := by
        unfold twoP
        rw [if_neg (fun e => by rw [e.2] at h58; cases h58), hn]
        cases loP a <;> rfl
      rw [h2]
      have hl := splitGo_len1 58 r []
      have hp : 0 < r.countP (fun x => decide (x = 58)) := List.countP_pos_iff.2 ⟨58, h58, by decide⟩
      have hl2 : 2 ≤ (splitL 58 r).length := by show 2 ≤ (splitGo 58 [] r).length; omega
      match splitL 58 r, hl2 with
      | p :: q :: t, _ => rfl
    · have : splitL 58 r = [r] := by
        show splitGo 58 [] r = _
        rw [splitGo_none _ _ (fun x hx e => h58 (by rw [← e]; exact hx))]
        rfl
      rw [this]
set_option maxHeartbeats 4000000 in
set_option maxRecDepth 20000 in
theorem pitem8_any (s : ByteArray) (w : World) (hs : s.size ≤ 10000) (ht : TW w) :
    Calls Tryz.prog 27 #[.string s] w fun e w' => e = .returned (itmRes (itemP s.data.toList)) ∧ Below w.heap.size w w' := by
  have hR0 := item_cut s.data.toList
  have hlen := toList_length6 s
  have hcl := cutAt_len8 58 s.data.toList
  have hSB := sb2_new w 0 0
  have hB0 := below_alloc5 w (.cells #[.int .i64 0, .int .i64 0] 34)
  have HC := Lib.hid (pcut8 s 58 (w.alloc (.cells #[.int .i64 0, .int .i64 0] 34)) hs (ht.kept hB0))
  obtain ⟨R, hR⟩ : ∃ R, R = itemP s.data.toList := ⟨_, rfl⟩
  rw [← hR]
  rw [hR0] at hR
  rw [hlen] at hcl
  generalize cutAt 58 s.data.toList = Z at *
  obtain ⟨a, o⟩ := Z
  simp only at hR hcl HC
  have hal : (str a).size ≤ 10000 := by rw [str_size]; have := hcl.1; omega
  have HN := Lib.hid (fun W => show Calls Tryz.prog 49 #[.string (str a), .int .i64 0] W fun e w' => e = .returned (numRes (loP a)) ∧ Below W.heap.size W w' from by
    have h := pbound8_any (str a) 0 W hal
    rw [str_toList] at h
    exact h)
  have ema := str_isEmpty6 a
  clear hR0 hlen
  cases o with
  | none =>
    obtain ⟨b, hb⟩ : ∃ b, b = a := ⟨_, rfl⟩
    have hR : R = twoP a b := by rw [hb]; exact hR
    have HM := Lib.hid (fun W => show Calls Tryz.prog 49 #[.string (str a), .int .i64 65535] W fun e w' => e = .returned (numRes (hiP b)) ∧ Below W.heap.size W w' from by
      have h := pbound8_any (str a) 65535 W hal
      rw [str_toList] at h
      rw [hb]
      exact h)
    have emb : (str a).toList.isEmpty = b.isEmpty := by rw [hb]; exact ema
    clear hb hal hcl
    go_enter Tryz.func27, Tryz.ntmps27
    go_wp2_with fail
    refine HC.out.mono ?_
    rintro e w1 ⟨rfl, hb⟩
    have HX1 := Lib.hid (hSB.kept hb (alloc_lt5 w _))
    have HB1 := Lib.hid (hB0.trans (hb.mono hB0.size))
    have e0 := HX1.out.c0
    have e1 := HX1.out.c1
    have f0 := HX1.out.f 0
    have f1 := HX1.out.f 1
    have hlx := HX1.out.lt
    clear hb hSB hB0 HC
    rw [show (none : Option By).isSome = false from rfl]
    by_cases hab : a = [] ∧ b = []
    · have hR : R = synP := by rw [hR]; exact if_pos hab
      unfold synP at hR
      rw [show a.isEmpty = true by rw [hab.1]; rfl] at ema
      rw [show b.isEmpty = true by rw [hab.2]; rfl] at emb
      clear hab HN HM
      generalize str a = S at *
      go_wp2_with fail
      exact bodyPost_ret (res_span2 rfl _ _ rfl (HX1.out.set 0 0)) rfl ⟨by rw [hR]; rfl, sset_below HB1.out (Nat.le_refl _) 0 0⟩
    · have hR : R = (match loP a, hiP b with | some x, some y => rngP x y | _, _ => synP) := by rw [hR]; exact if_neg hab
      have hdis : (a.isEmpty = false) ∨ (a.isEmpty = true ∧ b.isEmpty = false) := by
        by_cases ha : a = []
        · exact Or.inr ⟨by rw [ha]; rfl, by simpa using fun e => hab ⟨ha, e⟩⟩
        · exact Or.inl (by simpa using ha)
      clear hab
      rcases hdis with he | ⟨he, hf⟩
      · rw [he] at ema
        clear emb
        clear he
        cases hp : loP a with
        | none =>
          rw [hp] at hR HN
          unfold numRes at HN
          simp only at HN hR
          clear hp
          cases hq : hiP b with
          | none =>
            rw [hq] at HM
            unfold numRes at HM
            simp only at HM
            clear hq
            generalize str a = S at *
            go_wp2_with fail
            refine (HN.out _).mono ?_
            rintro e w2 ⟨rfl, hb⟩
            have HX2 := Lib.hid (HX1.out.kept hb HX1.out.lt)
            have HB2 := Lib.hid (HB1.out.trans (hb.mono HB1.out.size))
            have e0 := HX2.out.c0
            have e1 := HX2.out.c1
            have f0 := HX2.out.f 0
            have f1 := HX2.out.f 1
            have hlx := HX2.out.lt
            clear hb HX1 HB1
            go_wp2_with fail
            refine (HM.out _).mono ?_
            rintro e w3 ⟨rfl, hb⟩
            have HX3 := Lib.hid (HX2.out.kept hb HX2.out.lt)
            have HB3 := Lib.hid (HB2.out.trans (hb.mono HB2.out.size))
            have e0 := HX3.out.c0
            have e1 := HX3.out.c1
            have f0 := HX3.out.f 0
            have f1 := HX3.out.f 1
            have hlx := HX3.out.lt
            clear hb HX2 HB2
            unfold synP at hR
            go_wp2_with fail
            exact bodyPost_ret (res_span2 rfl _ _ rfl (HX3.out.set 0 0)) rfl ⟨by rw [hR]; rfl, sset_below HB3.out (Nat.le_refl _) 0 0⟩
          | some y =>
            rw [hq] at HM
            unfold numRes at HM
            simp only at HM
            clear hq
            generalize str a = S at *
            go_wp2_with fail
            refine (HN.out _).mono ?_
            rintro e w2 ⟨rfl, hb⟩
            have HX2 := Lib.hid (HX1.out.kept hb HX1.out.lt)
            have HB2 := Lib.hid (HB1.out.trans (hb.mono HB1.out.size))
            have e0 := HX2.out.c0
            have e1 := HX2.out.c1
            have f0 := HX2.out.f 0
            have f1 := HX2.out.f 1
            have hlx := HX2.out.lt
            clear hb HX1 HB1
            go_wp2_with fail
            refine (HM.out _).mono ?_
            rintro e w3 ⟨rfl, hb⟩
            have HX3 := Lib.hid (HX2.out.kept hb HX2.out.lt)
            have HB3 := Lib.hid (HB2.out.trans (hb.mono HB2.out.size))
            have e0 := HX3.out.c0
            have e1 := HX3.out.c1
            have f0 := HX3.out.f 0
            have f1 := HX3.out.f 1
            have hlx := HX3.out.lt
            clear hb HX2 HB2
            unfold synP at hR
            go_wp2_with fail
            exact bodyPost_ret (res_span2 rfl _ _ rfl (HX3.out.set 0 0)) rfl ⟨by rw [hR]; rfl, sset_below HB3.out (Nat.le_refl _) 0 0⟩
        | some x =>
          rw [hp] at hR HN
          unfold numRes at HN
          simp only at HN hR
          clear hp
          cases hq : hiP b with
          | none =>
            rw [hq] at hR HM
            unfold numRes at HM
            simp only at HM hR
            clear hq
            generalize str a = S at *
            go_wp2_with fail
            refine (HN.out _).mono ?_
            rintro e w2 ⟨rfl, hb⟩
            have HX2 := Lib.hid (HX1.out.kept hb HX1.out.lt)
            have HB2 := Lib.hid (HB1.out.trans (hb.mono HB1.out.size))
            have e0 := HX2.out.c0
            have e1 := HX2.out.c1
            have f0 := HX2.out.f 0
            have f1 := HX2.out.f 1
            have hlx := HX2.out.lt
            clear hb HX1 HB1
            go_wp2_with fail
            refine (HM.out _).mono ?_
            rintro e w3 ⟨rfl, hb⟩
            have HX3 := Lib.hid (HX2.out.kept hb HX2.out.lt)
            have HB3 := Lib.hid (HB2.out.trans (hb.mono HB2.out.size))
            have e0 := HX3.out.c0
            have e1 := HX3.out.c1
            have f0 := HX3.out.f 0
            have f1 := HX3.out.f 1
            have hlx := HX3.out.lt
            clear hb HX2 HB2
            unfold synP at hR
            go_wp2_with fail
            exact bodyPost_ret (res_span2 rfl _ _ rfl (HX3.out.set 0 0)) rfl ⟨by rw [hR]; rfl, sset_below HB3.out (Nat.le_refl _) 0 0⟩
          | some y =>
            rw [hq] at hR HM
            unfold numRes at HM
            simp only at HM hR
            clear hq
            generalize str a = S at *
            go_wp2_with fail
            refine (HN.out _).mono ?_
            rintro e w2 ⟨rfl, hb⟩
            have HX2 := Lib.hid (HX1.out.kept hb HX1.out.lt)
            have HB2 := Lib.hid (HB1.out.trans (hb.mono HB1.out.size))
            have e0 := HX2.out.c0
            have e1 := HX2.out.c1
            have f0 := HX2.out.f 0
            have f1 := HX2.out.f 1
            have hlx := HX2.out.lt
            clear hb HX1 HB1
            go_wp2_with fail
            refine (HM.out _).mono ?_
            rintro e w3 ⟨rfl, hb⟩
            have HX3 := Lib.hid (HX2.out.kept hb HX2.out.lt)
            have HB3 := Lib.hid (HB2.out.trans (hb.mono HB2.out.size))
            have e0 := HX3.out.c0
            have e1 := HX3.out.c1
            have f0 := HX3.out.f 0
            have f1 := HX3.out.f 1
            have hlx := HX3.out.lt
            clear hb HX2 HB2
            by_cases h : 65535 < x ∨ 65535 < y ∨ y < x
            · rw [rngP_bad h] at hR
              by_cases h1 : y < x
              · have d1 : decide ((y : Int) < (x : Int)) = true := by simp; omega
                clear h
                go_wp2_with fail
                exact bodyPost_ret (res_span2 rfl _ _ rfl (HX3.out.set 0 0)) rfl ⟨by rw [hR]; rfl, sset_below HB3.out (Nat.le_refl _) 0 0⟩
              · have d1 : decide ((y : Int) < (x : Int)) = false := by simp; omega
                have h2 : 65535 < y := by omega
                have d2 : decide ((65535 : Int) < (y : Int)) = true := by simp; omega
                clear h
                go_wp2_with fail
                exact bodyPost_ret (res_span2 rfl _ _ rfl (HX3.out.set 0 0)) rfl ⟨by rw [hR]; rfl, sset_below HB3.out (Nat.le_refl _) 0 0⟩
            · rw [rngP_good h] at hR
              have h1 : ¬ y < x := by omega
              have d1 : decide ((y : Int) < (x : Int)) = false := by simp; omega
              have h2 : ¬ 65535 < y := by omega
              have d2 : decide ((65535 : Int) < (y : Int)) = false := by simp; omega
              clear h
              go_wp2_with fail
              exact bodyPost_ret (res_span2 rfl _ _ rfl (HX3.out.set x y)) rfl ⟨by rw [hR]; rfl, sset_below HB3.out (Nat.le_refl _) x y⟩
      · rw [he] at ema
        rw [hf] at emb
        clear he hf
        exact absurd (ema.symm.trans emb) (by decide)
  | some b =>
    have hbl : (str b).size ≤ 10000 := by rw [str_size]; have := hcl.2 b rfl; omega
    have hR : R = twoP a b := hR
    have HM := Lib.hid (fun W => show Calls Tryz.prog 49 #[.string (str b), .int .i64 65535] W fun e w' => e = .returned (numRes (hiP b)) ∧ Below W.heap.size W w' from by
      have h := pbound8_any (str b) 65535 W hbl
      rw [str_toList] at h
      exact h)
    have emb := str_isEmpty6 b
    clear hal hbl hcl
    go_enter Tryz.func27, Tryz.ntmps27
    go_wp2_with fail
    refine HC.out.mono ?_
    rintro e w1 ⟨rfl, hb⟩
    have HX1 := Lib.hid (hSB.kept hb (alloc_lt5 w _))
    have HB1 := Lib.hid (hB0.trans (hb.mono hB0.size))
    have e0 := HX1.out.c0
    have e1 := HX1.out.c1
    have f0 := HX1.out.f 0
    have f1 := HX1.out.f 1
    have hlx := HX1.out.lt
    clear hb hSB hB0 HC
    rw [show (some b : Option By).isSome = true from rfl, show (some b : Option By).getD [] = b from rfl]
    by_cases hab : a = [] ∧ b = []
    · have hR : R = synP := by rw [hR]; exact if_pos hab
      unfold synP at hR
      rw [show a.isEmpty = true by rw [hab.1]; rfl] at ema
      rw [show b.isEmpty = true by rw [hab.2]; rfl] at emb
      clear hab HN HM
      generalize str a = S at *
      generalize str b = T at *
      go_wp2_with fail
      exact bodyPost_ret (res_span2 rfl _ _ rfl (HX1.out.set 0 0)) rfl ⟨by rw [hR]; rfl, sset_below HB1.out (Nat.le_refl _) 0 0⟩
    · have hR : R = (match loP a, hiP b with | some x, some y => rngP x y | _, _ => synP) := by rw [hR]; exact if_neg hab
      have hdis : (a.isEmpty = false) ∨ (a.isEmpty = true ∧ b.isEmpty = false) := by
        by_cases ha : a = []
        · exact Or.inr ⟨by rw [ha]; rfl, by simpa using fun e => hab ⟨ha, e⟩⟩
        · exact Or.inl (by simpa using ha)
      clear hab
      rcases hdis with he | ⟨he, hf⟩
      · rw [he] at ema
        clear he
        cases hp : loP a with
        | none =>
          rw [hp] at hR HN
          unfold numRes at HN
          simp only at HN hR
          clear hp
          cases hq : hiP b with
          | none =>
            rw [hq] at HM
            unfold numRes at HM
            simp only at HM
            clear hq
            generalize str a = S at *
            generalize str b = T at *
            go_wp2_with fail
            refine (HN.out _).mono ?_
            rintro e w2 ⟨rfl, hb⟩
            have HX2 := Lib.hid (HX1.out.kept hb HX1.out.lt)
            have HB2 := Lib.hid (HB1.out.trans (hb.mono HB1.out.size))
            have e0 := HX2.out.c0
            have e1 := HX2.out.c1
            have f0 := HX2.out.f 0
            have f1 := HX2.out.f 1
            have hlx := HX2.out.lt
            clear hb HX1 HB1
            go_wp2_with fail
            refine (HM.out _).mono ?_
            rintro e w3 ⟨rfl, hb⟩
            have HX3 := Lib.hid (HX2.out.kept hb HX2.out.lt)
            have HB3 := Lib.hid (HB2.out.trans (hb.mono HB2.out.size))
            have e0 := HX3.out.c0
            have e1 := HX3.out.c1
            have f0 := HX3.out.f 0
            have f1 := HX3.out.f 1
            have hlx := HX3.out.lt
            clear hb HX2 HB2
            unfold synP at hR
            go_wp2_with fail
            exact bodyPost_ret (res_span2 rfl _ _ rfl (HX3.out.set 0 0)) rfl ⟨by rw [hR]; rfl, sset_below HB3.out (Nat.le_refl _) 0 0⟩
          | some y =>
            rw [hq] at HM
            unfold numRes at HM
            simp only at HM
            clear hq
            generalize str a = S at *
            generalize str b = T at *
            go_wp2_with fail
            refine (HN.out _).mono ?_
            rintro e w2 ⟨rfl, hb⟩
            have HX2 := Lib.hid (HX1.out.kept hb HX1.out.lt)
            have HB2 := Lib.hid (HB1.out.trans (hb.mono HB1.out.size))
            have e0 := HX2.out.c0
            have e1 := HX2.out.c1
            have f0 := HX2.out.f 0
            have f1 := HX2.out.f 1
            have hlx := HX2.out.lt
            clear hb HX1 HB1
            go_wp2_with fail
            refine (HM.out _).mono ?_
            rintro e w3 ⟨rfl, hb⟩
            have HX3 := Lib.hid (HX2.out.kept hb HX2.out.lt)
            have HB3 := Lib.hid (HB2.out.trans (hb.mono HB2.out.size))
            have e0 := HX3.out.c0
            have e1 := HX3.out.c1
            have f0 := HX3.out.f 0
            have f1 := HX3.out.f 1
            have hlx := HX3.out.lt
            clear hb HX2 HB2
            unfold synP at hR
            go_wp2_with fail
            exact bodyPost_ret (res_span2 rfl _ _ rfl (HX3.out.set 0 0)) rfl ⟨by rw [hR]; rfl, sset_below HB3.out (Nat.le_refl _) 0 0⟩
        | some x =>
          rw [hp] at hR HN
          unfold numRes at HN
          simp only at HN hR
          clear hp
          cases hq : hiP b with
          | none =>
            rw [hq] at hR HM
            unfold numRes at HM
            simp only at HM hR
            clear hq
            generalize str a = S at *
            generalize str b = T at *
            go_wp2_with fail
            refine (HN.out _).mono ?_
            rintro e w2 ⟨rfl, hb⟩
            have HX2 := Lib.hid (HX1.out.kept hb HX1.out.lt)
            have HB2 := Lib.hid (HB1.out.trans (hb.mono HB1.out.size))
            have e0 := HX2.out.c0
            have e1 := HX2.out.c1
            have f0 := HX2.out.f 0
            have f1 := HX2.out.f 1
            have hlx := HX2.out.lt
            clear hb HX1 HB1
            go_wp2_with fail
            refine (HM.out _).mono ?_
            rintro e w3 ⟨rfl, hb⟩
            have HX3 := Lib.hid (HX2.out.kept hb HX2.out.lt)
            have HB3 := Lib.hid (HB2.out.trans (hb.mono HB2.out.size))
            have e0 := HX3.out.c0
            have e1 := HX3.out.c1
            have f0 := HX3.out.f 0
            have f1 := HX3.out.f 1
            have hlx := HX3.out.lt
            clear hb HX2 HB2
            unfold synP at hR
            go_wp2_with fail
            exact bodyPost_ret (res_span2 rfl _ _ rfl (HX3.out.set 0 0)) rfl ⟨by rw [hR]; rfl, sset_below HB3.out (Nat.le_refl _) 0 0⟩
          | some y =>
            rw [hq] at hR HM
            unfold numRes at HM
            simp only at HM hR
            clear hq
            generalize str a = S at *
            generalize str b = T at *
            go_wp2_with fail
            refine (HN.out _).mono ?_
            rintro e w2 ⟨rfl, hb⟩
            have HX2 := Lib.hid (HX1.out.kept hb HX1.out.lt)
            have HB2 := Lib.hid (HB1.out.trans (hb.mono HB1.out.size))
            have e0 := HX2.out.c0
            have e1 := HX2.out.c1
            have f0 := HX2.out.f 0
            have f1 := HX2.out.f 1
            have hlx := HX2.out.lt
            clear hb HX1 HB1
            go_wp2_with fail
            refine (HM.out _).mono ?_
            rintro e w3 ⟨rfl, hb⟩
            have HX3 := Lib.hid (HX2.out.kept hb HX2.out.lt)
            have HB3 := Lib.hid (HB2.out.trans (hb.mono HB2.out.size))
            have e0 := HX3.out.c0
            have e1 := HX3.out.c1
            have f0 := HX3.out.f 0
            have f1 := HX3.out.f 1
            have hlx := HX3.out.lt
            clear hb HX2 HB2
            by_cases h : 65535 < x ∨ 65535 < y ∨ y < x
            · rw [rngP_bad h] at hR
              by_cases h1 : y < x
              · have d1 : decide ((y : Int) < (x : Int)) = true := by simp; omega
                clear h
                go_wp2_with fail
                exact bodyPost_ret (res_span2 rfl _ _ rfl (HX3.out.set 0 0)) rfl ⟨by rw [hR]; rfl, sset_below HB3.out (Nat.le_refl _) 0 0⟩
              · have d1 : decide ((y : Int) < (x : Int)) = false := by simp; omega
                have h2 : 65535 < y := by omega
                have d2 : decide ((65535 : Int) < (y : Int)) = true := by simp; omega
                clear h
                go_wp2_with fail
                exact bodyPost_ret (res_span2 rfl _ _ rfl (HX3.out.set 0 0)) rfl ⟨by rw [hR]; rfl, sset_below HB3.out (Nat.le_refl _) 0 0⟩
            · rw [rngP_good h] at hR
              have h1 : ¬ y < x := by omega
              have d1 : decide ((y : Int) < (x : Int)) = false := by simp; omega
              have h2 : ¬ 65535 < y := by omega
              have d2 : decide ((65535 : Int) < (y : Int)) = false := by simp; omega
              clear h
              go_wp2_with fail
              exact bodyPost_ret (res_span2 rfl _ _ rfl (HX3.out.set x y)) rfl ⟨by rw [hR]; rfl, sset_below HB3.out (Nat.le_refl _) x y⟩
      · rw [he] at ema
        rw [hf] at emb
        clear he hf
        cases hp : loP a with
        | none =>
          rw [hp] at hR HN
          unfold numRes at HN
          simp only at HN hR
          clear hp
          cases hq : hiP b with
          | none =>
            rw [hq] at HM
            unfold numRes at HM
            simp only at HM
            clear hq
            generalize str a = S at *
            generalize str b = T at *
            go_wp2_with fail
            refine (HN.out _).mono ?_
            rintro e w2 ⟨rfl, hb⟩
            have HX2 := Lib.hid (HX1.out.kept hb HX1.out.lt)
            have HB2 := Lib.hid (HB1.out.trans (hb.mono HB1.out.size))
            have e0 := HX2.out.c0
            have e1 := HX2.out.c1
            have f0 := HX2.out.f 0
            have f1 := HX2.out.f 1
            have hlx := HX2.out.lt
            clear hb HX1 HB1
            go_wp2_with fail
            refine (HM.out _).mono ?_
            rintro e w3 ⟨rfl, hb⟩
            have HX3 := Lib.hid (HX2.out.kept hb HX2.out.lt)
            have HB3 := Lib.hid (HB2.out.trans (hb.mono HB2.out.size))
            have e0 := HX3.out.c0
            have e1 := HX3.out.c1
            have f0 := HX3.out.f 0
            have f1 := HX3.out.f 1
            have hlx := HX3.out.lt
            clear hb HX2 HB2
            unfold synP at hR
            go_wp2_with fail
            exact bodyPost_ret (res_span2 rfl _ _ rfl (HX3.out.set 0 0)) rfl ⟨by rw [hR]; rfl, sset_below HB3.out (Nat.le_refl _) 0 0⟩
          | some y =>
            rw [hq] at HM
            unfold numRes at HM
            simp only at HM
            clear hq
            generalize str a = S at *
            generalize str b = T at *
            go_wp2_with fail
            refine (HN.out _).mono ?_
            rintro e w2 ⟨rfl, hb⟩
            have HX2 := Lib.hid (HX1.out.kept hb HX1.out.lt)
            have HB2 := Lib.hid (HB1.out.trans (hb.mono HB1.out.size))
            have e0 := HX2.out.c0
            have e1 := HX2.out.c1
            have f0 := HX2.out.f 0
            have f1 := HX2.out.f 1
            have hlx := HX2.out.lt
            clear hb HX1 HB1
            go_wp2_with fail
            refine (HM.out _).mono ?_
            rintro e w3 ⟨rfl, hb⟩
            have HX3 := Lib.hid (HX2.out.kept hb HX2.out.lt)
            have HB3 := Lib.hid (HB2.out.trans (hb.mono HB2.out.size))
            have e0 := HX3.out.c0
            have e1 := HX3.out.c1
            have f0 := HX3.out.f 0
            have f1 := HX3.out.f 1
            have hlx := HX3.out.lt
            clear hb HX2 HB2
            unfold synP at hR
            go_wp2_with fail
            exact bodyPost_ret (res_span2 rfl _ _ rfl (HX3.out.set 0 0)) rfl ⟨by rw [hR]; rfl, sset_below HB3.out (Nat.le_refl _) 0 0⟩
        | some x =>
          rw [hp] at hR HN
          unfold numRes at HN
          simp only at HN hR
          clear hp
          cases hq : hiP b with
          | none =>
            rw [hq] at hR HM
            unfold numRes at HM
            simp only at HM hR
            clear hq
            generalize str a = S at *
            generalize str b = T at *
            go_wp2_with fail
            refine (HN.out _).mono ?_
            rintro e w2 ⟨rfl, hb⟩
            have HX2 := Lib.hid (HX1.out.kept hb HX1.out.lt)
            have HB2 := Lib.hid (HB1.out.trans (hb.mono HB1.out.size))
            have e0 := HX2.out.c0
            have e1 := HX2.out.c1
            have f0 := HX2.out.f 0
            have f1 := HX2.out.f 1
            have hlx := HX2.out.lt
            clear hb HX1 HB1
            go_wp2_with fail
            refine (HM.out _).mono ?_
            rintro e w3 ⟨rfl, hb⟩
            have HX3 := Lib.hid (HX2.out.kept hb HX2.out.lt)
            have HB3 := Lib.hid (HB2.out.trans (hb.mono HB2.out.size))
            have e0 := HX3.out.c0
            have e1 := HX3.out.c1
            have f0 := HX3.out.f 0
            have f1 := HX3.out.f 1
            have hlx := HX3.out.lt
            clear hb HX2 HB2
            unfold synP at hR
            go_wp2_with fail
            exact bodyPost_ret (res_span2 rfl _ _ rfl (HX3.out.set 0 0)) rfl ⟨by rw [hR]; rfl, sset_below HB3.out (Nat.le_refl _) 0 0⟩
          | some y =>
            rw [hq] at hR HM
            unfold numRes at HM
            simp only at HM hR
            clear hq
            generalize str a = S at *
            generalize str b = T at *
            go_wp2_with fail
            refine (HN.out _).mono ?_
            rintro e w2 ⟨rfl, hb⟩
            have HX2 := Lib.hid (HX1.out.kept hb HX1.out.lt)
            have HB2 := Lib.hid (HB1.out.trans (hb.mono HB1.out.size))
            have e0 := HX2.out.c0
            have e1 := HX2.out.c1
            have f0 := HX2.out.f 0
            have f1 := HX2.out.f 1
            have hlx := HX2.out.lt
            clear hb HX1 HB1
            go_wp2_with fail
            refine (HM.out _).mono ?_
            rintro e w3 ⟨rfl, hb⟩
            have HX3 := Lib.hid (HX2.out.kept hb HX2.out.lt)
            have HB3 := Lib.hid (HB2.out.trans (hb.mono HB2.out.size))
            have e0 := HX3.out.c0
            have e1 := HX3.out.c1
            have f0 := HX3.out.f 0
            have f1 := HX3.out.f 1
            have hlx := HX3.out.lt
            clear hb HX2 HB2
            by_cases h : 65535 < x ∨ 65535 < y ∨ y < x
            · rw [rngP_bad h] at hR
              by_cases h1 : y < x
              · have d1 : decide ((y : Int) < (x : Int)) = true := by simp; omega
                clear h
                go_wp2_with fail
                exact bodyPost_ret (res_span2 rfl _ _ rfl (HX3.out.set 0 0)) rfl ⟨by rw [hR]; rfl, sset_below HB3.out (Nat.le_refl _) 0 0⟩
              · have d1 : decide ((y : Int) < (x : Int)) = false := by simp; omega
                have h2 : 65535 < y := by omega
                have d2 : decide ((65535 : Int) < (y : Int)) = true := by simp; omega
                clear h
                go_wp2_with fail
                exact bodyPost_ret (res_span2 rfl _ _ rfl (HX3.out.set 0 0)) rfl ⟨by rw [hR]; rfl, sset_below HB3.out (Nat.le_refl _) 0 0⟩
            · rw [rngP_good h] at hR
              have h1 : ¬ y < x := by omega
              have d1 : decide ((y : Int) < (x : Int)) = false := by simp; omega
              have h2 : ¬ 65535 < y := by omega
              have d2 : decide ((65535 : Int) < (y : Int)) = false := by simp; omega
              clear h
              go_wp2_with fail
              exact bodyPost_ret (res_span2 rfl _ _ rfl (HX3.out.set x y)) rfl ⟨by rw [hR]; rfl, sset_below HB3.out (Nat.le_refl _) x y⟩
end Go.Proofs.YtepbmnpjpkmmfaaGreatDoor

/- Contract of the reference of layer 8: Parse. -/
namespace Go.Proofs.YtepbmnpjpkmmfaaGreatDoor
open Go.ChangeShapes Go.WideShapes Go.ChangeAt Go.RowKit
set_option linter.unusedVariables false

/-- A span as an element: two cells. -/
def ES8 : Enc Spn := ⟨2, by decide, spC, fun _ => rfl, fun s v hv => by
  simp only [spC, List.mem_cons, List.not_mem_nil, or_false] at hv
  rcases hv with rfl | rfl <;> rfl⟩
theorem spTy8 : ElemTy 23 34 2 16 :=
  ⟨Tryz.underlying23, by
    obtain ⟨i, h1, h2, h3, h4⟩ := info_parts info_span
    exact ⟨i, _, h1, h2, h3, h4, rfl⟩⟩
theorem ps_start (w : World) : PS w ((w.alloc (.cells #[] 34)).alloc (.cells #[] 34)) (some ⟨w.heap.size, 0, none⟩) 0 0 [] (some ⟨w.heap.size + 1, 0, none⟩) 0 0 [] := by
  have h1 := own_empty5 w (Nat.le_refl w.heap.size)
  have h2 := own_empty5 (w.alloc (.cells #[] 34)) (base := w.heap.size) (by simp)
  rw [show (w.alloc (.cells #[] 34)).heap.size = w.heap.size + 1 by simp] at h2
  refine ⟨(below_alloc5 w _).alloc (by simp) _, h1.alloc _, h2, fun x e1 e2 => ?_, rfl, rfl⟩
  simp only [Value.ownBlock, Option.some.injEq] at e1 e2
  omega
set_option maxHeartbeats 4000000 in
set_option maxRecDepth 20000 in
theorem rparse8_any (s : ByteArray) (w : World) (hs : s.size ≤ 10000) :
    Calls Tryz.prog 11 #[.string s] w (ParP w s.data.toList 810000) := by
  have hlen := toList_length6 s
  have hany := str_eq8 s [97, 110, 121]
  by_cases h1 : 1024 < s.size
  · have HE := Lib.hid (show errP s.data.toList = 3 by unfold errP; rw [if_pos (by omega)])
    have d1 : decide ((1024 : Int) < (s.size : Int)) = true := by simp; omega
    have HB := Lib.hid (Below.refl w.heap.size w)
    clear hlen hany
    go_enter Tryz.func11, Tryz.ntmps11
    go_wp2_with fail
    go_ret2
    exact ParP.err HB.out HE.out (by decide)
  have d1 : decide ((1024 : Int) < (s.size : Int)) = false := by simp; omega
  have nd1 : ¬ (1024 : Int) < (s.size : Int) := by omega
  by_cases h2 : s.data.toList = anyT
  · have HE := Lib.hid (show errP s.data.toList = 0 by unfold errP; rw [if_neg (by omega), if_pos h2])
    have HF := Lib.hid (show ∀ m, parF s.data.toList m = inPort m from fun m => by unfold parF setP; rw [HE.out, if_pos rfl, if_pos h2])
    have t1 : (s.toList == [97, 110, 121]) = true := by rw [hany, beq_iff_eq]; exact h2
    have HA := Lib.hid (fun W => rall8_any W)
    clear hlen hany h2
    go_enter Tryz.func11, Tryz.ntmps11
    go_wp2_with fail
    refine (HA.out _).mono ?_
    rintro e w1 ⟨L, A, c, ok, any, le, rfl, own, hb⟩
    go_wp2_with fail
    go_ret2
    refine ⟨L, A, c, ok, fun m => (any m).trans (HF.out m).symm, by omega, ?_, own, hb⟩
    rw [HE.out]; rfl
  have t1 : (s.toList == [97, 110, 121]) = false := by rw [hany, beq_eq_false_iff_ne]; exact h2
  have HSP := Lib.hid (fun W => rsplit8_any s 44 W hs)
  have HPL := Lib.hid (fun (p : By) (h : p ∈ splitL 44 s.data.toList) => (split_len h : p.length ≤ s.data.toList.length))
  have hcnt := (split_count 44 s.data.toList).1
  have HE0 := Lib.hid (show errP s.data.toList = if 64 < (splitL 44 s.data.toList).length then 3 else errL (splitL 44 s.data.toList) by unfold errP; rw [if_neg (by omega), if_neg h2])
  have HF0 := Lib.hid (show errP s.data.toList = 0 → ∀ m, parF s.data.toList m = portF (incL (splitL 44 s.data.toList)) (excL (splitL 44 s.data.toList)) m from fun e m => by unfold parF setP; rw [e, if_pos rfl, if_neg h2])
  generalize s.data.toList = sl at *
  obtain ⟨L, hL⟩ : ∃ L, L = splitL 44 sl := ⟨_, rfl⟩
  rw [← hL] at HSP HPL HE0 HF0 hcnt
  obtain ⟨n, hn⟩ : ∃ n, n = L.length := ⟨_, rfl⟩
  rw [← hn] at HSP HE0 hcnt
  have HN := Lib.hid hn
  clear hany h2 hL hn
  by_cases h3 : 64 < n
  · have HE := Lib.hid (show errP sl = 3 by rw [HE0.out, if_pos h3])
    have d3 : decide ((64 : Int) < (n : Int)) = true := by simp; omega
    clear hlen HE0 HF0 HPL
    go_enter Tryz.func11, Tryz.ntmps11
    go_wp2_with fail
    refine (HSP.out _).mono ?_
    rintro e w1 ⟨A, cap, rfl, hown, hb⟩
    have HB := Lib.hid hb
    clear hb hown HSP
    go_wp2_with fail
    go_ret2
    exact ParP.err HB.out HE.out (by decide)
  have d3 : decide ((64 : Int) < (n : Int)) = false := by simp; omega
  have nd3 : ¬ (64 : Int) < (n : Int) := by omega
  have HE1 := Lib.hid (show errP sl = errL L by rw [HE0.out, if_neg h3])
  rw [hlen] at HPL
  clear HE0
  go_enter Tryz.func11, Tryz.ntmps11
  go_wp2_with fail
  refine (HSP.out _).mono ?_
  rintro e w1 ⟨A, cap, rfl, hown, hb⟩
  obtain ⟨g, hA, hgl, hcell⟩ := own_stl (L := L) (by rw [← HN.out]; exact hown) (by rw [← HN.out]; exact hcnt)
  subst hA
  have HC := Lib.hid hcell
  have HB1 := Lib.hid hb
  have HP0 := Lib.hid (ps_start w1)
  clear hb hown hcell HSP
  go_wp2_with fail
  obtain ⟨a1, ha1⟩ : ∃ a, a = w1.heap.size := ⟨_, rfl⟩
  rw [show (Value.slice (some ⟨w1.heap.size, 0, none⟩) 0 0) = .slice (some ⟨a1, 0, none⟩) 0 0 by rw [ha1], show (Value.slice (some ⟨w1.heap.size + 1, 0, none⟩) 0 0) = .slice (some ⟨a1 + 1, 0, none⟩) 0 0 by rw [ha1]]
  rw [show (some ⟨w1.heap.size, 0, none⟩ : Option Addr) = some ⟨a1, 0, none⟩ by rw [ha1], show (some ⟨w1.heap.size + 1, 0, none⟩ : Option Addr) = some ⟨a1 + 1, 0, none⟩ by rw [ha1]] at HP0
  generalize (w1.alloc (.cells #[] 34)).alloc (.cells #[] 34) = w2 at *
  clear ha1
  go_loopw [5, 6, 7] (fun s5 s6 s7 wr => ∃ k n1 c1 n2 c2 : Nat, ∃ A1 A2 : Option Addr, ∃ W O : List Spn, s5 = .slice A1 n1 c1 ∧ s6 = .slice A2 n2 c2 ∧ s7 = .int .i64 k ∧ k ≤ n ∧ n1 ≤ k ∧ n2 ≤ k ∧ Hid (PM L k W O) ∧ Hid (PS w1 wr A1 n1 c1 W A2 n2 c2 O)) (fun _ _ s7 _ => n - (intOf s7).toNat)
  case atStart => exact ⟨0, 0, 0, 0, 0, some ⟨a1, 0, none⟩, some ⟨a1 + 1, 0, none⟩, [], [], rfl, rfl, rfl, Nat.zero_le _, Nat.le_refl _, Nat.le_refl _, PM.zero L, HP0.out⟩
  case round =>
    clear HP0
    obtain ⟨k, n1, c1, n2, c2, A1, A2, W, O, rfl, rfl, rfl, hk, hk1, hk2, HM, HP⟩ := hrel
    by_cases hlt : k < n
    · have hki : (k : Int) < (n : Int) := by omega
      have hki0 : (0 : Int) ≤ (k : Int) := by omega
      have dlt : decide ((k : Int) < (n : Int)) = true := by simp; omega
      obtain ⟨t, hget⟩ : ∃ t, L[k]? = some t := ⟨L[k]'(by have := HN.out; omega), List.getElem?_eq_getElem _⟩
      have htl : t.length ≤ s.size := HPL.out t (List.mem_of_getElem? hget)
      have c0 : wr.cell? ⟨g, k, none⟩ = some (.string (str t)) := by
        rw [World.cell?_of_block (w := w1) (w' := wr) (a := ⟨g, k, none⟩) (HP.out.b.block g hgl)]
        exact HC.out k t hget
      have HIT := Lib.hid (fun W => ritem8_any (str (bare t)) W (by rw [str_size]; have := bare_len t; omega))
      rw [str_toList] at HIT
      have HPL2 := Lib.hid hget
      obtain ⟨k1, hk1'⟩ : ∃ k1, k1 = k + 1 := ⟨_, rfl⟩
      have k1i : (k : Int) + 1 = (k1 : Int) := by omega
      have HK1 := Lib.hid hk1'
      clear hget hk1'
      obtain ⟨ev, lo, hi, hit⟩ : ∃ ev lo hi, itemP (bare t) = ⟨ev, lo, hi⟩ := ⟨_, _, _, rfl⟩
      rw [hit] at HIT
      unfold itmRes at HIT
      simp only at HIT
      have HST0 := Lib.hid (fun (e0 : ev = 0) => HM.out.step HPL2.out (lo := lo) (hi := hi) (by rw [hit, e0]))
      have HER0 := Lib.hid (fun (e0 : ev ≠ 0) => (HM.out.err HPL2.out (by rw [hit]) e0 : errL L = ev))
      clear hit
      cases t with
      | nil =>
        have hxc : exc [] = false := rfl
        have em : (str ([] : By)).toList.isEmpty = true := str_isEmpty6 []
        rw [show bare ([] : By) = [] from rfl] at HIT
        clear htl
        generalize str ([] : By) = S at *
        go_wp2_with fail
        refine (HIT.out _).mono ?_
        rintro e w5 ⟨rfl, hb⟩
        have HPX := Lib.hid (HP.out.kept hb)
        clear hb HP c0
        by_cases he : ev = 0
        · subst he
          have HST := Lib.hid (HST0.out rfl)
          clear HST0 HER0
          go_wp2_with (at_builtin; refine wpList_push (E := ES8) spTy8 (by rfl) _ _ (by rfl) w1.heap.size _ n1 W [⟨lo, hi⟩] (by rfl) ((HPX.out.r1.alloc _).alloc _) _ 1 1 #[.int .i64 (lo : Int), .int .i64 (hi : Int)] (0, 0) (by rfl) (heap2 _ _ _) rfl rfl (by omega) (by omega) (by decide) ?hb ?_)
          case hb => have := HPX.out.b.size; simp; omega
          intro g2 cap2 w9 hown hgrow hat hlt2
          have HP9 := Lib.hid (((HPX.out.al (.cells #[.int .i64 (lo : Int), .int .i64 (hi : Int)] 34)).al (.cells #[.int .i64 (lo : Int), .int .i64 (hi : Int)] 34)).push (s := ⟨lo, hi⟩) hown hgrow (hat.imp_right (fun e => by rw [e]; simp)))
          have HM9 := Lib.hid (HST.out.2 hxc)
          clear hown hgrow hat hlt2 HPX HM HST HPL2 HIT
          go_wp2_with fail
          go_roundw
          case rel => exact ⟨k1, n1 + 1, cap2, n2, c2, (some ⟨g2, 0, none⟩), A2, W ++ [⟨lo, hi⟩], O, rfl, rfl, by go_num, by have := HK1.out; omega, by have := HK1.out; omega, by have := HK1.out; omega, Lib.hid (by rw [HK1.out]; exact HM9.out), HP9⟩
          case measure => have := HK1.out; simp [intOf]; omega
        · have HE := Lib.hid (show errP sl = ev by rw [HE1.out]; exact HER0.out he)
          have te : ((ev : Int) != 0) = true := by rw [bne_iff_ne]; omega
          have te' : ¬ (ev : Int) = 0 := by omega
          have HB9 := Lib.hid (HB1.out.trans (HPX.out.b.mono HB1.out.size))
          clear HST0 HER0
          go_wp2_with fail
          go_ret2
          exact ParP.err (HB9.out.alloc HB9.out.size _) HE.out he
      | cons c r =>
        by_cases hc33 : c = 33
        · subst hc33
          have hxc : exc (33 :: r) = true := by rw [exc_cons]; rfl
          have em : (str (33 :: r)).toList.isEmpty = false := str_isEmpty6 (33 :: r)
          have hS0 : 0 < (str (33 :: r)).size := by rw [str_size]; simp
          have hS1 : 1 ≤ (str (33 :: r)).size := hS0
          have hSi : (1 : Int) ≤ ((str (33 :: r)).size : Int) := by omega
          have tx : ((((str (33 :: r))[0]'hS0).toNat : Int) == 33) = true := rfl
          have hex : (str (33 :: r)).extract 1 (str (33 :: r)).size = str r := by
            rw [extract_str6, str_toList, str_size]
            simp
          rw [bare_mark] at HIT
          clear htl
          generalize str (33 :: r) = S at *
          generalize str r = U at *
          go_wp2_with fail
          try rw [hex]
          refine (HIT.out _).mono ?_
          rintro e w5 ⟨rfl, hb⟩
          have HPX := Lib.hid (HP.out.kept hb)
          clear hb HP c0
          by_cases he : ev = 0
          · subst he
            have HST := Lib.hid (HST0.out rfl)
            clear HST0 HER0
            go_wp2_with (at_builtin; refine wpList_push (E := ES8) spTy8 (by rfl) _ _ (by rfl) w1.heap.size _ n2 O [⟨lo, hi⟩] (by rfl) ((HPX.out.r2.alloc _).alloc _) _ 1 1 #[.int .i64 (lo : Int), .int .i64 (hi : Int)] (0, 0) (by rfl) (heap2 _ _ _) rfl rfl (by omega) (by omega) (by decide) ?hb ?_)
            case hb => have := HPX.out.b.size; simp; omega
            intro g2 cap2 w9 hown hgrow hat hlt2
            have HP9 := Lib.hid (((HPX.out.swap.al (.cells #[.int .i64 (lo : Int), .int .i64 (hi : Int)] 34)).al (.cells #[.int .i64 (lo : Int), .int .i64 (hi : Int)] 34)).push (s := ⟨lo, hi⟩) hown hgrow (hat.imp_right (fun e => by rw [e]; simp)) |>.swap)
            have HM9 := Lib.hid (HST.out.1 hxc)
            clear hown hgrow hat hlt2 HPX HM HST HPL2 HIT
            go_wp2_with fail
            go_roundw
            case rel => exact ⟨k1, n1, c1, n2 + 1, cap2, A1, (some ⟨g2, 0, none⟩), W, O ++ [⟨lo, hi⟩], rfl, rfl, by go_num, by have := HK1.out; omega, by have := HK1.out; omega, by have := HK1.out; omega, Lib.hid (by rw [HK1.out]; exact HM9.out), HP9⟩
            case measure => have := HK1.out; simp [intOf]; omega
          · have HE := Lib.hid (show errP sl = ev by rw [HE1.out]; exact HER0.out he)
            have te : ((ev : Int) != 0) = true := by rw [bne_iff_ne]; omega
            have te' : ¬ (ev : Int) = 0 := by omega
            have HB9 := Lib.hid (HB1.out.trans (HPX.out.b.mono HB1.out.size))
            clear HST0 HER0
            go_wp2_with fail
            go_ret2
            exact ParP.err (HB9.out.alloc HB9.out.size _) HE.out he
        · skip
          have hxc : exc (c :: r) = false := by rw [exc_cons]; simpa using hc33
          have em : (str (c :: r)).toList.isEmpty = false := str_isEmpty6 (c :: r)
          have hS0 : 0 < (str (c :: r)).size := by rw [str_size]; simp
          have tx : ((((str (c :: r))[0]'hS0).toNat : Int) == 33) = false := by
            rw [beq_eq_false_iff_ne]
            intro e
            exact hc33 (UInt8.toNat_inj.mp (show c.toNat = (33 : UInt8).toNat from Int.ofNat_inj.1 e))
          rw [bare_plain hxc] at HIT
          clear htl
          generalize str (c :: r) = S at *
          go_wp2_with fail
          refine (HIT.out _).mono ?_
          rintro e w5 ⟨rfl, hb⟩
          have HPX := Lib.hid (HP.out.kept hb)
          clear hb HP c0
          by_cases he : ev = 0
          · subst he
            have HST := Lib.hid (HST0.out rfl)
            clear HST0 HER0
            go_wp2_with (at_builtin; refine wpList_push (E := ES8) spTy8 (by rfl) _ _ (by rfl) w1.heap.size _ n1 W [⟨lo, hi⟩] (by rfl) ((HPX.out.r1.alloc _).alloc _) _ 1 1 #[.int .i64 (lo : Int), .int .i64 (hi : Int)] (0, 0) (by rfl) (heap2 _ _ _) rfl rfl (by omega) (by omega) (by decide) ?hb ?_)
            case hb => have := HPX.out.b.size; simp; omega
            intro g2 cap2 w9 hown hgrow hat hlt2
            have HP9 := Lib.hid (((HPX.out.al (.cells #[.int .i64 (lo : Int), .int .i64 (hi : Int)] 34)).al (.cells #[.int .i64 (lo : Int), .int .i64 (hi : Int)] 34)).push (s := ⟨lo, hi⟩) hown hgrow (hat.imp_right (fun e => by rw [e]; simp)))
            have HM9 := Lib.hid (HST.out.2 hxc)
            clear hown hgrow hat hlt2 HPX HM HST HPL2 HIT
            go_wp2_with fail
            go_roundw
            case rel => exact ⟨k1, n1 + 1, cap2, n2, c2, (some ⟨g2, 0, none⟩), A2, W ++ [⟨lo, hi⟩], O, rfl, rfl, by go_num, by have := HK1.out; omega, by have := HK1.out; omega, by have := HK1.out; omega, Lib.hid (by rw [HK1.out]; exact HM9.out), HP9⟩
            case measure => have := HK1.out; simp [intOf]; omega
          · have HE := Lib.hid (show errP sl = ev by rw [HE1.out]; exact HER0.out he)
            have te : ((ev : Int) != 0) = true := by rw [bne_iff_ne]; omega
            have te' : ¬ (ev : Int) = 0 := by omega
            have HB9 := Lib.hid (HB1.out.trans (HPX.out.b.mono HB1.out.size))
            clear HST0 HER0
            go_wp2_with fail
            go_ret2
            exact ParP.err (HB9.out.alloc HB9.out.size _) HE.out he
    · have dlt : decide ((k : Int) < (n : Int)) = false := by simp; omega
      have nlt : ¬ (k : Int) < (n : Int) := by omega
      obtain ⟨e1, e2, e3⟩ := HM.out.all (show k = L.length by have := HN.out; omega)
      have HE := Lib.hid (show errP sl = 0 by rw [HE1.out]; exact e1)
      have HF := Lib.hid (show ∀ m, portF W O m = parF sl m from fun m => by rw [HF0.out HE.out m, e2, e3])
      have hl1 := HP.out.l1
      have hl2 := HP.out.l2
      have HEV := Lib.hid (reval8_any A1 A2 c1 c2 W O wr (spl_of_own (by rw [← hl1]; exact HP.out.r1)) (spl_of_own (by rw [← hl2]; exact HP.out.r2)) (by omega) (by omega))
      rw [← hl1, ← hl2] at HEV
      have HB9 := Lib.hid (HB1.out.trans (HP.out.b.mono HB1.out.size))
      clear hl1 hl2 e1 e2 e3 HM HP
      go_wp2_with fail
      refine HEV.out.mono ?_
      intro e w5 hset
      obtain ⟨L3, A5, c5, g1, g2, g3, rfl, g5, g6⟩ := SetP.back HB9.out hset HF.out (Nat.le_refl _)
      go_wp2_with fail
      go_ret2
      refine ⟨L3, A5, c5, g1, g2, g3, ?_, g5, g6⟩
      rw [HE.out]; rfl
end Go.Proofs.YtepbmnpjpkmmfaaGreatDoor

/- Contracts of strings laid at this seat, in plain words: CutPrefix, Count (one byte). -/
namespace Go.Proofs.YtepbmnpjpkmmfaaGreatDoor
open Go.Shelf Go.RowKit Go.Lib
def lays103_ren : Go.Shelf.Ren := ⟨fun | 103 => 26 | 210 => 47 | 206 => 63 | n => n, fun | 9 => 9 | 4 => 4 | 24 => 40 | 3 => 3 | n => n, fun | n => n⟩
theorem lays103 : Go.Proofs.Lays.n103 Tryz.prog lays103_ren := {
  mixed := by kernel_rfl
  f103 := Tryz.func26.trans (congrArg some (by kernel_rfl))
  f206 := Tryz.func63.trans (congrArg some (by kernel_rfl))
  f210 := Tryz.func47.trans (congrArg some (by kernel_rfl))
  t3 := Tryz.underlying3
  a3 := Tryz.isAgg3
  z3 := Tryz.sizeOf3
  v3 := Tryz.zeroValue3
  t4 := Tryz.underlying4
  a4 := Tryz.isAgg4
  z4 := Tryz.sizeOf4
  v4 := Tryz.zeroValue4
  t9 := Tryz.underlying9
  a9 := Tryz.isAgg9
  z9 := Tryz.sizeOf9
  v9 := Tryz.zeroValue9
  t24 := Tryz.underlying40
  a24 := Tryz.isAgg40
  z24 := Tryz.sizeOf40
  v24 := Tryz.zeroValue40 }
theorem lib_strings_CutPrefix (s p : ByteArray) (w : World) :
    Calls Tryz.prog 26 #[.string s, .string p] w fun e w' => e = .returned (.tuple #[.string ⟨(Lib.trimPrefix s.data.toList p.data.toList).toArray⟩, .bool (Lib.hasPrefix s.data.toList p.data.toList)]) ∧ w' = w := Any.strings_CutPrefix lays103 s p w
def lays138_ren : Go.Shelf.Ren := ⟨fun | 138 => 24 | 195 => 43 | 218 => 44 | 143 => 45 | 219 => 61 | 217 => 77 | 225 => 78 | 224 => 79 | 267 => 80 | 266 => 90 | 314 => 91 | n => n, fun | 9 => 9 | 3 => 3 | 4 => 4 | 5 => 5 | 0 => 0 | 46 => 90 | 146 => 103 | 51 => 102 | n => n, fun | 1 => 0 | n => n⟩
theorem lays138 : Go.Proofs.Lays.n138 Tryz.prog lays138_ren := {
  mixed := by kernel_rfl
  f138 := Tryz.func24.trans (congrArg some (by kernel_rfl))
  f143 := Tryz.func45.trans (congrArg some (by kernel_rfl))
  f195 := Tryz.func43.trans (congrArg some (by kernel_rfl))
  f217 := Tryz.func77.trans (congrArg some (by kernel_rfl))
  f218 := Tryz.func44.trans (congrArg some (by kernel_rfl))
  f219 := Tryz.func61.trans (congrArg some (by kernel_rfl))
  f224 := Tryz.func79.trans (congrArg some (by kernel_rfl))
  f225 := Tryz.func78.trans (congrArg some (by kernel_rfl))
  f266 := Tryz.func90.trans (congrArg some (by kernel_rfl))
  f267 := Tryz.func80.trans (congrArg some (by kernel_rfl))
  f314 := Tryz.func91.trans (congrArg some (by kernel_rfl))
  t0 := Tryz.underlying0
  a0 := Tryz.isAgg0
  z0 := Tryz.sizeOf0
  v0 := Tryz.zeroValue0
  t3 := Tryz.underlying3
  a3 := Tryz.isAgg3
  z3 := Tryz.sizeOf3
  v3 := Tryz.zeroValue3
  t4 := Tryz.underlying4
  a4 := Tryz.isAgg4
  z4 := Tryz.sizeOf4
  v4 := Tryz.zeroValue4
  t5 := Tryz.underlying5
  a5 := Tryz.isAgg5
  z5 := Tryz.sizeOf5
  v5 := Tryz.zeroValue5
  t9 := Tryz.underlying9
  a9 := Tryz.isAgg9
  z9 := Tryz.sizeOf9
  v9 := Tryz.zeroValue9
  t46 := Tryz.underlying90
  a46 := Tryz.isAgg90
  z46 := Tryz.sizeOf90
  v46 := Tryz.zeroValue90
  t51 := Tryz.underlying102
  a51 := Tryz.isAgg102
  z51 := Tryz.sizeOf102
  v51 := Tryz.zeroValue102
  t146 := Tryz.underlying103
  a146 := Tryz.isAgg103
  z146 := Tryz.sizeOf103
  v146 := Tryz.zeroValue103
  g1 := by kernel_rfl }
theorem lib_strings_Count_one (s : ByteArray) (c : UInt8) (w : World) :
    Calls Tryz.prog 24 #[.string s, .string ⟨#[c]⟩] w fun e w' => e = .returned (.int .i64 (Lib.countByte s.data.toList c)) ∧ w' = w := Any.strings_Count_one lays138 s c w
end Go.Proofs.YtepbmnpjpkmmfaaGreatDoor

/- Contract of the program of layer 8: Parse. -/
namespace Go.Proofs.YtepbmnpjpkmmfaaGreatDoor
open Go.ChangeShapes Go.WideShapes Go.ChangeAt Go.RowKit
set_option linter.unusedVariables false

theorem ps_nil (w : World) : PS w w none 0 0 [] none 0 0 [] :=
  ⟨Below.refl _ _, World.ownsRow_nil _ _ _ _, World.ownsRow_nil _ _ _ _, fun x e1 e2 => (by cases e1), rfl, rfl⟩
/-- Split, as the walks use it. -/
theorem psplit8 (s : ByteArray) (c : UInt8) (w : World) (hs : s.size ≤ 10000) (ht : TW w) :
    Calls Tryz.prog 25 #[.string s, .string ⟨#[c]⟩] w fun e w' => e = .returned (.slice (some ⟨w.heap.size, 0, none⟩) (splitL c s.data.toList).length (splitL c s.data.toList).length) ∧ w.heap.size < w'.heap.size ∧ (∀ (i : Nat) (p : By), (splitL c s.data.toList)[i]? = some p → w'.cell? ⟨w.heap.size, i, none⟩ = some (.string (str p))) ∧ Below w.heap.size w w' := by
  obtain ⟨m, hm⟩ := ht.mx
  refine (lib_strings_Split s ⟨#[c]⟩ m w (by omega) hm (Nat.le_refl 1)).mono ?_
  rintro e w' ⟨rfl, rfl⟩
  have hl : (splitL c s.data.toList).length = Lib.countB s ⟨#[c]⟩ + 1 := by
    rw [← split_bytes, List.length_map, split_length]
  refine ⟨by rw [hl], alloc_lt6 w _, fun i p h => ?_, below_alloc6 w _⟩
  rw [World.cell?_alloc_at _ _ _ _ rfl]
  exact split_at6 s c i p h
/-- Count of a byte. -/
theorem pcount8 (s : ByteArray) (c : UInt8) (w : World) :
    Calls Tryz.prog 24 #[.string s, .string ⟨#[c]⟩] w fun e w' => e = .returned (.int .i64 (((splitL c s.data.toList).length : Int) - 1)) ∧ w' = w := by
  refine (lib_strings_Count_one s c w).mono ?_
  rintro e w' ⟨rfl, rfl⟩
  have h1 : (splitL c s.data.toList).length = s.data.toList.countP (fun x => decide (x = c)) + 1 := splitGo_len1 c s.data.toList []
  have h2 : Lib.countByte s.data.toList c = s.data.toList.countP (fun x => decide (x = c)) := by
    unfold Lib.countByte List.count
    exact List.countP_congr (fun x _ => by simp)
  rw [h1, h2]
  refine ⟨?_, rfl⟩
  congr 3
  omega
/-- CutPrefix of an exclamation mark. -/
theorem pcutp8 (t : By) (w : World) :
    Calls Tryz.prog 26 #[.string (str t), .string ⟨#[33]⟩] w fun e w' => e = .returned (.tuple #[.string (str (bare t)), .bool (exc t)]) ∧ w' = w := by
  refine (lib_strings_CutPrefix (str t) ⟨#[33]⟩ w).mono ?_
  rintro e w' ⟨rfl, rfl⟩
  rw [byte_str, str_toList]
  have h1 : Lib.hasPrefix t [33] = exc t := by
    cases t with
    | nil => rfl
    | cons c r =>
      rw [exc_cons]
      unfold Lib.hasPrefix
      simp only [List.isPrefixOf, Bool.and_true]
      rw [Bool.eq_iff_iff, beq_iff_eq, decide_eq_true_eq]
      exact ⟨fun h => h.symm, fun h => h.symm⟩
  have h2 : Lib.trimPrefix t [33] = bare t := by
    unfold Lib.trimPrefix
    rw [h1]
    unfold bare
    cases hx : exc t with
    | false => rfl
    | true => cases t <;> rfl
  rw [h1, h2]
  exact ⟨rfl, rfl⟩
set_option maxHeartbeats 4000000 in
set_option maxRecDepth 20000 in
theorem pparse8_any (s : ByteArray) (w : World) (hs : s.size ≤ 10000) (ht : TW w) :
    Calls Tryz.prog 10 #[.string s] w (ParP w s.data.toList 4000) := by
  have hlen := toList_length6 s
  have hany := str_eq8 s [97, 110, 121]
  have hcnt := (split_count 44 s.data.toList).1
  by_cases h1 : 1024 < s.size
  · have HE := Lib.hid (show errP s.data.toList = 3 by unfold errP; rw [if_pos (by omega)])
    have d1 : decide ((1024 : Int) < (s.size : Int)) = true := by simp; omega
    have HB := Lib.hid (Below.refl w.heap.size w)
    clear hlen hany hcnt
    go_enter Tryz.func10, Tryz.ntmps10
    go_wp2_with fail
    go_ret2
    exact ParP.err HB.out HE.out (by decide)
  have d1 : decide ((1024 : Int) < (s.size : Int)) = false := by simp; omega
  have nd1 : ¬ (1024 : Int) < (s.size : Int) := by omega
  have HCN := Lib.hid (fun W => pcount8 s 44 W)
  by_cases h2 : s.data.toList = anyT
  · have HE := Lib.hid (show errP s.data.toList = 0 by unfold errP; rw [if_neg (by omega), if_pos h2])
    have HF := Lib.hid (show ∀ m, parF s.data.toList m = inPort m from fun m => by unfold parF setP; rw [HE.out, if_pos rfl, if_pos h2])
    have t1 : (s.toList == [97, 110, 121]) = true := by rw [hany, beq_iff_eq]; exact h2
    have HA := Lib.hid (fun W => pall8_any W)
    have HCN := Lib.hid (fun W => show Calls Tryz.prog 24 #[.string s, .string ⟨#[44]⟩] W fun e w' => e = .returned (.int .i64 0) ∧ w' = W from by
      have h := HCN.out W
      rw [h2] at h
      exact h)
    clear hlen hany h2 hcnt ht
    go_enter Tryz.func10, Tryz.ntmps10
    go_wp2_with fail
    refine (HCN.out _).mono ?_
    rintro e w1 ⟨rfl, rfl⟩
    go_wp2_with fail
    refine (HA.out _).mono ?_
    rintro e w1 ⟨L, A, c, ok, any, le, rfl, own, hb⟩
    go_wp2_with fail
    go_ret2
    refine ⟨L, A, c, ok, fun m => (any m).trans (HF.out m).symm, by omega, ?_, own, hb⟩
    rw [HE.out]; rfl
  have t1 : (s.toList == [97, 110, 121]) = false := by rw [hany, beq_eq_false_iff_ne]; exact h2
  have HSP := Lib.hid (fun W h => psplit8 s 44 W hs h)
  have HPL := Lib.hid (fun (p : By) (h : p ∈ splitL 44 s.data.toList) => (split_len h : p.length ≤ s.data.toList.length))
  have HE0 := Lib.hid (show errP s.data.toList = if 64 < (splitL 44 s.data.toList).length then 3 else errL (splitL 44 s.data.toList) by unfold errP; rw [if_neg (by omega), if_neg h2])
  have HF0 := Lib.hid (show errP s.data.toList = 0 → ∀ m, parF s.data.toList m = portF (incL (splitL 44 s.data.toList)) (excL (splitL 44 s.data.toList)) m from fun e m => by unfold parF setP; rw [e, if_pos rfl, if_neg h2])
  generalize s.data.toList = sl at *
  obtain ⟨L, hL⟩ : ∃ L, L = splitL 44 sl := ⟨_, rfl⟩
  rw [← hL] at HSP HPL HE0 HF0 hcnt HCN
  obtain ⟨n, hn⟩ : ∃ n, n = L.length := ⟨_, rfl⟩
  rw [← hn] at HSP HE0 hcnt HCN
  have HN := Lib.hid hn
  clear hany h2 hL hn
  by_cases h3 : 64 < n
  · have HE := Lib.hid (show errP sl = 3 by rw [HE0.out, if_pos h3])
    have d3 : decide ((63 : Int) < (n : Int) - 1) = true := by simp; omega
    have HB := Lib.hid (Below.refl w.heap.size w)
    clear hlen HE0 HF0 HPL ht HSP
    go_enter Tryz.func10, Tryz.ntmps10
    go_wp2_with fail
    refine (HCN.out _).mono ?_
    rintro e w1 ⟨rfl, rfl⟩
    go_wp2_with fail
    go_ret2
    exact ParP.err HB.out HE.out (by decide)
  have d3 : decide ((63 : Int) < (n : Int) - 1) = false := by simp; omega
  have nd3 : ¬ (63 : Int) < (n : Int) - 1 := by omega
  have HE1 := Lib.hid (show errP sl = errL L by rw [HE0.out, if_neg h3])
  rw [hlen] at HPL
  have HT := Lib.hid ht
  clear HE0 ht
  go_enter Tryz.func10, Tryz.ntmps10
  go_wp2_with fail
  refine (HCN.out _).mono ?_
  rintro e w0 ⟨rfl, hw0⟩
  have hw0' := hw0.symm
  clear hw0
  subst hw0'
  go_wp2_with fail
  refine (HSP.out _ HT.out).mono ?_
  rintro e w1 ⟨rfl, hgl, hcell, hb⟩
  have HC := Lib.hid hcell
  have HB1 := Lib.hid hb
  have HP0 := Lib.hid (ps_nil w1)
  obtain ⟨g, hg⟩ : ∃ g, g = w.heap.size := ⟨_, rfl⟩
  rw [← hg] at HC hgl ⊢
  clear hb hcell HSP HCN hg
  go_wp2_with fail
  go_loopw [4, 5, 26] (fun s5 s6 s7 wr => ∃ k n1 c1 n2 c2 : Nat, ∃ A1 A2 : Option Addr, ∃ W O : List Spn, s5 = .slice A1 n1 c1 ∧ s6 = .slice A2 n2 c2 ∧ s7 = .int .i64 k ∧ k ≤ n ∧ n1 ≤ k ∧ n2 ≤ k ∧ Hid (PM L k W O) ∧ Hid (PS w1 wr A1 n1 c1 W A2 n2 c2 O)) (fun _ _ s7 _ => n - (intOf s7).toNat)
  case atStart => exact ⟨0, 0, 0, 0, 0, none, none, [], [], rfl, rfl, rfl, Nat.zero_le _, Nat.le_refl _, Nat.le_refl _, PM.zero L, HP0.out⟩
  case round =>
    clear HP0
    obtain ⟨k, n1, c1, n2, c2, A1, A2, W, O, rfl, rfl, rfl, hk, hk1, hk2, HM, HP⟩ := hrel
    by_cases hlt : k < n
    · have hki : (k : Int) < (n : Int) := by omega
      have hki0 : (0 : Int) ≤ (k : Int) := by omega
      have dlt : decide ((k : Int) < (n : Int)) = true := by simp; omega
      obtain ⟨t, hget⟩ : ∃ t, L[k]? = some t := ⟨L[k]'(by have := HN.out; omega), List.getElem?_eq_getElem _⟩
      have htl : t.length ≤ s.size := HPL.out t (List.mem_of_getElem? hget)
      have c0 : wr.cell? ⟨g, k, none⟩ = some (.string (str t)) := by
        rw [World.cell?_of_block (w := w1) (w' := wr) (a := ⟨g, k, none⟩) (HP.out.b.block g hgl)]
        exact HC.out k t hget
      have HIT := Lib.hid (fun W h => pitem8_any (str (bare t)) W (by rw [str_size]; have := bare_len t; omega) h)
      have HCP := Lib.hid (fun W => pcutp8 t W)
      rw [str_toList] at HIT
      have HPL2 := Lib.hid hget
      have HTR := Lib.hid (HT.out.kept (HB1.out.trans (HP.out.b.mono HB1.out.size)))
      obtain ⟨k1, hk1'⟩ : ∃ k1, k1 = k + 1 := ⟨_, rfl⟩
      have k1i : (k : Int) + 1 = (k1 : Int) := by omega
      have HK1 := Lib.hid hk1'
      clear hget hk1' htl
      obtain ⟨ev, lo, hi, hit⟩ : ∃ ev lo hi, itemP (bare t) = ⟨ev, lo, hi⟩ := ⟨_, _, _, rfl⟩
      rw [hit] at HIT
      unfold itmRes at HIT
      simp only at HIT
      have HST0 := Lib.hid (fun (e0 : ev = 0) => HM.out.step HPL2.out (lo := lo) (hi := hi) (by rw [hit, e0]))
      have HER0 := Lib.hid (fun (e0 : ev ≠ 0) => (HM.out.err HPL2.out (by rw [hit]) e0 : errL L = ev))
      clear hit
      generalize str t = S at *
      generalize str (bare t) = U at *
      cases hxc : exc t
      · rw [hxc] at HCP
        go_wp2_with fail
        refine (HCP.out _).mono ?_
        rintro e w4 ⟨rfl, hw4⟩
        have hw4' := hw4.symm
        clear hw4
        subst hw4'
        go_wp2_with fail
        refine (HIT.out _ HTR.out).mono ?_
        rintro e w5 ⟨rfl, hb⟩
        have HPX := Lib.hid (HP.out.kept hb)
        clear hb HP c0 HTR HCP
        by_cases he : ev = 0
        · subst he
          have HST := Lib.hid (HST0.out rfl)
          clear HST0 HER0
          go_wp2_with (at_builtin; refine wpList_push (E := ES8) spTy8 (by rfl) _ _ (by rfl) w1.heap.size _ n1 W [⟨lo, hi⟩] (by rfl) ((HPX.out.r1.alloc _).alloc _) _ 1 1 #[.int .i64 (lo : Int), .int .i64 (hi : Int)] (0, 0) (by rfl) (heap2 _ _ _) rfl rfl (by omega) (by omega) (by decide) ?hb ?_)
          case hb => have := HPX.out.b.size; simp; omega
          intro g2 cap2 w9 hown hgrow hat hlt2
          have HP9 := Lib.hid (((HPX.out.al (.cells #[.int .i64 (lo : Int), .int .i64 (hi : Int)] 34)).al (.cells #[.int .i64 (lo : Int), .int .i64 (hi : Int)] 34)).push (s := ⟨lo, hi⟩) hown hgrow (hat.imp_right (fun e => by rw [e]; simp)))
          have HM9 := Lib.hid (HST.out.2 hxc)
          clear hown hgrow hat hlt2 HPX HM HST HPL2 HIT
          go_wp2_with fail
          go_roundw
          case rel => exact ⟨k1, n1 + 1, cap2, n2, c2, (some ⟨g2, 0, none⟩), A2, W ++ [⟨lo, hi⟩], O, rfl, rfl, by go_num, by have := HK1.out; omega, by have := HK1.out; omega, by have := HK1.out; omega, Lib.hid (by rw [HK1.out]; exact HM9.out), HP9⟩
          case measure => have := HK1.out; simp [intOf]; omega
        · have HE := Lib.hid (show errP sl = ev by rw [HE1.out]; exact HER0.out he)
          have te : ((ev : Int) != 0) = true := by rw [bne_iff_ne]; omega
          have te' : ¬ (ev : Int) = 0 := by omega
          have HB9 := Lib.hid (HB1.out.trans (HPX.out.b.mono HB1.out.size))
          clear HST0 HER0
          go_wp2_with fail
          go_ret2
          exact ParP.err (HB9.out.alloc HB9.out.size _) HE.out he
      · rw [hxc] at HCP
        go_wp2_with fail
        refine (HCP.out _).mono ?_
        rintro e w4 ⟨rfl, hw4⟩
        have hw4' := hw4.symm
        clear hw4
        subst hw4'
        go_wp2_with fail
        refine (HIT.out _ HTR.out).mono ?_
        rintro e w5 ⟨rfl, hb⟩
        have HPX := Lib.hid (HP.out.kept hb)
        clear hb HP c0 HTR HCP
        by_cases he : ev = 0
        · subst he
          have HST := Lib.hid (HST0.out rfl)
          clear HST0 HER0
          go_wp2_with (at_builtin; refine wpList_push (E := ES8) spTy8 (by rfl) _ _ (by rfl) w1.heap.size _ n2 O [⟨lo, hi⟩] (by rfl) ((HPX.out.r2.alloc _).alloc _) _ 1 1 #[.int .i64 (lo : Int), .int .i64 (hi : Int)] (0, 0) (by rfl) (heap2 _ _ _) rfl rfl (by omega) (by omega) (by decide) ?hb ?_)
          case hb => have := HPX.out.b.size; simp; omega
          intro g2 cap2 w9 hown hgrow hat hlt2
          have HP9 := Lib.hid (((HPX.out.swap.al (.cells #[.int .i64 (lo : Int), .int .i64 (hi : Int)] 34)).al (.cells #[.int .i64 (lo : Int), .int .i64 (hi : Int)] 34)).push (s := ⟨lo, hi⟩) hown hgrow (hat.imp_right (fun e => by rw [e]; simp)) |>.swap)
          have HM9 := Lib.hid (HST.out.1 hxc)
          clear hown hgrow hat hlt2 HPX HM HST HPL2 HIT
          go_wp2_with fail
          go_roundw
          case rel => exact ⟨k1, n1, c1, n2 + 1, cap2, A1, (some ⟨g2, 0, none⟩), W, O ++ [⟨lo, hi⟩], rfl, rfl, by go_num, by have := HK1.out; omega, by have := HK1.out; omega, by have := HK1.out; omega, Lib.hid (by rw [HK1.out]; exact HM9.out), HP9⟩
          case measure => have := HK1.out; simp [intOf]; omega
        · have HE := Lib.hid (show errP sl = ev by rw [HE1.out]; exact HER0.out he)
          have te : ((ev : Int) != 0) = true := by rw [bne_iff_ne]; omega
          have te' : ¬ (ev : Int) = 0 := by omega
          have HB9 := Lib.hid (HB1.out.trans (HPX.out.b.mono HB1.out.size))
          clear HST0 HER0
          go_wp2_with fail
          go_ret2
          exact ParP.err (HB9.out.alloc HB9.out.size _) HE.out he
    · have dlt : decide ((k : Int) < (n : Int)) = false := by simp; omega
      have nlt : ¬ (k : Int) < (n : Int) := by omega
      obtain ⟨e1, e2, e3⟩ := HM.out.all (show k = L.length by have := HN.out; omega)
      have HE := Lib.hid (show errP sl = 0 by rw [HE1.out]; exact e1)
      have HF := Lib.hid (show ∀ m, portF W O m = parF sl m from fun m => by rw [HF0.out HE.out m, e2, e3])
      have hl1 := HP.out.l1
      have hl2 := HP.out.l2
      have HEV := Lib.hid (peval8_any A1 A2 c1 c2 W O wr (spl_of_own (by rw [← hl1]; exact HP.out.r1)) (spl_of_own (by rw [← hl2]; exact HP.out.r2)) (by omega) (by omega))
      rw [← hl1, ← hl2] at HEV
      have HB9 := Lib.hid (HB1.out.trans (HP.out.b.mono HB1.out.size))
      clear hl1 hl2 e1 e2 e3 HM HP
      go_wp2_with fail
      refine HEV.out.mono ?_
      intro e w5 hset
      obtain ⟨L3, A5, c5, g1, g2, g3, rfl, g5, g6⟩ := SetP.back HB9.out hset HF.out (Nat.le_refl _)
      go_wp2_with fail
      go_ret2
      refine ⟨L3, A5, c5, g1, g2, g3, ?_, g5, g6⟩
      rw [HE.out]; rfl
end Go.Proofs.YtepbmnpjpkmmfaaGreatDoor

/- The examples of the laws of layer 8: awake returns true. -/
namespace Go.Proofs.YtepbmnpjpkmmfaaGreatDoor
open Go.ChangeShapes Go.WideShapes Go.ChangeAt Go.RowKit
set_option linter.unusedVariables false

/-- A result of Parse that is known. -/
theorem ParP.known {w : World} {s : By} {b : Nat} {e : Ending} {w' : World} (h : ParP w s b e w') {K : List Spn} (hK : okL 4294967296 0 K) (hf : ∀ m, anyS K m = parF s m) : ∃ A cap, e = .returned (.tuple #[.slice A K.length cap, .int .i64 (errP s)]) ∧ SpL w' A K ∧ Below w.heap.size w w' := by
  obtain ⟨L, A, cap, h1, h2, h3, h4, h5, h6⟩ := h
  obtain rfl : L = K := okL_uniq L K 0 0 h1 hK (fun m => (h2 m).trans (hf m).symm)
  exact ⟨A, cap, h4, spl_of_own h5, h6⟩
def exA : By := [56, 48, 44, 56, 48, 48, 48, 58, 56, 48, 48, 50, 44, 33, 56, 48, 48, 49]
def exF : By := [55, 58, 53]
theorem exA_err : errP exA = 0 := by decide +kernel
theorem exA_inc : incL (splitL 44 exA) = [⟨80, 80⟩, ⟨8000, 8002⟩] := by kernel_rfl
theorem exA_exc : excL (splitL 44 exA) = [⟨8001, 8001⟩] := by kernel_rfl
theorem exF_err : errP exF = 4 := by decide +kernel
theorem exG_err : errP [] = 14 := by decide +kernel
theorem exA_set (m : Int) : anyS [⟨80, 80⟩, ⟨8000, 8000⟩, ⟨8002, 8002⟩] m = parF exA m := by
  unfold parF setP
  rw [if_pos exA_err, if_neg (by decide), exA_inc, exA_exc]
  unfold portF inPort
  rw [Bool.eq_iff_iff]
  simp only [anyS, List.any_cons, List.any_nil, Bool.or_false, inS, Bool.and_eq_true, Bool.or_eq_true, decide_eq_true_eq, Bool.not_eq_true', Bool.and_eq_false_iff, decide_eq_false_iff_not, List.isEmpty_cons, Bool.false_or]
  omega
theorem err_set {s : By} (h : errP s ≠ 0) (m : Int) : anyS [] m = parF s m := by
  unfold parF
  rw [if_neg h]
  rfl
theorem exB_set (m : Int) : anyS [⟨1024, 65535⟩] m = portF [] [⟨0, 1023⟩] m := by
  unfold portF inPort
  rw [Bool.eq_iff_iff]
  simp only [anyS, List.any_cons, List.any_nil, Bool.or_false, inS, Bool.and_eq_true, decide_eq_true_eq, Bool.not_eq_true', Bool.and_eq_false_iff, decide_eq_false_iff_not, List.isEmpty_nil, true_and]
  omega
theorem exL_set (m : Int) : anyS [⟨1, 2⟩, ⟨9, 9⟩] m = prtF [⟨1, 2⟩, ⟨9, 9⟩] m := by
  unfold prtF inPort
  rw [Bool.eq_iff_iff]
  simp only [anyS, List.any_cons, List.any_nil, Bool.or_false, inS, Bool.and_eq_true, Bool.or_eq_true, decide_eq_true_eq]
  omega
theorem exL_text : fmtL [⟨1, 2⟩, ⟨9, 9⟩] = [49, 58, 50, 44, 57] := by decide +kernel
theorem spl_lit8 (w : World) (o1 : Obj) (l : List Spn) (cs : Array Value) (h : cs.toList = spCells l) : SpL ((w.alloc o1).alloc (.cells cs 34)) (some ⟨w.heap.size + 1, 0, none⟩) l := by
  have := spl_lit (w.alloc o1) l cs h
  rwa [show (w.alloc o1).heap.size = w.heap.size + 1 by simp] at this
set_option maxHeartbeats 2000000 in
set_option maxRecDepth 20000 in
theorem awake_any (w : World) (ht : TW w) :
    Calls Tryz.prog 9 #[] w fun e w' => e = .returned (.bool true) ∧ Below w.heap.size w w' := by
  have H1 := Lib.hid (fun (W : World) (t : TW W) => show Calls Tryz.prog 10 #[.string ⟨#[56, 48, 44, 56, 48, 48, 48, 58, 56, 48, 48, 50, 44, 33, 56, 48, 48, 49]⟩] W fun e w' => ∃ A' c', e = .returned (.tuple #[.slice A' 3 c', .int .i64 0]) ∧ SpL w' A' [⟨80, 80⟩, ⟨8000, 8000⟩, ⟨8002, 8002⟩] ∧ Below W.heap.size W w' from
    (pparse8_any (str exA) W (by decide) t).mono fun e w' hs => by
      obtain ⟨A, c, h1, h2, h3⟩ := hs.known (K := [⟨80, 80⟩, ⟨8000, 8000⟩, ⟨8002, 8002⟩]) (by simp [okL]) (by rw [str_toList]; exact exA_set)
      rw [str_toList, exA_err] at h1
      exact ⟨A, c, h1, h2, h3⟩)
  have H2 := Lib.hid (fun (W : World) (t : TW W) => show Calls Tryz.prog 10 #[.string ⟨#[55, 58, 53]⟩] W fun e w' => ∃ A' c', e = .returned (.tuple #[.slice A' 0 c', .int .i64 4]) ∧ Below W.heap.size W w' from
    (pparse8_any (str exF) W (by decide) t).mono fun e w' hs => by
      obtain ⟨A, c, h1, h2, h3⟩ := hs.known (K := []) trivial (by rw [str_toList]; exact err_set (by rw [exF_err]; decide))
      rw [str_toList, exF_err] at h1
      exact ⟨A, c, h1, h3⟩)
  have H3 := Lib.hid (fun (W : World) (t : TW W) => show Calls Tryz.prog 10 #[.string ⟨#[]⟩] W fun e w' => ∃ A' c', e = .returned (.tuple #[.slice A' 0 c', .int .i64 14]) ∧ Below W.heap.size W w' from
    (pparse8_any (str []) W (by decide) t).mono fun e w' hs => by
      obtain ⟨A, c, h1, h2, h3⟩ := hs.known (K := []) trivial (by rw [str_toList]; exact err_set (by rw [exG_err]; decide))
      rw [str_toList, exG_err] at h1
      exact ⟨A, c, h1, h3⟩)
  have H4 := Lib.hid (fun (B : Option Addr) (W : World) (h2 : SpL W B [⟨0, 1023⟩]) => show Calls Tryz.prog 16 #[.slice none 0 0, .slice B 1 1] W fun e w' => ∃ A' c', e = .returned (.slice A' 1 c') ∧ SpL w' A' [⟨1024, 65535⟩] ∧ Below W.heap.size W w' from
    (peval8_any none B 0 1 [] _ W (fun h => absurd h (by simp)) h2 (by simp) (by simp)).mono fun e w' hs => hs.known (by simp [okL]) exB_set)
  have H5 := Lib.hid (fun (A : Option Addr) (W : World) (h : SpL W A [⟨1, 2⟩, ⟨9, 9⟩]) (t : TW W) => show Calls Tryz.prog 14 #[.slice A 2 2] W fun e w' => e = .returned (.string ⟨#[49, 58, 50, 44, 57]⟩) ∧ Below W.heap.size W w' from
    (pfmt8_any A 2 _ W h (by simp) t).mono fun e w' hs => by
      have h1 := hs.known (K := [⟨1, 2⟩, ⟨9, 9⟩]) (by simp [okL]) exL_set
      rw [exL_text] at h1
      exact h1)
  have H6 := Lib.hid (fun (W : World) => show Calls Tryz.prog 19 #[] W fun e w' => ∃ A' c', e = .returned (.slice A' 1 c') ∧ SpL w' A' [⟨0, 65535⟩] ∧ Below W.heap.size W w' from
    (pall8_any W).mono fun e w' hs => hs.known (by simp [okL]) inPort_all)
  have HS3 := Lib.hid (fun (A B : Option Addr) (c d : Nat) (a b f : Spn) (W : World) (h : SpL W A [a, b, f]) (h2 : SpL W B [a, b, f]) => show Calls Tryz.prog 12 #[.slice A 3 c, .slice B 3 d] W fun e w' => e = .returned (.bool true) ∧ Below W.heap.size W w' from
    same_any A B c d [a, b, f] W h h2 (by simp))
  have HS1 := Lib.hid (fun (A B : Option Addr) (c d : Nat) (a : Spn) (W : World) (h : SpL W A [a]) (h2 : SpL W B [a]) => show Calls Tryz.prog 12 #[.slice A 1 c, .slice B 1 d] W fun e w' => e = .returned (.bool true) ∧ Below W.heap.size W w' from
    same_any A B c d [a] W h h2 (by simp))
  have hx1 : ((⟨#[49, 58, 50, 44, 57]⟩ : ByteArray).toList == [49, 58, 50, 44, 57]) = true := by rw [str_eq8]; decide
  have HT := Lib.hid ht
  clear ht
  go_enter Tryz.func9, Tryz.ntmps9
  go_wp2_with fail
  refine (H1.out _ HT.out).mono ?_
  rintro e w1 ⟨A1, c1, rfl, s1, b1⟩
  have S1 := Lib.hid s1
  have B1 := Lib.hid b1
  clear s1 b1
  go_wp2_with fail
  refine (H2.out _ (HT.out.kept B1.out)).mono ?_
  rintro e w2 ⟨A2, c2, rfl, b2⟩
  have S12 := Lib.hid (S1.out.kept b2)
  have B2 := Lib.hid (B1.out.trans (b2.mono B1.out.size))
  clear b2 S1 B1
  go_wp2_with fail
  refine (H3.out _ (HT.out.kept B2.out)).mono ?_
  rintro e w3 ⟨A3, c3, rfl, b3⟩
  have S13 := Lib.hid (S12.out.kept b3)
  have B3 := Lib.hid (B2.out.trans (b3.mono B2.out.size))
  clear b3 S12 B2
  go_wp2_with fail
  refine (H4.out _ _ (spl_lit w3 _ _ rfl)).mono ?_
  rintro e w4 ⟨A4, c4, rfl, s4, b4⟩
  have hb := (below_alloc5 w3 _).trans (b4.mono (by simp))
  have S4 := Lib.hid s4
  have S14 := Lib.hid (S13.out.kept hb)
  have B4 := Lib.hid (B3.out.trans (hb.mono B3.out.size))
  clear s4 b4 hb S13 B3
  go_wp2_with fail
  refine (HS3.out _ _ _ _ _ _ _ _ (S14.out.kept (below_alloc5 _ _)) (spl_lit w4 _ _ rfl)).mono ?_
  rintro e w5 ⟨rfl, b5⟩
  have hb := (below_alloc5 w4 _).trans (b5.mono (by simp))
  have S45 := Lib.hid (S4.out.kept hb)
  have B5 := Lib.hid (B4.out.trans (hb.mono B4.out.size))
  clear b5 hb S14 S4 B4
  go_wp2_with fail
  refine (HS1.out _ _ _ _ _ _ (S45.out.kept (below_alloc5 _ _)) (spl_lit w5 _ _ rfl)).mono ?_
  rintro e w6 ⟨rfl, b6⟩
  have hb := (below_alloc5 w5 _).trans (b6.mono (by simp))
  have B6 := Lib.hid (B5.out.trans (hb.mono B5.out.size))
  clear b6 hb S45 B5
  go_wp2_with fail
  refine (H5.out _ _ (spl_lit w6 _ _ rfl) ((HT.out.kept B6.out).kept (below_alloc5 _ _))).mono ?_
  rintro e w7 ⟨rfl, b7⟩
  have hb := (below_alloc5 w6 _).trans (b7.mono (by simp))
  have B7 := Lib.hid (B6.out.trans (hb.mono B6.out.size))
  clear b7 hb B6
  go_wp2_with fail
  refine (H6.out _).mono ?_
  rintro e w8 ⟨A8, c8, rfl, s8, b8⟩
  have S8 := Lib.hid s8
  have B8 := Lib.hid (B7.out.trans (b8.mono B7.out.size))
  clear s8 b8 B7
  go_wp2_with fail
  refine (HS1.out _ _ _ _ _ _ (S8.out.kept (below_alloc5 _ _)) (spl_lit w8 _ _ rfl)).mono ?_
  rintro e w9 ⟨rfl, b9⟩
  have hb := (below_alloc5 w8 _).trans (b9.mono (by simp))
  have B9 := Lib.hid (B8.out.trans (hb.mono B8.out.size))
  clear b9 hb S8 B8
  go_wp2_with fail
  go_ret
  exact ⟨rfl, B9.out⟩
end Go.Proofs.YtepbmnpjpkmmfaaGreatDoor

/- The listed variables (tables of the library: strconv, strings), and the wrap that keeps the world's shape; over AdqMem alone. -/
namespace Go.Proofs.YtepbmnpjpkmmfaaGreatDoor
open Go.ChangeShapes Go.WideShapes Go.ChangeAt Go.RowKit

/-- What the rows list. -/
def laidL : List (String × DataW Unit) := [("math/bits.deBruijn32tab", Rows.laid_math_bits_deBruijn32tab), ("math/bits.deBruijn64tab", Rows.laid_math_bits_deBruijn64tab), ("internal/strconv.uint64pow10", Rows.laid_internal_strconv_uint64pow10), ("unicode/utf8.acceptRanges", Rows.laid_unicode_utf8_acceptRanges), ("unicode/utf8.first", Rows.laid_unicode_utf8_first)]
/-- The witness's heap, with the tables laid, meets the condition. -/
theorem door_met (os : Os) (args : Array Value) : laidMetH Tryz.prog laidL ((World.laidAll Tryz.prog os laidL).forCall (fun _ _ => 0) ⟨#[], args, []⟩).memory := by
  rw [MakeChecks.laidMetH_plain _ _ _ (by kernel_rfl)]
  exact laidMet_laidAll _ (by kernel_rfl) (by kernel_rfl)
theorem gDb64 : Tryz.prog.globalNamed "math/bits.deBruijn64tab" = some 5 := by kernel_rfl
theorem tDb64 : (Tryz.prog.globals[5]?).map (·.type) = some 145 := by kernel_rfl
theorem tPow10 : (Tryz.prog.globals[3]?).map (·.type) = some 136 := by kernel_rfl
theorem cU8 : Tryz.prog.cellsOf 5 = 1 := by kernel_rfl
theorem cU64 : Tryz.prog.cellsOf 114 = 1 := by kernel_rfl
theorem cDb64 : Tryz.prog.cellsOf 145 = 64 := by kernel_rfl
theorem cPow10 : Tryz.prog.cellsOf 136 = 20 := by kernel_rfl
def db64L : List Int := [0, 1, 56, 2, 57, 49, 28, 3, 61, 58, 42, 50, 38, 29, 17, 4, 62, 47, 59, 36, 45, 43, 51, 22, 53, 39, 33, 30, 24, 18, 12, 5, 63, 55, 48, 27, 60, 41, 37, 16, 46, 35, 44, 21, 52, 32, 23, 11, 54, 26, 40, 15, 34, 20, 31, 10, 25, 14, 19, 9, 13, 8, 7, 6]
theorem tied_of_laid {W : World} (h : laidMetH Tryz.prog laidL W) (hsh : W.ShapedOpen Tryz.prog) : TW W := by
  rw [MakeChecks.laidMetH_plain _ _ _ (by kernel_rfl)] at h
  have h1 := laidMet.tail h
  have h2 := laidMet.tail h1
  have hT := Lib.tabIs_of_head (zs := db64L) (k := .u8) gDb64 tDb64 Tryz.underlying145 Tryz.underlying5 cU8 cDb64 h1
  have hP := Lib.tabIs_of_head (zs := Lib.pow10Tab) (k := .u64) gPow10 tPow10 Tryz.underlying136 Tryz.underlying114 cU64 cPow10 h2
  refine ⟨?_, hP, ?_⟩
  · exact cell_of_shapedOpen_int (t := 3) (zero := #[.int .i64 0]) hsh (by decide +kernel) (by kernel_rfl) rfl (by kernel_rfl) (by kernel_rfl) Tryz.underlying3
  · exact Lib.TabIs.cell hT gDb64 15 (by decide)
variable {H : Type} {enc : TypeId × Value → H}
/-- The wrap of a law that lists variables and is handed the world's shape. -/
theorem wrap6 {a : Assume} {C : Checked} {os : Os} {f : FuncId} {fn : Func} {s : ChangeSpec} {conds : List PathCond} {apart fresh handsOn again : Bool} {X : World → Array Value → Prop}
    (hX : ∀ (w w' : World) (args : Array Value), w.heap = w'.heap → X w args → X w' args)
    (own : ownKnob C.prog.godebug = none) (started : os.Started) (noInit : C.prog.inits.idxOf? f = none) (hfn : C.prog.funcs[f]? = some fn)
    (witness : ∃ (w : World) (tape : Tape) (i : Input), w.os = os ∧ (w.forCall tape i).Shaped C.prog ∧ i.vars = [] ∧ Input.okWide C.prog (w.forCall tape i) .any w.heap.size f i ∧
      ((s.pre enc C.prog fn conds apart (w.forCall tape i).memory i.args ∧ X (w.forCall tape i).memory i.args) ∧ sizedMet enc C.prog fn (OpenSpec.ofChange s) apart (w.forCall tape i).memory i.args) ∧ a.holds C.prog (lone (Frame.enter C.prog f i.args .normal) [] (w.forCall tape i)))
    (walk : ∀ (W : World) (base : Nat) (args : Array Value) (ds gs : List (DataW H)) (before : List MemPlace),
      (∀ (j : Nat) t v, fn.params[j]? = some t → args[j]? = some v → Value.okWide C.prog W .any base t v) →
      DataW.Whole enc C.prog fn.params.toList s.vars apart W args.toList ds gs before → X W args → W.ShapedOpen C.prog →
      Calls C.prog f args W fun e W' => ∃ v, e = .returned v ∧ s.post enc C.prog fn apart fresh handsOn again W args v W') :
    ReturnsInHanded a C os f .any (fun w args => (s.pre enc C.prog fn conds apart w args ∧ X w args) ∧ sizedMet enc C.prog fn (OpenSpec.ofChange s) apart w args) (s.post enc C.prog fn apart fresh handsOn again) := by
  refine returnsInHanded_of_calls own started noInit witness ?_
  intro w tape i _ hsh _ hok hpre _
  obtain ⟨_, _, _, fn2, hfn2, _, _, _, _, hval⟩ := hok
  obtain rfl : fn2 = fn := Option.some.inj (hfn2.symm.trans hfn)
  obtain ⟨⟨⟨ds, gs, before, hw, _⟩, hx⟩, _⟩ := hpre
  refine (walk (w.forCall tape i) w.heap.size i.args ds gs before hval (DataW.Whole.of_heap (w' := w.forCall tape i) (by rfl) hw) (hX _ _ _ (by rfl) hx) hsh).mono fun e W' ⟨v, he, hp⟩ => ?_
  subst he
  exact ChangeSpec.post_blind hp
end Go.Proofs.YtepbmnpjpkmmfaaGreatDoor
