/- Contracts of the functions, part 6: AdrFm, AdrByt, AdrBnd, Tied06, Awk06, Awk06c, Awk06d, OpenP06. -/
import Derived.Test.YtcblgbonijloiaaDoorTie
import Derived.ProofKit
import Derived.LaidMore
import Derived.Lay
import Derived.LaidOnce
import Derived.OpenShut
import Derived.Stop.Joined
import Derived.Stop.LaidErr
import Derived.Lib.LaidTab
import Derived.SevenTiedAt
import Derived.HandedShaped
import Derived.Shelf.Vars
import Derived.Lib.SmallJoins
import Derived.Deep.Strs
import Derived.Test.YtcblgbonijloiaaDoorFo2
import Derived.Test.YtcblgbonijloiaaDoorFo3
import Derived.Test.YtcblgbonijloiaaDoorFo4
import Derived.Test.YtcblgbonijloiaaDoorFo5
/- Contracts of the reference of layer 6: Format, FormatPrefix. -/
namespace Go.Proofs.YtcblgbonijloiaaDoor
open Go.ChangeShapes Go.WideShapes Go.ChangeAt Go.RowKit
set_option linter.unusedVariables false

/-- Groups with colons between them. -/
def jH (a : List Nat) : By := joinC 58 (a.map hexL)
theorem jH_snoc : ∀ (a : List Nat) (x : Nat), jH (a ++ [x]) = if a = [] then hexL x else jH a ++ 58 :: hexL x
  | [], x => by simp [jH, joinC]
  | [y], x => by simp [jH, joinC]
  | y :: z :: r, x => by
    have ih := jH_snoc (z :: r) x
    rw [if_neg (by simp)] at ih
    rw [if_neg (by simp)]
    show hexL y ++ 58 :: jH (z :: (r ++ [x])) = (hexL y ++ 58 :: jH (z :: r)) ++ 58 :: hexL x
    rw [show z :: (r ++ [x]) = (z :: r) ++ [x] from rfl, ih]; simp
theorem hexL_last (x : Nat) : ∃ p c, hexL x = p ++ [c] ∧ c ≠ 58 := by
  have hn := hex_ne x
  refine ⟨(hexL x).dropLast, (hexL x).getLast (by intro h; rw [h] at hn; simp at hn), (List.dropLast_concat_getLast _).symm, ?_⟩
  exact hex_no (.inr rfl) _ (List.getLast_mem _)
theorem jH_last {a : List Nat} (h : a ≠ []) : ∃ p c, jH a = p ++ [c] ∧ c ≠ 58 := by
  obtain ⟨b, x, rfl⟩ : ∃ b x, a = b ++ [x] := ⟨a.dropLast, a.getLast h, (List.dropLast_concat_getLast _).symm⟩
  obtain ⟨p, c, e, hc⟩ := hexL_last x
  rw [jH_snoc]
  split
  · exact ⟨p, c, e, hc⟩
  · exact ⟨jH b ++ 58 :: p, c, by rw [e]; simp, hc⟩
/-- What the reference puts behind a text: a colon where one is wanted, and a group. -/
def addG (s : By) (x : Nat) : By := (if s ≠ [] ∧ s.getLast? ≠ some 58 then s ++ [58] else s) ++ hexL x
theorem addG_j (a : List Nat) (x : Nat) : addG (jH a) x = jH (a ++ [x]) := by
  rw [jH_snoc]
  by_cases h : a = []
  · subst h; rw [if_pos rfl]; rfl
  · obtain ⟨p, c, e, hc⟩ := jH_last h
    rw [if_neg h, addG, if_pos (by rw [e]; simp [hc])]; simp
theorem addG_g (P : By) (a : List Nat) (x : Nat) : addG (P ++ [58, 58] ++ jH a) x = P ++ [58, 58] ++ jH (a ++ [x]) := by
  rw [jH_snoc]
  by_cases h : a = []
  · subst h
    rw [if_pos rfl, addG, if_neg (by simp [jH, joinC, List.getLast?_append])]; simp [jH, joinC]
  · obtain ⟨p, c, e, hc⟩ := jH_last h
    rw [if_neg h, addG, if_pos ⟨by simp, by rw [e, show P ++ [58, 58] ++ (p ++ [c]) = (P ++ [58, 58] ++ p) ++ [c] by simp, List.getLast?_concat]; simpa using hc⟩]; simp
/-- The text ahead of group i. -/
def PH (l : List Nat) (g : Option Nat) (m i : Nat) (s : By) : Prop := match g with
  | none => s = jH (l.take i)
  | some k => (i ≤ k ∧ s = jH (l.take i)) ∨ (k + m ≤ i ∧ s = jH (l.take k) ++ [58, 58] ++ jH ((l.drop (k + m)).take (i - (k + m))))
theorem ph_step {l : List Nat} {g : Option Nat} {m i x : Nat} {s : By} (h : PH l g m i s) (hx : l[i]? = some x) (hg : g ≠ some i) : PH l g m (i + 1) (addG s x) := by
  obtain ⟨hi, he⟩ := List.getElem?_eq_some_iff.1 hx
  have ht : l.take (i + 1) = l.take i ++ [x] := by rw [List.take_succ_eq_append_getElem hi, he]
  cases g with
  | none =>
    have h' : s = jH (l.take i) := h
    show addG s x = _
    rw [h', addG_j, ht]
  | some k =>
    have h' : (i ≤ k ∧ s = jH (l.take i)) ∨ (k + m ≤ i ∧ s = jH (l.take k) ++ [58, 58] ++ jH ((l.drop (k + m)).take (i - (k + m)))) := h
    have hk : k ≠ i := fun e => hg (by rw [e])
    rcases h' with ⟨h1, h2⟩ | ⟨h1, h2⟩
    · exact .inl ⟨by omega, by rw [h2, addG_j, ht]⟩
    · refine .inr ⟨by omega, ?_⟩
      have hd : (l.drop (k + m)).length = l.length - (k + m) := List.length_drop ..
      have ht2 : (l.drop (k + m)).take (i + 1 - (k + m)) = (l.drop (k + m)).take (i - (k + m)) ++ [x] := by
        rw [show i + 1 - (k + m) = (i - (k + m)) + 1 by omega, List.take_succ_eq_append_getElem (by omega), List.getElem_drop]
        congr 2
        rw [← he]; congr 1; omega
      rw [h2, addG_g, ht2]
theorem ph_gap {l : List Nat} {k m : Nat} {s : By} (hm : 2 ≤ m) (h : PH l (some k) m k s) : PH l (some k) m (k + m) (s ++ [58, 58]) := by
  have h' : (k ≤ k ∧ s = jH (l.take k)) ∨ (k + m ≤ k ∧ s = jH (l.take k) ++ [58, 58] ++ jH ((l.drop (k + m)).take (k - (k + m)))) := h
  rcases h' with ⟨h1, h2⟩ | ⟨h1, h2⟩
  · exact .inr ⟨Nat.le_refl _, by rw [h2, Nat.sub_self]; simp [jH, joinC]⟩
  · omega
theorem ph_end {l : List Nat} {g : Option Nat} {m : Nat} {s : By} (hb : best l = (g, m)) (h : PH l g m l.length s) : s = fmt6 l := by
  unfold fmt6
  rw [hb]
  cases g with
  | none =>
    have h' : s = jH (l.take l.length) := h
    rw [h', List.take_length]; rfl
  | some k =>
    have hs := best_spec l
    rw [hb] at hs
    rcases hs with e | ⟨k', m', e, h2, h3, _⟩
    · cases e
    · cases e
      have h' : (l.length ≤ k ∧ s = jH (l.take l.length)) ∨ (k + m ≤ l.length ∧ s = jH (l.take k) ++ [58, 58] ++ jH ((l.drop (k + m)).take (l.length - (k + m)))) := h
      rcases h' with ⟨h4, _⟩ | ⟨_, h4⟩
      · omega
      · rw [h4, show List.take (l.length - (k + m)) (l.drop (k + m)) = l.drop (k + m) from List.take_of_length_le (by rw [List.length_drop]; omega)]; rfl
def atI : Option Nat → Int
  | none => -1
  | some k => k
theorem last6 (S : ByteArray) (n : Nat) (h : n < S.size) (hn : S.size = n + 1) : S.data.toList.getLast? = some S[n] := by
  have hl := toList_length6 S
  rw [List.getLast?_eq_getElem?, hl, hn, Nat.add_sub_cancel, List.getElem?_eq_getElem (by omega)]; rfl
theorem bestGo_step (l : List Nat) (i : Nat) (at_ : Option Nat) (most : Nat) (h : i < l.length) : bestGo (l.drop i) i at_ most = if most < zeros (l.drop i) then bestGo (l.drop (i + 1)) (i + 1) (some i) (zeros (l.drop i)) else bestGo (l.drop (i + 1)) (i + 1) at_ most := by
  rw [List.drop_eq_getElem_cons h, bestGo]
theorem best_le {l : List Nat} {g : Option Nat} {m : Nat} (h : best l = (g, m)) (hl : l.length = 8) : m ≤ 8 ∧ ∀ k, g = some k → 2 ≤ m ∧ k + m ≤ 8 := by
  have hs := best_spec l
  rw [h] at hs
  rcases hs with e | ⟨k', m', e, h2, h3, _⟩
  · cases e; exact ⟨by omega, fun k hk => by cases hk⟩
  · cases e; exact ⟨by omega, fun k hk => by cases hk; exact ⟨h2, by omega⟩⟩
set_option maxHeartbeats 8000000 in
set_option maxRecDepth 20000 in
theorem rfmt_6 (hi lo : Nat) (w : World) (b1 : hi < 18446744073709551616) (b2 : lo < 18446744073709551616) :
    Calls Tryd.prog 22 #[.agg #[.bool true, .int .u64 hi, .int .u64 lo]] w fun e w' => e = .returned (.string (str (fmtA true hi lo))) ∧ Below w.heap.size w w' := by
  obtain ⟨W0, hW0⟩ : ∃ W0, W0 = w.alloc (.cells #[.bool true, .int .u64 hi, .int .u64 lo] 25) := ⟨_, rfl⟩
  have HX := Lib.hid (show AB W0 w.heap.size true hi lo by rw [hW0]; exact ab_new w true hi lo)
  have HB0 := Lib.hid (show Below w.heap.size w W0 by rw [hW0]; exact below_alloc6 w _)
  have HG := Lib.hid (fun W => rgrps_any true hi lo W b1 b2)
  have hll := fun n h => digitsOf_lt (b := 65536) (by omega) 8 (numA hi lo) n h
  have hle := digitsOf_len 65536 8 (numA hi lo)
  have HFE := Lib.hid (show fmtA true hi lo = fmt6 (digitsOf 65536 (numA hi lo) 8) from rfl)
  generalize digitsOf 65536 (numA hi lo) 8 = l at *
  generalize fmtA true hi lo = Z at *
  have HLL := Lib.hid hll
  have HLE := Lib.hid hle
  have x0 := HX.out.c0
  have x1 := HX.out.c1
  have x2 := HX.out.c2
  clear hll hle b1 b2
  go_enter Tryd.func22, Tryd.ntmps22
  go_wp2_with fail
  rw [← hW0]
  clear hW0
  refine (HG.out _).mono ?_
  rintro e w2 ⟨A, cap, rfl, hown, hb⟩
  have HB2 := Lib.hid (HB0.out.trans (hb.mono HB0.out.size))
  have hnal : NaL w2 A l := own_nal (by rw [HLE.out]; exact hown)
  obtain ⟨g, rfl, hgl, hcl⟩ := hnal (by rw [HLE.out]; omega)
  have HC := Lib.hid hcl
  have HRN := Lib.hid (fun i W (hi : i ≤ 8) (hN : NaL W (some ⟨g, 0, none⟩) l) => rrun6_any (some ⟨g, 0, none⟩) cap i l W hN (by rw [HLE.out]; omega) (by rw [HLE.out]; exact hi))
  rw [HLE.out] at HRN
  have HN2 := Lib.hid (show NaL w2 (some ⟨g, 0, none⟩) l from own_nal (by rw [HLE.out]; exact hown))
  have HI0 := Lib.hid (show bestGo (l.drop 0) 0 none 1 = best l from by rw [List.drop_zero]; rfl)
  clear hb hown hcl HG HX HB0 x0 x1 x2
  go_wp2_with fail
  go_loopw [4, 5, 6] (fun v4 v5 v6 wr => ∃ (g_ : Option Nat) (m i : Nat), v4 = .int .i64 (atI g_) ∧ v5 = .int .i64 m ∧ v6 = .int .i64 i ∧ i ≤ 8 ∧ m ≤ 8 ∧ Hid (bestGo (l.drop i) i g_ m = best l) ∧ w2 = wr) (fun _ _ v6 _ => 8 - (intOf v6).toNat)
  case atStart => exact ⟨none, 1, 0, rfl, rfl, rfl, by omega, by omega, HI0, rfl⟩
  case round =>
    clear HI0
    obtain ⟨g_, m, i, rfl, rfl, rfl, hi8, hm8, HQ, rfl⟩ := hrel
    by_cases hlt : i < 8
    · have dlt : decide ((i : Int) < 8) = true := by rw [decide_eq_true_eq]; omega
      have hlti : (i : Int) < 8 := by omega
      obtain ⟨i1, hi1⟩ : ∃ i1, i1 = i + 1 := ⟨_, rfl⟩
      have i1i : (i : Int) + 1 = (i1 : Int) := by omega
      have i18 : i1 ≤ 8 := by omega
      have HR := Lib.hid (HRN.out i w2 hi8 HN2.out)
      have hq := HQ.out
      rw [bestGo_step l i g_ m (by rw [HLE.out]; exact hlt), ← hi1] at hq
      have hz := zeros_le (l.drop i)
      rw [List.length_drop, HLE.out] at hz
      obtain ⟨z, hze⟩ : ∃ z, z = zeros (l.drop i) := ⟨_, rfl⟩
      rw [← hze] at hq hz HR
      have hz8 : z ≤ 8 := by omega
      have HI1 := Lib.hid hi1
      by_cases hmz : m < z
      · have dz : decide ((m : Int) < (z : Int)) = true := by rw [decide_eq_true_eq]; omega
        rw [if_pos hmz] at hq
        have HQ2 := Lib.hid hq
        clear hq hze hz hi1 HQ
        go_wp2_with fail
        refine HR.out.mono ?_
        rintro e w3 ⟨rfl, rfl⟩
        go_wp2_with fail
        refine HR.out.mono ?_
        rintro e w3 ⟨rfl, rfl⟩
        go_wp2_with fail
        go_roundw
        case rel => exact ⟨some i, z, i1, rfl, rfl, by go_num, i18, hz8, HQ2, by first | trivial | rfl⟩
        case measure => have := HI1.out; simp [intOf]; omega
      · have dz : decide ((m : Int) < (z : Int)) = false := by rw [decide_eq_false_iff_not]; omega
        rw [if_neg hmz] at hq
        have HQ2 := Lib.hid hq
        clear hq hze hz hi1 HQ
        go_wp2_with fail
        refine HR.out.mono ?_
        rintro e w3 ⟨rfl, rfl⟩
        go_wp2_with fail
        go_roundw
        case rel => exact ⟨g_, m, i1, rfl, rfl, by go_num, i18, hm8, HQ2, by first | trivial | rfl⟩
        case measure => have := HI1.out; simp [intOf]; omega
    · have dlt : decide ((i : Int) < 8) = false := by rw [decide_eq_false_iff_not]; omega
      have nlt : ¬ (i : Int) < 8 := by omega
      have hq := HQ.out
      rw [List.drop_of_length_le (by rw [HLE.out]; omega), bestGo] at hq
      have HBQ := Lib.hid (show best l = (g_, m) from hq.symm)
      have HBL := Lib.hid (best_le hq.symm HLE.out)
      have H70 := Lib.hid (show PH l g_ m 0 (⟨#[]⟩ : ByteArray).data.toList from by
        cases g_ with
        | none => exact rfl
        | some k => exact .inl ⟨Nat.zero_le _, rfl⟩)
      clear hq HQ HRN
      obtain ⟨a, ha⟩ : ∃ a, a = atI g_ := ⟨_, rfl⟩
      rw [← ha]
      have HA := Lib.hid ha
      clear ha
      go_wp2_with fail
      go_loopw [7, 8] (fun v7 v8 wr => ∃ (S : ByteArray) (j : Nat), v7 = .string S ∧ v8 = .int .i64 j ∧ j ≤ 8 ∧ S.size ≤ 5 * j ∧ Hid (PH l g_ m j S.data.toList) ∧ w2 = wr) (fun _ v8 _ => 8 - (intOf v8).toNat)
      case atStart => exact ⟨⟨#[]⟩, 0, rfl, rfl, by omega, by decide, H70, rfl⟩
      case round =>
        clear H70
        obtain ⟨S, j, rfl, rfl, hj8, hS, HP, rfl⟩ := hrel
        by_cases hltj : j < 8
        · have dltj : decide ((j : Int) < 8) = true := by rw [decide_eq_true_eq]; omega
          have hltji : (j : Int) < 8 := by omega
          by_cases hat : g_ = some j
          · have hbl := HBL.out.2 j hat
            have daj : ((j : Int) == a) = true := by rw [HA.out, hat]; simp [atI]
            obtain ⟨m1, hm1⟩ : ∃ m1, m1 + 1 = m := ⟨m - 1, by omega⟩
            obtain ⟨q, hq⟩ : ∃ q, q = j + m1 := ⟨_, rfl⟩
            obtain ⟨q1, hq1⟩ : ∃ q1, q1 = q + 1 := ⟨_, rfl⟩
            have mi : (m : Int) - 1 = (m1 : Int) := by omega
            have qi : (j : Int) + (m1 : Int) = (q : Int) := by omega
            have q1i : (q : Int) + 1 = (q1 : Int) := by omega
            have hq18 : q1 ≤ 8 := by omega
            have hcat : (9223372036854775807 < S.size + 2) = False := by simp only [eq_iff_iff, iff_false]; omega
            have hcat2 : (9223372036854775807 < S.size + (⟨#[58, 58]⟩ : ByteArray).size) = False := hcat
            have HS2 := Lib.hid (show (S ++ (⟨#[58, 58]⟩ : ByteArray)).size ≤ 5 * q1 by rw [ByteArray.size_append]; show S.size + 2 ≤ _; omega)
            have HP2 := Lib.hid (show PH l g_ m q1 (S ++ (⟨#[58, 58]⟩ : ByteArray)).data.toList from by
              have h := HP.out
              rw [hat] at h ⊢
              have h2 := ph_gap hbl.1 h
              rw [show q1 = j + m by omega, ByteArray.data_append, Array.toList_append]
              exact h2)
            have HQ1 := Lib.hid (show j < q1 by omega)
            clear hat hbl hm1 hq hq1 HP
            obtain ⟨S2, hS2⟩ : ∃ S2, S2 = S ++ (⟨#[58, 58]⟩ : ByteArray) := ⟨_, rfl⟩
            rw [← hS2] at HS2 HP2
            go_wp2_with fail
            go_roundw
            case rel => exact ⟨S2, q1, by rw [hS2], by go_num, hq18, HS2.out, HP2, by first | trivial | rfl⟩
            case measure => have := HQ1.out; simp [intOf]; omega
          · have daj : ((j : Int) == a) = false := by
              rw [beq_eq_false_iff_ne, HA.out]
              intro e
              cases g_ with
              | none => simp only [atI] at e; omega
              | some k => simp only [atI] at e; exact hat (by rw [show k = j by omega])
            obtain ⟨j1, hj1⟩ : ∃ j1, j1 = j + 1 := ⟨_, rfl⟩
            have j1i : (j : Int) + 1 = (j1 : Int) := by omega
            have j18 : j1 ≤ 8 := by omega
            have hjl : j < l.length := by rw [HLE.out]; exact hltj
            obtain ⟨x, hx⟩ : ∃ x, x = l[j] := ⟨_, rfl⟩
            have hxo : l[j]? = some x := by rw [List.getElem?_eq_getElem hjl, hx]
            have hcx := HC.out j x hxo
            have hx16 : x < 65536 := HLL.out x (by rw [hx]; exact List.getElem_mem hjl)
            have HH := Lib.hid (rhex6_any x w2 (by omega))
            have hxl : (str (hexL x)).size ≤ 4 := by rw [str_size]; exact hex_len hx16
            have hph := ph_step HP.out hxo hat
            rw [← hj1] at hph
            have hsl := toList_length6 S
            have HJ1 := Lib.hid hj1
            by_cases he : S.data.toList = []
            · have em : S.toList.isEmpty = true := by rw [isEmpty6, he]; rfl
              have ha2 : S.data.toList ++ hexL x = addG S.data.toList x := by rw [addG, if_neg (by simp [he])]
              have HP2 := Lib.hid (show PH l g_ m j1 (S ++ str (hexL x)).data.toList from by
                rw [ByteArray.data_append, Array.toList_append, str_toList, ha2]; exact hph)
              have HS2 := Lib.hid (show (S ++ str (hexL x)).size ≤ 5 * j1 from by rw [ByteArray.size_append]; omega)
              have hcat : (9223372036854775807 < S.size + (str (hexL x)).size) = False := by simp only [eq_iff_iff, iff_false]; omega
              generalize str (hexL x) = Hx at *
              clear hph hat hx hxo he hsl ha2 HP hj1
              obtain ⟨S2, hS2⟩ : ∃ S2, S2 = S ++ Hx := ⟨_, rfl⟩
              rw [← hS2] at HS2 HP2
              go_wp2_with fail
              refine HH.out.mono ?_
              rintro e w3 ⟨rfl, rfl⟩
              go_wp2_with fail
              go_roundw
              case rel => exact ⟨S2, j1, by rw [hS2], by go_num, j18, HS2.out, HP2, by first | trivial | rfl⟩
              case measure => have := HJ1.out; simp [intOf]; omega
            · have em : S.toList.isEmpty = false := by
                rw [isEmpty6]
                cases hc : S.data.toList with
                | nil => exact absurd hc he
                | cons => rfl
              obtain ⟨n1, hn1⟩ : ∃ n1, S.size = n1 + 1 := ⟨S.size - 1, by
                have : 0 < S.data.toList.length := by
                  cases hc : S.data.toList with
                  | nil => exact absurd hc he
                  | cons => simp
                omega⟩
              have n1i : (S.size : Int) - 1 = (n1 : Int) := by omega
              have hnl : n1 < S.size := by omega
              have hnli : (n1 : Int) < (S.size : Int) := by omega
              have hlast := last6 S n1 hnl hn1
              have hb8 := u8_lt S[n1]
              by_cases hc58 : S[n1] = 58
              · have t1 : ((S[n1].toNat : Int) != 58) = false := by rw [hc58]; rfl
                have ha2 : S.data.toList ++ hexL x = addG S.data.toList x := by rw [addG, if_neg (by rw [hlast, hc58]; simp)]
                have HP2 := Lib.hid (show PH l g_ m j1 (S ++ str (hexL x)).data.toList from by
                  rw [ByteArray.data_append, Array.toList_append, str_toList, ha2]; exact hph)
                have HS2 := Lib.hid (show (S ++ str (hexL x)).size ≤ 5 * j1 from by rw [ByteArray.size_append]; omega)
                have hcat : (9223372036854775807 < S.size + (str (hexL x)).size) = False := by simp only [eq_iff_iff, iff_false]; omega
                generalize str (hexL x) = Hx at *
                clear hph hat hx hxo he hsl ha2 HP hj1 hlast hc58 hn1
                obtain ⟨S2, hS2⟩ : ∃ S2, S2 = S ++ Hx := ⟨_, rfl⟩
                rw [← hS2] at HS2 HP2
                go_wp2_with fail
                refine HH.out.mono ?_
                rintro e w3 ⟨rfl, rfl⟩
                go_wp2_with fail
                go_roundw
                case rel => exact ⟨S2, j1, by rw [hS2], by go_num, j18, HS2.out, HP2, by first | trivial | rfl⟩
                case measure => have := HJ1.out; simp [intOf]; omega
              · have t1 : ((S[n1].toNat : Int) != 58) = true := by
                  rw [bne_iff_ne]; intro e
                  exact hc58 (UInt8.toNat_inj.mp (by show S[n1].toNat = 58; omega))
                have ha2 : S.data.toList ++ [58] ++ hexL x = addG S.data.toList x := by rw [addG, if_pos ⟨he, by rw [hlast]; simpa using hc58⟩]
                have HP2 := Lib.hid (show PH l g_ m j1 (S ++ (⟨#[58]⟩ : ByteArray) ++ str (hexL x)).data.toList from by
                  rw [ByteArray.data_append, ByteArray.data_append, Array.toList_append, Array.toList_append, str_toList]
                  show PH l g_ m j1 (S.data.toList ++ [58] ++ hexL x)
                  rw [ha2]; exact hph)
                have hz1 : (S ++ (⟨#[58]⟩ : ByteArray)).size = S.size + 1 := by rw [ByteArray.size_append]; rfl
                have HS2 := Lib.hid (show (S ++ (⟨#[58]⟩ : ByteArray) ++ str (hexL x)).size ≤ 5 * j1 from by rw [ByteArray.size_append, hz1]; omega)
                have hcat : (9223372036854775807 < S.size + 1) = False := by simp only [eq_iff_iff, iff_false]; omega
                have hcat2 : (9223372036854775807 < S.size + 1 + (str (hexL x)).size) = False := by simp only [eq_iff_iff, iff_false]; omega
                have hcat3 : (9223372036854775807 < (S ++ (⟨#[58]⟩ : ByteArray)).size + (str (hexL x)).size) = False := by rw [hz1]; exact hcat2
                generalize str (hexL x) = Hx at *
                clear hph hat hx hxo he hsl ha2 HP hj1 hlast hc58 hn1
                obtain ⟨S2, hS2⟩ : ∃ S2, S2 = S ++ (⟨#[58]⟩ : ByteArray) ++ Hx := ⟨_, rfl⟩
                rw [← hS2] at HS2 HP2
                go_wp2_with fail
                refine HH.out.mono ?_
                rintro e w3 ⟨rfl, rfl⟩
                go_wp2_with fail
                go_roundw
                case rel => exact ⟨S2, j1, by rw [hS2], by go_num, j18, HS2.out, HP2, by first | trivial | rfl⟩
                case measure => have := HJ1.out; simp [intOf]; omega
        · have dltj : decide ((j : Int) < 8) = false := by rw [decide_eq_false_iff_not]; omega
          have nltj : ¬ (j : Int) < 8 := by omega
          have h := HP.out
          rw [show j = l.length by rw [HLE.out]; omega] at h
          have HZ := Lib.hid (show S = str Z from by
            rw [HFE.out, ← ph_end HBQ.out h, str_of])
          clear h HP
          go_wp2_with fail
          go_ret
          exact ⟨by rw [HZ.out]; rfl, HB2.out⟩
theorem fmt4_form (a b c d : Nat) : str (fmt4 [a, b, c, d]) = str (numL a) ++ (⟨#[46]⟩ : ByteArray) ++ str (numL b) ++ (⟨#[46]⟩ : ByteArray) ++ str (numL c) ++ (⟨#[46]⟩ : ByteArray) ++ str (numL d) := by
  rw [show (⟨#[46]⟩ : ByteArray) = str [46] from rfl, str_append, str_append, str_append, str_append, str_append, str_append]
  congr 1
  simp [fmt4, joinC]
theorem digits4 (n : Nat) : digitsOf 256 n 4 = [n / 16777216 % 256, n / 65536 % 256, n / 256 % 256, n % 256] := by
  rw [digitsOf_head, digitsOf_head, digitsOf_head, digitsOf_head]
  simp [digitsOf]
theorem and8_u64 (q : Nat) (h : q < 18446744073709551616) : bits .and .u64 (q : Int) 255 = ((q % 256 : Nat) : Int) := by
  rw [show (255 : Int) = ((255 : Nat) : Int) from rfl, u64_and_nat q 255 h (by decide)]
  rw [show (255 : Nat) = 2 ^ 8 - 1 from rfl, Nat.and_two_pow_sub_one_eq_mod]
set_option maxHeartbeats 8000000 in
set_option maxRecDepth 20000 in
theorem rfmt_4 (hi lo : Nat) (w : World) (b1 : hi < 18446744073709551616) (b2 : lo < 18446744073709551616) :
    Calls Tryd.prog 22 #[.agg #[.bool false, .int .u64 hi, .int .u64 lo]] w fun e w' => e = .returned (.string (str (fmtA false hi lo))) ∧ Below w.heap.size w w' := by
  obtain ⟨W0, hW0⟩ : ∃ W0, W0 = w.alloc (.cells #[.bool false, .int .u64 hi, .int .u64 lo] 25) := ⟨_, rfl⟩
  have HX := Lib.hid (show AB W0 w.heap.size false hi lo by rw [hW0]; exact ab_new w false hi lo)
  have HB0 := Lib.hid (show Below w.heap.size w W0 by rw [hW0]; exact below_alloc6 w _)
  have hf : str (fmtA false hi lo) = str (fmt4 (digitsOf 256 lo 4)) := rfl
  rw [digits4, fmt4_form] at hf
  obtain ⟨qa, hqa⟩ : ∃ q, q = lo / 16777216 := ⟨_, rfl⟩
  obtain ⟨qb, hqb⟩ : ∃ q, q = lo / 65536 := ⟨_, rfl⟩
  obtain ⟨qc, hqc⟩ : ∃ q, q = lo / 256 := ⟨_, rfl⟩
  have ia : (lo : Int) / 16777216 = (qa : Int) := by omega
  have ib : (lo : Int) / 65536 = (qb : Int) := by omega
  have ic : (lo : Int) / 256 = (qc : Int) := by omega
  have aa := and8_u64 qa (by omega)
  have ab_ := and8_u64 qb (by omega)
  have ac := and8_u64 qc (by omega)
  have ad := and8_u64 lo b2
  rw [← hqa, ← hqb, ← hqc] at hf
  obtain ⟨da, hda⟩ : ∃ d, d = qa % 256 := ⟨_, rfl⟩
  obtain ⟨db, hdb⟩ : ∃ d, d = qb % 256 := ⟨_, rfl⟩
  obtain ⟨dc, hdc⟩ : ∃ d, d = qc % 256 := ⟨_, rfl⟩
  obtain ⟨dd, hdd⟩ : ∃ d, d = lo % 256 := ⟨_, rfl⟩
  rw [← hda] at hf aa
  rw [← hdb] at hf ab_
  rw [← hdc] at hf ac
  rw [← hdd] at hf ad
  have la : da < 256 := by omega
  have lb : db < 256 := by omega
  have lc : dc < 256 := by omega
  have ld : dd < 256 := by omega
  have HNa := Lib.hid (fun W => rnum6_any da W (by omega))
  have HNb := Lib.hid (fun W => rnum6_any db W (by omega))
  have HNc := Lib.hid (fun W => rnum6_any dc W (by omega))
  have HNd := Lib.hid (fun W => rnum6_any dd W (by omega))
  have sa : (str (numL da)).size ≤ 3 := by rw [str_size]; exact num_len (by omega)
  have sb : (str (numL db)).size ≤ 3 := by rw [str_size]; exact num_len (by omega)
  have sc : (str (numL dc)).size ≤ 3 := by rw [str_size]; exact num_len (by omega)
  have sd : (str (numL dd)).size ≤ 3 := by rw [str_size]; exact num_len (by omega)
  clear hqa hqb hqc hda hdb hdc hdd
  generalize str (fmtA false hi lo) = Z at *
  generalize str (numL da) = Sa at *
  generalize str (numL db) = Sb at *
  generalize str (numL dc) = Sc at *
  generalize str (numL dd) = Sd at *
  have HF := Lib.hid hf
  have z1 : (9223372036854775807 < Sa.size + 1) = False := by simp only [eq_iff_iff, iff_false]; omega
  have z2 : (9223372036854775807 < Sa.size + 1 + Sb.size) = False := by simp only [eq_iff_iff, iff_false]; omega
  have z3 : (9223372036854775807 < Sa.size + 1 + Sb.size + 1) = False := by simp only [eq_iff_iff, iff_false]; omega
  have z4 : (9223372036854775807 < Sa.size + 1 + Sb.size + 1 + Sc.size) = False := by simp only [eq_iff_iff, iff_false]; omega
  have z5 : (9223372036854775807 < Sa.size + 1 + Sb.size + 1 + Sc.size + 1) = False := by simp only [eq_iff_iff, iff_false]; omega
  have z6 : (9223372036854775807 < Sa.size + 1 + Sb.size + 1 + Sc.size + 1 + Sd.size) = False := by simp only [eq_iff_iff, iff_false]; omega
  have x0 := HX.out.c0
  clear hf b1 b2 sa sb sc sd
  go_enter Tryd.func22, Tryd.ntmps22
  go_wp2_with fail
  rw [← hW0]
  clear hW0
  refine wp_region_pick (fun w' => Below W0.heap.size W0 w') (by kernel_rfl) (by kernel_rfl) (Below.refl _ _) ⟨rfl, rfl, rfl, Nat.le_refl _, fun _ _ => rfl⟩ (fun p hp hq => ?_)
  have p2 : ∀ u, (p u).cell? ⟨w.heap.size, 2, none⟩ = some (.int .u64 lo) := fun u => (HX.out.kept (hp u) HX.out.lt).c2
  have HP := Lib.hid hp
  have HQ := Lib.hid hq
  clear hp hq x0
  repeat (go_big_quiet_step ((first | with_reducible exact Calls.pick_of HQ.out (fun W' hb => (HP.out _).trans (hb.mono (HP.out _).size)) (HNa.out _) | with_reducible exact Calls.pick_of HQ.out (fun W' hb => (HP.out _).trans (hb.mono (HP.out _).size)) (HNb.out _) | with_reducible exact Calls.pick_of HQ.out (fun W' hb => (HP.out _).trans (hb.mono (HP.out _).size)) (HNc.out _) | with_reducible exact Calls.pick_of HQ.out (fun W' hb => (HP.out _).trans (hb.mono (HP.out _).size)) (HNd.out _))))
  refine wpQuiet_nil ?_
  rintro _ ⟨u, rfl⟩
  have HB := Lib.hid (HB0.out.trans ((HP.out u).mono HB0.out.size))
  generalize p u = w4 at *
  clear HP HQ p2
  go_wp2_with fail
  go_ret
  exact ⟨ret_str6 HF.out.symm, HB.out⟩
theorem rfmt_any (v6 : Bool) (hi lo : Nat) (w : World) (b1 : hi < 18446744073709551616) (b2 : lo < 18446744073709551616) :
    Calls Tryd.prog 22 #[.agg #[.bool v6, .int .u64 hi, .int .u64 lo]] w fun e w' => e = .returned (.string (str (fmtA v6 hi lo))) ∧ Below w.heap.size w w' := by
  cases v6 with
  | true => exact rfmt_6 hi lo w b1 b2
  | false => exact rfmt_4 hi lo w b1 b2
set_option maxHeartbeats 8000000 in
set_option maxRecDepth 20000 in
theorem rfmtp_any (v6 : Bool) (hi lo k : Nat) (w : World) (h1 : hi < 18446744073709551616) (h2 : lo < 18446744073709551616) (hv : vldA v6 hi lo = true) (hk : k ≤ 128) :
    Calls Tryd.prog 26 #[.agg #[.bool v6, .int .u64 hi, .int .u64 lo, .int .i64 k]] w fun e w' => e = .returned (.string (str (fmtPA v6 hi lo k))) ∧ Below w.heap.size w w' := by
  obtain ⟨W0, hW0⟩ : ∃ W0, W0 = w.alloc (.cells #[.bool v6, .int .u64 hi, .int .u64 lo, .int .i64 k] 30) := ⟨_, rfl⟩
  have HX := Lib.hid (show PB W0 w.heap.size v6 hi lo k by rw [hW0]; exact pb_new w v6 hi lo k)
  have HB0 := Lib.hid (show Below w.heap.size w W0 by rw [hW0]; exact below_alloc6 w _)
  have HF := Lib.hid (fun W => rfmt_any v6 hi lo W h1 h2)
  have HI := Lib.hid (fun W => rnum6_any k W (by omega))
  have hl := fmtA_len h1 h2 hv
  have hl2 : (numL k).length ≤ 3 := num_len (by omega)
  have HC := Lib.hid (show str (fmtA v6 hi lo) ++ (⟨#[47]⟩ : ByteArray) ++ str (numL k) = str (fmtPA v6 hi lo k) by
    unfold fmtPA
    rw [show (47 : UInt8) :: numL k = [47] ++ numL k from rfl, ← List.append_assoc, ← str_append, ← str_append]; rfl)
  have hs1 : (str (fmtA v6 hi lo)).size ≤ 42 := by rw [str_size]; exact hl
  have hs2 : (str (numL k)).size ≤ 3 := by rw [str_size]; exact hl2
  generalize str (fmtA v6 hi lo) = P at *
  generalize str (numL k) = Q at *
  generalize hSe : str (fmtPA v6 hi lo k) = S at *
  have z1 : (9223372036854775807 < P.size + 1) = False := by simp only [eq_iff_iff, iff_false]; omega
  have z2 : (9223372036854775807 < P.size + 1 + Q.size) = False := by simp only [eq_iff_iff, iff_false]; omega
  clear h1 h2 hv hSe hl hl2
  go_enter Tryd.func26, Tryd.ntmps26
  go_wp2_with fail
  rw [← hW0]
  clear hW0
  refine wp_region_pick (fun w' => Below W0.heap.size W0 w') (by kernel_rfl) (by kernel_rfl) (Below.refl _ _) ⟨rfl, rfl, rfl, Nat.le_refl _, fun _ _ => rfl⟩ (fun p hp hq => ?_)
  have p0 : ∀ u, (p u).cell? ⟨w.heap.size, 0, none⟩ = some (.bool v6) := fun u => (HX.out.kept (hp u) HX.out.lt).c0
  have p1 : ∀ u, (p u).cell? ⟨w.heap.size, 1, none⟩ = some (.int .u64 hi) := fun u => (HX.out.kept (hp u) HX.out.lt).c1
  have p2 : ∀ u, (p u).cell? ⟨w.heap.size, 2, none⟩ = some (.int .u64 lo) := fun u => (HX.out.kept (hp u) HX.out.lt).c2
  have p3 : ∀ u, (p u).cell? ⟨w.heap.size, 3, none⟩ = some (.int .i64 k) := fun u => (HX.out.kept (hp u) HX.out.lt).c3
  have HP := Lib.hid hp
  have HQ := Lib.hid hq
  clear hp hq
  repeat (go_big_quiet_step ((first | with_reducible exact Calls.pick_of HQ.out (fun W' hb => (HP.out _).trans (hb.mono (HP.out _).size)) (HF.out _) | with_reducible exact Calls.pick_of HQ.out (fun W' hb => (HP.out _).trans (hb.mono (HP.out _).size)) (HI.out _))))
  refine wpQuiet_nil ?_
  rintro _ ⟨u, rfl⟩
  have HB := Lib.hid (HB0.out.trans ((HP.out u).mono HB0.out.size))
  generalize p u = w4 at *
  clear HP HQ p0 p1 p2 p3
  go_wp2_with fail
  go_ret
  exact ⟨ret_str6 HC.out, HB.out⟩
end Go.Proofs.YtcblgbonijloiaaDoor

/- Contract of the reference of layer 6: Bytes. -/
namespace Go.Proofs.YtcblgbonijloiaaDoor
open Go.ChangeShapes Go.WideShapes Go.ChangeAt Go.RowKit
set_option linter.unusedVariables false

set_option maxHeartbeats 4000000 in
set_option maxRecDepth 20000 in
theorem rbytes_any (v6 : Bool) (hi lo : Nat) (w : World) (b1 : hi < 18446744073709551616) (b2 : lo < 18446744073709551616) :
    Calls Tryd.prog 24 #[.agg #[.bool v6, .int .u64 hi, .int .u64 lo]] w fun e w' => e = .returned (.string (str (adrB v6 hi lo))) ∧ Below w.heap.size w w' := by
  have HB0' := Lib.hid (below_alloc6 w (.cells #[.bool v6, .int .u64 hi, .int .u64 lo] 25))
  obtain ⟨W0, hW0⟩ : ∃ W, W = w.alloc (.cells #[.bool v6, .int .u64 hi, .int .u64 lo] 25) := ⟨_, rfl⟩
  have HXs := Lib.hid (show AB W0 w.heap.size v6 hi lo by rw [hW0]; exact ab_new w v6 hi lo)
  have HXL := Lib.hid (show w.heap.size < W0.heap.size from HXs.out.lt)
  have HBw := Lib.hid (show Below w.heap.size w W0 by rw [hW0]; exact below_alloc6 w _)
  have HBs := Lib.hid (Below.refl W0.heap.size W0)
  have HOs := Lib.hid (show W0.ownsRow W0.heap.size 5 1 (.slice none 0 0) 0 (cellsOf []) from World.ownsRow_nil W0 W0.heap.size 5 1)
  obtain ⟨i0, hinf, hz0, hz1, hz2⟩ := info_parts info5
  cases v6 with
  | true =>
    have HTs := Lib.hid (show ([] : By) ++ (leL 8 hi).reverse = (leL 8 hi).reverse from rfl)
    have x0 := HXs.out.c0
    go_enter Tryd.func24, Tryd.ntmps24
    go_wp2_with fail
    rw [← hW0]
    clear hW0
    go_loopw [3, 4] (fun v3 vi wr => ∃ (j cap : Nat) (i : Int) (A : Option Addr) (M : List UInt8), v3 = .slice A M.length cap ∧ vi = .int .i64 i ∧ i + 1 = (j : Int) ∧ j ≤ 8 ∧ M.length + j = 8 ∧ Hid (M ++ (leL j hi).reverse = (leL 8 hi).reverse) ∧ Hid (AB wr w.heap.size true hi lo) ∧ Hid (Below W0.heap.size W0 wr) ∧ Hid (wr.ownsRow W0.heap.size 5 1 (.slice A M.length cap) M.length (cellsOf M))) (fun _ vi _ => (intOf vi + 1).toNat)
    case atStart => exact ⟨8, 0, 7, none, [], rfl, rfl, rfl, Nat.le_refl _, rfl, HTs, HXs, HBs, HOs⟩
    case round =>
      clear HXs HBs HOs HTs
      obtain ⟨j, cap, i, A, M, rfl, rfl, hij, hj, hMl, HT, HX, HB, HO⟩ := hrel
      have hsz := HB.out.size
      cases j with
      | succ j =>
        obtain rfl : i = (j : Int) := by omega
        have d0 : decide ((0 : Int) ≤ (j : Int)) = true := by simp
        have p0 : (0 : Int) ≤ (j : Int) := by omega
        have hj8 : j < 8 := by omega
        obtain ⟨s, hs⟩ : ∃ s, s = 8 * j := ⟨_, rfl⟩
        have hsi : (8 : Int) * (j : Int) = (s : Int) := by omega
        have hs64 : s < 64 := by omega
        obtain ⟨q, hq⟩ : ∃ q, q = hi / 2 ^ s := ⟨_, rfl⟩
        have hqi : (hi : Int) / 2 ^ s = (q : Int) := by rw [hq, Int.natCast_ediv]; simp
        have hq64 : q < 18446744073709551616 := Nat.lt_of_le_of_lt (by rw [hq]; exact Nat.div_le_self _ _) b1
        have hqd : q = hi / (2 ^ 8) ^ j := by rw [hq, hs, Nat.pow_mul]
        obtain ⟨X, hX⟩ : ∃ X : Nat, X = (UInt8.ofNat (hi / 256 ^ j % 256)).toNat := ⟨_, rfl⟩
        have hXi : (q : Int) % 256 = (X : Int) := by rw [hX, UInt8.toNat_ofNat', hqd, show (2 ^ 8 : Nat) = 256 from rfl]; simp
        obtain ⟨M2, hM2e⟩ : ∃ M2, M2 = M ++ [UInt8.ofNat (hi / 256 ^ j % 256)] := ⟨_, rfl⟩
        have HSN := Lib.hid (show cellsOf M ++ [.int .u8 X] = cellsOf M2 by rw [hM2e, hX]; simp [cellsOf])
        have hM2l : M.length + 1 = M2.length := by rw [hM2e]; simp
        have HT2 := Lib.hid (show M2 ++ (leL j hi).reverse = (leL 8 hi).reverse by have h := HT.out; rw [leL_snoc, List.reverse_append] at h; rw [hM2e, ← h]; simp)
        clear hX
        have x1 := HX.out.c1
        have HB2 := Lib.hid (HB.out.alloc hsz (.cells #[.int .u8 X] 5))
        have HX2 := Lib.hid (HX.out.al (.cells #[.int .u8 X] 5))
        have HJ := Lib.hid hij
        have hMj : M2.length + j = 8 := by omega
        have hjm : j ≤ 8 := by omega
        have hMb : M.length ≤ 100 := by omega
        clear hq hs hqd hM2e HT hij
        go_wp2_with (at_builtin; refine wpList_append_lies _ rfl _ _ 71 rfl W0.heap.size 5 i0 (.int .u8 0) 1 1 Tryd.underlying71 hinf hz0 hz1 hz2 rfl (by omega) _ M.length (cellsOf M) rfl (HO.out.alloc _) ⟨wr.heap.size, 0, none⟩ 1 1 [.int .u8 X] rfl rfl ?c1 ?c2 (by omega) ?c3 ?c4 ?c5 _ rfl ?_)
        case c1 => exact World.news_of_block (cs := #[.int .u8 X]) (t := 5) (fr := (0, 0)) (heap_alloc_new wr _)
        case c2 => simp [Value.oneCell']
        case c3 => unfold maxLen; omega
        case c4 => omega
        case c5 => simp; omega
        intro g2 cap2 w3 hown3 hgrow hat hlt2
        have hB3 := HB2.out.grown hgrow (by simp; omega) (fun j hj => (HO.out.lt j hj).1)
        have hX3 : AB w3 w.heap.size true hi lo := HX.out.kept (((Below.refl W0.heap.size wr).alloc hsz (.cells #[.int .u8 X] 5)).grown hgrow (by simp; omega) (fun j hj => (HO.out.lt j hj).1)) HXL.out
        rw [HSN.out] at hown3
        try rw [hM2l] at hown3
        try rw [hM2l]
        have HB3 := Lib.hid hB3
        have HX3 := Lib.hid hX3
        have HO3 := Lib.hid hown3
        clear hB3 hown3 hgrow hat hlt2 HB HO HB2 HX HX2 hM2l hX3
        go_wp2_with fail
        go_roundw
        case rel => exact ⟨j, cap2, (j : Int) - 1, some ⟨g2, 0, none⟩, M2, rfl, by go_num, by omega, hjm, hMj, HT2, HX3, HB3, HO3⟩
        case measure => first | (simp [intOf]; done) | (simp [intOf]; omega)
      | zero =>
        obtain rfl : i = -1 := by omega
        have d0 : decide ((0 : Int) ≤ -1) = false := rfl
        have n0 : ¬ (0 : Int) ≤ -1 := by omega
        have hTT : M = (leL 8 hi).reverse := by have h := HT.out; simpa [leL] using h
        have HM8 := Lib.hid (show M.length = 8 by omega)
        clear HT hij hj hMl
        have HTs := Lib.hid (show M ++ (leL 8 lo).reverse = (leL 8 hi).reverse ++ (leL 8 lo).reverse from by rw [hTT])
        have HXs := HX
        have HBs := HB
        have HOs := HO
        have x2 := HX.out.c2
        clear hTT HX HB HO
        go_wp2_with fail
        go_loopw [3, 5] (fun v3 vi wr => ∃ (j cap : Nat) (i : Int) (A : Option Addr) (M : List UInt8), v3 = .slice A M.length cap ∧ vi = .int .i64 i ∧ i + 1 = (j : Int) ∧ j ≤ 8 ∧ M.length + j = 16 ∧ Hid (M ++ (leL j lo).reverse = (leL 8 hi).reverse ++ (leL 8 lo).reverse) ∧ Hid (AB wr w.heap.size true hi lo) ∧ Hid (Below W0.heap.size W0 wr) ∧ Hid (wr.ownsRow W0.heap.size 5 1 (.slice A M.length cap) M.length (cellsOf M))) (fun _ vi _ => (intOf vi + 1).toNat)
        case atStart => exact ⟨8, cap, 7, A, M, rfl, rfl, rfl, Nat.le_refl _, by have := HM8.out; omega, HTs, HXs, HBs, HOs⟩
        case round =>
          clear HXs HBs HOs HTs
          obtain ⟨j, cap, i, A, M, rfl, rfl, hij, hj, hMl, HT, HX, HB, HO⟩ := hrel
          have hsz := HB.out.size
          cases j with
          | succ j =>
            obtain rfl : i = (j : Int) := by omega
            have d0 : decide ((0 : Int) ≤ (j : Int)) = true := by simp
            have p0 : (0 : Int) ≤ (j : Int) := by omega
            have hj8 : j < 8 := by omega
            obtain ⟨s, hs⟩ : ∃ s, s = 8 * j := ⟨_, rfl⟩
            have hsi : (8 : Int) * (j : Int) = (s : Int) := by omega
            have hs64 : s < 64 := by omega
            obtain ⟨q, hq⟩ : ∃ q, q = lo / 2 ^ s := ⟨_, rfl⟩
            have hqi : (lo : Int) / 2 ^ s = (q : Int) := by rw [hq, Int.natCast_ediv]; simp
            have hq64 : q < 18446744073709551616 := Nat.lt_of_le_of_lt (by rw [hq]; exact Nat.div_le_self _ _) b2
            have hqd : q = lo / (2 ^ 8) ^ j := by rw [hq, hs, Nat.pow_mul]
            obtain ⟨X, hX⟩ : ∃ X : Nat, X = (UInt8.ofNat (lo / 256 ^ j % 256)).toNat := ⟨_, rfl⟩
            have hXi : (q : Int) % 256 = (X : Int) := by rw [hX, UInt8.toNat_ofNat', hqd, show (2 ^ 8 : Nat) = 256 from rfl]; simp
            obtain ⟨M2, hM2e⟩ : ∃ M2, M2 = M ++ [UInt8.ofNat (lo / 256 ^ j % 256)] := ⟨_, rfl⟩
            have HSN := Lib.hid (show cellsOf M ++ [.int .u8 X] = cellsOf M2 by rw [hM2e, hX]; simp [cellsOf])
            have hM2l : M.length + 1 = M2.length := by rw [hM2e]; simp
            have HT2 := Lib.hid (show M2 ++ (leL j lo).reverse = (leL 8 hi).reverse ++ (leL 8 lo).reverse by have h := HT.out; rw [leL_snoc, List.reverse_append] at h; rw [hM2e, ← h]; simp)
            clear hX
            have x2 := HX.out.c2
            have HB2 := Lib.hid (HB.out.alloc hsz (.cells #[.int .u8 X] 5))
            have HX2 := Lib.hid (HX.out.al (.cells #[.int .u8 X] 5))
            have HJ := Lib.hid hij
            have hMj : M2.length + j = 16 := by omega
            have hjm : j ≤ 8 := by omega
            have hMb : M.length ≤ 100 := by omega
            clear hq hs hqd hM2e HT hij
            go_wp2_with (at_builtin; refine wpList_append_lies _ rfl _ _ 71 rfl W0.heap.size 5 i0 (.int .u8 0) 1 1 Tryd.underlying71 hinf hz0 hz1 hz2 rfl (by omega) _ M.length (cellsOf M) rfl (HO.out.alloc _) ⟨wr.heap.size, 0, none⟩ 1 1 [.int .u8 X] rfl rfl ?c1 ?c2 (by omega) ?c3 ?c4 ?c5 _ rfl ?_)
            case c1 => exact World.news_of_block (cs := #[.int .u8 X]) (t := 5) (fr := (0, 0)) (heap_alloc_new wr _)
            case c2 => simp [Value.oneCell']
            case c3 => unfold maxLen; omega
            case c4 => omega
            case c5 => simp; omega
            intro g2 cap2 w3 hown3 hgrow hat hlt2
            have hB3 := HB2.out.grown hgrow (by simp; omega) (fun j hj => (HO.out.lt j hj).1)
            have hX3 : AB w3 w.heap.size true hi lo := HX.out.kept (((Below.refl W0.heap.size wr).alloc hsz (.cells #[.int .u8 X] 5)).grown hgrow (by simp; omega) (fun j hj => (HO.out.lt j hj).1)) HXL.out
            rw [HSN.out] at hown3
            try rw [hM2l] at hown3
            try rw [hM2l]
            have HB3 := Lib.hid hB3
            have HX3 := Lib.hid hX3
            have HO3 := Lib.hid hown3
            clear hB3 hown3 hgrow hat hlt2 HB HO HB2 HX HX2 hM2l hX3
            go_wp2_with fail
            go_roundw
            case rel => exact ⟨j, cap2, (j : Int) - 1, some ⟨g2, 0, none⟩, M2, rfl, by go_num, by omega, hjm, hMj, HT2, HX3, HB3, HO3⟩
            case measure => first | (simp [intOf]; done) | (simp [intOf]; omega)
          | zero =>
            obtain rfl : i = -1 := by omega
            have d0 : decide ((0 : Int) ≤ -1) = false := rfl
            have n0 : ¬ (0 : Int) ≤ -1 := by omega
            have hTT : M = (leL 8 hi).reverse ++ (leL 8 lo).reverse := by have h := HT.out; simpa [leL] using h
            have HM8 := Lib.hid (show M.length = 16 by omega)
            clear HT hij hj hMl
            have hcv := bs_string (bs_of_own HO.out)
            have HF := Lib.hid (show str M = str (adrB true hi lo) by rw [hTT]; rfl)
            have HBE := Lib.hid (HBw.out.trans (HB.out.mono HBw.out.size))
            generalize str M = S at *
            clear hTT
            go_wp2_with fail
            go_ret
            exact ⟨by rw [← HF.out]; rfl, HBE.out⟩
  | false =>
    have HTs := Lib.hid (show ([] : By) ++ (leL 4 lo).reverse = (leL 4 lo).reverse from rfl)
    have x0 := HXs.out.c0
    go_enter Tryd.func24, Tryd.ntmps24
    go_wp2_with fail
    rw [← hW0]
    clear hW0
    go_loopw [3, 6] (fun v3 vi wr => ∃ (j cap : Nat) (i : Int) (A : Option Addr) (M : List UInt8), v3 = .slice A M.length cap ∧ vi = .int .i64 i ∧ i + 1 = (j : Int) ∧ j ≤ 4 ∧ M.length + j = 4 ∧ Hid (M ++ (leL j lo).reverse = (leL 4 lo).reverse) ∧ Hid (AB wr w.heap.size false hi lo) ∧ Hid (Below W0.heap.size W0 wr) ∧ Hid (wr.ownsRow W0.heap.size 5 1 (.slice A M.length cap) M.length (cellsOf M))) (fun _ vi _ => (intOf vi + 1).toNat)
    case atStart => exact ⟨4, 0, 3, none, [], rfl, rfl, rfl, Nat.le_refl _, rfl, HTs, HXs, HBs, HOs⟩
    case round =>
      clear HXs HBs HOs HTs
      obtain ⟨j, cap, i, A, M, rfl, rfl, hij, hj, hMl, HT, HX, HB, HO⟩ := hrel
      have hsz := HB.out.size
      cases j with
      | succ j =>
        obtain rfl : i = (j : Int) := by omega
        have d0 : decide ((0 : Int) ≤ (j : Int)) = true := by simp
        have p0 : (0 : Int) ≤ (j : Int) := by omega
        have hj8 : j < 4 := by omega
        obtain ⟨s, hs⟩ : ∃ s, s = 8 * j := ⟨_, rfl⟩
        have hsi : (8 : Int) * (j : Int) = (s : Int) := by omega
        have hs64 : s < 64 := by omega
        obtain ⟨q, hq⟩ : ∃ q, q = lo / 2 ^ s := ⟨_, rfl⟩
        have hqi : (lo : Int) / 2 ^ s = (q : Int) := by rw [hq, Int.natCast_ediv]; simp
        have hq64 : q < 18446744073709551616 := Nat.lt_of_le_of_lt (by rw [hq]; exact Nat.div_le_self _ _) b2
        have hqd : q = lo / (2 ^ 8) ^ j := by rw [hq, hs, Nat.pow_mul]
        obtain ⟨X, hX⟩ : ∃ X : Nat, X = (UInt8.ofNat (lo / 256 ^ j % 256)).toNat := ⟨_, rfl⟩
        have hXi : (q : Int) % 256 = (X : Int) := by rw [hX, UInt8.toNat_ofNat', hqd, show (2 ^ 8 : Nat) = 256 from rfl]; simp
        obtain ⟨M2, hM2e⟩ : ∃ M2, M2 = M ++ [UInt8.ofNat (lo / 256 ^ j % 256)] := ⟨_, rfl⟩
        have HSN := Lib.hid (show cellsOf M ++ [.int .u8 X] = cellsOf M2 by rw [hM2e, hX]; simp [cellsOf])
        have hM2l : M.length + 1 = M2.length := by rw [hM2e]; simp
        have HT2 := Lib.hid (show M2 ++ (leL j lo).reverse = (leL 4 lo).reverse by have h := HT.out; rw [leL_snoc, List.reverse_append] at h; rw [hM2e, ← h]; simp)
        clear hX
        have x2 := HX.out.c2
        have HB2 := Lib.hid (HB.out.alloc hsz (.cells #[.int .u8 X] 5))
        have HX2 := Lib.hid (HX.out.al (.cells #[.int .u8 X] 5))
        have HJ := Lib.hid hij
        have hMj : M2.length + j = 4 := by omega
        have hjm : j ≤ 4 := by omega
        have hMb : M.length ≤ 100 := by omega
        clear hq hs hqd hM2e HT hij
        go_wp2_with (at_builtin; refine wpList_append_lies _ rfl _ _ 71 rfl W0.heap.size 5 i0 (.int .u8 0) 1 1 Tryd.underlying71 hinf hz0 hz1 hz2 rfl (by omega) _ M.length (cellsOf M) rfl (HO.out.alloc _) ⟨wr.heap.size, 0, none⟩ 1 1 [.int .u8 X] rfl rfl ?c1 ?c2 (by omega) ?c3 ?c4 ?c5 _ rfl ?_)
        case c1 => exact World.news_of_block (cs := #[.int .u8 X]) (t := 5) (fr := (0, 0)) (heap_alloc_new wr _)
        case c2 => simp [Value.oneCell']
        case c3 => unfold maxLen; omega
        case c4 => omega
        case c5 => simp; omega
        intro g2 cap2 w3 hown3 hgrow hat hlt2
        have hB3 := HB2.out.grown hgrow (by simp; omega) (fun j hj => (HO.out.lt j hj).1)
        have hX3 : AB w3 w.heap.size false hi lo := HX.out.kept (((Below.refl W0.heap.size wr).alloc hsz (.cells #[.int .u8 X] 5)).grown hgrow (by simp; omega) (fun j hj => (HO.out.lt j hj).1)) HXL.out
        rw [HSN.out] at hown3
        try rw [hM2l] at hown3
        try rw [hM2l]
        have HB3 := Lib.hid hB3
        have HX3 := Lib.hid hX3
        have HO3 := Lib.hid hown3
        clear hB3 hown3 hgrow hat hlt2 HB HO HB2 HX HX2 hM2l hX3
        go_wp2_with fail
        go_roundw
        case rel => exact ⟨j, cap2, (j : Int) - 1, some ⟨g2, 0, none⟩, M2, rfl, by go_num, by omega, hjm, hMj, HT2, HX3, HB3, HO3⟩
        case measure => first | (simp [intOf]; done) | (simp [intOf]; omega)
      | zero =>
        obtain rfl : i = -1 := by omega
        have d0 : decide ((0 : Int) ≤ -1) = false := rfl
        have n0 : ¬ (0 : Int) ≤ -1 := by omega
        have hTT : M = (leL 4 lo).reverse := by have h := HT.out; simpa [leL] using h
        have HM8 := Lib.hid (show M.length = 4 by omega)
        clear HT hij hj hMl
        have hcv := bs_string (bs_of_own HO.out)
        have HF := Lib.hid (show str M = str (adrB false hi lo) by rw [hTT]; rfl)
        have HBE := Lib.hid (HBw.out.trans (HB.out.mono HBw.out.size))
        generalize str M = S at *
        clear hTT
        go_wp2_with fail
        go_ret
        exact ⟨by rw [← HF.out]; rfl, HBE.out⟩
end Go.Proofs.YtcblgbonijloiaaDoor

/- Contract of the reference of layer 6: Bounds. -/
namespace Go.Proofs.YtcblgbonijloiaaDoor
open Go.ChangeShapes Go.WideShapes Go.ChangeAt Go.RowKit
set_option linter.unusedVariables false

set_option maxHeartbeats 2000000 in
set_option maxRecDepth 20000 in
theorem rbounds_any (v6 : Bool) (hi lo k : Nat) (w : World) (b1 : hi < 18446744073709551616) (b2 : lo < 18446744073709551616) (hk : k ≤ width v6) :
    Calls Tryd.prog 28 #[.agg #[.bool v6, .int .u64 hi, .int .u64 lo, .int .i64 k]] w fun e w' => e = .returned (.agg #[.bool v6, .int .u64 hi, .int .u64 lo, .bool v6, .int .u64 (lowO (frH v6 k) hi : Nat), .int .u64 (lowO (frL v6 k) lo : Nat)]) ∧ Below w.heap.size w w' := by
  obtain ⟨W, hW⟩ : ∃ W, W = (w.alloc (.cells #[.bool v6, .int .u64 hi, .int .u64 lo, .int .i64 k] 30)).alloc (.cells #[.bool false, .int .u64 0, .int .u64 0, .bool false, .int .u64 0, .int .u64 0] 40) := ⟨_, rfl⟩
  have HX := Lib.hid (show PB W w.heap.size v6 hi lo k by rw [hW]; exact (pb_new w v6 hi lo k).kept (below_alloc6 _ _) (alloc_lt6 w _))
  have HR := Lib.hid (show RB W (w.heap.size + 1) false 0 0 false 0 0 from by
    rw [hW]
    have := rb_new (w.alloc (.cells #[.bool v6, .int .u64 hi, .int .u64 lo, .int .i64 k] 30)) false 0 0 false 0 0
    rwa [show (w.alloc (.cells #[.bool v6, .int .u64 hi, .int .u64 lo, .int .i64 k] 30)).heap.size = w.heap.size + 1 by simp] at this)
  have HB := Lib.hid (show Below w.heap.size w W by rw [hW]; exact below2 w _ _)
  have HWI := Lib.hid (fun W => rwithT_any v6 hi lo k W b1 b2 hk)
  generalize lowO (frH v6 k) hi = hi' at *
  generalize lowO (frL v6 k) lo = lo' at *
  clear b1 b2 hk
  go_enter Tryd.func28, Tryd.ntmps28
  go_wp2_with fail
  rw [← hW]
  clear hW
  have p0 := HX.out.c0
  have p1 := HX.out.c1
  have p2 := HX.out.c2
  have p3 := HX.out.c3
  go_region_held3 (fun w' => w'.cell? ⟨w.heap.size, 0, none⟩ = some (.bool v6) ∧ w'.cell? ⟨w.heap.size, 1, none⟩ = some (.int .u64 hi) ∧ w'.cell? ⟨w.heap.size, 2, none⟩ = some (.int .u64 lo) ∧ w'.cell? ⟨w.heap.size, 3, none⟩ = some (.int .i64 k)) (go_keep) (first
    | (go_at_call 50; refine (HWI.out _).mono ?_; rintro e w5 ⟨rfl, hb3d⟩; have hb5 : Below W.heap.size W w5 := ⟨hb3d.os, hb3d.tape, hb3d.output, hb3d.size, hb3d.block⟩; have hx5 := HX.out.kept hb5 HX.out.lt; have hr5 := HR.out.kept hb5 HR.out.lt; have j0 := hx5.c0; have j1 := hx5.c1; have j2 := hx5.c2; have j3 := hx5.c3; have i0 := hr5.f 0; have i1 := hr5.f 1; have i2 := hr5.f 2; have i3 := hr5.f 3; have i4 := hr5.f 4; have i5 := hr5.f 5; have c0 : w5.cell? ⟨w.heap.size + 1, 0, none⟩ = some (.bool false) := (hr5.c 0).trans rfl; have c1 : w5.cell? ⟨w.heap.size + 1, 1, none⟩ = some (.int .u64 0) := (hr5.c 1).trans rfl; have c2 : w5.cell? ⟨w.heap.size + 1, 2, none⟩ = some (.int .u64 0) := (hr5.c 2).trans rfl; have c3 : w5.cell? ⟨w.heap.size + 1, 3, none⟩ = some (.bool false) := (hr5.c 3).trans rfl; have c4 : w5.cell? ⟨w.heap.size + 1, 4, none⟩ = some (.int .u64 0) := (hr5.c 4).trans rfl; have c5 : w5.cell? ⟨w.heap.size + 1, 5, none⟩ = some (.int .u64 0) := (hr5.c 5).trans rfl))
  all_goals
    have HR5 := Lib.hid hr5
    have HB5 := Lib.hid (HB.out.trans (hb5.mono HB.out.size))
    clear hb5 hx5 hr5 j0 j1 j2 j3 i0 i1 i2 i3 i4 i5 c0 c1 c2 c3 c4 c5 p0 p1 p2 p3
    go_wp2_with fail
    have HR6 := HR5.out.set v6 hi lo v6 hi' lo'
    have HB6 := rset_below HB5.out (g := w.heap.size + 1) (Nat.le_succ _) v6 hi lo v6 hi' lo'
    change bodyPost _ _ _ _ _ (rset _ (w.heap.size + 1) v6 hi lo v6 hi' lo')
    exact bodyPost_ret (res_rng1 rfl _ _ rfl HR6) rfl ⟨rfl, HB6⟩
end Go.Proofs.YtcblgbonijloiaaDoor

/- The listed variables of layer 6 (tables of the library), and the wrap that keeps the world's shape. -/
namespace Go.Proofs.YtcblgbonijloiaaDoor
open Go.ChangeShapes Go.WideShapes Go.ChangeAt Go.RowKit

/-- What the rows list. -/
def laidL : List (String × DataW Unit) := [("math/bits.deBruijn32tab", Rows.laid_math_bits_deBruijn32tab), ("math/bits.deBruijn64tab", Rows.laid_math_bits_deBruijn64tab), ("internal/strconv.uint64pow10", Rows.laid_internal_strconv_uint64pow10), ("unicode/utf8.acceptRanges", Rows.laid_unicode_utf8_acceptRanges), ("unicode/utf8.first", Rows.laid_unicode_utf8_first)]
/-- The witness's heap, with the tables laid, meets the condition. -/
theorem door_met (os : Os) (args : Array Value) : laidMetH Tryd.prog laidL ((World.laidAll Tryd.prog os laidL).forCall (fun _ _ => 0) ⟨#[], args, []⟩).memory := by
  rw [MakeChecks.laidMetH_plain _ _ _ (by kernel_rfl)]
  exact laidMet_laidAll _ (by kernel_rfl) (by kernel_rfl)
theorem gDb64 : Tryd.prog.globalNamed "math/bits.deBruijn64tab" = some 5 := by kernel_rfl
theorem tDb64 : (Tryd.prog.globals[5]?).map (·.type) = some 133 := by kernel_rfl
theorem tPow10 : (Tryd.prog.globals[1]?).map (·.type) = some 123 := by kernel_rfl
theorem cU8 : Tryd.prog.cellsOf 5 = 1 := by kernel_rfl
theorem cU64 : Tryd.prog.cellsOf 23 = 1 := by kernel_rfl
theorem cDb64 : Tryd.prog.cellsOf 133 = 64 := by kernel_rfl
theorem cPow10 : Tryd.prog.cellsOf 123 = 20 := by kernel_rfl
def db64L : List Int := [0, 1, 56, 2, 57, 49, 28, 3, 61, 58, 42, 50, 38, 29, 17, 4, 62, 47, 59, 36, 45, 43, 51, 22, 53, 39, 33, 30, 24, 18, 12, 5, 63, 55, 48, 27, 60, 41, 37, 16, 46, 35, 44, 21, 52, 32, 23, 11, 54, 26, 40, 15, 34, 20, 31, 10, 25, 14, 19, 9, 13, 8, 7, 6]
theorem tied_of_laid {W : World} (h : laidMetH Tryd.prog laidL W) (hsh : W.ShapedOpen Tryd.prog) : TW W := by
  rw [MakeChecks.laidMetH_plain _ _ _ (by kernel_rfl)] at h
  have h1 := laidMet.tail h
  have h2 := laidMet.tail h1
  have hT := Lib.tabIs_of_head (zs := db64L) (k := .u8) gDb64 tDb64 Tryd.underlying133 Tryd.underlying5 cU8 cDb64 h1
  have hP := Lib.tabIs_of_head (zs := Lib.pow10Tab) (k := .u64) gPow10 tPow10 Tryd.underlying123 Tryd.underlying23 cU64 cPow10 h2
  refine ⟨?_, hP, ?_⟩
  · exact cell_of_shapedOpen_int (t := 3) (zero := #[.int .i64 0]) hsh (by decide +kernel) (by kernel_rfl) rfl (by kernel_rfl) (by kernel_rfl) Tryd.underlying3
  · exact Lib.TabIs.cell hT gDb64 15 (by decide)
variable {H : Type} {enc : TypeId × Value → H}
/-- The wrap of a law that lists variables and is handed the world's shape. -/
theorem wrap6 {a : Assume} {C : Checked} {os : Os} {f : FuncId} {fn : Func} {s : ChangeSpec} {conds : List PathCond} {apart fresh handsOn again : Bool} {X : World → Array Value → Prop}
    (hX : ∀ (w w' : World) (args : Array Value), w.heap = w'.heap → X w args → X w' args)
    (own : ownKnob C.prog.godebug = none) (started : os.Started) (noInit : C.prog.inits.idxOf? f = none) (hfn : C.prog.funcs[f]? = some fn)
    (witness : ∃ (w : World) (tape : Tape) (i : Input), w.os = os ∧ (w.forCall tape i).Shaped C.prog ∧ i.vars = [] ∧ Input.okWide C.prog (w.forCall tape i) .any w.heap.size f i ∧
      ((s.pre enc C.prog fn conds apart (w.forCall tape i).memory i.args ∧ X (w.forCall tape i).memory i.args) ∧ sizedMet enc C.prog fn (OpenSpec.ofChange s) apart (w.forCall tape i).memory i.args) ∧ a.holds C.prog (lone (Frame.enter C.prog f i.args .normal) [] (w.forCall tape i)))
    (walk : ∀ (W : World) (base : Nat) (args : Array Value) (ds gs : List (DataW H)) (before : List MemPlace),
      (∀ (j : Nat) t v, fn.params[j]? = some t → args[j]? = some v → Value.okWide C.prog W .any base t v) →
      DataW.Whole enc C.prog fn.params.toList s.vars apart W args.toList ds gs before → X W args → W.ShapedOpen C.prog →
      Calls C.prog f args W fun e W' => ∃ v, e = .returned v ∧ s.post enc C.prog fn apart fresh handsOn again W args v W') :
    ReturnsInHanded a C os f .any (fun w args => (s.pre enc C.prog fn conds apart w args ∧ X w args) ∧ sizedMet enc C.prog fn (OpenSpec.ofChange s) apart w args) (s.post enc C.prog fn apart fresh handsOn again) := by
  refine returnsInHanded_of_calls own started noInit witness ?_
  intro w tape i _ hsh _ hok hpre _
  obtain ⟨_, _, _, fn2, hfn2, _, _, _, _, hval⟩ := hok
  obtain rfl : fn2 = fn := Option.some.inj (hfn2.symm.trans hfn)
  obtain ⟨⟨⟨ds, gs, before, hw, _⟩, hx⟩, _⟩ := hpre
  refine (walk (w.forCall tape i) w.heap.size i.args ds gs before hval (DataW.Whole.of_heap (w' := w.forCall tape i) (by rfl) hw) (hX _ _ _ (by rfl) hx) hsh).mono fun e W' ⟨v, he, hp⟩ => ?_
  subst he
  exact ChangeSpec.post_blind hp
theorem cellsAddr6 : Tryd.prog.cellsOf 25 = 3 := by kernel_rfl
end Go.Proofs.YtcblgbonijloiaaDoor

/- Small facts for the laws of layer 6; the reference's FromBytes of every length. -/
namespace Go.Proofs.YtcblgbonijloiaaDoor
open Go.ChangeShapes Go.WideShapes Go.ChangeAt Go.RowKit
set_option linter.unusedVariables false

theorem nat_of_wf6 {n : Int} (h : (Lit.int .u64 n).wf = true) : ∃ k : Nat, n = (k : Int) ∧ k < 18446744073709551616 := by
  have h' : IntKind.u64.min ≤ n ∧ n ≤ IntKind.u64.max := by simpa [Lit.wf] using h
  have h0 : (0 : Int) ≤ n := h'.1
  have h1 : n ≤ 18446744073709551615 := h'.2
  obtain ⟨k, rfl⟩ := Int.eq_ofNat_of_zero_le h0
  exact ⟨k, rfl, by omega⟩
theorem int_of_wf6 {n : Int} (h : (Lit.int .i64 n).wf = true) : -9223372036854775808 ≤ n ∧ n ≤ 9223372036854775807 := by
  have h' : IntKind.i64.min ≤ n ∧ n ≤ IntKind.i64.max := by simpa [Lit.wf] using h
  exact ⟨h'.1, h'.2⟩
set_option maxHeartbeats 1000000 in
set_option maxRecDepth 20000 in
theorem rfrom6_other (s : ByteArray) (w : World) (h4 : s.size ≠ 4) (h16 : s.size ≠ 16) (hs : s.size ≤ 1000) :
    Calls Tryd.prog 30 #[.string s] w fun e w' => e = .returned (.tuple #[.agg #[.bool false, .int .u64 0, .int .u64 0], .int .i64 2]) ∧ Below w.heap.size w w' := by
  have n4 : ¬ (s.size : Int) = 4 := by omega
  have d4 : ((s.size : Int) != 4) = true := by rw [bne_iff_ne]; exact n4
  have n16 : ¬ (s.size : Int) = 16 := by omega
  have d16 : ((s.size : Int) != 16) = true := by rw [bne_iff_ne]; exact n16
  go_enter Tryd.func30, Tryd.ntmps30
  go_wp2_with fail
  exact bodyPost_ret (res_addr2 rfl _ _ rfl (ab_new w false 0 0)) rfl ⟨rfl, below_alloc6 w _⟩
theorem rfrom_any (s : ByteArray) (w : World) (hs : s.size ≤ 1000) :
    Calls Tryd.prog 30 #[.string s] w fun e w' => e = .returned (fbRes s.data.toList) ∧ Below w.heap.size w w' := by
  have hlen := toList_length6 s
  unfold fbRes
  by_cases h4 : s.size = 4
  · rw [if_pos (by omega)]
    refine (rfrom6_false s w h4).mono ?_
    rintro e w' ⟨⟨hi, lo, rfl, hF⟩, hb⟩
    obtain ⟨rfl, e2⟩ := hF
    rw [List.take_of_length_le (by omega)] at e2
    subst e2
    exact ⟨rfl, hb⟩
  · rw [if_neg (by omega)]
    by_cases h16 : s.size = 16
    · rw [if_pos (by omega)]
      refine (rfrom6_true s w h16).mono ?_
      rintro e w' ⟨⟨hi, lo, rfl, hF⟩, hb⟩
      obtain ⟨e1, e2⟩ := hF
      rw [h16, show min 16 8 = 8 by decide] at e1
      rw [List.take_of_length_le (by omega)] at e2
      subst e1 e2
      exact ⟨rfl, hb⟩
    · rw [if_neg (by omega)]
      exact rfrom6_other s w h4 h16 hs
/-- The bytes of what FromBytes made. -/
theorem fb_back4 {l : By} (h : l.length = 4) : adrB false 0 (num l) = l := by
  apply num_inj
  · rw [adrB_length, h]; rfl
  · show num ((leL 4 (num l)).reverse) = _
    have := num_lt l
    rw [h] at this
    rw [num_reverse_leL, Nat.mod_eq_of_lt this]
theorem fb_back6 {l : By} (h : l.length = 16) : adrB true (num (l.take 8)) (num (l.drop 8)) = l := by
  have h1 : (l.take 8).length = 8 := by rw [List.length_take]; omega
  have h2 : (l.drop 8).length = 8 := by rw [List.length_drop]; omega
  have a := leL_reverse_num (l.take 8)
  have b := leL_reverse_num (l.drop 8)
  rw [h1] at a
  rw [h2] at b
  show (leL 8 (num (l.take 8))).reverse ++ (leL 8 (num (l.drop 8))).reverse = l
  rw [a, b, List.take_append_drop]
theorem num8_lt {l : By} (h : l.length ≤ 8) : num l < 18446744073709551616 := by
  have h1 := num_lt l
  have h2 : 256 ^ l.length ≤ 256 ^ 8 := Nat.pow_le_pow_right (by omega) h
  have e : (256 : Nat) ^ 8 = 18446744073709551616 := by decide
  omega
end Go.Proofs.YtcblgbonijloiaaDoor

/- Reading what was printed: plain facts for the laws. -/
namespace Go.Proofs.YtcblgbonijloiaaDoor
open Go.ChangeShapes Go.WideShapes Go.ChangeAt Go.RowKit
set_option linter.unusedVariables false

theorem fb_adrB {v : Bool} {hi lo : Nat} (h1 : hi < 18446744073709551616) (h2 : lo < 18446744073709551616) (hv : vldA v hi lo = true) : fbRes (adrB v hi lo) = adRes (some (v, hi, lo)) := by
  have h64 : (256 : Nat) ^ 8 = 18446744073709551616 := by decide
  cases v with
  | true =>
    have hl : (leL 8 hi).reverse.length = 8 := by rw [List.length_reverse, leL_length]
    have e : adrB true hi lo = (leL 8 hi).reverse ++ (leL 8 lo).reverse := rfl
    unfold fbRes
    rw [if_neg (by rw [adrB_length]; simp), if_pos (by rw [adrB_length]; rfl), e, List.take_append_of_le_length (by omega), List.take_of_length_le (by omega), List.drop_append_of_le_length (by omega), List.drop_of_length_le (by omega), List.nil_append, num_reverse_leL, num_reverse_leL, h64, Nat.mod_eq_of_lt h1, Nat.mod_eq_of_lt h2]
    rfl
  | false =>
    unfold vldA at hv
    simp only [Bool.false_or, Bool.and_eq_true, beq_iff_eq, decide_eq_true_eq] at hv
    obtain ⟨rfl, h⟩ := hv
    have e : adrB false 0 lo = (leL 4 lo).reverse := rfl
    have h4 : (256 : Nat) ^ 4 = 4294967296 := by decide
    unfold fbRes
    rw [if_pos (by rw [adrB_length]; rfl), e, num_reverse_leL, h4, Nat.mod_eq_of_lt h]
    rfl
theorem prs_fmtA {v : Bool} {hi lo : Nat} (h1 : hi < 18446744073709551616) (h2 : lo < 18446744073709551616) (hv : vldA v hi lo = true) : prs (fmtA v hi lo) = some (v, hi, lo) := by
  cases v with
  | true =>
    have hd := digitsOf_len 65536 8 (numA hi lo)
    have hl := digitsOf_lt (b := 65536) (by omega) 8 (numA hi lo)
    have hb := adrB_6 h1 h2
    have hf : fmtA true hi lo = fmt6 (digitsOf 65536 (numA hi lo) 8) := rfl
    rw [hf]
    have hfb := fb_groups hd hl
    rw [← hb, fb_adrB h1 h2 hv] at hfb
    unfold prs
    rw [parse4_no _ (fun x hx e => by
      subst e
      rcases fmt6_mem _ _ hx with h | h | h
      · exact absurd h (by decide)
      · exact absurd h.1 (by decide)
      · exact absurd h.1 (by decide)), parse6_fmt6 hd hl]
    show some (true, halfH _, halfL _) = _
    have key : ∀ (a b c d : Nat), adRes (some (true, a, b)) = adRes (some (true, c, d)) → a = c ∧ b = d := by
      intro a b c d h
      simp only [adRes, Value.tuple.injEq, Array.mk.injEq, List.cons.injEq, Value.agg.injEq, Value.int.injEq, true_and, and_true] at h
      omega
    obtain ⟨e1, e2⟩ := key _ _ _ _ hfb
    rw [← e1, ← e2]
  | false =>
    unfold vldA at hv
    simp only [Bool.false_or, Bool.and_eq_true, beq_iff_eq, decide_eq_true_eq] at hv
    obtain ⟨rfl, h⟩ := hv
    have hf : fmtA false 0 lo = fmt4 (digitsOf 256 lo 4) := rfl
    have h4 : (256 : Nat) ^ 4 = 4294967296 := by decide
    rw [hf]
    unfold prs
    rw [parse4_fmt4 (digitsOf_len _ _ _) (fun d hd => by have := digitsOf_lt (b := 256) (by omega) 4 lo d hd; omega)]
    show some (false, 0, ofDigits 256 (digitsOf 256 lo 4)) = _
    rw [ofDigits_of (by omega) 4 lo (by omega)]
theorem pRes_fmtA {v : Bool} {hi lo : Nat} (h1 : hi < 18446744073709551616) (h2 : lo < 18446744073709551616) (hv : vldA v hi lo = true) : pRes (fmtA v hi lo) = .tuple #[.agg #[.bool v, .int .u64 hi, .int .u64 lo], .int .i64 0] := by
  unfold pRes
  rw [if_neg (by have := fmtA_len h1 h2 hv; omega), prs_fmtA h1 h2 hv]
  rfl
theorem decV_num {k : Nat} (h : k ≤ 60000) : decV (numL k) = some k := by
  have h1 := decS_decV (most := 60000) (by omega) (numL k)
  rw [decS_num h] at h1
  cases hd : decV (numL k) with
  | none => rw [hd] at h1; simp only at h1; omega
  | some n =>
    rw [hd] at h1
    simp only at h1
    split at h1
    · omega
    · congr 1; omega
/-- The parts of a prefix that MakePrefix made. -/
theorem mk_lt {v : Bool} {k hi lo : Nat} (h1 : hi < 18446744073709551616) (h2 : lo < 18446744073709551616) : mkH v k hi < 18446744073709551616 ∧ mkL v k lo < 18446744073709551616 :=
  ⟨Nat.lt_of_le_of_lt (lowZ_le _ _) h1, Nat.lt_of_le_of_lt (lowZ_le _ _) h2⟩
theorem mk_valid {v : Bool} {k hi lo : Nat} (hv : vldA v hi lo = true) : vldA v (mkH v k hi) (mkL v k lo) = true := by
  cases v with
  | true => rfl
  | false =>
    unfold vldA at hv ⊢
    simp only [Bool.false_or, Bool.and_eq_true, beq_iff_eq, decide_eq_true_eq] at hv ⊢
    have a := lowZ_le (frH false k) hi
    have b := lowZ_le (frL false k) lo
    unfold mkH mkL
    omega
theorem mk_mk (v : Bool) (k hi lo : Nat) : mkH v k (mkH v k hi) = mkH v k hi ∧ mkL v k (mkL v k lo) = mkL v k lo := ⟨lowZ_lowZ _ _, lowZ_lowZ _ _⟩
theorem mk_cont {v : Bool} {k hi lo : Nat} (hk : k ≤ width v) : cntB v (mkH v k hi) (mkL v k lo) k v hi lo = true := by
  unfold cntB
  rw [decide_eq_true ⟨by omega, by omega⟩, Int.toNat_natCast]
  simp
theorem mk_vldP {v : Bool} {k hi lo : Nat} (hk : k ≤ width v) (hv : vldA v hi lo = true) : vldP v (mkH v k hi) (mkL v k lo) k = true := by
  unfold vldP
  rw [mk_valid hv, Bool.true_and]
  unfold cntB
  rw [decide_eq_true ⟨by omega, by omega⟩, Int.toNat_natCast, (mk_mk v k hi lo).1, (mk_mk v k hi lo).2]
  simp
theorem ppRes_fmtPA {v : Bool} {k hi lo : Nat} (h1 : hi < 18446744073709551616) (h2 : lo < 18446744073709551616) (hv : vldA v hi lo = true) (hk : k ≤ width v) (hm : mkH v k hi = hi ∧ mkL v k lo = lo) : ppRes (fmtPA v hi lo k) = .tuple #[.agg #[.bool v, .int .u64 hi, .int .u64 lo, .int .i64 k], .int .i64 0] := by
  have hw : width v ≤ 128 := by unfold width; split <;> omega
  have hl := fmtA_len h1 h2 hv
  have hn : (numL k).length ≤ 3 := num_len (by omega)
  have hc : cutAt 47 (fmtPA v hi lo k) = (fmtA v hi lo, some (numL k)) := cutAt_at _ _ (by rw [fmtA_fmtS hv]; exact fmt_no47 _)
  unfold ppRes
  rw [if_neg (by unfold fmtPA; rw [List.length_append, List.length_cons]; omega), hc]
  show (match prs (fmtA v hi lo) with | none => zeroP 2 | some (v, hi, lo) => ppEnd v hi lo (ppB v (some (numL k)))) = _
  rw [prs_fmtA h1 h2 hv]
  show ppEnd v hi lo (decV (numL k)) = _
  rw [decV_num (by omega), ppEnd_some, if_pos hk, if_pos hm]
end Go.Proofs.YtcblgbonijloiaaDoor

/- The reference's MakePrefix and Contains in the program's words. -/
namespace Go.Proofs.YtcblgbonijloiaaDoor
open Go.ChangeShapes Go.WideShapes Go.ChangeAt Go.RowKit
set_option linter.unusedVariables false

theorem rmake_any (v6 : Bool) (hi lo k : Nat) (w : World) (h1 : hi < 18446744073709551616) (h2 : lo < 18446744073709551616) (hb : k ≤ width v6) :
    Calls Tryd.prog 20 #[.agg #[.bool v6, .int .u64 hi, .int .u64 lo], .int .i64 k] w fun e w' => e = .returned (.tuple #[.agg #[.bool v6, .int .u64 (mkH v6 k hi : Nat), .int .u64 (mkL v6 k lo : Nat), .int .i64 k], .int .i64 0]) ∧ Below w.heap.size w w' := by
  refine (rmake6_ok v6 hi lo k w h1 h2 hb).mono ?_
  rintro e w' ⟨⟨hi', lo', rfl, hst⟩, hbel⟩
  obtain ⟨e1, e2⟩ := wst_mk hst h1 h2
  subst e1 e2
  exact ⟨rfl, hbel⟩
theorem cont_eq {v1 v2 : Bool} {h1 l1 k h2 l2 : Nat} (a2 : l1 < 18446744073709551616) (b1 : h2 < 18446744073709551616) (b2 : l2 < 18446744073709551616) (hk : v1 = v2 → k ≤ width v2) :
    (v1 == v2 && decide (cutN (width v2) k (numA h2 l2) = numA h1 l1)) = cntB v1 h1 l1 k v2 h2 l2 := by
  unfold cntB
  rw [Int.toNat_natCast]
  by_cases hv : v1 = v2
  · subst hv
    have hd : decide (0 ≤ (k : Int) ∧ (k : Int) ≤ (width v1 : Nat)) = true := decide_eq_true ⟨by omega, by have := hk rfl; omega⟩
    rw [hd, ← low_cut v1 k b2, Bool.eq_iff_iff]
    simp only [beq_self_eq_true, Bool.true_and, Bool.and_eq_true, beq_iff_eq, decide_eq_true_eq]
    rw [numA_inj (Nat.lt_of_le_of_lt (lowZ_le _ _) b2) a2]
    unfold mkH mkL
    omega
  · have e1 : (v1 == v2) = false := by simpa using hv
    have e2 : (v2 == v1) = false := by simpa using fun h => hv h.symm
    rw [e1, e2, Bool.false_and, Bool.false_and, Bool.and_false]
theorem rcont_any (v1 : Bool) (h1 l1 k : Nat) (v2 : Bool) (h2 l2 : Nat) (w : World) (a1 : h1 < 18446744073709551616) (a2 : l1 < 18446744073709551616) (b1 : h2 < 18446744073709551616) (b2 : l2 < 18446744073709551616) (hk : v1 = v2 → k ≤ width v2) :
    Calls Tryd.prog 38 #[.agg #[.bool v1, .int .u64 h1, .int .u64 l1, .int .i64 k], .agg #[.bool v2, .int .u64 h2, .int .u64 l2]] w fun e w' => e = .returned (.bool (cntB v1 h1 l1 k v2 h2 l2)) ∧ Below w.heap.size w w' := by
  have h := rcont6_any v1 v2 h1 l1 k h2 l2 w a1 a2 b1 b2 hk
  rw [cont_eq a2 b1 b2 hk] at h
  exact h
end Go.Proofs.YtcblgbonijloiaaDoor

/- A prefix by value as an argument: a struct within a struct, flat: four cells. -/
namespace Go.Proofs.YtcblgbonijloiaaDoor
open Go.ChangeShapes Go.WideShapes Go.ChangeAt Go.RowKit
open Go.Joins
set_option linter.unusedVariables false

theorem cellsPfx6 : Tryd.prog.cellsOf 30 = 4 := by kernel_rfl
theorem offs6 : ∃ f0 f1, Tryd.prog.underlying 30 = some (.struct #[f0, f1]) ∧ f0.type = 25 ∧ f0.offset = 0 ∧ f1.type = 3 ∧ f1.offset = 3 := ⟨_, _, Tryd.underlying30, rfl, rfl, rfl, rfl⟩
theorem offsA6 : ∃ f0 f1 f2, Tryd.prog.underlying 25 = some (.struct #[f0, f1, f2]) ∧ f0.type = 4 ∧ f0.offset = 0 ∧ f1.type = 23 ∧ f1.offset = 1 ∧ f2.type = 23 ∧ f2.offset = 2 := ⟨_, _, _, Tryd.underlying25, rfl, rfl, rfl, rfl, rfl, rfl⟩
theorem c1Bool6 : Tryd.prog.cellsOf 4 = 1 := by kernel_rfl
theorem c1U646 : Tryd.prog.cellsOf 23 = 1 := by kernel_rfl
theorem c1Int6 : Tryd.prog.cellsOf 3 = 1 := by kernel_rfl
theorem array46 {α : Type} {a : Array α} (h : a.size = 4) : ∃ x y z u, a = #[x, y, z, u] := by
  rcases a with ⟨l⟩
  match l, h with
  | [x, y, z, u], _ => exact ⟨x, y, z, u, rfl⟩
variable {H : Type} {enc : TypeId × Value → H}
set_option maxRecDepth 20000 in
theorem open_pfx6 {r : Reach} {w : World} {base b0 : Nat} {spare : Nat → Bool} {held : Bool} {v : Value} {d : DataW H} {p : List MemPlace} (hv : Value.okWide Tryd.prog w r b0 30 v) (h : DataW.Trod enc Tryd.prog w base spare held 30 v d p) :
    ∃ (b : Bool) (x z k : Int), v = .agg #[.bool b, .int .u64 x, .int .u64 z, .int .i64 k] ∧ d = .agg [.agg [.lit (.bool b), .lit (.int .u64 x), .lit (.int .u64 z)], .lit (.int .i64 k)] ∧ p = [] ∧ (Lit.int .u64 x).wf = true ∧ (Lit.int .u64 z).wf = true ∧ (Lit.int .i64 k).wf = true := by
  obtain ⟨f0, f1, hs, t0, o0, t1, o1⟩ := offs6
  obtain ⟨g0, g1, g2, hsA, u0, q0, u1, q1, u2, q2⟩ := offsA6
  obtain ⟨cs, rfl, hsz⟩ := okWide_struct hs hv
  obtain ⟨c0, c1, c2, c3, rfl⟩ := array46 (hsz.trans cellsPfx6)
  obtain ⟨fuel, hf⟩ := h
  obtain ⟨y0, y1, n, hx, _, h0, h1⟩ := trod_struct2 hs hf
  rw [t0, o0, cellsAddr6] at h0
  rw [t1, o1, c1Int6] at h1
  obtain ⟨z0, z1, z2, m, hy, _, k0, k1, k2⟩ := Go.Deep.trod_struct3 hsA h0
  rw [u0, q0, c1Bool6] at k0
  rw [u1, q1, c1U646] at k1
  rw [u2, q2, c1U646] at k2
  obtain ⟨b, e0, rfl⟩ := DataW.trod_bool Tryd.underlying4 k0
  obtain ⟨x, e1, rfl, wx⟩ := DataW.trod_int Tryd.underlying23 k1
  obtain ⟨z, e2, rfl, wz⟩ := DataW.trod_int Tryd.underlying23 k2
  obtain ⟨k, e3, rfl, wk⟩ := DataW.trod_int Tryd.underlying3 h1
  simp [Value.cells] at e0 e1 e2 e3
  subst e0 e1 e2 e3
  subst hy
  simp only [Prod.mk.injEq] at hx
  exact ⟨b, x, z, k, rfl, hx.1, hx.2, wx, wz, wk⟩
end Go.Proofs.YtcblgbonijloiaaDoor
