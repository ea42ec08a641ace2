/- Contracts of the functions, part 5: AdqP6, AdqF6, AdqFmt, AdqParse, AdqPP, AdqFP, AdqNext, AdqLives, AdrGs, AdrHex. -/
import Derived.Test.YtcblgbonijloiaaDoorFo2
import Derived.Test.YtcblgbonijloiaaDoorFo3
import Derived.Test.YtcblgbonijloiaaDoorFo4
/- Contract of the program's layer 6: parse6. -/
namespace Go.Proofs.YtcblgbonijloiaaDoor
open Go.ChangeShapes Go.WideShapes Go.ChangeAt Go.RowKit
set_option linter.unusedVariables false

theorem cut_cutL (s : By) : Lib.cut s [58, 58] = cutL s := by
  rw [cut_two]; unfold cutL
  cases cutGap s with
  | none => rfl
  | some p => obtain ⟨a, b⟩ := p; rfl
theorem TW.drewN {w : World} (h : TW w) (n : Nat) : TW (w.drewN n) := h.kept (below_drewN6 (Below.refl _ w) n)
/-- Cut at two colons, as the walks use it. -/
theorem pcut6 (s : ByteArray) (w : World) (hs : s.size ≤ 1000) (ht : TW w) :
    Calls Tryd.prog 44 #[.string s, .string ⟨#[58, 58]⟩] w fun e w' => e = .returned (.tuple #[.string (str (cutL s.data.toList).1), .string (str (cutL s.data.toList).2.1), .bool (cutL s.data.toList).2.2]) ∧ ∃ n, w' = w.drewN n := by
  obtain ⟨m, hm⟩ := ht.mx
  refine (lib_strings_Cut s ⟨#[58, 58]⟩ m w (by omega) hm).mono ?_
  rintro e w' ⟨rfl, hw⟩
  have h2 : Lib.cut s.data.toList (⟨#[58, 58]⟩ : ByteArray).data.toList = cutL s.data.toList := cut_cutL _
  rw [h2]
  exact ⟨rfl, hw⟩
def gbS : Option (List Nat) → By
  | some l => gbytes l
  | none => []
theorem gbRes_eq (R : Option (List Nat)) : gbRes R = .tuple #[.string (str (gbS R)), .bool R.isSome] := by cases R <;> rfl
theorem cutGap_len : ∀ (s : By) (a b : By), cutGap s = some (a, b) → a.length + b.length + 2 = s.length
  | [], a, b, h => by cases h
  | [x], a, b, h => by cases h
  | x :: y :: r, a, b, h => by
    rw [cutGap] at h
    split at h
    · obtain ⟨rfl, rfl⟩ := Prod.mk.inj (Option.some.inj h)
      simp
    · cases hq : cutGap (y :: r) with
      | none => rw [hq] at h; cases h
      | some p =>
        obtain ⟨a', b'⟩ := p
        rw [hq] at h
        obtain ⟨rfl, rfl⟩ := Prod.mk.inj (Option.some.inj h)
        have := cutGap_len (y :: r) a' b' hq
        simp at this ⊢; omega
theorem cutL_len (s : By) : (cutL s).1.length ≤ s.length ∧ (cutL s).2.1.length ≤ s.length := by
  unfold cutL
  cases hc : cutGap s with
  | none => simp
  | some p => obtain ⟨a, b⟩ := p; have := cutGap_len s a b hc; simp only; omega
theorem groups_count {s : By} : (gbS (groupsS s)).length ≤ 2 * (s.length + 1) := by
  cases h : groupsS s with
  | none => simp [gbS]
  | some x =>
    show (gbytes x).length ≤ _
    rw [gbytes_length]
    have key : ∀ (l : List By) (y : List Nat), grpAll l = some y → y.length = l.length := by
      intro l
      induction l with
      | nil => intro y e; rw [grpAll] at e; obtain rfl := Option.some.inj e; rfl
      | cons p r ih =>
        intro y e
        rw [grpAll] at e
        cases hg : grpS p with
        | none => rw [hg] at e; cases e
        | some n =>
          rw [hg] at e
          simp only at e
          cases hr : grpAll r with
          | none => rw [hr] at e; cases e
          | some z => rw [hr] at e; obtain rfl := Option.some.inj e; simp [ih z hr]
    unfold groupsS at h
    split at h
    · obtain rfl := Option.some.inj h; simp
    · have h1 := key _ _ h
      have h2 := (split_count 58 s).2
      omega
set_option maxHeartbeats 2000000 in
set_option maxRecDepth 20000 in
theorem qparse6_any (s : ByteArray) (w : World) (hs : s.size ≤ 900) (ht : TW w) :
    Calls Tryd.prog 40 #[.string s] w fun e w' => e = .returned (adRes ((parse6 s.data.toList).map fun l => (true, halfH l, halfL l))) ∧ Below w.heap.size w w' := by
  have hlen := toList_length6 s
  have hcl := cutL_len s.data.toList
  obtain ⟨W0, hW0⟩ : ∃ W0, W0 = w.alloc (.cells #[.bool false, .int .u64 0, .int .u64 0] 25) := ⟨_, rfl⟩
  have HB0 := Lib.hid (show Below w.heap.size w W0 by rw [hW0]; exact below_alloc6 w _)
  have HX0 := Lib.hid (show AB W0 w.heap.size false 0 0 by rw [hW0]; exact ab_new w false 0 0)
  have HT0 := Lib.hid (show TW W0 from ht.kept (by rw [hW0]; exact below_alloc6 w _))
  have HCT := Lib.hid (pcut6 s W0 (by omega) HT0.out)
  have HG1 := Lib.hid (fun W h => qgroups_any (str (cutL s.data.toList).1) W (by rw [str_size]; omega) h)
  have HG2 := Lib.hid (fun W h => qgroups_any (str (cutL s.data.toList).2.1) W (by rw [str_size]; omega) h)
  rw [str_toList, gbRes_eq] at HG1 HG2
  have hn1 := fun h => parse6_none_head (s := s.data.toList) h
  have hn2 := fun h => parse6_none_tail (s := s.data.toList) h
  have hbo := fun x y h1 h2 => parse6_both (s := s.data.toList) (x := x) (y := y) h1 h2
  have hc1 := groups_count (s := (cutL s.data.toList).1)
  have hc2 := groups_count (s := (cutL s.data.toList).2.1)
  have hlt := fun l h => parse6_lt (s := s.data.toList) (l := l) h
  obtain ⟨R, hR⟩ : ∃ R, R = parse6 s.data.toList := ⟨_, rfl⟩
  rw [← hR]
  rw [← hR] at hn1 hn2 hlt
  simp only [← hR] at hbo
  generalize hgap : (cutL s.data.toList).2.2 = gap at *
  generalize groupsS (cutL s.data.toList).1 = Ra at *
  generalize groupsS (cutL s.data.toList).2.1 = Rb at *
  generalize (cutL s.data.toList).1 = A at *
  generalize (cutL s.data.toList).2.1 = B at *
  obtain ⟨Z1, hZ1⟩ : ∃ Z1 : Int, 16 - ((str (gbS Ra)).size : Int) = Z1 := ⟨_, rfl⟩
  obtain ⟨Z, hZ⟩ : ∃ Z : Int, Z1 - ((str (gbS Rb)).size : Int) = Z := ⟨_, rfl⟩
  have hsa : (str (gbS Ra)).size ≤ 2000 := by rw [str_size]; omega
  have hsb : (str (gbS Rb)).size ≤ 2000 := by rw [str_size]; omega
  have hzz : Z = 16 - ((gbS Ra).length : Int) - ((gbS Rb).length : Int) := by rw [← hZ, ← hZ1, str_size, str_size]
  have hz1 : -2000 ≤ Z1 := by omega
  have hz2 : Z1 ≤ 16 := by omega
  -- which way
  have hway : (Ra.isSome = true ∧ Rb.isSome = true ∧ 0 ≤ Z ∧ gap = decide (0 < Z) ∧ ∃ x y, Ra = some x ∧ Rb = some y ∧ ∃ l, R = some l ∧ gbytes l = gbytes x ++ List.replicate Z.toNat 0 ++ gbytes y) ∨ (R = none ∧ (Ra.isSome = false ∨ Ra.isSome = true ∧ (Rb.isSome = false ∨ Rb.isSome = true ∧ (Z < 0 ∨ ¬ Z < 0 ∧ (gap != decide (0 < Z)) = true)))) := by
    cases Ra with
    | none => exact .inr ⟨hn1 rfl, .inl rfl⟩
    | some x =>
      cases Rb with
      | none => exact .inr ⟨hn2 rfl, .inr ⟨rfl, .inl rfl⟩⟩
      | some y =>
        have hb := hbo x y rfl rfl
        have hzv : Z = 16 - 2 * (x.length : Int) - 2 * (y.length : Int) := by
          rw [hzz]
          show 16 - ((gbytes x).length : Int) - ((gbytes y).length : Int) = _
          rw [gbytes_length, gbytes_length]; omega
        by_cases hc : x.length + y.length ≤ 8 ∧ (gap = true ↔ x.length + y.length < 8)
        · rw [if_pos hc] at hb
          left
          refine ⟨rfl, rfl, by omega, ?_, x, y, rfl, rfl, _, hb, ?_⟩
          · rw [Bool.eq_iff_iff, hc.2, decide_eq_true_eq]; omega
          · rw [gbytes_append, gbytes_append, gbytes_zero, show Z.toNat = 2 * (8 - (x.length + y.length)) by omega]
        · rw [if_neg hc] at hb
          refine .inr ⟨hb, .inr ⟨rfl, .inr ⟨rfl, ?_⟩⟩⟩
          by_cases hz : Z < 0
          · exact .inl hz
          · refine .inr ⟨hz, ?_⟩
            rw [bne_iff_ne]
            intro e
            apply hc
            refine ⟨by omega, ?_⟩
            rw [e, decide_eq_true_eq]; omega
  have HLT := Lib.hid hlt
  have HW := Lib.hid hway
  clear hway hn1 hn2 hbo hlt hc1 hc2 hzz hgap hcl hlen ht
  go_enter Tryd.func40, Tryd.ntmps40
  go_wp2_with fail
  rw [← hW0]
  refine HCT.out.mono ?_
  rintro e w1 ⟨rfl, nd, hw1⟩
  have HT1 := Lib.hid (show TW w1 by rw [hw1]; exact HT0.out.drewN nd)
  have HB1 := Lib.hid (show Below w.heap.size w w1 by rw [hw1]; exact below_drewN6 HB0.out nd)
  have HX1 := Lib.hid (show AB w1 w.heap.size false 0 0 by rw [hw1]; exact HX0.out)
  clear hw1 HT0 HB0 HX0 HCT hW0
  go_wp2_with fail
  refine (HG1.out _ HT1.out).mono ?_
  rintro e w2 ⟨rfl, hb⟩
  have HT2 := Lib.hid (HT1.out.kept hb)
  have HB2 := Lib.hid (HB1.out.trans (hb.mono HB1.out.size))
  have HX2 := Lib.hid (HX1.out.kept hb HX1.out.lt)
  clear hb HT1 HB1 HX1
  go_wp2_with fail
  refine (HG2.out _ HT2.out).mono ?_
  rintro e w4 ⟨rfl, hb⟩
  have HB4 := Lib.hid (HB2.out.trans (hb.mono HB2.out.size))
  have HX4 := Lib.hid (HX2.out.kept hb HX2.out.lt)
  clear hb HT2 HB2 HX2
  have x0 := HX4.out.c0
  have x1 := HX4.out.c1
  have x2 := HX4.out.c2
  have xf0 := HX4.out.f 0
  have xf1 := HX4.out.f 1
  have xf2 := HX4.out.f 2
  rcases HW.out with ⟨p1, p2, p3, p4, x, y, px, py, l, pl, pg⟩ | ⟨hn, p1 | ⟨p1, p2 | ⟨p2, p3 | ⟨p3, p4⟩⟩⟩⟩
  · obtain ⟨z, rfl⟩ := Int.eq_ofNat_of_zero_le p3
    rw [Int.toNat_natCast] at pg
    have hz16 : z ≤ 16 := by omega
    have hl8 := HLT.out l pl
    have HFB := Lib.hid (fb_groups hl8.1 hl8.2)
    have HRP := Lib.hid (fun W => lib_strings_Repeat ⟨#[0]⟩ z W (by omega) (by show 1 * z ≤ _; omega))
    have hrp : (⟨(Lib.repeatL (⟨#[0]⟩ : ByteArray).data.toList z).toArray⟩ : ByteArray) = str (List.replicate z 0) := by
      show (⟨(Lib.repeatL [0] z).toArray⟩ : ByteArray) = _
      rw [repeat_zero]; rfl
    rw [hrp] at HRP
    have hcats : str (gbS Ra) ++ str (List.replicate z 0) ++ str (gbS Rb) = str (gbytes l) := by
      rw [px, py, str_append, str_append, pg]; rfl
    have hrs : (str (List.replicate z (0 : UInt8))).size = z := by rw [str_size, List.length_replicate]
    have hsz : (str (gbS Ra) ++ str (List.replicate z 0)).size ≤ 2016 := by rw [ByteArray.size_append]; omega
    have hk1 : (9223372036854775807 < (str (gbS Ra)).size + (str (List.replicate z (0 : UInt8))).size) = False := by simp only [eq_iff_iff, iff_false]; omega
    have hk2 : (9223372036854775807 < (str (gbS Ra) ++ str (List.replicate z 0)).size + (str (gbS Rb)).size) = False := by simp only [eq_iff_iff, iff_false]; omega
    have hk3 : (9223372036854775807 < (str (gbS Ra)).size + (str (List.replicate z (0 : UInt8))).size + (str (gbS Rb)).size) = False := by simp only [eq_iff_iff, iff_false]; omega
    have hf := fun W => qfrom_any (str (gbytes l)) W (by rw [str_size, gbytes_length, hl8.1]; omega)
    rw [str_toList, HFB.out, ← hcats] at hf
    have HF := Lib.hid hf
    have HE := Lib.hid (show R.map (fun l => (true, halfH l, halfL l)) = some (true, halfH l, halfL l) by rw [pl]; rfl)
    have dn : decide ((z : Int) < 0) = false := by rw [decide_eq_false_iff_not]; omega
    have dg : (gap != decide ((0 : Int) < (z : Int))) = false := by rw [p4]; simp
    have d0 : decide ((0 : Int) < (z : Int)) = gap := p4.symm
    have d0n : decide (0 < z) = gap := by rw [← d0]; simp
    have gg : (gap != gap) = false := by simp
    clear hf hcats hrp hrs hsz hl8 pg pl px py p3 p4 HFB
    rw [p1, p2]
    generalize str (List.replicate z 0) = Rp at *
    generalize str (gbS Ra) = P at *
    generalize str (gbS Rb) = Q at *
    generalize halfH l = hh at *
    generalize halfL l = ll at *
    go_wp2_with fail
    refine (HRP.out _).mono ?_
    rintro e w5 ⟨rfl, hb⟩
    have HB5 := Lib.hid (HB4.out.trans (hb.mono HB4.out.size))
    have HX5 := Lib.hid (HX4.out.kept hb HX4.out.lt)
    clear hb
    go_wp2_with fail
    refine (HF.out _).mono ?_
    rintro e w6 ⟨rfl, hb⟩
    have HB6 := Lib.hid (HB5.out.trans (hb.mono HB5.out.size))
    have HX6 := Lib.hid (HX5.out.kept hb HX5.out.lt)
    clear hb x0 x1 x2 xf0 xf1 xf2
    have x0 := HX6.out.c0
    have x1 := HX6.out.c1
    have x2 := HX6.out.c2
    have xf0 := HX6.out.f 0
    have xf1 := HX6.out.f 1
    have xf2 := HX6.out.f 2
    simp only [adRes]
    go_wp2_with fail
    change bodyPost _ _ _ _ _ (aset w6 w.heap.size true hh ll)
    exact bodyPost_ret (res_addr2 rfl _ _ rfl (HX6.out.set true hh ll)) rfl ⟨by rw [HE.out]; rfl, aset_below HB6.out (Nat.le_refl _) true hh ll⟩
  · have HE := Lib.hid hn
    rw [p1]
    generalize str (gbS Ra) = P at *
    generalize str (gbS Rb) = Q at *
    generalize Rb.isSome = qb at *
    go_wp2_with fail
    change bodyPost _ _ _ _ _ (aset w4 w.heap.size false 0 0)
    exact bodyPost_ret (res_addr2 rfl _ _ rfl (HX4.out.set false 0 0)) rfl ⟨by rw [HE.out]; rfl, aset_below HB4.out (Nat.le_refl _) false 0 0⟩
  · have HE := Lib.hid hn
    rw [p1, p2]
    generalize str (gbS Ra) = P at *
    generalize str (gbS Rb) = Q at *
    go_wp2_with fail
    change bodyPost _ _ _ _ _ (aset w4 w.heap.size false 0 0)
    exact bodyPost_ret (res_addr2 rfl _ _ rfl (HX4.out.set false 0 0)) rfl ⟨by rw [HE.out]; rfl, aset_below HB4.out (Nat.le_refl _) false 0 0⟩
  · have HE := Lib.hid hn
    rw [p1, p2]
    have dn : decide (Z < 0) = true := by rw [decide_eq_true_eq]; exact p3
    generalize str (gbS Ra) = P at *
    generalize str (gbS Rb) = Q at *
    go_wp2_with fail
    change bodyPost _ _ _ _ _ (aset w4 w.heap.size false 0 0)
    exact bodyPost_ret (res_addr2 rfl _ _ rfl (HX4.out.set false 0 0)) rfl ⟨by rw [HE.out]; rfl, aset_below HB4.out (Nat.le_refl _) false 0 0⟩
  · have HE := Lib.hid hn
    rw [p1, p2]
    have dn : decide (Z < 0) = false := by rw [decide_eq_false_iff_not]; omega
    clear HW HLT
    generalize str (gbS Ra) = P at *
    generalize str (gbS Rb) = Q at *
    by_cases hz0 : 0 < Z
    · have dz : decide (0 < Z) = true := decide_eq_true hz0
      rw [dz] at p4
      obtain rfl : gap = false := by cases gap <;> simp_all
      clear p4
      go_wp2_with fail
      change bodyPost _ _ _ _ _ (aset w4 w.heap.size false 0 0)
      exact bodyPost_ret (res_addr2 rfl _ _ rfl (HX4.out.set false 0 0)) rfl ⟨by rw [HE.out]; rfl, aset_below HB4.out (Nat.le_refl _) false 0 0⟩
    · have dz : decide (0 < Z) = false := decide_eq_false hz0
      rw [dz] at p4
      obtain rfl : gap = true := by cases gap <;> simp_all
      clear p4
      go_wp2_with fail
      change bodyPost _ _ _ _ _ (aset w4 w.heap.size false 0 0)
      exact bodyPost_ret (res_addr2 rfl _ _ rfl (HX4.out.set false 0 0)) rfl ⟨by rw [HE.out]; rfl, aset_below HB4.out (Nat.le_refl _) false 0 0⟩
end Go.Proofs.YtcblgbonijloiaaDoor

/- Contract of the program's layer 6: format6. -/
namespace Go.Proofs.YtcblgbonijloiaaDoor
open Go.ChangeShapes Go.WideShapes Go.ChangeAt Go.RowKit
set_option linter.unusedVariables false

theorem gbytes_at {l : List Nat} {k : Nat} (h : k < l.length) (hl : ∀ n ∈ l, n < 65536) : num (((gbytes l).drop (2 * k)).take 2) = l[k] := by
  have e : gbytes l = gbytes (l.take k) ++ gbytes (l.drop k) := by rw [← gbytes_append, List.take_append_drop]
  have h4 : (gbytes (l.take k)).length = 2 * k := by rw [gbytes_length, List.length_take]; omega
  rw [e, List.drop_append_of_le_length (by omega), List.drop_of_length_le (by omega), List.nil_append, List.drop_eq_getElem_cons h, gbytes]
  have hn := hl l[k] (List.getElem_mem h)
  generalize l[k] = n at *
  rw [show (UInt8.ofNat (n / 256) :: UInt8.ofNat (n % 256) :: gbytes (l.drop (k + 1))).take 2 = [UInt8.ofNat (n / 256), UInt8.ofNat (n % 256)] from rfl]
  show (0 * 256 + (UInt8.ofNat (n / 256)).toNat) * 256 + (UInt8.ofNat (n % 256)).toNat = n
  rw [UInt8.toNat_ofNat', UInt8.toNat_ofNat']
  omega
theorem join_hex_len {q : List Nat} (hq : ∀ d ∈ q, d < 65536) : (joinC 58 (q.map hexL)).length ≤ q.length * 5 := by
  have := join_len 58 4 (q.map hexL) (fun p hp => by
    obtain ⟨d, hd, rfl⟩ := List.mem_map.1 hp
    exact hex_len (hq d hd))
  rwa [List.length_map] at this
theorem fmt6_none {l : List Nat} (h : best l = (none, 1)) : fmt6 l = joinC 58 (l.map hexL) := by unfold fmt6; rw [h]
theorem fmt6_some {l : List Nat} {k m : Nat} (h : best l = (some k, m)) : fmt6 l = joinC 58 ((l.take k).map hexL) ++ [58, 58] ++ joinC 58 ((l.drop (k + m)).map hexL) := by unfold fmt6; rw [h]
theorem own_below6 {w w' : World} {base : Nat} {e : TypeId} {size : Nat} {v : Value} {n : Nat} {xs : List Value} (h : w.ownsRow base e size v n xs) (hb : Below w.heap.size w w') : w'.ownsRow base e size v n xs := by
  refine ⟨h.1, ?_⟩
  rcases h.2 with hn | ⟨g, cap, cur, hv, hg, hh, rest⟩
  · exact .inl hn
  · exact .inr ⟨g, cap, cur, hv, hg, (hb.block g (Array.getElem?_eq_some_iff.1 hh).1).trans hh, rest⟩
theorem own_cap6 {w : World} {base : Nat} {e : TypeId} {A : Option Addr} {cap n : Nat} {xs : List Value} (h : w.ownsRow base e 1 (.slice A n cap) n xs) : n ≤ cap := by
  rcases h.2 with ⟨hv, hn⟩ | ⟨g, c, cur, hv, _, _, hn, _⟩
  · omega
  · cases hv; exact hn
theorem runFT_none : runFT (none, 1) = (0, 0) := rfl
theorem runFT_some (k m : Nat) : runFT (some k, m) = (k, k + m) := rfl
theorem qnum2 (s : ByteArray) (l : List Nat) (hs : s.data.toList = gbytes l) (h8 : l.length = 8) (hl : ∀ n ∈ l, n < 65536) (k i i2 : Nat) (hk : k < l.length) (hi : i = 2 * k) (hi2 : i2 = i + 2) (W : World) :
    Calls Tryd.prog 60 #[.string (s.extract i i2)] W fun e w' => e = .returned (.int .u64 ((l[k] : Nat) : Int)) ∧ w' = W := by
  have hlen := toList_length6 s
  rw [hs, gbytes_length, h8] at hlen
  have hz : (s.extract i i2).size ≤ 8 := by rw [ByteArray.size_extract]; omega
  have h := qnumber_any (s.extract i i2) W hz
  rw [extract_toList6, hs, show i2 - i = 2 by omega, hi, gbytes_at hk hl] at h
  rw [hi]
  exact h
set_option maxHeartbeats 2000000 in
set_option maxRecDepth 20000 in
theorem qfmt6_any (s : ByteArray) (l : List Nat) (w : World) (hs : s.data.toList = gbytes l) (h8 : l.length = 8) (hl : ∀ n ∈ l, n < 65536) (ht : TW w) :
    Calls Tryd.prog 52 #[.string s] w fun e w' => e = .returned (.string (str (fmt6 l))) ∧ Below w.heap.size w w' := by
  have hlen := toList_length6 s
  rw [hs, gbytes_length, h8] at hlen
  have hsz : s.size = 16 := hlen.symm
  have hs16 : s.size ≤ 16 := by omega
  have H8 := Lib.hid (show l.length = 8 ∧ s.size = 16 from ⟨h8, hsz⟩)
  have HNB := Lib.hid (qnum2 s l hs h8 hl)
  have HFM := Lib.hid (fun n W h t => lfmt_any n W h t)
  have HLL := Lib.hid hl
  have HT := Lib.hid ht
  have HO0 := Lib.hid (show w.ownsRow w.heap.size 9 1 (.slice none (List.map hexL []).length 0) (List.map hexL []).length (strC (List.map hexL [])) from World.ownsRow_nil w w.heap.size 9 1)
  obtain ⟨i0, hinf, hz0, hz1, hz2⟩ := info_parts info_str6
  clear hlen hs h8 hsz hl ht
  go_enter Tryd.func52, Tryd.ntmps52
  go_wp2_with fail
  go_loopw [3, 4] (fun v3 v4 wr => ∃ k i cap' : Nat, ∃ A' : Option Addr, ∃ M : List By, v3 = .slice A' M.length cap' ∧ v4 = .int .i64 i ∧ i ≤ 16 ∧ Hid (i = 2 * k ∧ M = (l.take k).map hexL) ∧ Hid (Below w.heap.size w wr) ∧ Hid (wr.ownsRow w.heap.size 9 1 (.slice A' M.length cap') M.length (strC M))) (fun _ v4 _ => 16 - (intOf v4).toNat)
  case atStart => exact ⟨0, 0, 0, none, [], rfl, rfl, Nat.zero_le _, Lib.hid ⟨rfl, rfl⟩, Lib.hid (Below.refl _ _), HO0⟩
  case round =>
    clear HO0
    obtain ⟨k, i, cap', A', M, rfl, rfl, hi16, HK, HB, HO⟩ := hrel
    have hszw := HB.out.size
    by_cases hlt : i < 16
    · have hlts : i < s.size := by have := H8.out; omega
      have dlt : decide ((i : Int) < (s.size : Int)) = true := by rw [decide_eq_true_eq]; omega
      have hlti : (i : Int) < (s.size : Int) := by omega
      obtain ⟨i2, hi2⟩ : ∃ i2, i2 = i + 2 := ⟨_, rfl⟩
      have hi2i : (i : Int) + 2 = (i2 : Int) := by omega
      have hk8 : k < 8 := by have := HK.out.1; omega
      have hkl : k < l.length := by have := H8.out; omega
      have hi2s : i2 ≤ s.size := by have := HK.out.1; have := H8.out; omega
      have hi2j : (i2 : Int) ≤ (s.size : Int) := by omega
      have hii2 : i ≤ i2 := by omega
      have hii2j : (i : Int) ≤ (i2 : Int) := by omega
      have hi0 : (0 : Int) ≤ (i : Int) := by omega
      have hn := HLL.out l[k] (List.getElem_mem hkl)
      have HN1 := Lib.hid (fun W => HNB.out k i i2 hkl HK.out.1 hi2 W)
      have HF1 := Lib.hid (fun W t => HFM.out l[k] W hn t)
      have hMl0 : M.length = k := by rw [HK.out.2, List.length_map, List.length_take]; omega
      obtain ⟨M2, hM2⟩ : ∃ M2, M2 = M ++ [hexL l[k]] := ⟨_, rfl⟩
      have HM2 := Lib.hid (show i2 = 2 * (k + 1) ∧ M2 = (l.take (k + 1)).map hexL from ⟨by have := HK.out.1; omega, by rw [hM2, HK.out.2, List.take_succ_eq_append_getElem hkl, List.map_append]; rfl⟩)
      have HSN := Lib.hid (show strC M ++ [.string (str (hexL l[k]))] = strC M2 by rw [hM2, strC_snoc])
      have hMl : M.length + 1 = M2.length := by rw [hM2]; simp
      have hMb : M.length ≤ 16 := by omega
      have HI2 := Lib.hid (show i2 = i + 2 ∧ i2 ≤ 16 from ⟨hi2, by have := HK.out.1; omega⟩)
      have HTr := Lib.hid (HT.out.kept HB.out)
      clear hM2 hi2 hn hMl0
      generalize hgx : l[k] = x at *
      generalize str (hexL x) = S at *
      go_wp2_with fail
      refine (HN1.out _).mono ?_
      rintro e w2 ⟨rfl, hw⟩
      have hw' := hw.symm
      clear hw
      subst hw'
      go_wp2_with fail
      refine (HF1.out _ HTr.out).mono ?_
      rintro e w2 ⟨rfl, hb⟩
      have HBB := Lib.hid (HB.out.trans (hb.mono HB.out.size))
      have HOB := Lib.hid (own_below6 HO.out hb)
      have hsz2 := HBB.out.size
      have HB2 := Lib.hid (HBB.out.alloc HBB.out.size (.cells #[.string S] 9))
      clear hb HB HO
      go_wp2_with (at_builtin; refine wpList_append_lies _ rfl _ _ 57 rfl w.heap.size 9 i0 (.string ⟨#[]⟩) 1 16 Tryd.underlying57 hinf hz0 hz1 hz2 rfl (by omega) _ M.length (strC M) rfl (HOB.out.alloc _) ⟨w2.heap.size, 0, none⟩ 1 1 [.string S] rfl rfl ?c1 ?c2 (by omega) ?c3 ?c4 ?c5 _ rfl ?_)
      case c1 => exact World.news_of_block (cs := #[.string S]) (t := 9) (fr := (0, 0)) (heap_alloc_new w2 _)
      case c2 => simp [Value.oneCell']
      case c3 => unfold maxLen; omega
      case c4 => omega
      case c5 => simp; omega
      intro g2 cap2 w3 hown3 hgrow hat hlt2
      have hB3 := HB2.out.grown hgrow (by simp; omega) (fun j hj => (HOB.out.lt j hj).1)
      rw [HSN.out] at hown3
      try rw [hMl] at hown3
      try rw [hMl]
      have HB3 := Lib.hid hB3
      have HO3 := Lib.hid hown3
      clear hB3 hown3 hgrow hat hlt2 HOB HB2 hMl
      go_wp2_with fail
      go_roundw
      case rel => exact ⟨k + 1, i2, cap2, some ⟨g2, 0, none⟩, M2, rfl, by go_num, HI2.out.2, HM2, HB3, HO3⟩
      case measure => have := HI2.out; simp [intOf]; omega
    · obtain rfl : i = 16 := by omega
      have dlt : decide (((16 : Nat) : Int) < (s.size : Int)) = false := by rw [decide_eq_false_iff_not]; have := H8.out; omega
      have s16 : s.size = 16 := H8.out.2
      have hk8 : k = 8 := by have := HK.out.1; omega
      have hMe : M = l.map hexL := by rw [HK.out.2, hk8, List.take_of_length_le (by have := H8.out; omega)]
      have hM8 : M.length = 8 := by rw [hMe, List.length_map]; exact H8.out.1
      have hcap := own_cap6 HO.out
      obtain ⟨g, hA, hgl, hcell⟩ := own_stl HO.out (by omega)
      subst hA
      have hcl : ∀ (i n : Nat), l[i]? = some n → wr.cell? ⟨g, i, none⟩ = some (.string (str (hexL n))) := fun i n h => hcell i (hexL n) (by rw [hMe, List.getElem?_map, h]; rfl)
      have hz := qzero_any l g cap' wr (by have := H8.out; omega) hcl
      rw [H8.out.1] at hz
      have hjl : ∀ q : List Nat, (∀ d ∈ q, d < 65536) → (joinC 58 (q.map hexL)).length ≤ q.length * 5 := fun q h => join_hex_len h
      have HBr := HB
      rw [hM8] at hcap
      rcases best_spec l with hb | ⟨f, m, hb, hm2, hfm, hsp⟩
      · rw [hb, runFT_none] at hz
        have HZ := Lib.hid hz
        have hj := pjoin6 g 0 cap' (l.map hexL) 58 wr hgl (fun j p h => by
          rw [List.getElem?_map] at h
          cases hq : l[j]? with
          | none => rw [hq] at h; cases h
          | some n => rw [hq] at h; obtain rfl := Option.some.inj h; rw [Nat.zero_add]; exact hcl j n hq) (by rw [List.length_map, H8.out.1]; exact hcap) (by rw [List.length_map, H8.out.1]; omega) (by have := hjl l HLL.out; have := H8.out; omega)
        rw [List.length_map, H8.out.1, ← fmt6_none hb] at hj
        have HJ := Lib.hid hj
        clear hz hj hjl hcl hcell hMe hb HO HK hk8 HNB HFM
        generalize hSe : str (fmt6 l) = S at *
        have HSE := Lib.hid hSe
        clear hSe
        go_wp2_with fail
        refine HZ.out.mono ?_
        rintro e w2 ⟨rfl, hw⟩
        have hw' := hw.symm
        clear hw
        subst hw'
        go_wp2_with fail
        refine HJ.out.mono ?_
        rintro e w2 ⟨rfl, hb⟩
        have HB2 := Lib.hid (HBr.out.trans (hb.mono HBr.out.size))
        clear hb
        go_wp2_with fail
        go_ret
        exact ⟨ret_str6 HSE.out.symm, HB2.out⟩
      · rw [hb, runFT_some] at hz
        have hf8 : f ≤ 8 := by have := H8.out; omega
        have hT8 : f + m ≤ 8 := by have := H8.out; omega
        have hj1 := fun (W : World) (hW : Below wr.heap.size wr W) => pjoin6 g 0 cap' ((l.take f).map hexL) 58 W (Nat.lt_of_lt_of_le hgl hW.size) (fun j p h => by
          rw [World.cell?_of_block (w := wr) (w' := W) (a := ⟨g, 0 + j, none⟩) (hW.block g hgl)]
          rw [List.getElem?_map] at h
          cases hq : (l.take f)[j]? with
          | none => rw [hq] at h; cases h
          | some n =>
            rw [hq] at h; obtain rfl := Option.some.inj h; rw [Nat.zero_add]
            refine hcl j n ?_
            rw [List.getElem?_take] at hq
            split at hq
            · exact hq
            · cases hq) (by rw [List.length_map, List.length_take]; omega) (by rw [List.length_map, List.length_take]; omega) (by have := hjl (l.take f) (fun d hd => HLL.out d (List.mem_of_mem_take hd)); rw [List.length_take] at this; omega)
        rw [List.length_map, List.length_take, H8.out.1, Nat.min_eq_left hf8] at hj1
        have hF := fmt6_some hb
        have h1l : (str (joinC 58 ((l.take f).map hexL))).size ≤ 40 := by
          rw [str_size]; have := hjl (l.take f) (fun d hd => HLL.out d (List.mem_of_mem_take hd)); rw [List.length_take] at this; omega
        have h2l : (str (joinC 58 ((l.drop (f + m)).map hexL))).size ≤ 40 := by
          rw [str_size]; have := hjl (l.drop (f + m)) (fun d hd => HLL.out d (List.mem_of_mem_drop hd)); rw [List.length_drop] at this; have := H8.out; omega
        have hjl2 := hjl (l.drop (f + m)) (fun d hd => HLL.out d (List.mem_of_mem_drop hd))
        rw [List.length_drop, H8.out.1] at hjl2
        have hdl : ((l.drop (f + m)).map hexL).length = 8 - (f + m) := by rw [List.length_map, List.length_drop, H8.out.1]
        have hdc : ∀ (W : World) (hW : Below wr.heap.size wr W) (j : Nat) p, ((l.drop (f + m)).map hexL)[j]? = some p → W.cell? ⟨g, (f + m) + j, none⟩ = some (.string (str p)) := fun W hW j p h => by
          rw [List.getElem?_map, List.getElem?_drop] at h
          rw [World.cell?_of_block (w := wr) (w' := W) (a := ⟨g, (f + m) + j, none⟩) (hW.block g hgl)]
          cases hq : l[f + m + j]? with
          | none => rw [hq] at h; cases h
          | some n => rw [hq] at h; obtain rfl := Option.some.inj h; exact hcl _ n hq
        have hcat : str (joinC 58 ((l.take f).map hexL)) ++ (⟨#[58, 58]⟩ : ByteArray) ++ str (joinC 58 ((l.drop (f + m)).map hexL)) = str (fmt6 l) := by
          rw [hF, ← str_append, ← str_append]; rfl
        obtain ⟨t, ht⟩ : ∃ t, t = f + m := ⟨_, rfl⟩
        rw [← ht] at hz hT8 h2l hjl2 hdl hdc hcat
        generalize joinC 58 ((l.take f).map hexL) = P0 at *
        obtain ⟨Q0, hQ0⟩ : ∃ Q0, Q0 = (l.drop t).map hexL := ⟨_, rfl⟩
        rw [← hQ0] at h2l hjl2 hdl hdc hcat
        have hj2 : ∀ (W : World) (hW : Below wr.heap.size wr W), t < 8 → Calls Tryd.prog 54 #[.slice (some ⟨g, t, none⟩) (8 - t) (cap' - t), .string ⟨#[58]⟩] W fun e w' => e = .returned (.string (str (joinC 58 Q0))) ∧ Below W.heap.size W w' := fun W hW h8 => by
          have := pjoin6 g t (cap' - t) Q0 58 W (Nat.lt_of_lt_of_le hgl hW.size) (hdc W hW) (by omega) (by omega) (by omega)
          rwa [hdl] at this
        have hj3 : t = 8 → joinC 58 Q0 = [] := fun h8 => by
          have : Q0 = [] := List.length_eq_zero_iff.1 (by omega)
          rw [this]; rfl
        have HZ := Lib.hid hz
        have HJ1 := Lib.hid hj1
        have HJ2 := Lib.hid hj2
        have HC := Lib.hid hcat
        have hft : f < t := by omega
        have dft : ((f : Int) == (t : Int)) = false := by rw [beq_eq_false_iff_ne]; omega
        have nft : ¬ f = t := by omega
        have hfi : (f : Int) ≤ 8 := by omega
        have hti : (t : Int) ≤ 8 := by omega
        have hti0 : (0 : Int) ≤ (t : Int) := by omega
        have hfi0 : (0 : Int) ≤ (f : Int) := by omega
        have hfc : f ≤ cap' := by omega
        have htc : t ≤ cap' := by omega
        have hfci : (f : Int) ≤ (cap' : Int) := by omega
        have htci : (t : Int) ≤ (cap' : Int) := by omega
        clear hz hj1 hj2 hjl hjl2 hcl hcell hMe hb HO HK hk8 HNB HFM hcat hF hdl hdc hQ0 ht hsp hfm hm2
        generalize joinC 58 Q0 = Q1 at *
        generalize hSe : str (fmt6 l) = S at *
        have HSE := Lib.hid hSe
        clear hSe
        generalize hPe : str P0 = P at *
        have hk1 : (9223372036854775807 < P.size + 2) = False := by simp only [eq_iff_iff, iff_false]; omega
        have hk2 : (9223372036854775807 < P.size + (⟨#[58, 58]⟩ : ByteArray).size) = False := hk1
        by_cases h8 : t = 8
        · have hj3' := hj3 h8
          rw [hj3'] at HC h2l
          have HJ3 := Lib.hid (fun (a : Option Addr) (c : Nat) (W : World) => lib_strings_Join_none a c ⟨#[58]⟩ W)
          clear hj3 hj3' HJ2 Q1 hPe
          subst h8
          have hS2 : str [] = (⟨#[]⟩ : ByteArray) := rfl
          rw [hS2] at HC h2l
          have hk3 : (9223372036854775807 < (P ++ (⟨#[58, 58]⟩ : ByteArray)).size + (⟨#[]⟩ : ByteArray).size) = False := by
            rw [ByteArray.size_append]; simp only [eq_iff_iff, iff_false]; show ¬ (_ < P.size + 2 + 0); omega
          have hk4 : (9223372036854775807 < P.size + 2 + (⟨#[]⟩ : ByteArray).size) = False := by
            simp only [eq_iff_iff, iff_false]; show ¬ (_ < P.size + 2 + 0); omega
          by_cases hc8 : cap' = 8
          · subst hc8
            go_wp2_with fail
            refine HZ.out.mono ?_
            rintro e w2 ⟨rfl, hw⟩
            have hw' := hw.symm
            clear hw
            subst hw'
            go_wp2_with fail
            go_region_held3 (fun _ => True) (trivial) (first
              | (go_at_call_of 54 (Value.slice (some (⟨g, 0, none⟩ : Addr)) f 8); refine (HJ1.out _ ?_).mono ?_; exact ⟨rfl, rfl, rfl, Nat.le_refl _, fun _ _ => rfl⟩; rintro e w5 ⟨rfl, hb3d⟩; have hb5 : Below wr.heap.size wr w5 := ⟨hb3d.os, hb3d.tape, hb3d.output, hb3d.size, hb3d.block⟩)
              | (go_at_call 54; refine (HJ3.out _ _ _).mono ?_; rintro e w6 ⟨rfl, rfl⟩))
            all_goals
              go_wp2_with fail
              go_ret
              exact ⟨ret_str6 (HC.out.trans HSE.out.symm), HBr.out.trans (hb5.mono HBr.out.size)⟩
          · have hc9 : ¬ 8 = cap' := fun h => hc8 h.symm
            go_wp2_with fail
            refine HZ.out.mono ?_
            rintro e w2 ⟨rfl, hw⟩
            have hw' := hw.symm
            clear hw
            subst hw'
            go_wp2_with fail
            go_region_held3 (fun _ => True) (trivial) (first
              | (go_at_call_of 54 (Value.slice (some (⟨g, 0, none⟩ : Addr)) f cap'); refine (HJ1.out _ ?_).mono ?_; exact ⟨rfl, rfl, rfl, Nat.le_refl _, fun _ _ => rfl⟩; rintro e w5 ⟨rfl, hb3d⟩; have hb5 : Below wr.heap.size wr w5 := ⟨hb3d.os, hb3d.tape, hb3d.output, hb3d.size, hb3d.block⟩)
              | (go_at_call 54; refine (HJ3.out _ _ _).mono ?_; rintro e w6 ⟨rfl, rfl⟩))
            all_goals
              go_wp2_with fail
              go_ret
              exact ⟨ret_str6 (HC.out.trans HSE.out.symm), HBr.out.trans (hb5.mono HBr.out.size)⟩
        · have ht8 : t < 8 := by omega
          have hk3 : (9223372036854775807 < (P ++ (⟨#[58, 58]⟩ : ByteArray)).size + (str Q1).size) = False := by
            rw [ByteArray.size_append]; simp only [eq_iff_iff, iff_false]; show ¬ (_ < P.size + 2 + _); omega
          have hk4 : (9223372036854775807 < P.size + 2 + (str Q1).size) = False := by
            simp only [eq_iff_iff, iff_false]; omega
          clear hj3 hPe
          generalize str Q1 = Q at *
          have htcn : ¬ cap' = t := by omega
          have htcn2 : t < cap' := by omega
          go_wp2_with fail
          refine HZ.out.mono ?_
          rintro e w2 ⟨rfl, hw⟩
          have hw' := hw.symm
          clear hw
          subst hw'
          go_wp2_with fail
          go_region_held3 (fun _ => True) (trivial) (first
            | (go_at_call_of 54 (Value.slice (some (⟨g, 0, none⟩ : Addr)) f cap'); refine (HJ1.out _ ?_).mono ?_; exact ⟨rfl, rfl, rfl, Nat.le_refl _, fun _ _ => rfl⟩; rintro e w5 ⟨rfl, hb3d⟩; have hb5 : Below wr.heap.size wr w5 := ⟨hb3d.os, hb3d.tape, hb3d.output, hb3d.size, hb3d.block⟩)
            | (go_at_call 54; refine (HJ2.out _ ?_ ht8).mono ?_; exact hb5; rintro e w6 ⟨rfl, hb4d⟩; have hb6 : Below wr.heap.size wr w6 := hb5.trans (hb4d.mono hb5.size)))
          all_goals
            go_wp2_with fail
            go_ret
            exact ⟨ret_str6 (HC.out.trans HSE.out.symm), HBr.out.trans (hb6.mono HBr.out.size)⟩
end Go.Proofs.YtcblgbonijloiaaDoor

/- Contracts of the program's layer 6: Format, FormatPrefix. -/
namespace Go.Proofs.YtcblgbonijloiaaDoor
open Go.ChangeShapes Go.WideShapes Go.ChangeAt Go.RowKit
set_option linter.unusedVariables false

theorem num_app_from : ∀ (b : By) (x : Nat), b.foldl (fun a c => a * 256 + c.toNat) x = x * 256 ^ b.length + num b
  | [], x => by simp [num]
  | c :: r, x => by
    rw [List.foldl_cons, num_app_from r]
    show _ = x * 256 ^ (r.length + 1) + r.foldl (fun a c => a * 256 + c.toNat) (0 * 256 + c.toNat)
    rw [num_app_from r, Nat.pow_succ, Nat.add_mul, Nat.mul_assoc, Nat.mul_comm 256, Nat.zero_mul, Nat.zero_add]
    omega
theorem num_append (a b : By) : num (a ++ b) = num a * 256 ^ b.length + num b := by
  show (a ++ b).foldl _ 0 = _
  rw [List.foldl_append]
  exact num_app_from b _
theorem num_inj {a b : By} (hl : a.length = b.length) (h : num a = num b) : a = b := by
  rw [← leL_reverse_num a, ← leL_reverse_num b, hl, h]
theorem adrB_6 {hi lo : Nat} (h1 : hi < 18446744073709551616) (h2 : lo < 18446744073709551616) : adrB true hi lo = gbytes (digitsOf 65536 (numA hi lo) 8) := by
  have h64 : (256 : Nat) ^ 8 = 18446744073709551616 := by decide
  have hn : numA hi lo < 65536 ^ 8 := by
    have := numA_lt h1 h2
    have e : (65536 : Nat) ^ 8 = 2 ^ 128 := by decide
    rw [e]; exact this
  apply num_inj
  · rw [adrB_length, gbytes_length, digitsOf_len]; rfl
  · rw [num_groups (fun n h => digitsOf_lt (by omega) 8 _ n h), ofDigits_of (by omega) 8 _ hn]
    show num ((leL 8 hi).reverse ++ (leL 8 lo).reverse) = _
    rw [num_append, num_reverse_leL, num_reverse_leL, List.length_reverse, leL_length, h64, Nat.mod_eq_of_lt h1, Nat.mod_eq_of_lt h2]
    unfold numA
    have : (2 : Nat) ^ 64 = 18446744073709551616 := by decide
    rw [this, Nat.mul_comm]
theorem adrB_4 {hi lo : Nat} (h2 : lo < 4294967296) : adrB false hi lo = bytesN (digitsOf 256 lo 4) := by
  have h64 : (256 : Nat) ^ 4 = 4294967296 := by decide
  apply num_inj
  · rw [adrB_length]; unfold bytesN; rw [List.length_map, digitsOf_len]; rfl
  · rw [num_bytesN (fun n h => digitsOf_lt (by omega) 4 _ n h), ofDigits_of (by omega) 4 _ (by omega)]
    show num ((leL 4 lo).reverse) = _
    rw [num_reverse_leL, h64, Nat.mod_eq_of_lt h2]
/-- The canonical text of an address. -/
def fmtA (v6 : Bool) (hi lo : Nat) : By := if v6 then fmt6 (digitsOf 65536 (numA hi lo) 8) else fmt4 (digitsOf 256 lo 4)
set_option maxHeartbeats 2000000 in
set_option maxRecDepth 20000 in
theorem qfmt_6 (hi lo : Nat) (w : World) (h1 : hi < 18446744073709551616) (h2 : lo < 18446744073709551616) (ht : TW w) :
    Calls Tryd.prog 21 #[.agg #[.bool true, .int .u64 hi, .int .u64 lo]] w fun e w' => e = .returned (.string (str (fmtA true hi lo))) ∧ Below w.heap.size w w' := by
  obtain ⟨W0, hW0⟩ : ∃ W0, W0 = w.alloc (.cells #[.bool true, .int .u64 hi, .int .u64 lo] 25) := ⟨_, rfl⟩
  have HX := Lib.hid (show AB W0 w.heap.size true hi lo by rw [hW0]; exact ab_new w true hi lo)
  have HB := Lib.hid (show Below w.heap.size w W0 by rw [hW0]; exact below_alloc6 w _)
  have HT := Lib.hid (show TW W0 from ht.kept (by rw [hW0]; exact below_alloc6 w _))
  have HBY := Lib.hid (fun W => qbytes_any true hi lo W h1 h2)
  have HF := Lib.hid (fun W t => qfmt6_any (str (adrB true hi lo)) (digitsOf 65536 (numA hi lo) 8) W (by rw [str_toList, adrB_6 h1 h2]) (digitsOf_len _ _ _) (fun n h => digitsOf_lt (by omega) 8 _ n h) t)
  have HE : Hid (fmtA true hi lo = fmt6 (digitsOf 65536 (numA hi lo) 8)) := Lib.hid rfl
  generalize str (adrB true hi lo) = B at *
  generalize fmt6 (digitsOf 65536 (numA hi lo) 8) = F at *
  clear h1 h2 ht
  go_enter Tryd.func21, Tryd.ntmps21
  go_wp2_with fail
  rw [← hW0]
  clear hW0
  have x0 := HX.out.c0
  have x1 := HX.out.c1
  have x2 := HX.out.c2
  go_wp2_with fail
  refine (HBY.out _).mono ?_
  rintro e w2 ⟨rfl, hb⟩
  have HX2 := Lib.hid (HX.out.kept hb HX.out.lt)
  have HB2 := Lib.hid (HB.out.trans (hb.mono HB.out.size))
  have HT2 := Lib.hid (HT.out.kept hb)
  clear hb HX HB HT x0 x1 x2
  have x0 := HX2.out.c0
  go_wp2_with fail
  refine (HF.out _ HT2.out).mono ?_
  rintro e w3 ⟨rfl, hb⟩
  have HB3 := Lib.hid (HB2.out.trans (hb.mono HB2.out.size))
  clear hb
  go_wp2_with fail
  go_ret
  exact ⟨ret_str6 (by rw [HE.out]), HB3.out⟩
set_option maxHeartbeats 2000000 in
set_option maxRecDepth 20000 in
theorem qfmt_4 (lo : Nat) (w : World) (h2 : lo < 4294967296) (ht : TW w) :
    Calls Tryd.prog 21 #[.agg #[.bool false, .int .u64 0, .int .u64 lo]] w fun e w' => e = .returned (.string (str (fmtA false 0 lo))) ∧ Below w.heap.size w w' := by
  obtain ⟨W0, hW0⟩ : ∃ W0, W0 = w.alloc (.cells #[.bool false, .int .u64 0, .int .u64 lo] 25) := ⟨_, rfl⟩
  have HX := Lib.hid (show AB W0 w.heap.size false 0 lo by rw [hW0]; exact ab_new w false 0 lo)
  have HB := Lib.hid (show Below w.heap.size w W0 by rw [hW0]; exact below_alloc6 w _)
  have HT := Lib.hid (show TW W0 from ht.kept (by rw [hW0]; exact below_alloc6 w _))
  have HBY := Lib.hid (fun W => qbytes_any false 0 lo W (by omega) (by omega))
  have HE : Hid (fmtA false 0 lo = joinC 46 ((digitsOf 256 lo 4).map numL)) := Lib.hid rfl
  have hbl : (str (adrB false 0 lo)).data.toList = bytesN (digitsOf 256 lo 4) := by rw [str_toList, adrB_4 h2]
  have hdl := digitsOf_len 256 4 lo
  have hd := digitsOf_lt (b := 256) (by omega) 4 lo
  generalize digitsOf 256 lo 4 = l at *
  generalize str (adrB false 0 lo) = s at *
  have hlen := toList_length6 s
  have hs4 : s.size = 4 := by rw [← hlen, hbl]; unfold bytesN; rw [List.length_map, hdl]
  have HS := Lib.hid (show s.size = 4 ∧ l.length = 4 from ⟨hs4, hdl⟩)
  have HL := Lib.hid (fun (k : Nat) (h1 : k < s.size) (h2 : k < l.length) => show ((s[k]'h1).toNat : Nat) = l[k] ∧ l[k] < 256 from by
    have hb := hd l[k] (List.getElem_mem h2)
    refine ⟨?_, hb⟩
    have e : s.data.toList[k]? = some (s[k]'h1) := by rw [List.getElem?_eq_getElem (by rw [hlen]; exact h1)]; rfl
    rw [hbl] at e
    unfold bytesN at e
    rw [List.getElem?_map, List.getElem?_eq_getElem h2] at e
    rw [← Option.some.inj e, UInt8.toNat_ofNat']
    omega)
  have hs1000 : s.size ≤ 4 := by omega
  have HIT := Lib.hid (fun n W h t => pitoa6 n W h t)
  obtain ⟨i0, hinf, hz0, hz1, hz2⟩ := info_parts info_str6
  have HD := Lib.hid hd
  clear h2 ht hbl hdl hd hlen hs4
  go_enter Tryd.func21, Tryd.ntmps21
  go_wp2_with fail
  rw [← hW0]
  clear hW0
  have x0 := HX.out.c0
  have x1 := HX.out.c1
  have x2 := HX.out.c2
  go_wp2_with fail
  refine (HBY.out _).mono ?_
  rintro e w2 ⟨rfl, hb⟩
  have HX2 := Lib.hid (HX.out.kept hb HX.out.lt)
  have HB2 := Lib.hid (HB.out.trans (hb.mono HB.out.size))
  have HT2 := Lib.hid (HT.out.kept hb)
  clear hb HX HB HT x0 x1 x2 HBY
  have x0 := HX2.out.c0
  have HO0 := Lib.hid (show w2.ownsRow w2.heap.size 9 1 (.slice none (List.map numL []).length 0) (List.map numL []).length (strC (List.map numL [])) from World.ownsRow_nil w2 w2.heap.size 9 1)
  go_wp2_with fail
  go_loopw [4, 14] (fun v4 v14 wr => ∃ k cap' : Nat, ∃ A' : Option Addr, ∃ M : List By, v4 = .slice A' M.length cap' ∧ v14 = .int .i64 k ∧ k ≤ 4 ∧ Hid (M = (l.take k).map numL) ∧ Hid (Below w2.heap.size w2 wr) ∧ Hid (wr.ownsRow w2.heap.size 9 1 (.slice A' M.length cap') M.length (strC M))) (fun _ v14 _ => 4 - (intOf v14).toNat)
  case atStart => exact ⟨0, 0, none, [], rfl, rfl, Nat.zero_le _, Lib.hid rfl, Lib.hid (Below.refl _ _), HO0⟩
  case round =>
    clear HO0
    obtain ⟨k, cap', A', M, rfl, rfl, hk4, HK, HB, HO⟩ := hrel
    have hszw := HB.out.size
    by_cases hlt : k < 4
    · have hlts : k < s.size := by have := HS.out; omega
      have hkl : k < l.length := by have := HS.out; omega
      have dlt : decide ((k : Int) < (s.size : Int)) = true := by rw [decide_eq_true_eq]; omega
      have hlti : (k : Int) < (s.size : Int) := by omega
      have hki0 : (0 : Int) ≤ (k : Int) := by omega
      have hLk := HL.out k hlts hkl
      have hx8 := u8_lt (s[k]'hlts)
      have hMl0 : M.length = k := by rw [HK.out, List.length_map, List.length_take]; omega
      obtain ⟨k1, hk1⟩ : ∃ k1, k1 = k + 1 := ⟨_, rfl⟩
      have k1i : (k : Int) + 1 = (k1 : Int) := by omega
      obtain ⟨M2, hM2⟩ : ∃ M2, M2 = M ++ [numL l[k]] := ⟨_, rfl⟩
      have HM2 := Lib.hid (show M2 = (l.take k1).map numL by rw [hM2, HK.out, hk1, List.take_succ_eq_append_getElem hkl, List.map_append]; rfl)
      have HSN := Lib.hid (show strC M ++ [.string (str (numL l[k]))] = strC M2 by rw [hM2, strC_snoc])
      have hMl : M.length + 1 = M2.length := by rw [hM2]; simp
      have hMb : M.length ≤ 16 := by omega
      have HK1 := Lib.hid (show k1 = k + 1 ∧ k1 ≤ 4 from ⟨hk1, by omega⟩)
      have HTr := Lib.hid (HT2.out.kept HB.out)
      have hit := fun W t => HIT.out (l[k]) W (by have := hLk.2; omega) t
      rw [← hLk.1] at hit HSN
      clear hM2 hk1 hMl0 hLk
      generalize hxc : s[k]'hlts = c at *
      have HI := Lib.hid hit
      clear hit
      generalize str (numL c.toNat) = S at *
      go_wp2_with fail
      refine (HI.out _ HTr.out).mono ?_
      rintro e w3 ⟨rfl, hb⟩
      have HBB := Lib.hid (HB.out.trans (hb.mono HB.out.size))
      have HOB := Lib.hid (own_below6 HO.out hb)
      have hsz2 := HBB.out.size
      have HB3 := Lib.hid (HBB.out.alloc HBB.out.size (.cells #[.string S] 9))
      clear hb HB HO
      go_wp2_with (at_builtin; refine wpList_append_lies _ rfl _ _ 57 rfl w2.heap.size 9 i0 (.string ⟨#[]⟩) 1 16 Tryd.underlying57 hinf hz0 hz1 hz2 rfl (by omega) _ M.length (strC M) rfl (HOB.out.alloc _) ⟨w3.heap.size, 0, none⟩ 1 1 [.string S] rfl rfl ?c1 ?c2 (by omega) ?c3 ?c4 ?c5 _ rfl ?_)
      case c1 => exact World.news_of_block (cs := #[.string S]) (t := 9) (fr := (0, 0)) (heap_alloc_new w3 _)
      case c2 => simp [Value.oneCell']
      case c3 => unfold maxLen; omega
      case c4 => omega
      case c5 => simp; omega
      intro g2 cap2 w4 hown3 hgrow hat hlt2
      have hB4 := HB3.out.grown hgrow (by simp; omega) (fun j hj => (HOB.out.lt j hj).1)
      rw [HSN.out] at hown3
      try rw [hMl] at hown3
      try rw [hMl]
      have HB4 := Lib.hid hB4
      have HO3 := Lib.hid hown3
      clear hB4 hown3 hgrow hat hlt2 HOB HB3 hMl
      go_wp2_with fail
      go_roundw
      case rel => exact ⟨k1, cap2, some ⟨g2, 0, none⟩, M2, rfl, by go_num, HK1.out.2, HM2, HB4, HO3⟩
      case measure => have := HK1.out; simp [intOf]; omega
    · obtain rfl : k = 4 := by omega
      have dlt : decide (((4 : Nat) : Int) < (s.size : Int)) = false := by rw [decide_eq_false_iff_not]; have := HS.out; omega
      have s4 : s.size = 4 := HS.out.1
      have hMe : M = l.map numL := by rw [HK.out, List.take_of_length_le (by have := HS.out; omega)]
      have hM4 : M.length = 4 := by rw [hMe, List.length_map]; exact HS.out.2
      have hcap := own_cap6 HO.out
      obtain ⟨g, hA, hgl, hcell⟩ := own_stl HO.out (by omega)
      subst hA
      rw [hM4] at hcap
      have hj := pjoin6 g 0 cap' M 46 wr hgl (fun j p h => by rw [Nat.zero_add]; exact hcell j p h) (by omega) (by omega) (by
        have := join_len 46 3 M (fun p hp => by
          rw [hMe] at hp
          obtain ⟨d, hd, rfl⟩ := List.mem_map.1 hp
          exact num_len (by have := HD.out d hd; omega))
        omega)
      rw [hM4] at hj
      have HE2 := Lib.hid (show fmtA false 0 lo = joinC 46 M by rw [HE.out, hMe])
      have HJ := Lib.hid hj
      clear hj hcell hMe HO HK HL
      generalize joinC 46 M = F at *
      go_wp2_with fail
      refine HJ.out.mono ?_
      rintro e w3 ⟨rfl, hb⟩
      have HB3 := Lib.hid (HB2.out.trans ((HB.out.trans (hb.mono HB.out.size)).mono HB2.out.size))
      clear hb
      go_wp2_with fail
      go_ret
      exact ⟨ret_str6 (by rw [HE2.out]), HB3.out⟩
/-- Format of every address. -/
theorem qfmt_any (v6 : Bool) (hi lo : Nat) (w : World) (h1 : hi < 18446744073709551616) (h2 : lo < 18446744073709551616) (hv : vldA v6 hi lo = true) (ht : TW w) :
    Calls Tryd.prog 21 #[.agg #[.bool v6, .int .u64 hi, .int .u64 lo]] w fun e w' => e = .returned (.string (str (fmtA v6 hi lo))) ∧ Below w.heap.size w w' := by
  cases v6 with
  | true => exact qfmt_6 hi lo w h1 h2 ht
  | false =>
    unfold vldA at hv
    simp only [Bool.false_or, Bool.and_eq_true, beq_iff_eq, decide_eq_true_eq] at hv
    obtain ⟨rfl, h⟩ := hv
    exact qfmt_4 lo w h ht
end Go.Proofs.YtcblgbonijloiaaDoor

/- Contracts of the program's layer 6: Parse, ParsePrefix. -/
namespace Go.Proofs.YtcblgbonijloiaaDoor
open Go.ChangeShapes Go.WideShapes Go.ChangeAt Go.RowKit
set_option linter.unusedVariables false

/-- What Parse answers. -/
def pRes (s : By) : Value := if 64 < s.length then .tuple #[.agg #[.bool false, .int .u64 0, .int .u64 0], .int .i64 3] else adRes (prs s)
set_option maxHeartbeats 1000000 in
set_option maxRecDepth 20000 in
theorem qparse_any (s : ByteArray) (w : World) (hs : s.size ≤ 900) (ht : TW w) :
    Calls Tryd.prog 11 #[.string s] w fun e w' => e = .returned (pRes s.data.toList) ∧ Below w.heap.size w w' := by
  have hlen := toList_length6 s
  obtain ⟨W0, hW0⟩ : ∃ W0, W0 = w.alloc (.cells #[.bool false, .int .u64 0, .int .u64 0] 25) := ⟨_, rfl⟩
  have HB0 := Lib.hid (show Below w.heap.size w W0 by rw [hW0]; exact below_alloc6 w _)
  have HX0 := Lib.hid (show AB W0 w.heap.size false 0 0 by rw [hW0]; exact ab_new w false 0 0)
  have HT0 := Lib.hid (show TW W0 from ht.kept (by rw [hW0]; exact below_alloc6 w _))
  by_cases h64 : 64 < s.size
  · have HR := Lib.hid (show pRes s.data.toList = .tuple #[.agg #[.bool false, .int .u64 0, .int .u64 0], .int .i64 3] by unfold pRes; rw [if_pos (by omega)])
    have d : decide ((64 : Int) < (s.size : Int)) = true := by rw [decide_eq_true_eq]; omega
    clear ht HT0 hlen
    go_enter Tryd.func11, Tryd.ntmps11
    go_wp2_with fail
    rw [← hW0]
    exact bodyPost_ret (res_addr2 rfl _ _ rfl HX0.out) rfl ⟨by rw [HR.out]; rfl, HB0.out⟩
  · have hr : pRes s.data.toList = adRes (prs s.data.toList) := by unfold pRes; rw [if_neg (by omega)]
    have d : decide ((64 : Int) < (s.size : Int)) = false := by rw [decide_eq_false_iff_not]; omega
    have HC := Lib.hid (lib_strings_Contains_one s 58 W0)
    rw [has_one] at HC
    have key : ∀ (o : Option (Bool × Nat × Nat)), ∃ v hi lo e, adRes o = .tuple #[.agg #[.bool v, .int .u64 ((hi : Nat) : Int), .int .u64 ((lo : Nat) : Int)], .int .i64 e] := fun o => by
      cases o with
      | none => exact ⟨false, 0, 0, 2, rfl⟩
      | some p => obtain ⟨v, hi, lo⟩ := p; exact ⟨v, hi, lo, 0, rfl⟩
    by_cases hc : (58 : UInt8) ∈ s.data.toList
    · have HP := Lib.hid (qparse6_any s W0 hs HT0.out)
      rw [← prs_colon hc, ← hr] at HP
      obtain ⟨v, hi, lo, er, hv⟩ := key (prs s.data.toList)
      rw [← hr] at hv
      rw [hv] at HP
      have HR := Lib.hid hv
      rw [decide_eq_true hc] at HC
      clear hr hc hv key ht HT0 hlen
      go_enter Tryd.func11, Tryd.ntmps11
      go_wp2_with fail
      rw [← hW0]
      refine HC.out.mono ?_
      rintro e w1 ⟨rfl, hw⟩
      have hw' := hw.symm
      clear hw hW0
      subst hw'
      go_wp2_with fail
      refine HP.out.mono ?_
      rintro e w2 ⟨rfl, hb⟩
      have HB2 := Lib.hid (HB0.out.trans (hb.mono HB0.out.size))
      have HX2 := Lib.hid (HX0.out.kept hb HX0.out.lt)
      clear hb
      have x0 := HX2.out.c0
      have x1 := HX2.out.c1
      have x2 := HX2.out.c2
      have xf0 := HX2.out.f 0
      have xf1 := HX2.out.f 1
      have xf2 := HX2.out.f 2
      go_wp2_with fail
      change bodyPost _ _ _ _ _ (aset w2 w.heap.size v hi lo)
      exact bodyPost_ret (res_addr2 rfl _ _ rfl (HX2.out.set v hi lo)) rfl ⟨by rw [HR.out]; rfl, aset_below HB2.out (Nat.le_refl _) v hi lo⟩
    · have HP := Lib.hid (qparse4_any s W0 (by omega) HT0.out)
      rw [← prs_no_colon hc, ← hr] at HP
      obtain ⟨v, hi, lo, er, hv⟩ := key (prs s.data.toList)
      rw [← hr] at hv
      rw [hv] at HP
      have HR := Lib.hid hv
      rw [decide_eq_false hc] at HC
      clear hr hc hv key ht HT0 hlen
      go_enter Tryd.func11, Tryd.ntmps11
      go_wp2_with fail
      rw [← hW0]
      refine HC.out.mono ?_
      rintro e w1 ⟨rfl, hw⟩
      have hw' := hw.symm
      clear hw hW0
      subst hw'
      go_wp2_with fail
      refine HP.out.mono ?_
      rintro e w2 ⟨rfl, hb⟩
      have HB2 := Lib.hid (HB0.out.trans (hb.mono HB0.out.size))
      have HX2 := Lib.hid (HX0.out.kept hb HX0.out.lt)
      clear hb
      have x0 := HX2.out.c0
      have x1 := HX2.out.c1
      have x2 := HX2.out.c2
      have xf0 := HX2.out.f 0
      have xf1 := HX2.out.f 1
      have xf2 := HX2.out.f 2
      go_wp2_with fail
      change bodyPost _ _ _ _ _ (aset w2 w.heap.size v hi lo)
      exact bodyPost_ret (res_addr2 rfl _ _ rfl (HX2.out.set v hi lo)) rfl ⟨by rw [HR.out]; rfl, aset_below HB2.out (Nat.le_refl _) v hi lo⟩
end Go.Proofs.YtcblgbonijloiaaDoor

/- Contract of the program's layer 6: ParsePrefix. -/
namespace Go.Proofs.YtcblgbonijloiaaDoor
open Go.ChangeShapes Go.WideShapes Go.ChangeAt Go.RowKit
set_option linter.unusedVariables false

theorem ofDigits_lt (b : Nat) : ∀ (l : List Nat) (a k : Nat), a < b ^ k → (∀ n ∈ l, n < b) → l.foldl (fun n d => n * b + d) a < b ^ (k + l.length)
  | [], a, k, h, _ => h
  | n :: r, a, k, h, hl => by
    have hn := hl n (by simp)
    have h2 : a * b + n < b ^ (k + 1) := by
      rw [Nat.pow_succ]
      have := Nat.mul_le_mul_right b (show a + 1 ≤ b ^ k from h)
      rw [Nat.add_mul, Nat.one_mul] at this
      omega
    have := ofDigits_lt b r (a * b + n) (k + 1) h2 (fun m hm => hl m (by simp [hm]))
    rw [List.length_cons, show k + (r.length + 1) = k + 1 + r.length by omega]
    exact this
theorem decAll_len : ∀ (l : List By) (x : List Nat), decAll l = some x → x.length = l.length ∧ ∀ n ∈ x, n < 256
  | [], x, h => by rw [decAll] at h; obtain rfl := Option.some.inj h; simp
  | p :: r, x, h => by
    rw [decAll] at h
    cases hd : decS 255 p with
    | negSucc n => rw [hd] at h; cases h
    | ofNat n =>
      rw [hd] at h
      simp only at h
      have hn : n < 256 := by
        unfold decS at hd
        split at hd
        · cases hd
        · split at hd
          · cases hd
          · rename_i m _
            split at hd
            · cases hd
            · have : (m : Int) = (n : Int) := hd
              omega
      cases hr : decAll r with
      | none => rw [hr] at h; cases h
      | some y =>
        rw [hr] at h
        obtain rfl := Option.some.inj h
        have ih := decAll_len r y hr
        refine ⟨by simp [ih.1], fun m hm => ?_⟩
        rcases List.mem_cons.1 hm with rfl | hm
        · exact hn
        · exact ih.2 m hm
/-- What is read is an address. -/
theorem prs_ok {s : By} {v : Bool} {hi lo : Nat} (h : prs s = some (v, hi, lo)) : hi < 18446744073709551616 ∧ lo < 18446744073709551616 ∧ vldA v hi lo = true := by
  unfold prs at h
  cases h4 : parse4 s with
  | some l =>
    rw [h4] at h
    have h' : some (false, 0, ofDigits 256 l) = some (v, hi, lo) := h
    obtain ⟨e1, e2⟩ := Prod.mk.inj (Option.some.inj h')
    obtain ⟨e3, e4⟩ := Prod.mk.inj e2
    subst e1 e3 e4
    unfold parse4 at h4
    split at h4
    · rename_i hl
      have hd := decAll_len _ l h4
      have := ofDigits_lt 256 l 0 0 (by decide) hd.2
      rw [hd.1, hl] at this
      have e : (256 : Nat) ^ (0 + 4) = 4294967296 := by decide
      have h5 : ofDigits 256 l < 4294967296 := by rw [← e]; exact this
      refine ⟨by omega, by omega, ?_⟩
      unfold vldA
      rw [decide_eq_true h5]; rfl
    · cases h4
  | none =>
    rw [h4] at h
    simp only at h
    cases h6 : parse6 s with
    | none => rw [h6] at h; cases h
    | some l =>
      rw [h6] at h
      have h' : some (true, halfH l, halfL l) = some (v, hi, lo) := h
      obtain ⟨e1, e2⟩ := Prod.mk.inj (Option.some.inj h')
      obtain ⟨e3, e4⟩ := Prod.mk.inj e2
      subst e1 e3 e4
      have hl := parse6_lt h6
      have e : (65536 : Nat) ^ (0 + 4) = 18446744073709551616 := by decide
      have a := ofDigits_lt 65536 (l.take 4) 0 0 (by decide) (fun n hn => hl.2 n (List.mem_of_mem_take hn))
      have b := ofDigits_lt 65536 (l.drop 4) 0 0 (by decide) (fun n hn => hl.2 n (List.mem_of_mem_drop hn))
      rw [List.length_take, hl.1, show min 4 8 = 4 by decide, e] at a
      rw [List.length_drop, hl.1, show 8 - 4 = 4 by decide, e] at b
      exact ⟨a, b, rfl⟩
def zeroP (e : Int) : Value := .tuple #[.agg #[.bool false, .int .u64 0, .int .u64 0, .int .i64 0], .int .i64 e]
/-- What ParsePrefix answers of an address and a number of bits. -/
def ppEnd (v : Bool) (hi lo : Nat) : Option Nat → Value
  | none => zeroP 2
  | some n => if n ≤ width v then (if mkH v n hi = hi ∧ mkL v n lo = lo then .tuple #[.agg #[.bool v, .int .u64 hi, .int .u64 lo, .int .i64 n], .int .i64 0] else zeroP 2) else zeroP 4
theorem ppEnd_some (v : Bool) (hi lo n : Nat) : ppEnd v hi lo (some n) = if n ≤ width v then (if mkH v n hi = hi ∧ mkL v n lo = lo then .tuple #[.agg #[.bool v, .int .u64 hi, .int .u64 lo, .int .i64 n], .int .i64 0] else zeroP 2) else zeroP 4 := rfl
def ppB (v : Bool) : Option By → Option Nat
  | none => some (width v)
  | some r => decV r
def ppRes (s : By) : Value := if 64 < s.length then zeroP 3 else match prs (cutAt 47 s).1 with
  | none => zeroP 2
  | some (v, hi, lo) => ppEnd v hi lo (ppB v (cutAt 47 s).2)
theorem cutAt_len (c : UInt8) : ∀ s : By, (cutAt c s).1.length ≤ s.length ∧ ∀ r, (cutAt c s).2 = some r → r.length ≤ s.length
  | [] => ⟨by simp [cutAt], fun r h => by simp [cutAt] at h⟩
  | x :: q => by
    have ih := cutAt_len c q
    rw [cutAt]
    split
    · exact ⟨by simp, fun r h => by obtain rfl := Option.some.inj h; simp⟩
    · exact ⟨by simp only [List.length_cons]; omega, fun r h => by have := ih.2 r h; simp only [List.length_cons]; omega⟩
/-- Cut at a byte, as the walks use it. -/
theorem pcut1 (s : ByteArray) (c : UInt8) (w : World) (hs : s.size ≤ 1000) (ht : TW w) :
    Calls Tryd.prog 44 #[.string s, .string ⟨#[c]⟩] w fun e w' => e = .returned (.tuple #[.string (str (cutAt c s.data.toList).1), .string (str ((cutAt c s.data.toList).2.getD [])), .bool (cutAt c s.data.toList).2.isSome]) ∧ ∃ n, w' = w.drewN n := by
  obtain ⟨m, hm⟩ := ht.mx
  refine (lib_strings_Cut s ⟨#[c]⟩ m w (by omega) hm).mono ?_
  rintro e w' ⟨rfl, hw⟩
  have h2 : Lib.cut s.data.toList (⟨#[c]⟩ : ByteArray).data.toList = ((cutAt c s.data.toList).1, (cutAt c s.data.toList).2.getD [], (cutAt c s.data.toList).2.isSome) := by
    rw [byte_str, cut_one]
    cases hq : cutAt c s.data.toList with
    | mk a o => cases o <;> rfl
  rw [h2]
  exact ⟨rfl, hw⟩
set_option maxHeartbeats 2000000 in
set_option maxRecDepth 20000 in
theorem qpparse_any (s : ByteArray) (w : World) (hs : s.size ≤ 900) (ht : TW w) :
    Calls Tryd.prog 13 #[.string s] w fun e w' => e = .returned (ppRes s.data.toList) ∧ Below w.heap.size w w' := by
  have hlen := toList_length6 s
  have hm := addr_guard
  obtain ⟨W0, hW0⟩ : ∃ W0, W0 = w.alloc (.cells #[.bool false, .int .u64 0, .int .u64 0, .int .i64 0] 30) := ⟨_, rfl⟩
  have HB0 := Lib.hid (show Below w.heap.size w W0 by rw [hW0]; exact below_alloc6 w _)
  have HR0 := Lib.hid (show PB W0 w.heap.size false 0 0 0 by rw [hW0]; exact pb_new w false 0 0 0)
  have HT0 := Lib.hid (show TW W0 from ht.kept (by rw [hW0]; exact below_alloc6 w _))
  by_cases h64 : 64 < s.size
  · have HR := Lib.hid (show ppRes s.data.toList = zeroP 3 by unfold ppRes; rw [if_pos (by omega)])
    have d : decide ((64 : Int) < (s.size : Int)) = true := by rw [decide_eq_true_eq]; omega
    clear ht HT0 hlen
    go_enter Tryd.func13, Tryd.ntmps13
    go_wp2_with fail
    rw [← hW0]
    exact bodyPost_ret (res_pfx2 rfl _ _ rfl HR0.out) rfl ⟨by rw [HR.out]; rfl, HB0.out⟩
  have hr : ppRes s.data.toList = match prs (cutAt 47 s.data.toList).1 with
    | none => zeroP 2
    | some (v, hi, lo) => ppEnd v hi lo (ppB v (cutAt 47 s.data.toList).2) := by unfold ppRes; rw [if_neg (by omega)]
  have d : decide ((64 : Int) < (s.size : Int)) = false := by rw [decide_eq_false_iff_not]; omega
  have HCT := Lib.hid (pcut1 s 47 W0 (by omega) HT0.out)
  have hcl := cutAt_len 47 s.data.toList
  have HPA := Lib.hid (fun W h => qparse_any (str (cutAt 47 s.data.toList).1) W (by rw [str_size]; omega) h)
  rw [str_toList] at HPA
  have hpr : pRes (cutAt 47 s.data.toList).1 = adRes (prs (cutAt 47 s.data.toList).1) := by unfold pRes; rw [if_neg (by omega)]
  rw [hpr] at HPA
  obtain ⟨Rz, hRz⟩ : ∃ Rz, Rz = ppRes s.data.toList := ⟨_, rfl⟩
  rw [← hRz]
  rw [← hRz] at hr
  have hpo := fun v hi lo h => prs_ok (s := (cutAt 47 s.data.toList).1) (v := v) (hi := hi) (lo := lo) h
  generalize prs (cutAt 47 s.data.toList).1 = pr at *
  have hrl := hcl.2
  rw [hlen] at hrl
  generalize (cutAt 47 s.data.toList).1 = t1 at *
  generalize (cutAt 47 s.data.toList).2 = o at *
  clear hcl hpr hlen ht hRz
  cases pr with
  | none =>
    have HR := Lib.hid (show Rz = zeroP 2 from hr)
    simp only [adRes] at HPA
    clear hr hpo
    go_enter Tryd.func13, Tryd.ntmps13
    go_wp2_with fail
    rw [← hW0]
    refine HCT.out.mono ?_
    rintro e w1 ⟨rfl, nd, hw1⟩
    have HT1 := Lib.hid (show TW w1 by rw [hw1]; exact HT0.out.drewN nd)
    have HB1 := Lib.hid (show Below w.heap.size w w1 by rw [hw1]; exact below_drewN6 HB0.out nd)
    have HR1 := Lib.hid (show PB w1 w.heap.size false 0 0 0 by rw [hw1]; exact HR0.out)
    clear hw1 HT0 HB0 HR0 HCT hW0
    go_wp2_with fail
    refine (HPA.out _ HT1.out).mono ?_
    rintro e w2 ⟨rfl, hb⟩
    have HB2 := Lib.hid (HB1.out.trans (hb.mono HB1.out.size))
    have HR2 := Lib.hid (HR1.out.kept hb HR1.out.lt)
    clear hb HT1 HB1 HR1
    have hgr := HR2.out.lt
    have r0 := HR2.out.c0
    have r1 := HR2.out.c1
    have r2 := HR2.out.c2
    have r3 := HR2.out.c3
    have rf0 := HR2.out.f 0
    have rf1 := HR2.out.f 1
    have rf2 := HR2.out.f 2
    have rf3 := HR2.out.f 3
    go_wp2_with fail
    change bodyPost _ _ _ _ _ ((pset w2 w.heap.size false 0 0 0).alloc _)
    have HR3 := HR2.out.set false 0 0 0
    have HB3 := pset_below HB2.out (Nat.le_refl _) false 0 0 0
    exact bodyPost_ret (res_pfx2 rfl _ _ rfl (HR3.kept (below_alloc6 _ _) HR3.lt)) rfl ⟨by rw [HR.out]; rfl, HB3.trans ((below_alloc6 _ _).mono HB3.size)⟩
  | some p =>
    obtain ⟨v, hi, lo⟩ := p
    obtain ⟨h1, h2, hv⟩ := hpo v hi lo rfl
    have hr2 : Rz = ppEnd v hi lo (ppB v o) := hr
    simp only [adRes] at HPA
    have HWD := Lib.hid (fun W => qwidth_any v hi lo W)
    clear hr hpo hv
    go_enter Tryd.func13, Tryd.ntmps13
    go_wp2_with fail
    rw [← hW0]
    refine HCT.out.mono ?_
    rintro e w1 ⟨rfl, nd, hw1⟩
    have HT1 := Lib.hid (show TW w1 by rw [hw1]; exact HT0.out.drewN nd)
    have HB1 := Lib.hid (show Below w.heap.size w w1 by rw [hw1]; exact below_drewN6 HB0.out nd)
    have HR1 := Lib.hid (show PB w1 w.heap.size false 0 0 0 by rw [hw1]; exact HR0.out)
    clear hw1 HT0 HB0 HR0 HCT hW0
    go_wp2_with fail
    refine (HPA.out _ HT1.out).mono ?_
    rintro e w2 ⟨rfl, hb⟩
    have HB2 := Lib.hid ((HB1.out.trans (hb.mono HB1.out.size)).trans ((below_alloc6 w2 (.cells #[.bool v, .int .u64 hi, .int .u64 lo] 25)).mono (HB1.out.trans (hb.mono HB1.out.size)).size))
    have HR2 := Lib.hid ((HR1.out.kept hb HR1.out.lt).kept (below_alloc6 w2 (.cells #[.bool v, .int .u64 hi, .int .u64 lo] 25)) (HR1.out.kept hb HR1.out.lt).lt)
    have HX2 := Lib.hid (ab_new w2 v hi lo)
    clear hb HT1 HB1 HR1
    go_wp2_with fail
    refine (HWD.out _).mono ?_
    rintro e w4 ⟨rfl, hb⟩
    obtain ⟨g7, hg7⟩ : ∃ g7, g7 = w2.heap.size := ⟨_, rfl⟩
    rw [← hg7] at HX2 ⊢
    have HB4 := Lib.hid (HB2.out.trans (hb.mono HB2.out.size))
    have HR4 := Lib.hid (HR2.out.kept hb HR2.out.lt)
    have HX4 := Lib.hid (HX2.out.kept hb HX2.out.lt)
    clear hb HB2 HR2 HX2 hg7
    have hgr := HR4.out.lt
    have hgx := HX4.out.lt
    have x0 := HX4.out.c0
    have x1 := HX4.out.c1
    have x2 := HX4.out.c2
    have r0 := HR4.out.c0
    have r1 := HR4.out.c1
    have r2 := HR4.out.c2
    have r3 := HR4.out.c3
    have rf0 := HR4.out.f 0
    have rf1 := HR4.out.f 1
    have rf2 := HR4.out.f 2
    have rf3 := HR4.out.f 3
    cases o with
    | none =>
      simp only [Option.getD_none, Option.isSome_none]
      have hr3 := hr2
      simp only [ppB] at hr2
      clear hr3
      by_cases hn : width v ≤ width v
      · have HM := Lib.hid (fun W => qmake_ok v hi lo (width v) W h1 h2 hn)
        have qn := fun W => addr_neq v v (mkH v (width v) hi : Nat) hi (mkL v (width v) lo : Nat) lo W
        by_cases hz : mkH v (width v) hi = hi ∧ mkL v (width v) lo = lo
        · have HE := Lib.hid (show Rz = .tuple #[.agg #[.bool v, .int .u64 hi, .int .u64 lo, .int .i64 (width v : Nat)], .int .i64 0] by rw [hr2, ppEnd_some, if_pos hn, if_pos hz])
          rw [hz.1, hz.2] at HM qn
          simp only [beq_self_eq_true, Bool.and_self, Bool.not_true] at qn
          clear hz hr2 h1 h2
          generalize width v = wd at *
          go_wp2_with fail
          refine (HM.out _).mono ?_
          rintro e w5 ⟨rfl, hb⟩
          have HB5 := Lib.hid (HB4.out.trans (hb.mono HB4.out.size))
          have HR5 := Lib.hid (HR4.out.kept hb HR4.out.lt)
          have HX5 := Lib.hid (HX4.out.kept hb HX4.out.lt)
          clear hb hgr hgx x0 x1 x2 r0 r1 r2 r3 rf0 rf1 rf2 rf3
          have hgr := HR5.out.lt
          have hgx := HX5.out.lt
          have x0 := HX5.out.c0
          have x1 := HX5.out.c1
          have x2 := HX5.out.c2
          have r0 := HR5.out.c0
          have r1 := HR5.out.c1
          have r2 := HR5.out.c2
          have r3 := HR5.out.c3
          have rf0 := HR5.out.f 0
          have rf1 := HR5.out.f 1
          have rf2 := HR5.out.f 2
          have rf3 := HR5.out.f 3
          go_wp2_with fail
          change bodyPost _ _ _ _ _ ((pset w5 w.heap.size v hi lo (wd : Nat)).alloc _)
          have HR6 := HR5.out.set v hi lo (wd : Nat)
          have HB6 := pset_below HB5.out (Nat.le_refl _) v hi lo (wd : Nat)
          exact bodyPost_ret (res_pfx2 rfl _ _ rfl (HR6.kept (below_alloc6 _ _) HR6.lt)) rfl ⟨by rw [HE.out]; rfl, HB6.trans ((below_alloc6 _ _).mono HB6.size)⟩
        · have HE := Lib.hid (show Rz = zeroP 2 by rw [hr2, ppEnd_some, if_pos hn, if_neg hz])
          have hzb : (v == v && (((mkH v (width v) hi : Nat) : Int) == (hi : Int) && ((mkL v (width v) lo : Nat) : Int) == (lo : Int))) = false := by
            rw [Bool.eq_false_iff]
            intro e
            simp only [beq_self_eq_true, Bool.true_and, Bool.and_eq_true, beq_iff_eq] at e
            exact hz ⟨by omega, by omega⟩
          rw [hzb] at qn
          simp only [Bool.not_false] at qn
          clear hz hzb hr2 h1 h2
          generalize mkH v (width v) hi = hi' at *
          generalize mkL v (width v) lo = lo' at *
          generalize width v = wd at *
          go_wp2_with fail
          refine (HM.out _).mono ?_
          rintro e w5 ⟨rfl, hb⟩
          have HB5 := Lib.hid (HB4.out.trans (hb.mono HB4.out.size))
          have HR5 := Lib.hid (HR4.out.kept hb HR4.out.lt)
          have HX5 := Lib.hid (HX4.out.kept hb HX4.out.lt)
          clear hb hgr hgx x0 x1 x2 r0 r1 r2 r3 rf0 rf1 rf2 rf3
          have hgr := HR5.out.lt
          have hgx := HX5.out.lt
          have x0 := HX5.out.c0
          have x1 := HX5.out.c1
          have x2 := HX5.out.c2
          have r0 := HR5.out.c0
          have r1 := HR5.out.c1
          have r2 := HR5.out.c2
          have r3 := HR5.out.c3
          have rf0 := HR5.out.f 0
          have rf1 := HR5.out.f 1
          have rf2 := HR5.out.f 2
          have rf3 := HR5.out.f 3
          go_wp2_with fail
          change bodyPost _ _ _ _ _ ((pset w5 w.heap.size false 0 0 0).alloc _)
          have HR6 := HR5.out.set false 0 0 0
          have HB6 := pset_below HB5.out (Nat.le_refl _) false 0 0 0
          exact bodyPost_ret (res_pfx2 rfl _ _ rfl (HR6.kept (below_alloc6 _ _) HR6.lt)) rfl ⟨by rw [HE.out]; rfl, HB6.trans ((below_alloc6 _ _).mono HB6.size)⟩
      · exact absurd (Nat.le_refl _) hn
    | some r =>
      simp only [Option.getD_some, Option.isSome_some]
      simp only [ppB] at hr2
      have HD := Lib.hid (fun W => qdecimal_any (str r) W (by rw [str_size]; have := hrl r rfl; omega))
      rw [str_toList] at HD
      have hdl := fun n h => decV_le (s := r) (n := n) h
      cases hdv : decV r with
      | none =>
        rw [hdv] at HD hr2
        simp only [vRes] at HD
        have HE := Lib.hid (show Rz = zeroP 2 from hr2)
        clear hr2 h1 h2 hdl hdv
        go_wp2_with fail
        refine (HD.out _).mono ?_
        rintro e w5 ⟨rfl, hw⟩
        have hw' := hw.symm
        clear hw
        subst hw'
        go_wp2_with fail
        change bodyPost _ _ _ _ _ (pset w4 w.heap.size false 0 0 0)
        have HR6 := HR4.out.set false 0 0 0
        have HB6 := pset_below HB4.out (Nat.le_refl _) false 0 0 0
        exact bodyPost_ret (res_pfx2 rfl _ _ rfl HR6) rfl ⟨by rw [HE.out]; rfl, HB6⟩
      | some n =>
        rw [hdv] at HD hr2
        simp only [vRes] at HD
        have hn65 := hdl n hdv
        clear hdl hdv
        by_cases hn : n ≤ width v
        · have HM := Lib.hid (fun W => qmake_ok v hi lo (n) W h1 h2 hn)
          have qn := fun W => addr_neq v v (mkH v (n) hi : Nat) hi (mkL v (n) lo : Nat) lo W
          by_cases hz : mkH v (n) hi = hi ∧ mkL v (n) lo = lo
          · have HE := Lib.hid (show Rz = .tuple #[.agg #[.bool v, .int .u64 hi, .int .u64 lo, .int .i64 (n : Nat)], .int .i64 0] by rw [hr2, ppEnd_some, if_pos hn, if_pos hz])
            rw [hz.1, hz.2] at HM qn
            simp only [beq_self_eq_true, Bool.and_self, Bool.not_true] at qn
            clear hz hr2 h1 h2
            generalize width v = wd at *
            go_wp2_with fail
            refine (HD.out _).mono ?_
            rintro e w4' ⟨rfl, hw⟩
            have hw' := hw.symm
            clear hw
            subst hw'
            go_wp2_with fail
            refine (HM.out _).mono ?_
            rintro e w5 ⟨rfl, hb⟩
            have HB5 := Lib.hid (HB4.out.trans (hb.mono HB4.out.size))
            have HR5 := Lib.hid (HR4.out.kept hb HR4.out.lt)
            have HX5 := Lib.hid (HX4.out.kept hb HX4.out.lt)
            clear hb hgr hgx x0 x1 x2 r0 r1 r2 r3 rf0 rf1 rf2 rf3
            have hgr := HR5.out.lt
            have hgx := HX5.out.lt
            have x0 := HX5.out.c0
            have x1 := HX5.out.c1
            have x2 := HX5.out.c2
            have r0 := HR5.out.c0
            have r1 := HR5.out.c1
            have r2 := HR5.out.c2
            have r3 := HR5.out.c3
            have rf0 := HR5.out.f 0
            have rf1 := HR5.out.f 1
            have rf2 := HR5.out.f 2
            have rf3 := HR5.out.f 3
            go_wp2_with fail
            change bodyPost _ _ _ _ _ ((pset w5 w.heap.size v hi lo (n : Nat)).alloc _)
            have HR6 := HR5.out.set v hi lo (n : Nat)
            have HB6 := pset_below HB5.out (Nat.le_refl _) v hi lo (n : Nat)
            exact bodyPost_ret (res_pfx2 rfl _ _ rfl (HR6.kept (below_alloc6 _ _) HR6.lt)) rfl ⟨by rw [HE.out]; rfl, HB6.trans ((below_alloc6 _ _).mono HB6.size)⟩
          · have HE := Lib.hid (show Rz = zeroP 2 by rw [hr2, ppEnd_some, if_pos hn, if_neg hz])
            have hzb : (v == v && (((mkH v (n) hi : Nat) : Int) == (hi : Int) && ((mkL v (n) lo : Nat) : Int) == (lo : Int))) = false := by
              rw [Bool.eq_false_iff]
              intro e
              simp only [beq_self_eq_true, Bool.true_and, Bool.and_eq_true, beq_iff_eq] at e
              exact hz ⟨by omega, by omega⟩
            rw [hzb] at qn
            simp only [Bool.not_false] at qn
            clear hz hzb hr2 h1 h2
            generalize mkH v (n) hi = hi' at *
            generalize mkL v (n) lo = lo' at *
            generalize width v = wd at *
            go_wp2_with fail
            refine (HD.out _).mono ?_
            rintro e w4' ⟨rfl, hw⟩
            have hw' := hw.symm
            clear hw
            subst hw'
            go_wp2_with fail
            refine (HM.out _).mono ?_
            rintro e w5 ⟨rfl, hb⟩
            have HB5 := Lib.hid (HB4.out.trans (hb.mono HB4.out.size))
            have HR5 := Lib.hid (HR4.out.kept hb HR4.out.lt)
            have HX5 := Lib.hid (HX4.out.kept hb HX4.out.lt)
            clear hb hgr hgx x0 x1 x2 r0 r1 r2 r3 rf0 rf1 rf2 rf3
            have hgr := HR5.out.lt
            have hgx := HX5.out.lt
            have x0 := HX5.out.c0
            have x1 := HX5.out.c1
            have x2 := HX5.out.c2
            have r0 := HR5.out.c0
            have r1 := HR5.out.c1
            have r2 := HR5.out.c2
            have r3 := HR5.out.c3
            have rf0 := HR5.out.f 0
            have rf1 := HR5.out.f 1
            have rf2 := HR5.out.f 2
            have rf3 := HR5.out.f 3
            go_wp2_with fail
            change bodyPost _ _ _ _ _ ((pset w5 w.heap.size false 0 0 0).alloc _)
            have HR6 := HR5.out.set false 0 0 0
            have HB6 := pset_below HB5.out (Nat.le_refl _) false 0 0 0
            exact bodyPost_ret (res_pfx2 rfl _ _ rfl (HR6.kept (below_alloc6 _ _) HR6.lt)) rfl ⟨by rw [HE.out]; rfl, HB6.trans ((below_alloc6 _ _).mono HB6.size)⟩
        · have HM := Lib.hid (fun W => qmake_bad v hi lo ((n : Nat) : Int) W (.inr (by omega)))
          have HE := Lib.hid (show Rz = zeroP 4 by rw [hr2, ppEnd_some, if_neg hn])
          clear hr2 h1 h2
          generalize width v = wd at *
          go_wp2_with fail
          refine (HD.out _).mono ?_
          rintro e w4' ⟨rfl, hw⟩
          have hw' := hw.symm
          clear hw
          subst hw'
          go_wp2_with fail
          refine (HM.out _).mono ?_
          rintro e w5 ⟨rfl, hb⟩
          have HB5 := Lib.hid (HB4.out.trans (hb.mono HB4.out.size))
          have HR5 := Lib.hid (HR4.out.kept hb HR4.out.lt)
          have HX5 := Lib.hid (HX4.out.kept hb HX4.out.lt)
          clear hb hgr hgx x0 x1 x2 r0 r1 r2 r3 rf0 rf1 rf2 rf3
          have hgr := HR5.out.lt
          have hgx := HX5.out.lt
          have x0 := HX5.out.c0
          have x1 := HX5.out.c1
          have x2 := HX5.out.c2
          have r0 := HR5.out.c0
          have r1 := HR5.out.c1
          have r2 := HR5.out.c2
          have r3 := HR5.out.c3
          have rf0 := HR5.out.f 0
          have rf1 := HR5.out.f 1
          have rf2 := HR5.out.f 2
          have rf3 := HR5.out.f 3
          go_wp2_with fail
          change bodyPost _ _ _ _ _ ((pset w5 w.heap.size false 0 0 0).alloc _)
          have HR6 := HR5.out.set false 0 0 0
          have HB6 := pset_below HB5.out (Nat.le_refl _) false 0 0 0
          exact bodyPost_ret (res_pfx2 rfl _ _ rfl (HR6.kept (below_alloc6 _ _) HR6.lt)) rfl ⟨by rw [HE.out]; rfl, HB6.trans ((below_alloc6 _ _).mono HB6.size)⟩
end Go.Proofs.YtcblgbonijloiaaDoor

/- Contract of the program's layer 6: FormatPrefix. -/
namespace Go.Proofs.YtcblgbonijloiaaDoor
open Go.ChangeShapes Go.WideShapes Go.ChangeAt Go.RowKit
set_option linter.unusedVariables false

theorem fmtA_fmtS {v : Bool} {hi lo : Nat} (hv : vldA v hi lo = true) : fmtA v hi lo = fmtS ⟨v, numA hi lo⟩ := by
  cases v with
  | true => rfl
  | false =>
    unfold vldA at hv
    simp only [Bool.false_or, Bool.and_eq_true, beq_iff_eq, decide_eq_true_eq] at hv
    obtain ⟨rfl, h⟩ := hv
    have : numA 0 lo = lo := by unfold numA; omega
    unfold fmtA fmtS
    rw [this]
theorem adr_ok {v : Bool} {hi lo : Nat} (h1 : hi < 18446744073709551616) (h2 : lo < 18446744073709551616) (hv : vldA v hi lo = true) : (Adr.mk v (numA hi lo)).ok := by
  show numA hi lo < 2 ^ width v
  cases v with
  | true => exact numA_lt h1 h2
  | false =>
    unfold vldA at hv
    simp only [Bool.false_or, Bool.and_eq_true, beq_iff_eq, decide_eq_true_eq] at hv
    obtain ⟨rfl, h⟩ := hv
    have : numA 0 lo = lo := by unfold numA; omega
    rw [this]
    have e : (2 : Nat) ^ width false = 4294967296 := by decide
    rw [e]; exact h
theorem fmtA_len {v : Bool} {hi lo : Nat} (h1 : hi < 18446744073709551616) (h2 : lo < 18446744073709551616) (hv : vldA v hi lo = true) : (fmtA v hi lo).length ≤ 42 := by
  rw [fmtA_fmtS hv]; exact fmt_len (adr_ok h1 h2 hv)
/-- The canonical text of a prefix. -/
def fmtPA (v : Bool) (hi lo k : Nat) : By := fmtA v hi lo ++ 47 :: numL k
set_option maxHeartbeats 2000000 in
set_option maxRecDepth 20000 in
theorem qfmtp_any (v6 : Bool) (hi lo k : Nat) (w : World) (h1 : hi < 18446744073709551616) (h2 : lo < 18446744073709551616) (hv : vldA v6 hi lo = true) (hk : k ≤ 128) (ht : TW w) :
    Calls Tryd.prog 25 #[.agg #[.bool v6, .int .u64 hi, .int .u64 lo, .int .i64 k]] w fun e w' => e = .returned (.string (str (fmtPA v6 hi lo k))) ∧ Below w.heap.size w w' := by
  obtain ⟨W0, hW0⟩ : ∃ W0, W0 = w.alloc (.cells #[.bool v6, .int .u64 hi, .int .u64 lo, .int .i64 k] 30) := ⟨_, rfl⟩
  have HX := Lib.hid (show PB W0 w.heap.size v6 hi lo k by rw [hW0]; exact pb_new w v6 hi lo k)
  have HB := Lib.hid (show Below w.heap.size w W0 by rw [hW0]; exact below_alloc6 w _)
  have HT := Lib.hid (show TW W0 from ht.kept (by rw [hW0]; exact below_alloc6 w _))
  have HF := Lib.hid (fun W t => qfmt_any v6 hi lo W h1 h2 hv t)
  have HI := Lib.hid (fun W t => pitoa6 k W (by omega) t)
  have hl := fmtA_len h1 h2 hv
  have hl2 : (numL k).length ≤ 3 := num_len (by omega)
  have HC := Lib.hid (show str (fmtA v6 hi lo) ++ (⟨#[47]⟩ : ByteArray) ++ str (numL k) = str (fmtPA v6 hi lo k) by
    unfold fmtPA
    rw [show (47 : UInt8) :: numL k = [47] ++ numL k from rfl, ← List.append_assoc, ← str_append, ← str_append]; rfl)
  have hs1 : (str (fmtA v6 hi lo)).size ≤ 42 := by rw [str_size]; exact hl
  have hs2 : (str (numL k)).size ≤ 3 := by rw [str_size]; exact hl2
  generalize str (fmtA v6 hi lo) = P at *
  generalize str (numL k) = Q at *
  generalize hSe : str (fmtPA v6 hi lo k) = S at *
  have HSE := Lib.hid hSe
  have hk1 : (9223372036854775807 < P.size + 1) = False := by simp only [eq_iff_iff, iff_false]; omega
  have hk2 : (9223372036854775807 < P.size + (⟨#[47]⟩ : ByteArray).size) = False := hk1
  have hk3 : (9223372036854775807 < (P ++ (⟨#[47]⟩ : ByteArray)).size + Q.size) = False := by
    rw [ByteArray.size_append]; simp only [eq_iff_iff, iff_false]; show ¬ (_ < P.size + 1 + _); omega
  have hk4 : (9223372036854775807 < P.size + 1 + Q.size) = False := by simp only [eq_iff_iff, iff_false]; omega
  clear h1 h2 hv ht hSe hl hl2
  go_enter Tryd.func25, Tryd.ntmps25
  go_wp2_with fail
  rw [← hW0]
  clear hW0
  have x0 := HX.out.c0
  have x1 := HX.out.c1
  have x2 := HX.out.c2
  have x3 := HX.out.c3
  go_region_held3 (fun w' => w'.cell? ⟨w.heap.size, 0, none⟩ = some (.bool v6) ∧ w'.cell? ⟨w.heap.size, 1, none⟩ = some (.int .u64 hi) ∧ w'.cell? ⟨w.heap.size, 2, none⟩ = some (.int .u64 lo) ∧ w'.cell? ⟨w.heap.size, 3, none⟩ = some (.int .i64 k)) (go_keep) (first
    | (go_at_call 21; refine (HF.out _ ?_).mono ?_; exact ⟨HT.out.mx, HT.out.p10, HT.out.db⟩; rintro e w5 ⟨rfl, hb3d⟩; have hb5 : Below W0.heap.size W0 w5 := ⟨hb3d.os, hb3d.tape, hb3d.output, hb3d.size, hb3d.block⟩; have hx5 := HX.out.kept hb5 HX.out.lt; have ht5 := HT.out.kept hb5; have j0 := hx5.c0; have j1 := hx5.c1; have j2 := hx5.c2; have j3 := hx5.c3)
    | (go_at_call 53; refine (HI.out _ ?_).mono ?_; exact ht5; rintro e w6 ⟨rfl, hb4d⟩; have hb6 : Below W0.heap.size W0 w6 := hb5.trans (hb4d.mono hb5.size); have hx6 := HX.out.kept hb6 HX.out.lt; have i0 := hx6.c0; have i1 := hx6.c1; have i2 := hx6.c2; have i3 := hx6.c3))
  all_goals
    have HB6 := Lib.hid (HB.out.trans (hb6.mono HB.out.size))
    go_wp2_with fail
    go_ret
    exact ⟨ret_str6 HC.out, HB6.out⟩
end Go.Proofs.YtcblgbonijloiaaDoor

/- Contracts of the program's layer 6: Next, Previous. -/
namespace Go.Proofs.YtcblgbonijloiaaDoor
open Go.ChangeShapes Go.WideShapes Go.ChangeAt Go.RowKit
set_option linter.unusedVariables false

theorem vldP_whole (v6 : Bool) : vldP v6 0 0 ((0 : Nat) : Int) = true := by cases v6 <;> decide +kernel
theorem last_h (v6 : Bool) : lowO (frH v6 0) 0 = if v6 then 18446744073709551615 else 0 := by cases v6 <;> decide +kernel
theorem last_l (v6 : Bool) : lowO (frL v6 0) 0 = if v6 then 18446744073709551615 else 4294967295 := by cases v6 <;> decide +kernel
/-- Is an address the last one of its family? -/
def isLast (v6 : Bool) (hi lo : Nat) : Bool := v6 == v6 && ((hi : Int) == ((lowO (frH v6 0) 0 : Nat) : Int) && (lo : Int) == ((lowO (frL v6 0) 0 : Nat) : Int))
theorem last_true {v6 : Bool} {hi lo : Nat} (h : isLast v6 hi lo = true) : nxtA v6 hi lo = none := by
  unfold isLast at h
  rw [last_h, last_l] at h
  simp only [beq_self_eq_true, Bool.true_and, Bool.and_eq_true, beq_iff_eq] at h
  obtain ⟨a, b⟩ := h
  unfold nxtA
  cases v6 with
  | true =>
    rw [if_pos rfl] at a b
    rw [if_neg (by omega), if_pos rfl, if_neg (by omega)]
  | false =>
    rw [if_neg (by decide)] at a b
    rw [if_pos (by omega), if_pos ⟨rfl, by omega⟩]
theorem last_false {v6 : Bool} {hi lo : Nat} (h : isLast v6 hi lo = false) (hv : vldA v6 hi lo = true) (h1 : hi < 18446744073709551616) (h2 : lo < 18446744073709551616) :
    (lo + 1 < 18446744073709551616 ∧ nxtA v6 hi lo = some (v6, hi, lo + 1)) ∨ (lo + 1 = 18446744073709551616 ∧ hi + 1 < 18446744073709551616 ∧ nxtA v6 hi lo = some (v6, hi + 1, 0)) := by
  unfold isLast at h
  rw [last_h, last_l] at h
  simp only [beq_self_eq_true, Bool.true_and, Bool.and_eq_false_iff, beq_eq_false_iff_ne, ne_eq] at h
  unfold vldA at hv
  unfold nxtA
  cases v6 with
  | true =>
    rw [if_pos rfl, if_pos rfl] at h
    by_cases a : lo + 1 < 18446744073709551616
    · left
      rw [if_pos a, if_neg (by simp)]
      exact ⟨a, rfl⟩
    · right
      rw [if_neg a, if_pos rfl, if_pos (by omega)]
      exact ⟨by omega, by omega, rfl⟩
  | false =>
    simp only [Bool.false_eq_true, if_false] at h
    simp only [Bool.false_or, Bool.and_eq_true, beq_iff_eq, decide_eq_true_eq] at hv
    left
    rw [if_pos (by omega), if_neg (by intro e; omega)]
    exact ⟨by omega, rfl⟩
theorem rng_hi (v1 : Bool) (h1 l1 : Int) (v2 : Bool) (h2 l2 : Int) (W : World) : (Instr.field 40 (.agg #[.bool v1, .int .u64 h1, .int .u64 l1, .bool v2, .int .u64 h2, .int .u64 l2]) 1).run Tryd.prog W = .ok (.agg #[.bool v2, .int .u64 h2, .int .u64 l2]) W := by kernel_rfl
theorem rng_lo (v1 : Bool) (h1 l1 : Int) (v2 : Bool) (h2 l2 : Int) (W : World) : (Instr.field 40 (.agg #[.bool v1, .int .u64 h1, .int .u64 l1, .bool v2, .int .u64 h2, .int .u64 l2]) 0).run Tryd.prog W = .ok (.agg #[.bool v1, .int .u64 h1, .int .u64 l1]) W := by kernel_rfl
set_option maxHeartbeats 1000000 in
set_option maxRecDepth 20000 in
theorem qnext_any (v6 : Bool) (hi lo : Nat) (w : World) (h1 : hi < 18446744073709551616) (h2 : lo < 18446744073709551616) (hv : vldA v6 hi lo = true) :
    Calls Tryd.prog 31 #[.agg #[.bool v6, .int .u64 hi, .int .u64 lo]] w fun e w' => e = .returned (aRes (nxtA v6 hi lo)) ∧ Below w.heap.size w w' := by
  have hm := addr_guard
  have hfd := rng_hi v6 0 0 v6 (lowO (frH v6 0) 0 : Nat) (lowO (frL v6 0) 0 : Nat)
  have HX := Lib.hid (ab_new w v6 hi lo |>.kept (below_alloc6 _ (.cells #[.bool false, .int .u64 0, .int .u64 0] 25)) (alloc_lt6 w _))
  have HR := Lib.hid (ab2 w (.cells #[.bool v6, .int .u64 hi, .int .u64 lo] 25) false 0 0)
  have HB := Lib.hid (below2 w (.cells #[.bool v6, .int .u64 hi, .int .u64 lo] 25) (.cells #[.bool false, .int .u64 0, .int .u64 0] 25))
  have HF := Lib.hid (fun W => qfirst_any v6 W)
  have HBD := Lib.hid (fun W => qbounds_any v6 0 0 0 W (by decide) (by decide) (vldP_whole v6))
  have HE := Lib.hid (fun (h : isLast v6 hi lo = true) => last_true h)
  have HN := Lib.hid (fun (h : isLast v6 hi lo = false) => last_false h hv h1 h2)
  have qe : ∀ W, (binOp .eql 25 (.agg #[.bool v6, .int .u64 hi, .int .u64 lo]) (.agg #[.bool v6, .int .u64 (lowO (frH v6 0) 0 : Nat), .int .u64 (lowO (frL v6 0) 0 : Nat)])).run Tryd.prog W = .ok (.bool (isLast v6 hi lo)) W := fun W => addr_eql v6 v6 hi (lowO (frH v6 0) 0 : Nat) lo (lowO (frL v6 0) 0 : Nat) W
  generalize isLast v6 hi lo = E at *
  generalize lowO (frH v6 0) 0 = lh at *
  generalize lowO (frL v6 0) 0 = ll at *
  clear h1 h2 hv
  go_enter Tryd.func31, Tryd.ntmps31
  go_wp2_with fail
  generalize (w.alloc (.cells #[.bool v6, .int .u64 hi, .int .u64 lo] 25)).alloc (.cells #[.bool false, .int .u64 0, .int .u64 0] 25) = w1 at *
  have x0 := HX.out.c0
  have x1 := HX.out.c1
  have x2 := HX.out.c2
  go_region_held3 (fun w' => w'.cell? ⟨w.heap.size, 0, none⟩ = some (.bool v6) ∧ w'.cell? ⟨w.heap.size, 1, none⟩ = some (.int .u64 hi) ∧ w'.cell? ⟨w.heap.size, 2, none⟩ = some (.int .u64 lo)) (go_keep) (first
    | (go_at_call 61; refine (HF.out _).mono ?_; rintro e w5 ⟨rfl, hb3d⟩; have hb5 : Below w1.heap.size w1 w5 := ⟨hb3d.os, hb3d.tape, hb3d.output, hb3d.size, hb3d.block⟩; have hx5 := HX.out.kept hb5 HX.out.lt; have j0 := hx5.c0; have j1 := hx5.c1; have j2 := hx5.c2)
    | (go_at_call 27; refine (HBD.out _).mono ?_; rintro e w6 ⟨rfl, hb4d⟩; have hb6 : Below w1.heap.size w1 w6 := hb5.trans ((show Below w5.heap.size w5 w6 from ⟨hb4d.os, hb4d.tape, hb4d.output, hb4d.size, hb4d.block⟩).mono hb5.size); have hx6 := HX.out.kept hb6 HX.out.lt; have i0 := hx6.c0; have i1 := hx6.c1; have i2 := hx6.c2))
  all_goals
    have HX6 := Lib.hid hx6
    have HR6 := Lib.hid (HR.out.kept hb6 HR.out.lt)
    have HB6 := Lib.hid (HB.out.trans (hb6.mono HB.out.size))
    clear hb5 hx5 j0 j1 j2 hb6 hx6 i0 i1 i2 x0 x1 x2 HX HR HB qe hfd
    have x0 := HX6.out.c0
    have x1 := HX6.out.c1
    have x2 := HX6.out.c2
    have xf1 := HX6.out.f 1
    have xf2 := HX6.out.f 2
    have r0 := HR6.out.c0
    have r1 := HR6.out.c1
    have r2 := HR6.out.c2
    have rf0 := HR6.out.f 0
    have rf1 := HR6.out.f 1
    have rf2 := HR6.out.f 2
    cases E with
    | true =>
      have HEE := Lib.hid (HE.out rfl)
      clear HE HN
      go_wp2_with fail
      change bodyPost _ _ _ _ _ (aset w6 (w.heap.size + 1) false 0 0)
      exact bodyPost_ret (res_addr2 rfl _ _ rfl (HR6.out.set false 0 0)) rfl ⟨by rw [HEE.out]; rfl, aset_below HB6.out (Nat.le_succ _) false 0 0⟩
    | false =>
      rcases HN.out rfl with ⟨n1, n2⟩ | ⟨n1, n3, n2⟩
      · have HN2 := Lib.hid n2
        have e0 : ((lo : Int) + 1 == 0) = false := by rw [beq_eq_false_iff_ne]; omega
        have HR7 := Lib.hid (HR6.out.far (b := w.heap.size) (i := 2) (by omega) (.int .u64 ((lo + 1 : Nat) : Int)))
        have HB7 := Lib.hid (HB6.out.setCell (p := ⟨w.heap.size, 2, none⟩) (Nat.le_refl _) (.int .u64 ((lo + 1 : Nat) : Int)))
        clear HE HN n2
        go_wp2_with fail
        change bodyPost _ _ _ _ _ (aset (w6.setCell ⟨w.heap.size, 2, none⟩ (.int .u64 ((lo + 1 : Nat) : Int))) (w.heap.size + 1) v6 hi (lo + 1))
        exact bodyPost_ret (res_addr2 rfl _ _ rfl (HR7.out.set v6 hi (lo + 1))) rfl ⟨by rw [HN2.out]; rfl, aset_below HB7.out (Nat.le_succ _) v6 hi (lo + 1)⟩
      · have HN2 := Lib.hid n2
        have hw := wrap_u64_up n1
        have hm2 : ((lo : Int) + 1) % 18446744073709551616 = 0 := by omega
        have HR7 := Lib.hid ((HR6.out.far (b := w.heap.size) (i := 2) (by omega) (.int .u64 ((0 : Nat) : Int))).far (b := w.heap.size) (i := 1) (by omega) (.int .u64 ((hi + 1 : Nat) : Int)))
        have HB7 := Lib.hid ((HB6.out.setCell (p := ⟨w.heap.size, 2, none⟩) (Nat.le_refl _) (.int .u64 ((0 : Nat) : Int))).setCell (p := ⟨w.heap.size, 1, none⟩) (Nat.le_refl _) (.int .u64 ((hi + 1 : Nat) : Int)))
        clear HE HN n2 n1
        go_wp2_with fail
        change bodyPost _ _ _ _ _ (aset ((w6.setCell ⟨w.heap.size, 2, none⟩ (.int .u64 ((0 : Nat) : Int))).setCell ⟨w.heap.size, 1, none⟩ (.int .u64 ((hi + 1 : Nat) : Int))) (w.heap.size + 1) v6 (hi + 1) 0)
        exact bodyPost_ret (res_addr2 rfl _ _ rfl (HR7.out.set v6 (hi + 1) 0)) rfl ⟨by rw [HN2.out]; rfl, aset_below HB7.out (Nat.le_succ _) v6 (hi + 1) 0⟩
/-- Is an address the first one of its family? -/
def isFirst (v6 : Bool) (hi lo : Nat) : Bool := v6 == v6 && ((hi : Int) == 0 && (lo : Int) == 0)
theorem wrap_u64_down : IntKind.u64.wrap (-1) = 18446744073709551615 := by decide
set_option maxHeartbeats 1000000 in
set_option maxRecDepth 20000 in
theorem qprev_any (v6 : Bool) (hi lo : Nat) (w : World) (h1 : hi < 18446744073709551616) (h2 : lo < 18446744073709551616) :
    Calls Tryd.prog 35 #[.agg #[.bool v6, .int .u64 hi, .int .u64 lo]] w fun e w' => e = .returned (aRes (prvA v6 hi lo)) ∧ Below w.heap.size w w' := by
  have hm := addr_guard
  have HX := Lib.hid (ab_new w v6 hi lo |>.kept (below_alloc6 _ (.cells #[.bool false, .int .u64 0, .int .u64 0] 25)) (alloc_lt6 w _))
  have HR := Lib.hid (ab2 w (.cells #[.bool v6, .int .u64 hi, .int .u64 lo] 25) false 0 0)
  have HB := Lib.hid (below2 w (.cells #[.bool v6, .int .u64 hi, .int .u64 lo] 25) (.cells #[.bool false, .int .u64 0, .int .u64 0] 25))
  have HF := Lib.hid (fun W => qfirst_any v6 W)
  have HE := Lib.hid (show isFirst v6 hi lo = true → prvA v6 hi lo = none from fun h => by
    unfold isFirst at h
    simp only [beq_self_eq_true, Bool.true_and, Bool.and_eq_true, beq_iff_eq] at h
    unfold prvA
    rw [if_pos (by omega), if_pos (by omega)])
  have HN := Lib.hid (show isFirst v6 hi lo = false → (0 < lo ∧ prvA v6 hi lo = some (v6, hi, lo - 1)) ∨ (lo = 0 ∧ 0 < hi ∧ prvA v6 hi lo = some (v6, hi - 1, 18446744073709551615)) from fun h => by
    unfold isFirst at h
    simp only [beq_self_eq_true, Bool.true_and, Bool.and_eq_false_iff, beq_eq_false_iff_ne, ne_eq] at h
    unfold prvA
    by_cases a : lo = 0
    · exact .inr ⟨a, by omega, by rw [if_pos a, if_neg (by omega)]⟩
    · exact .inl ⟨by omega, by rw [if_neg a]⟩)
  have qe : ∀ W, (binOp .eql 25 (.agg #[.bool v6, .int .u64 hi, .int .u64 lo]) (.agg #[.bool v6, .int .u64 0, .int .u64 0])).run Tryd.prog W = .ok (.bool (isFirst v6 hi lo)) W := fun W => addr_eql v6 v6 hi 0 lo 0 W
  generalize isFirst v6 hi lo = E at *
  go_enter Tryd.func35, Tryd.ntmps35
  go_wp2_with fail
  generalize (w.alloc (.cells #[.bool v6, .int .u64 hi, .int .u64 lo] 25)).alloc (.cells #[.bool false, .int .u64 0, .int .u64 0] 25) = w1 at *
  have x0 := HX.out.c0
  have x1 := HX.out.c1
  have x2 := HX.out.c2
  go_region_held3 (fun w' => w'.cell? ⟨w.heap.size, 0, none⟩ = some (.bool v6) ∧ w'.cell? ⟨w.heap.size, 1, none⟩ = some (.int .u64 hi) ∧ w'.cell? ⟨w.heap.size, 2, none⟩ = some (.int .u64 lo)) (go_keep) (first
    | (go_at_call 61; refine (HF.out _).mono ?_; rintro e w6 ⟨rfl, hb3d⟩; have hb6 : Below w1.heap.size w1 w6 := ⟨hb3d.os, hb3d.tape, hb3d.output, hb3d.size, hb3d.block⟩; have hx6 := HX.out.kept hb6 HX.out.lt; have j0 := hx6.c0; have j1 := hx6.c1; have j2 := hx6.c2))
  all_goals
    have HX6 := Lib.hid hx6
    have HR6 := Lib.hid (HR.out.kept hb6 HR.out.lt)
    have HB6 := Lib.hid (HB.out.trans (hb6.mono HB.out.size))
    clear hb6 hx6 j0 j1 j2 x0 x1 x2 HX HR HB qe
    have x0 := HX6.out.c0
    have x1 := HX6.out.c1
    have x2 := HX6.out.c2
    have xf1 := HX6.out.f 1
    have xf2 := HX6.out.f 2
    have r0 := HR6.out.c0
    have r1 := HR6.out.c1
    have r2 := HR6.out.c2
    have rf0 := HR6.out.f 0
    have rf1 := HR6.out.f 1
    have rf2 := HR6.out.f 2
    cases E with
    | true =>
      have HEE := Lib.hid (HE.out rfl)
      clear HE HN
      go_wp2_with fail
      change bodyPost _ _ _ _ _ (aset w6 (w.heap.size + 1) false 0 0)
      exact bodyPost_ret (res_addr2 rfl _ _ rfl (HR6.out.set false 0 0)) rfl ⟨by rw [HEE.out]; rfl, aset_below HB6.out (Nat.le_succ _) false 0 0⟩
    | false =>
      rcases HN.out rfl with ⟨n1, n2⟩ | ⟨n1, n3, n2⟩
      · have HN2 := Lib.hid n2
        obtain ⟨m, hm⟩ : ∃ m, lo = m + 1 := ⟨lo - 1, by omega⟩
        rw [show lo - 1 = m by omega] at HN2
        have e0 : ((lo : Int) == 0) = false := by rw [beq_eq_false_iff_ne]; omega
        have e1 : (lo : Int) - 1 = (m : Int) := by omega
        have HR7 := Lib.hid (HR6.out.far (b := w.heap.size) (i := 2) (by omega) (.int .u64 (m : Int)))
        have HB7 := Lib.hid (HB6.out.setCell (p := ⟨w.heap.size, 2, none⟩) (Nat.le_refl _) (.int .u64 (m : Int)))
        clear HE HN n2 hm
        go_wp2_with fail
        change bodyPost _ _ _ _ _ (aset (w6.setCell ⟨w.heap.size, 2, none⟩ (.int .u64 (m : Int))) (w.heap.size + 1) v6 hi m)
        exact bodyPost_ret (res_addr2 rfl _ _ rfl (HR7.out.set v6 hi m)) rfl ⟨by rw [HN2.out]; rfl, aset_below HB7.out (Nat.le_succ _) v6 hi m⟩
      · have HN2 := Lib.hid n2
        obtain ⟨m, hm⟩ : ∃ m, hi = m + 1 := ⟨hi - 1, by omega⟩
        rw [show hi - 1 = m by omega] at HN2
        have e1 : (hi : Int) - 1 = (m : Int) := by omega
        have hw := wrap_u64_down
        have HR7 := Lib.hid ((HR6.out.far (b := w.heap.size) (i := 1) (by omega) (.int .u64 (m : Int))).far (b := w.heap.size) (i := 2) (by omega) (.int .u64 ((18446744073709551615 : Nat) : Int)))
        have HB7 := Lib.hid ((HB6.out.setCell (p := ⟨w.heap.size, 1, none⟩) (Nat.le_refl _) (.int .u64 (m : Int))).setCell (p := ⟨w.heap.size, 2, none⟩) (Nat.le_refl _) (.int .u64 ((18446744073709551615 : Nat) : Int)))
        subst n1
        clear HE HN n2 hm n3
        go_wp2_with fail
        change bodyPost _ _ _ _ _ (aset ((w6.setCell ⟨w.heap.size, 1, none⟩ (.int .u64 (m : Int))).setCell ⟨w.heap.size, 2, none⟩ (.int .u64 ((18446744073709551615 : Nat) : Int))) (w.heap.size + 1) v6 m 18446744073709551615)
        exact bodyPost_ret (res_addr2 rfl _ _ rfl (HR7.out.set v6 m 18446744073709551615)) rfl ⟨by rw [HN2.out]; rfl, aset_below HB7.out (Nat.le_succ _) v6 m 18446744073709551615⟩
end Go.Proofs.YtcblgbonijloiaaDoor

/- The law's examples (lives) of layer 6. -/
namespace Go.Proofs.YtcblgbonijloiaaDoor
open Go.ChangeShapes Go.WideShapes Go.ChangeAt Go.RowKit
set_option linter.unusedVariables false

theorem num1 {n : Nat} (h : n ≤ 9) : numL n = [dig n] := by rw [numL, if_pos h]
theorem hex1 {n : Nat} (h : n ≤ 15) : hexL n = [hexd n] := by rw [hexL, if_pos h]
theorem num10 : numL 10 = [49, 48] := by
  rw [numL, if_neg (by decide), num1 (by decide)]; rfl
theorem live_f4 : str (fmtA false 0 167838211) = ⟨#[49, 48, 46, 49, 46, 50, 46, 51]⟩ := by
  have e : digitsOf 256 167838211 4 = [10, 1, 2, 3] := by decide
  unfold fmtA
  rw [if_neg (by decide), e]
  unfold fmt4
  rw [List.map_cons, List.map_cons, List.map_cons, List.map_cons, num10, num1 (by decide), num1 (by decide), num1 (by decide)]
  rfl
theorem live_f6 : str (fmtA true 0 65536) = ⟨#[58, 58, 49, 58, 48]⟩ := by
  have e : digitsOf 65536 (numA 0 65536) 8 = [0, 0, 0, 0, 0, 0, 1, 0] := by decide
  have hb : best [0, 0, 0, 0, 0, 0, 1, 0] = (some 0, 6) := by decide
  unfold fmtA
  rw [if_pos (by decide), e, fmt6_some hb]
  show str (joinC 58 [] ++ [58, 58] ++ joinC 58 [hexL 1, hexL 0]) = _
  rw [hex1 (by decide), hex1 (by decide)]
  rfl
theorem live_p1 : pRes [58, 58, 49, 58, 48] = .tuple #[.agg #[.bool true, .int .u64 ((0 : Nat) : Int), .int .u64 ((65536 : Nat) : Int)], .int .i64 0] := by kernel_rfl
theorem live_p2 : ppRes [49, 48, 46, 48, 46, 48, 46, 48, 47, 56] = .tuple #[.agg #[.bool false, .int .u64 ((0 : Nat) : Int), .int .u64 ((167772160 : Nat) : Int), .int .i64 ((8 : Nat) : Int)], .int .i64 0] := by kernel_rfl
theorem live_p3 : pRes [49, 48, 46, 49, 46, 50, 46, 51] = .tuple #[.agg #[.bool false, .int .u64 ((0 : Nat) : Int), .int .u64 ((167838211 : Nat) : Int)], .int .i64 0] := by kernel_rfl
theorem live_c : cntB false 0 167772160 ((8 : Nat) : Int) false 0 167838211 = true := by decide +kernel
theorem live_cmp : cmpA false 0 167838211 true 0 65536 = -1 := by decide
theorem live_v : vldA false 0 167838211 = true := by decide
theorem live_n : nxtA false 0 255 = some (false, 0, 256) := by decide
theorem AB.al {w : World} {g : Nat} {v6 : Bool} {hi lo : Nat} (h : AB w g v6 hi lo) (o : Obj) : AB (w.alloc o) g v6 hi lo := h.kept (below_alloc6 w o) h.lt
theorem PB.al {w : World} {g : Nat} {v6 : Bool} {hi lo : Nat} {k : Int} (h : PB w g v6 hi lo k) (o : Obj) : PB (w.alloc o) g v6 hi lo k := h.kept (below_alloc6 w o) h.lt
theorem TW.al {w : World} (h : TW w) (o : Obj) : TW (w.alloc o) := h.kept (below_alloc6 w o)
set_option maxHeartbeats 4000000 in
set_option maxRecDepth 20000 in
/-- THE LAW'S EXAMPLES. -/
theorem lives_any (w : World) (ht : TW w) : Calls Tryd.prog 10 #[] w fun e w' => e = .returned (.bool true) ∧ Below w.heap.size w w' := by
  have hm := addr_guard
  have hm2 := pfx_guard
  have HT := Lib.hid ht
  have HP1 := Lib.hid (fun W t => show Calls Tryd.prog 11 #[.string ⟨#[58, 58, 49, 58, 48]⟩] W fun e w' => e = .returned (.tuple #[.agg #[.bool true, .int .u64 ((0 : Nat) : Int), .int .u64 ((65536 : Nat) : Int)], .int .i64 0]) ∧ Below W.heap.size W w' from by
    have h := qparse_any ⟨#[58, 58, 49, 58, 48]⟩ W (by decide) t
    rw [show (⟨#[58, 58, 49, 58, 48]⟩ : ByteArray).data.toList = [58, 58, 49, 58, 48] from rfl, live_p1] at h
    exact h)
  have HP2 := Lib.hid (fun W t => show Calls Tryd.prog 13 #[.string ⟨#[49, 48, 46, 48, 46, 48, 46, 48, 47, 56]⟩] W fun e w' => e = .returned (.tuple #[.agg #[.bool false, .int .u64 ((0 : Nat) : Int), .int .u64 ((167772160 : Nat) : Int), .int .i64 ((8 : Nat) : Int)], .int .i64 0]) ∧ Below W.heap.size W w' from by
    have h := qpparse_any ⟨#[49, 48, 46, 48, 46, 48, 46, 48, 47, 56]⟩ W (by decide) t
    rw [show (⟨#[49, 48, 46, 48, 46, 48, 46, 48, 47, 56]⟩ : ByteArray).data.toList = [49, 48, 46, 48, 46, 48, 46, 48, 47, 56] from rfl, live_p2] at h
    exact h)
  have HP3 := Lib.hid (fun W t => show Calls Tryd.prog 11 #[.string ⟨#[49, 48, 46, 49, 46, 50, 46, 51]⟩] W fun e w' => e = .returned (.tuple #[.agg #[.bool false, .int .u64 ((0 : Nat) : Int), .int .u64 ((167838211 : Nat) : Int)], .int .i64 0]) ∧ Below W.heap.size W w' from by
    have h := qparse_any ⟨#[49, 48, 46, 49, 46, 50, 46, 51]⟩ W (by decide) t
    rw [show (⟨#[49, 48, 46, 49, 46, 50, 46, 51]⟩ : ByteArray).data.toList = [49, 48, 46, 49, 46, 50, 46, 51] from rfl, live_p3] at h
    exact h)
  have HNX := Lib.hid (fun W => show Calls Tryd.prog 31 #[.agg #[.bool false, .int .u64 0, .int .u64 255]] W fun e w' => e = .returned (.tuple #[.agg #[.bool false, .int .u64 ((0 : Nat) : Int), .int .u64 ((256 : Nat) : Int)], .bool true]) ∧ Below W.heap.size W w' from by
    have h := qnext_any false 0 255 W (by decide) (by decide) (by decide)
    rw [live_n] at h
    exact h)
  have HCO := Lib.hid (fun W => show Calls Tryd.prog 37 #[.agg #[.bool false, .int .u64 0, .int .u64 167772160, .int .i64 8], .agg #[.bool false, .int .u64 0, .int .u64 167838211]] W fun e w' => e = .returned (.bool true) ∧ Below W.heap.size W w' from by
    have h := qcont_any false 0 167772160 ((8 : Nat) : Int) false 0 167838211 W (by decide) (by decide)
    rw [live_c] at h
    exact h)
  have HVA := Lib.hid (fun W => show Calls Tryd.prog 15 #[.agg #[.bool false, .int .u64 0, .int .u64 167838211]] W fun e w' => e = .returned (.bool true) ∧ Below W.heap.size W w' from by
    have h := qvalid_any false 0 167838211 W
    rw [live_v] at h
    exact h)
  have HF4 := Lib.hid (fun W t => show Calls Tryd.prog 21 #[.agg #[.bool false, .int .u64 0, .int .u64 167838211]] W fun e w' => e = .returned (.string ⟨#[49, 48, 46, 49, 46, 50, 46, 51]⟩) ∧ Below W.heap.size W w' from by
    have h := qfmt_any false 0 167838211 W (by decide) (by decide) (by decide) t
    rw [live_f4] at h
    exact h)
  have HF6 := Lib.hid (fun W t => show Calls Tryd.prog 21 #[.agg #[.bool true, .int .u64 0, .int .u64 65536]] W fun e w' => e = .returned (.string ⟨#[58, 58, 49, 58, 48]⟩) ∧ Below W.heap.size W w' from by
    have h := qfmt_any true 0 65536 W (by decide) (by decide) (by decide) t
    rw [live_f6] at h
    exact h)
  have HCM := Lib.hid (fun W => show Calls Tryd.prog 33 #[.agg #[.bool false, .int .u64 0, .int .u64 167838211], .agg #[.bool true, .int .u64 0, .int .u64 65536]] W fun e w' => e = .returned (.int .i64 (-1)) ∧ Below W.heap.size W w' from by
    have h := qcmp_any false 0 167838211 true 0 65536 W
    rw [live_cmp] at h
    exact h)
  have q1 := fun W => addr_eql true true 0 0 65536 65536 W
  have q2 := fun W => pfx_eql false false 0 0 167772160 167772160 8 8 W
  have q3 := fun W => addr_eql false false 0 0 256 256 W
  simp only [beq_self_eq_true, Bool.and_self] at q1 q2 q3
  clear ht
  go_enter Tryd.func10, Tryd.ntmps10
  go_wp2_with fail
  refine (HP1.out _ HT.out).mono ?_
  rintro e w1 ⟨rfl, hb⟩
  obtain ⟨g1, hg1⟩ : ∃ g, g = w1.heap.size := ⟨_, rfl⟩
  obtain ⟨W1, hW1⟩ : ∃ W, W = w1.alloc (.cells #[.bool true, .int .u64 0, .int .u64 65536] 25) := ⟨_, rfl⟩
  have HA1 := Lib.hid (show AB W1 g1 true 0 65536 by rw [hW1, hg1]; exact ab_new w1 true 0 65536)
  have HB1 := Lib.hid (show Below w.heap.size w W1 by rw [hW1]; exact hb.trans ((below_alloc6 w1 _).mono hb.size))
  have HT1 := Lib.hid (show TW W1 by rw [hW1]; exact (HT.out.kept hb).al _)
  clear hb
  go_wp2_with fail
  rw [← hW1, ← hg1]
  clear hW1 hg1
  refine (HP2.out _ HT1.out).mono ?_
  rintro e w2 ⟨rfl, hb⟩
  obtain ⟨g2, hg2⟩ : ∃ g, g = w2.heap.size := ⟨_, rfl⟩
  obtain ⟨W2, hW2⟩ : ∃ W, W = w2.alloc (.cells #[.bool false, .int .u64 0, .int .u64 167772160, .int .i64 8] 30) := ⟨_, rfl⟩
  have HA2 := Lib.hid (show PB W2 g2 false 0 167772160 8 by rw [hW2, hg2]; exact pb_new w2 false 0 167772160 8)
  have HB2 := Lib.hid (show Below w.heap.size w W2 by rw [hW2]; exact (HB1.out.trans (hb.mono HB1.out.size)).trans ((below_alloc6 w2 _).mono (HB1.out.trans (hb.mono HB1.out.size)).size))
  have HT2 := Lib.hid (show TW W2 by rw [hW2]; exact (HT1.out.kept hb).al _)
  have HA1_ := Lib.hid (show AB W2 g1 true 0 65536 by rw [hW2]; exact (HA1.out.kept hb HA1.out.lt).al _)
  clear hb
  go_wp2_with fail
  rw [← hW2, ← hg2]
  clear hW2 hg2
  refine (HP3.out _ HT2.out).mono ?_
  rintro e w3 ⟨rfl, hb⟩
  obtain ⟨g3, hg3⟩ : ∃ g, g = w3.heap.size := ⟨_, rfl⟩
  obtain ⟨W3, hW3⟩ : ∃ W, W = w3.alloc (.cells #[.bool false, .int .u64 0, .int .u64 167838211] 25) := ⟨_, rfl⟩
  have HA3 := Lib.hid (show AB W3 g3 false 0 167838211 by rw [hW3, hg3]; exact ab_new w3 false 0 167838211)
  have HB3 := Lib.hid (show Below w.heap.size w W3 by rw [hW3]; exact (HB2.out.trans (hb.mono HB2.out.size)).trans ((below_alloc6 w3 _).mono (HB2.out.trans (hb.mono HB2.out.size)).size))
  have HT3 := Lib.hid (show TW W3 by rw [hW3]; exact (HT2.out.kept hb).al _)
  have HA1__ := Lib.hid (show AB W3 g1 true 0 65536 by rw [hW3]; exact (HA1_.out.kept hb HA1_.out.lt).al _)
  have HA2_ := Lib.hid (show PB W3 g2 false 0 167772160 8 by rw [hW3]; exact (HA2.out.kept hb HA2.out.lt).al _)
  clear hb
  go_wp2_with fail
  rw [← hW3, ← hg3]
  clear hW3 hg3
  refine (HNX.out _).mono ?_
  rintro e w4 ⟨rfl, hb⟩
  obtain ⟨g4, hg4⟩ : ∃ g, g = w4.heap.size := ⟨_, rfl⟩
  obtain ⟨W4, hW4⟩ : ∃ W, W = w4.alloc (.cells #[.bool false, .int .u64 0, .int .u64 256] 25) := ⟨_, rfl⟩
  have HB4 := Lib.hid (show Below w.heap.size w W4 by rw [hW4]; exact (HB3.out.trans (hb.mono HB3.out.size)).trans ((below_alloc6 w4 _).mono (HB3.out.trans (hb.mono HB3.out.size)).size))
  have HT4 := Lib.hid (show TW W4 by rw [hW4]; exact (HT3.out.kept hb).al _)
  have HE4 := Lib.hid (show AB W4 g1 true 0 65536 ∧ PB W4 g2 false 0 167772160 8 ∧ AB W4 g3 false 0 167838211 ∧ AB W4 g4 false 0 256 from by rw [hW4, hg4]; exact ⟨(HA1__.out.kept hb HA1__.out.lt).al _, (HA2_.out.kept hb HA2_.out.lt).al _, (HA3.out.kept hb HA3.out.lt).al _, ab_new w4 false 0 256⟩)
  have hx1 := HA1__.out.kept hb HA1__.out.lt
  have hx2 := HA2_.out.kept hb HA2_.out.lt
  have hx3 := HA3.out.kept hb HA3.out.lt
  have a0 := hx1.c0
  have a1 := hx1.c1
  have a2 := hx1.c2
  have al := hx1.lt
  have p0 := hx2.c0
  have p1 := hx2.c1
  have p2 := hx2.c2
  have p3 := hx2.c3
  have pl := hx2.lt
  have b0 := hx3.c0
  have b1 := hx3.c1
  have b2 := hx3.c2
  have bl := hx3.lt
  clear hb hx1 hx2 hx3
  go_wp2_with fail
  rw [← hW4, ← hg4]
  clear hW4 hg4 al pl bl a0 a1 a2 p0 p1 p2 p3 b0 b1 b2
  refine (HCO.out _).mono ?_
  rintro e w5 ⟨rfl, hb⟩
  have HE5 := Lib.hid (show AB w5 g1 true 0 65536 ∧ PB w5 g2 false 0 167772160 8 ∧ AB w5 g3 false 0 167838211 ∧ AB w5 g4 false 0 256 from ⟨HE4.out.1.kept hb HE4.out.1.lt, HE4.out.2.1.kept hb HE4.out.2.1.lt, HE4.out.2.2.1.kept hb HE4.out.2.2.1.lt, HE4.out.2.2.2.kept hb HE4.out.2.2.2.lt⟩)
  have HB5 := Lib.hid (HB4.out.trans (hb.mono HB4.out.size))
  have HT5 := Lib.hid (HT4.out.kept hb)
  clear hb HE4 HB4 HT4
  have a0 := HE5.out.1.c0
  have a1 := HE5.out.1.c1
  have a2 := HE5.out.1.c2
  have p0 := HE5.out.2.1.c0
  have p1 := HE5.out.2.1.c1
  have p2 := HE5.out.2.1.c2
  have p3 := HE5.out.2.1.c3
  have b0 := HE5.out.2.2.1.c0
  have b1 := HE5.out.2.2.1.c1
  have b2 := HE5.out.2.2.1.c2
  have n0 := HE5.out.2.2.2.c0
  have n1 := HE5.out.2.2.2.c1
  have n2 := HE5.out.2.2.2.c2
  go_wp2_with fail
  clear a0 a1 a2 p0 p1 p2 p3 b0 b1 b2 n0 n1 n2
  refine (HVA.out _).mono ?_
  rintro e w6 ⟨rfl, hb⟩
  have HE6 := Lib.hid (show AB w6 g1 true 0 65536 ∧ PB w6 g2 false 0 167772160 8 ∧ AB w6 g3 false 0 167838211 ∧ AB w6 g4 false 0 256 from ⟨HE5.out.1.kept hb HE5.out.1.lt, HE5.out.2.1.kept hb HE5.out.2.1.lt, HE5.out.2.2.1.kept hb HE5.out.2.2.1.lt, HE5.out.2.2.2.kept hb HE5.out.2.2.2.lt⟩)
  have HB6 := Lib.hid (HB5.out.trans (hb.mono HB5.out.size))
  have HT6 := Lib.hid (HT5.out.kept hb)
  clear hb HE5 HB5 HT5
  have a0 := HE6.out.1.c0
  have a1 := HE6.out.1.c1
  have a2 := HE6.out.1.c2
  have p0 := HE6.out.2.1.c0
  have p1 := HE6.out.2.1.c1
  have p2 := HE6.out.2.1.c2
  have p3 := HE6.out.2.1.c3
  have b0 := HE6.out.2.2.1.c0
  have b1 := HE6.out.2.2.1.c1
  have b2 := HE6.out.2.2.1.c2
  have n0 := HE6.out.2.2.2.c0
  have n1 := HE6.out.2.2.2.c1
  have n2 := HE6.out.2.2.2.c2
  go_wp2_with fail
  clear a0 a1 a2 p0 p1 p2 p3 b0 b1 b2 n0 n1 n2
  refine (HF4.out _ HT6.out).mono ?_
  rintro e w7 ⟨rfl, hb⟩
  have HE7 := Lib.hid (show AB w7 g1 true 0 65536 ∧ PB w7 g2 false 0 167772160 8 ∧ AB w7 g3 false 0 167838211 ∧ AB w7 g4 false 0 256 from ⟨HE6.out.1.kept hb HE6.out.1.lt, HE6.out.2.1.kept hb HE6.out.2.1.lt, HE6.out.2.2.1.kept hb HE6.out.2.2.1.lt, HE6.out.2.2.2.kept hb HE6.out.2.2.2.lt⟩)
  have HB7 := Lib.hid (HB6.out.trans (hb.mono HB6.out.size))
  have HT7 := Lib.hid (HT6.out.kept hb)
  clear hb HE6 HB6 HT6
  have a0 := HE7.out.1.c0
  have a1 := HE7.out.1.c1
  have a2 := HE7.out.1.c2
  have p0 := HE7.out.2.1.c0
  have p1 := HE7.out.2.1.c1
  have p2 := HE7.out.2.1.c2
  have p3 := HE7.out.2.1.c3
  have b0 := HE7.out.2.2.1.c0
  have b1 := HE7.out.2.2.1.c1
  have b2 := HE7.out.2.2.1.c2
  have n0 := HE7.out.2.2.2.c0
  have n1 := HE7.out.2.2.2.c1
  have n2 := HE7.out.2.2.2.c2
  go_wp2_with fail
  clear a0 a1 a2 p0 p1 p2 p3 b0 b1 b2 n0 n1 n2
  refine (HF6.out _ HT7.out).mono ?_
  rintro e w8 ⟨rfl, hb⟩
  have HE8 := Lib.hid (show AB w8 g1 true 0 65536 ∧ PB w8 g2 false 0 167772160 8 ∧ AB w8 g3 false 0 167838211 ∧ AB w8 g4 false 0 256 from ⟨HE7.out.1.kept hb HE7.out.1.lt, HE7.out.2.1.kept hb HE7.out.2.1.lt, HE7.out.2.2.1.kept hb HE7.out.2.2.1.lt, HE7.out.2.2.2.kept hb HE7.out.2.2.2.lt⟩)
  have HB8 := Lib.hid (HB7.out.trans (hb.mono HB7.out.size))
  have HT8 := Lib.hid (HT7.out.kept hb)
  clear hb HE7 HB7 HT7
  have a0 := HE8.out.1.c0
  have a1 := HE8.out.1.c1
  have a2 := HE8.out.1.c2
  have p0 := HE8.out.2.1.c0
  have p1 := HE8.out.2.1.c1
  have p2 := HE8.out.2.1.c2
  have p3 := HE8.out.2.1.c3
  have b0 := HE8.out.2.2.1.c0
  have b1 := HE8.out.2.2.1.c1
  have b2 := HE8.out.2.2.1.c2
  have n0 := HE8.out.2.2.2.c0
  have n1 := HE8.out.2.2.2.c1
  have n2 := HE8.out.2.2.2.c2
  go_wp2_with fail
  clear a0 a1 a2 p0 p1 p2 p3 b0 b1 b2 n0 n1 n2
  refine (HCM.out _).mono ?_
  rintro e w9 ⟨rfl, hb⟩
  have HE9 := Lib.hid (show AB w9 g1 true 0 65536 ∧ PB w9 g2 false 0 167772160 8 ∧ AB w9 g3 false 0 167838211 ∧ AB w9 g4 false 0 256 from ⟨HE8.out.1.kept hb HE8.out.1.lt, HE8.out.2.1.kept hb HE8.out.2.1.lt, HE8.out.2.2.1.kept hb HE8.out.2.2.1.lt, HE8.out.2.2.2.kept hb HE8.out.2.2.2.lt⟩)
  have HB9 := Lib.hid (HB8.out.trans (hb.mono HB8.out.size))
  have HT9 := Lib.hid (HT8.out.kept hb)
  clear hb HE8 HB8 HT8
  have a0 := HE9.out.1.c0
  have a1 := HE9.out.1.c1
  have a2 := HE9.out.1.c2
  have p0 := HE9.out.2.1.c0
  have p1 := HE9.out.2.1.c1
  have p2 := HE9.out.2.1.c2
  have p3 := HE9.out.2.1.c3
  have b0 := HE9.out.2.2.1.c0
  have b1 := HE9.out.2.2.1.c1
  have b2 := HE9.out.2.2.1.c2
  have n0 := HE9.out.2.2.2.c0
  have n1 := HE9.out.2.2.2.c1
  have n2 := HE9.out.2.2.2.c2
  go_wp2_with fail
  go_ret
  exact ⟨rfl, HB9.out⟩
end Go.Proofs.YtcblgbonijloiaaDoor

/- Contract of the reference of layer 6: Groups. -/
namespace Go.Proofs.YtcblgbonijloiaaDoor
open Go.ChangeShapes Go.WideShapes Go.ChangeAt Go.RowKit
set_option linter.unusedVariables false

theorem digitsOf_head (b : Nat) : ∀ (k n : Nat), digitsOf b n (k + 1) = (n / b ^ k % b) :: digitsOf b n k
  | 0, n => by simp [digitsOf]
  | k + 1, n => by
    rw [digitsOf, digitsOf_head b k (n / b), digitsOf, Nat.div_div_eq_div_mul, ← Nat.pow_succ']; rfl
theorem digitsOf_app (b k : Nat) : ∀ (a n : Nat), digitsOf b n (a + k) = digitsOf b (n / b ^ k) a ++ digitsOf b n k
  | 0, n => by simp [digitsOf]
  | a + 1, n => by
    rw [show a + 1 + k = (a + k) + 1 by omega, digitsOf_head, digitsOf_head, digitsOf_app b k a, Nat.div_div_eq_div_mul, ← Nat.pow_add, Nat.add_comm k a]; rfl
theorem digitsOf_mod {b : Nat} : ∀ (k m n : Nat), m % b ^ k = n % b ^ k → digitsOf b m k = digitsOf b n k
  | 0, _, _, _ => rfl
  | k + 1, m, n, h => by
    have e : ∀ x, x % b ^ (k + 1) % b = x % b := fun x => Nat.mod_mod_of_dvd x ⟨b ^ k, by rw [Nat.pow_succ']⟩
    have f : ∀ x, x / b % b ^ k = x % b ^ (k + 1) / b := fun x => by rw [Nat.pow_succ', Nat.mod_mul_right_div_self]
    rw [digitsOf, digitsOf, digitsOf_mod k (m / b) (n / b) (by rw [f, f, h]), ← e m, h, e n]
theorem groups_num {hi lo : Nat} (h2 : lo < 18446744073709551616) : digitsOf 65536 (numA hi lo) 8 = digitsOf 65536 hi 4 ++ digitsOf 65536 lo 4 := by
  have e : (65536 : Nat) ^ 4 = 18446744073709551616 := rfl
  have hd : numA hi lo / 65536 ^ 4 = hi := by rw [e]; unfold numA; omega
  have hm : digitsOf 65536 (numA hi lo) 4 = digitsOf 65536 lo 4 := digitsOf_mod 4 _ _ (by rw [e]; unfold numA; omega)
  rw [show (8 : Nat) = 4 + 4 from rfl, digitsOf_app, hd, hm]
theorem and16_u64 (q : Nat) (h : q < 18446744073709551616) : bits .and .u64 (q : Int) 65535 = ((q % 65536 : Nat) : Int) := by
  rw [show (65535 : Int) = ((65535 : Nat) : Int) from rfl, u64_and_nat q 65535 h (by decide)]
  rw [show (65535 : Nat) = 2 ^ 16 - 1 from rfl, Nat.and_two_pow_sub_one_eq_mod]
set_option maxHeartbeats 4000000 in
set_option maxRecDepth 20000 in
theorem rgrps_any (v6 : Bool) (hi lo : Nat) (w : World) (b1 : hi < 18446744073709551616) (b2 : lo < 18446744073709551616) :
    Calls Tryd.prog 56 #[.agg #[.bool v6, .int .u64 hi, .int .u64 lo]] w fun e w' => ∃ A cap, e = .returned (.slice A 8 cap) ∧ w'.ownsRow w.heap.size 3 1 (.slice A 8 cap) 8 (natC (digitsOf 65536 (numA hi lo) 8)) ∧ Below w.heap.size w w' := by
  have HB0' := Lib.hid (below_alloc6 w (.cells #[.bool v6, .int .u64 hi, .int .u64 lo] 25))
  obtain ⟨W0, hW0⟩ : ∃ W, W = w.alloc (.cells #[.bool v6, .int .u64 hi, .int .u64 lo] 25) := ⟨_, rfl⟩
  have HXs := Lib.hid (show AB W0 w.heap.size v6 hi lo by rw [hW0]; exact ab_new w v6 hi lo)
  have HXL := Lib.hid (show w.heap.size < W0.heap.size from HXs.out.lt)
  have HBw := Lib.hid (show Below w.heap.size w W0 by rw [hW0]; exact below_alloc6 w _)
  have HBs := Lib.hid (Below.refl W0.heap.size W0)
  have HOs := Lib.hid (show W0.ownsRow W0.heap.size 3 1 (.slice none 0 0) 0 (natC []) from World.ownsRow_nil W0 W0.heap.size 3 1)
  obtain ⟨i0, hinf, hz0, hz1, hz2⟩ := info_parts info_int6
  have HTs := Lib.hid (show ([] : List Nat) ++ digitsOf 65536 hi 4 = digitsOf 65536 hi 4 from rfl)
  go_enter Tryd.func56, Tryd.ntmps56
  go_wp2_with fail
  rw [← hW0]
  clear hW0
  go_loopw [3, 4] (fun v3 vi wr => ∃ (j cap : Nat) (i : Int) (A : Option Addr) (M : List Nat), v3 = .slice A M.length cap ∧ vi = .int .i64 i ∧ i + 1 = (j : Int) ∧ j ≤ 4 ∧ M.length + j = 4 ∧ Hid (M ++ digitsOf 65536 hi j = digitsOf 65536 hi 4) ∧ Hid (AB wr w.heap.size v6 hi lo) ∧ Hid (Below W0.heap.size W0 wr) ∧ Hid (wr.ownsRow W0.heap.size 3 1 (.slice A M.length cap) M.length (natC M))) (fun _ vi _ => (intOf vi + 1).toNat)
  case atStart => exact ⟨4, 0, 3, none, [], rfl, rfl, rfl, Nat.le_refl _, rfl, HTs, HXs, HBs, HOs⟩
  case round =>
    clear HXs HBs HOs HTs
    obtain ⟨j, cap, i, A, M, rfl, rfl, hij, hj, hMl, HT, HX, HB, HO⟩ := hrel
    have hsz := HB.out.size
    cases j with
    | succ j =>
      obtain rfl : i = (j : Int) := by omega
      have d0 : decide ((0 : Int) ≤ (j : Int)) = true := by simp
      have p0 : (0 : Int) ≤ (j : Int) := by omega
      have hj8 : j < 4 := by omega
      obtain ⟨s, hs⟩ : ∃ s, s = 16 * j := ⟨_, rfl⟩
      have hsi : (16 : Int) * (j : Int) = (s : Int) := by omega
      have hs64 : s < 64 := by omega
      obtain ⟨q, hq⟩ : ∃ q, q = hi / 2 ^ s := ⟨_, rfl⟩
      have hqi : (hi : Int) / 2 ^ s = (q : Int) := by rw [hq, Int.natCast_ediv]; simp
      have hq64 : q < 18446744073709551616 := Nat.lt_of_le_of_lt (by rw [hq]; exact Nat.div_le_self _ _) b1
      have hqd : q = hi / (2 ^ 16) ^ j := by rw [hq, hs, Nat.pow_mul]
      obtain ⟨X, hX⟩ : ∃ X : Nat, X = hi / 65536 ^ j % 65536 := ⟨_, rfl⟩
      have HAN := Lib.hid (and16_u64 q hq64)
      have hXq : q % 65536 = X := by rw [hX, hqd, show (2 ^ 16 : Nat) = 65536 from rfl]
      rw [hXq] at HAN
      have hX16 : X < 65536 := by omega
      have hand := HAN.out
      obtain ⟨M2, hM2e⟩ : ∃ M2, M2 = M ++ [X] := ⟨_, rfl⟩
      have HSN := Lib.hid (show natC M ++ [.int .i64 X] = natC M2 by rw [hM2e, natC_snoc])
      have hM2l : M.length + 1 = M2.length := by rw [hM2e]; simp
      have HT2 := Lib.hid (show M2 ++ digitsOf 65536 hi j = digitsOf 65536 hi 4 by have h := HT.out; rw [digitsOf_head, ← hX] at h; rw [hM2e, ← h]; simp)
      clear hX hXq HAN
      have x1 := HX.out.c1
      have HB2 := Lib.hid (HB.out.alloc hsz (.cells #[.int .i64 X] 3))
      have HX2 := Lib.hid (HX.out.al (.cells #[.int .i64 X] 3))
      have HJ := Lib.hid hij
      have hMj : M2.length + j = 4 := by omega
      have hjm : j ≤ 4 := by omega
      have hMb : M.length ≤ 100 := by omega
      clear hq hs hqd hM2e HT hij
      go_wp2_with (at_builtin; refine wpList_append_lies _ rfl _ _ 67 rfl W0.heap.size 3 i0 (.int .i64 0) 1 8 Tryd.underlying67 hinf hz0 hz1 hz2 rfl (by omega) _ M.length (natC M) rfl (HO.out.alloc _) ⟨wr.heap.size, 0, none⟩ 1 1 [.int .i64 X] rfl rfl ?c1 ?c2 (by omega) ?c3 ?c4 ?c5 _ rfl ?_)
      case c1 => exact World.news_of_block (cs := #[.int .i64 X]) (t := 3) (fr := (0, 0)) (heap_alloc_new wr _)
      case c2 => simp [Value.oneCell']
      case c3 => unfold maxLen; omega
      case c4 => omega
      case c5 => simp; omega
      intro g2 cap2 w3 hown3 hgrow hat hlt2
      have hB3 := HB2.out.grown hgrow (by simp; omega) (fun j hj => (HO.out.lt j hj).1)
      have hX3 : AB w3 w.heap.size v6 hi lo := HX.out.kept (((Below.refl W0.heap.size wr).alloc hsz (.cells #[.int .i64 X] 3)).grown hgrow (by simp; omega) (fun j hj => (HO.out.lt j hj).1)) HXL.out
      rw [HSN.out] at hown3
      try rw [hM2l] at hown3
      try rw [hM2l]
      have HB3 := Lib.hid hB3
      have HX3 := Lib.hid hX3
      have HO3 := Lib.hid hown3
      clear hB3 hown3 hgrow hat hlt2 HB HO HB2 HX HX2 hM2l hX3
      go_wp2_with fail
      go_roundw
      case rel => exact ⟨j, cap2, (j : Int) - 1, some ⟨g2, 0, none⟩, M2, rfl, by go_num, by omega, hjm, hMj, HT2, HX3, HB3, HO3⟩
      case measure => first | (simp [intOf]; done) | (simp [intOf]; omega)
    | zero =>
      obtain rfl : i = -1 := by omega
      have d0 : decide ((0 : Int) ≤ -1) = false := rfl
      have n0 : ¬ (0 : Int) ≤ -1 := by omega
      have hTT : M = digitsOf 65536 hi 4 := by have h := HT.out; simpa [digitsOf] using h
      have HM8 := Lib.hid (show M.length = 4 by omega)
      clear HT hij hj hMl
      have HTs := Lib.hid (show M ++ digitsOf 65536 lo 4 = digitsOf 65536 hi 4 ++ digitsOf 65536 lo 4 from by rw [hTT])
      have HXs := HX
      have HBs := HB
      have HOs := HO
      have x2 := HX.out.c2
      clear hTT HX HB HO
      go_wp2_with fail
      go_loopw [3, 5] (fun v3 vi wr => ∃ (j cap : Nat) (i : Int) (A : Option Addr) (M : List Nat), v3 = .slice A M.length cap ∧ vi = .int .i64 i ∧ i + 1 = (j : Int) ∧ j ≤ 4 ∧ M.length + j = 8 ∧ Hid (M ++ digitsOf 65536 lo j = digitsOf 65536 hi 4 ++ digitsOf 65536 lo 4) ∧ Hid (AB wr w.heap.size v6 hi lo) ∧ Hid (Below W0.heap.size W0 wr) ∧ Hid (wr.ownsRow W0.heap.size 3 1 (.slice A M.length cap) M.length (natC M))) (fun _ vi _ => (intOf vi + 1).toNat)
      case atStart => exact ⟨4, cap, 3, A, M, rfl, rfl, rfl, Nat.le_refl _, by have := HM8.out; omega, HTs, HXs, HBs, HOs⟩
      case round =>
        clear HXs HBs HOs HTs
        obtain ⟨j, cap, i, A, M, rfl, rfl, hij, hj, hMl, HT, HX, HB, HO⟩ := hrel
        have hsz := HB.out.size
        cases j with
        | succ j =>
          obtain rfl : i = (j : Int) := by omega
          have d0 : decide ((0 : Int) ≤ (j : Int)) = true := by simp
          have p0 : (0 : Int) ≤ (j : Int) := by omega
          have hj8 : j < 4 := by omega
          obtain ⟨s, hs⟩ : ∃ s, s = 16 * j := ⟨_, rfl⟩
          have hsi : (16 : Int) * (j : Int) = (s : Int) := by omega
          have hs64 : s < 64 := by omega
          obtain ⟨q, hq⟩ : ∃ q, q = lo / 2 ^ s := ⟨_, rfl⟩
          have hqi : (lo : Int) / 2 ^ s = (q : Int) := by rw [hq, Int.natCast_ediv]; simp
          have hq64 : q < 18446744073709551616 := Nat.lt_of_le_of_lt (by rw [hq]; exact Nat.div_le_self _ _) b2
          have hqd : q = lo / (2 ^ 16) ^ j := by rw [hq, hs, Nat.pow_mul]
          obtain ⟨X, hX⟩ : ∃ X : Nat, X = lo / 65536 ^ j % 65536 := ⟨_, rfl⟩
          have HAN := Lib.hid (and16_u64 q hq64)
          have hXq : q % 65536 = X := by rw [hX, hqd, show (2 ^ 16 : Nat) = 65536 from rfl]
          rw [hXq] at HAN
          have hX16 : X < 65536 := by omega
          have hand := HAN.out
          obtain ⟨M2, hM2e⟩ : ∃ M2, M2 = M ++ [X] := ⟨_, rfl⟩
          have HSN := Lib.hid (show natC M ++ [.int .i64 X] = natC M2 by rw [hM2e, natC_snoc])
          have hM2l : M.length + 1 = M2.length := by rw [hM2e]; simp
          have HT2 := Lib.hid (show M2 ++ digitsOf 65536 lo j = digitsOf 65536 hi 4 ++ digitsOf 65536 lo 4 by have h := HT.out; rw [digitsOf_head, ← hX] at h; rw [hM2e, ← h]; simp)
          clear hX hXq HAN
          have x2 := HX.out.c2
          have HB2 := Lib.hid (HB.out.alloc hsz (.cells #[.int .i64 X] 3))
          have HX2 := Lib.hid (HX.out.al (.cells #[.int .i64 X] 3))
          have HJ := Lib.hid hij
          have hMj : M2.length + j = 8 := by omega
          have hjm : j ≤ 4 := by omega
          have hMb : M.length ≤ 100 := by omega
          clear hq hs hqd hM2e HT hij
          go_wp2_with (at_builtin; refine wpList_append_lies _ rfl _ _ 67 rfl W0.heap.size 3 i0 (.int .i64 0) 1 8 Tryd.underlying67 hinf hz0 hz1 hz2 rfl (by omega) _ M.length (natC M) rfl (HO.out.alloc _) ⟨wr.heap.size, 0, none⟩ 1 1 [.int .i64 X] rfl rfl ?c1 ?c2 (by omega) ?c3 ?c4 ?c5 _ rfl ?_)
          case c1 => exact World.news_of_block (cs := #[.int .i64 X]) (t := 3) (fr := (0, 0)) (heap_alloc_new wr _)
          case c2 => simp [Value.oneCell']
          case c3 => unfold maxLen; omega
          case c4 => omega
          case c5 => simp; omega
          intro g2 cap2 w3 hown3 hgrow hat hlt2
          have hB3 := HB2.out.grown hgrow (by simp; omega) (fun j hj => (HO.out.lt j hj).1)
          have hX3 : AB w3 w.heap.size v6 hi lo := HX.out.kept (((Below.refl W0.heap.size wr).alloc hsz (.cells #[.int .i64 X] 3)).grown hgrow (by simp; omega) (fun j hj => (HO.out.lt j hj).1)) HXL.out
          rw [HSN.out] at hown3
          try rw [hM2l] at hown3
          try rw [hM2l]
          have HB3 := Lib.hid hB3
          have HX3 := Lib.hid hX3
          have HO3 := Lib.hid hown3
          clear hB3 hown3 hgrow hat hlt2 HB HO HB2 HX HX2 hM2l hX3
          go_wp2_with fail
          go_roundw
          case rel => exact ⟨j, cap2, (j : Int) - 1, some ⟨g2, 0, none⟩, M2, rfl, by go_num, by omega, hjm, hMj, HT2, HX3, HB3, HO3⟩
          case measure => first | (simp [intOf]; done) | (simp [intOf]; omega)
        | zero =>
          obtain rfl : i = -1 := by omega
          have d0 : decide ((0 : Int) ≤ -1) = false := rfl
          have n0 : ¬ (0 : Int) ≤ -1 := by omega
          have hTT : M = digitsOf 65536 hi 4 ++ digitsOf 65536 lo 4 := by have h := HT.out; simpa [digitsOf] using h
          have HM8 := Lib.hid (show M.length = 8 by omega)
          clear HT hij hj hMl
          have HF := Lib.hid (show natC M = natC (digitsOf 65536 (numA hi lo) 8) by rw [hTT, groups_num b2])
          have HBE := Lib.hid (HBw.out.trans (HB.out.mono HBw.out.size))
          clear hTT
          go_wp2_with fail
          go_ret
          have ho := HO.out
          rw [HF.out, HM8.out] at ho
          exact ⟨A, cap, by rw [HM8.out]; rfl, own_mono6 ho HBw.out.size, HBE.out⟩
end Go.Proofs.YtcblgbonijloiaaDoor

/- Contract of the reference of layer 6: hex. -/
namespace Go.Proofs.YtcblgbonijloiaaDoor
open Go.ChangeShapes Go.WideShapes Go.ChangeAt Go.RowKit
set_option linter.unusedVariables false

/-- The sixteen digits. -/
def dig6 : ByteArray := ⟨#[48, 49, 50, 51, 52, 53, 54, 55, 56, 57, 97, 98, 99, 100, 101, 102]⟩
theorem dig6_at : ∀ k : Fin 16, dig6.extract k.1 (k.1 + 1) = str [hexd k.1] := by
  intro k
  have h : ∀ k : Fin 16, (dig6.extract k.1 (k.1 + 1)).data = #[hexd k.1] := by decide +kernel
  exact ByteArray.ext (h k)

set_option maxRecDepth 20000 in
theorem rhex6_any (n : Nat) (w : World) (hn : n ≤ 65535) :
    Calls Tryd.prog 58 #[.int .i64 n] w fun e w' => e = .returned (.string (str (hexL n))) ∧ w = w' := by
  obtain ⟨R, hR⟩ : ∃ R, R = hexL n := ⟨_, rfl⟩
  rw [← hR]
  have HR := Lib.hid hR
  have hRl : R.length ≤ 4 := by rw [hR]; exact hex_len_pow 3 n (by omega)
  clear hR
  go_enter Tryd.func58, Tryd.ntmps58
  go_wp2_with fail
  go_loopw [0, 3] (fun v0 v3 wr => ∃ k : Nat, ∃ q : By, v0 = .int .i64 k ∧ v3 = .string (str q) ∧ k ≤ 65535 ∧ Hid (hexL k ++ q = R) ∧ w = wr) (fun v0 _ _ => (intOf v0).toNat)
  case atStart => exact ⟨n, [], rfl, rfl, hn, Lib.hid (by rw [HR.out]; simp), rfl⟩
  case round =>
    obtain ⟨k, q, rfl, rfl, hk, HQ, rfl⟩ := hrel
    have hq : q.length ≤ 4 := by
      have := congrArg List.length HQ.out
      rw [List.length_append] at this
      omega
    by_cases h9 : 15 < k
    · have d9 : decide ((15 : Int) < (k : Int)) = true := by simp; omega
      obtain ⟨m, hm⟩ : ∃ m, m = k % 16 := ⟨_, rfl⟩
      obtain ⟨m1, hm1⟩ : ∃ m1, m1 = m + 1 := ⟨_, rfl⟩
      obtain ⟨k2, hk2⟩ : ∃ k2, k2 = k / 16 := ⟨_, rfl⟩
      have em : (k : Int) % 16 = (m : Int) := by omega
      have ek : (k : Int) / 16 = (k2 : Int) := by omega
      have em1 : (m : Int) + 1 = (m1 : Int) := by omega
      have lm : m < 16 := by omega
      have lm1 : m1 ≤ 16 := by omega
      have lmm : m ≤ m1 := by omega
      have hk2l : k2 ≤ 65535 := by omega
      have hk2k : k2 < k := by omega
      have hx := dig6_at ⟨m, lm⟩
      simp only at hx
      rw [← hm1] at hx
      have hz : (dig6.extract m m1).size = 1 := by rw [hx, str_size]; rfl
      have hfin : dig6.extract m m1 ++ str q = str (hexd m :: q) := by rw [hx]; exact str_append _ _
      have hcat : (9223372036854775807 < 1 + (str q).size) = False := by
        rw [str_size]; simp; omega
      have HF := Lib.hid hfin
      have HQ2 := Lib.hid (show hexL k2 ++ (hexd m :: q) = R by
        rw [← HQ.out]
        rw [show hexL k = hexL (k / 16) ++ [hexd (k % 16)] by rw [hexL, if_neg (by omega)]]
        rw [hk2, hm]; simp)
      clear hfin hx hm hm1 hk2
      unfold dig6 at hz HF
      generalize str q = S at *
      go_wp2_with fail
      go_roundw
      case rel => exact ⟨k2, hexd m :: q, by go_num, by rw [← HF.out], hk2l, HQ2, by first | trivial | rfl⟩
      case measure => simp [intOf]; omega
    · have d9 : decide ((15 : Int) < (k : Int)) = false := by simp; omega
      obtain ⟨m1, hm1⟩ : ∃ m1, m1 = k + 1 := ⟨_, rfl⟩
      have em1 : (k : Int) + 1 = (m1 : Int) := by omega
      have lm : k < 16 := by omega
      have lm1 : m1 ≤ 16 := by omega
      have lmm : k ≤ m1 := by omega
      have hx := dig6_at ⟨k, lm⟩
      simp only at hx
      rw [← hm1] at hx
      have hz : (dig6.extract k m1).size = 1 := by rw [hx, str_size]; rfl
      have hfin : dig6.extract k m1 ++ str q = str R := by
        rw [hx, str_append, ← HQ.out, hexL, if_pos (by omega)]
      have hcat : (9223372036854775807 < 1 + (str q).size) = False := by
        rw [str_size]; simp; omega
      have HF := Lib.hid hfin
      clear hfin hx hm1
      unfold dig6 at hz HF
      generalize str q = S at *
      go_wp2_with fail
      go_ret
      exact ⟨by rw [← HF.out]; rfl, rfl⟩
end Go.Proofs.YtcblgbonijloiaaDoor
