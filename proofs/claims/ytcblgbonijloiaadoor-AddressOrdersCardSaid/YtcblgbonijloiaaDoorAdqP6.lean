/- Contract of the program's layer 6: parse6. -/
import Derived.Test.YtcblgbonijloiaaDoorAdqP6M
namespace Go.Proofs.YtcblgbonijloiaaDoor
open Go.ChangeShapes Go.WideShapes Go.ChangeAt Go.RowKit
set_option linter.unusedVariables false

theorem cut_cutL (s : By) : Lib.cut s [58, 58] = cutL s := by
  rw [cut_two]; unfold cutL
  cases cutGap s with
  | none => rfl
  | some p => obtain ⟨a, b⟩ := p; rfl
theorem TW.drewN {w : World} (h : TW w) (n : Nat) : TW (w.drewN n) := h.kept (below_drewN6 (Below.refl _ w) n)
/-- Cut at two colons, as the walks use it. -/
theorem pcut6 (s : ByteArray) (w : World) (hs : s.size ≤ 1000) (ht : TW w) :
    Calls Tryd.prog 44 #[.string s, .string ⟨#[58, 58]⟩] w fun e w' => e = .returned (.tuple #[.string (str (cutL s.data.toList).1), .string (str (cutL s.data.toList).2.1), .bool (cutL s.data.toList).2.2]) ∧ ∃ n, w' = w.drewN n := by
  obtain ⟨m, hm⟩ := ht.mx
  refine (lib_strings_Cut s ⟨#[58, 58]⟩ m w (by omega) hm).mono ?_
  rintro e w' ⟨rfl, hw⟩
  have h2 : Lib.cut s.data.toList (⟨#[58, 58]⟩ : ByteArray).data.toList = cutL s.data.toList := cut_cutL _
  rw [h2]
  exact ⟨rfl, hw⟩
def gbS : Option (List Nat) → By
  | some l => gbytes l
  | none => []
theorem gbRes_eq (R : Option (List Nat)) : gbRes R = .tuple #[.string (str (gbS R)), .bool R.isSome] := by cases R <;> rfl
theorem cutGap_len : ∀ (s : By) (a b : By), cutGap s = some (a, b) → a.length + b.length + 2 = s.length
  | [], a, b, h => by cases h
  | [x], a, b, h => by cases h
  | x :: y :: r, a, b, h => by
    rw [cutGap] at h
    split at h
    · obtain ⟨rfl, rfl⟩ := Prod.mk.inj (Option.some.inj h)
      simp
    · cases hq : cutGap (y :: r) with
      | none => rw [hq] at h; cases h
      | some p =>
        obtain ⟨a', b'⟩ := p
        rw [hq] at h
        obtain ⟨rfl, rfl⟩ := Prod.mk.inj (Option.some.inj h)
        have := cutGap_len (y :: r) a' b' hq
        simp at this ⊢; omega
theorem cutL_len (s : By) : (cutL s).1.length ≤ s.length ∧ (cutL s).2.1.length ≤ s.length := by
  unfold cutL
  cases hc : cutGap s with
  | none => simp
  | some p => obtain ⟨a, b⟩ := p; have := cutGap_len s a b hc; simp only; omega
theorem groups_count {s : By} : (gbS (groupsS s)).length ≤ 2 * (s.length + 1) := by
  cases h : groupsS s with
  | none => simp [gbS]
  | some x =>
    show (gbytes x).length ≤ _
    rw [gbytes_length]
    have key : ∀ (l : List By) (y : List Nat), grpAll l = some y → y.length = l.length := by
      intro l
      induction l with
      | nil => intro y e; rw [grpAll] at e; obtain rfl := Option.some.inj e; rfl
      | cons p r ih =>
        intro y e
        rw [grpAll] at e
        cases hg : grpS p with
        | none => rw [hg] at e; cases e
        | some n =>
          rw [hg] at e
          simp only at e
          cases hr : grpAll r with
          | none => rw [hr] at e; cases e
          | some z => rw [hr] at e; obtain rfl := Option.some.inj e; simp [ih z hr]
    unfold groupsS at h
    split at h
    · obtain rfl := Option.some.inj h; simp
    · have h1 := key _ _ h
      have h2 := (split_count 58 s).2
      omega
set_option maxHeartbeats 2000000 in
set_option maxRecDepth 20000 in
theorem qparse6_any (s : ByteArray) (w : World) (hs : s.size ≤ 900) (ht : TW w) :
    Calls Tryd.prog 40 #[.string s] w fun e w' => e = .returned (adRes ((parse6 s.data.toList).map fun l => (true, halfH l, halfL l))) ∧ Below w.heap.size w w' := by
  have hlen := toList_length6 s
  have hcl := cutL_len s.data.toList
  obtain ⟨W0, hW0⟩ : ∃ W0, W0 = w.alloc (.cells #[.bool false, .int .u64 0, .int .u64 0] 25) := ⟨_, rfl⟩
  have HB0 := Lib.hid (show Below w.heap.size w W0 by rw [hW0]; exact below_alloc6 w _)
  have HX0 := Lib.hid (show AB W0 w.heap.size false 0 0 by rw [hW0]; exact ab_new w false 0 0)
  have HT0 := Lib.hid (show TW W0 from ht.kept (by rw [hW0]; exact below_alloc6 w _))
  have HCT := Lib.hid (pcut6 s W0 (by omega) HT0.out)
  have HG1 := Lib.hid (fun W h => qgroups_any (str (cutL s.data.toList).1) W (by rw [str_size]; omega) h)
  have HG2 := Lib.hid (fun W h => qgroups_any (str (cutL s.data.toList).2.1) W (by rw [str_size]; omega) h)
  rw [str_toList, gbRes_eq] at HG1 HG2
  have hn1 := fun h => parse6_none_head (s := s.data.toList) h
  have hn2 := fun h => parse6_none_tail (s := s.data.toList) h
  have hbo := fun x y h1 h2 => parse6_both (s := s.data.toList) (x := x) (y := y) h1 h2
  have hc1 := groups_count (s := (cutL s.data.toList).1)
  have hc2 := groups_count (s := (cutL s.data.toList).2.1)
  have hlt := fun l h => parse6_lt (s := s.data.toList) (l := l) h
  obtain ⟨R, hR⟩ : ∃ R, R = parse6 s.data.toList := ⟨_, rfl⟩
  rw [← hR]
  rw [← hR] at hn1 hn2 hlt
  simp only [← hR] at hbo
  generalize hgap : (cutL s.data.toList).2.2 = gap at *
  generalize groupsS (cutL s.data.toList).1 = Ra at *
  generalize groupsS (cutL s.data.toList).2.1 = Rb at *
  generalize (cutL s.data.toList).1 = A at *
  generalize (cutL s.data.toList).2.1 = B at *
  obtain ⟨Z1, hZ1⟩ : ∃ Z1 : Int, 16 - ((str (gbS Ra)).size : Int) = Z1 := ⟨_, rfl⟩
  obtain ⟨Z, hZ⟩ : ∃ Z : Int, Z1 - ((str (gbS Rb)).size : Int) = Z := ⟨_, rfl⟩
  have hsa : (str (gbS Ra)).size ≤ 2000 := by rw [str_size]; omega
  have hsb : (str (gbS Rb)).size ≤ 2000 := by rw [str_size]; omega
  have hzz : Z = 16 - ((gbS Ra).length : Int) - ((gbS Rb).length : Int) := by rw [← hZ, ← hZ1, str_size, str_size]
  have hz1 : -2000 ≤ Z1 := by omega
  have hz2 : Z1 ≤ 16 := by omega
  -- which way
  have hway : (Ra.isSome = true ∧ Rb.isSome = true ∧ 0 ≤ Z ∧ gap = decide (0 < Z) ∧ ∃ x y, Ra = some x ∧ Rb = some y ∧ ∃ l, R = some l ∧ gbytes l = gbytes x ++ List.replicate Z.toNat 0 ++ gbytes y) ∨ (R = none ∧ (Ra.isSome = false ∨ Ra.isSome = true ∧ (Rb.isSome = false ∨ Rb.isSome = true ∧ (Z < 0 ∨ ¬ Z < 0 ∧ (gap != decide (0 < Z)) = true)))) := by
    cases Ra with
    | none => exact .inr ⟨hn1 rfl, .inl rfl⟩
    | some x =>
      cases Rb with
      | none => exact .inr ⟨hn2 rfl, .inr ⟨rfl, .inl rfl⟩⟩
      | some y =>
        have hb := hbo x y rfl rfl
        have hzv : Z = 16 - 2 * (x.length : Int) - 2 * (y.length : Int) := by
          rw [hzz]
          show 16 - ((gbytes x).length : Int) - ((gbytes y).length : Int) = _
          rw [gbytes_length, gbytes_length]; omega
        by_cases hc : x.length + y.length ≤ 8 ∧ (gap = true ↔ x.length + y.length < 8)
        · rw [if_pos hc] at hb
          left
          refine ⟨rfl, rfl, by omega, ?_, x, y, rfl, rfl, _, hb, ?_⟩
          · rw [Bool.eq_iff_iff, hc.2, decide_eq_true_eq]; omega
          · rw [gbytes_append, gbytes_append, gbytes_zero, show Z.toNat = 2 * (8 - (x.length + y.length)) by omega]
        · rw [if_neg hc] at hb
          refine .inr ⟨hb, .inr ⟨rfl, .inr ⟨rfl, ?_⟩⟩⟩
          by_cases hz : Z < 0
          · exact .inl hz
          · refine .inr ⟨hz, ?_⟩
            rw [bne_iff_ne]
            intro e
            apply hc
            refine ⟨by omega, ?_⟩
            rw [e, decide_eq_true_eq]; omega
  have HLT := Lib.hid hlt
  have HW := Lib.hid hway
  clear hway hn1 hn2 hbo hlt hc1 hc2 hzz hgap hcl hlen ht
  go_enter Tryd.func40, Tryd.ntmps40
  go_wp2_with fail
  rw [← hW0]
  refine HCT.out.mono ?_
  rintro e w1 ⟨rfl, nd, hw1⟩
  have HT1 := Lib.hid (show TW w1 by rw [hw1]; exact HT0.out.drewN nd)
  have HB1 := Lib.hid (show Below w.heap.size w w1 by rw [hw1]; exact below_drewN6 HB0.out nd)
  have HX1 := Lib.hid (show AB w1 w.heap.size false 0 0 by rw [hw1]; exact HX0.out)
  clear hw1 HT0 HB0 HX0 HCT hW0
  go_wp2_with fail
  refine (HG1.out _ HT1.out).mono ?_
  rintro e w2 ⟨rfl, hb⟩
  have HT2 := Lib.hid (HT1.out.kept hb)
  have HB2 := Lib.hid (HB1.out.trans (hb.mono HB1.out.size))
  have HX2 := Lib.hid (HX1.out.kept hb HX1.out.lt)
  clear hb HT1 HB1 HX1
  go_wp2_with fail
  refine (HG2.out _ HT2.out).mono ?_
  rintro e w4 ⟨rfl, hb⟩
  have HB4 := Lib.hid (HB2.out.trans (hb.mono HB2.out.size))
  have HX4 := Lib.hid (HX2.out.kept hb HX2.out.lt)
  clear hb HT2 HB2 HX2
  have x0 := HX4.out.c0
  have x1 := HX4.out.c1
  have x2 := HX4.out.c2
  have xf0 := HX4.out.f 0
  have xf1 := HX4.out.f 1
  have xf2 := HX4.out.f 2
  rcases HW.out with ⟨p1, p2, p3, p4, x, y, px, py, l, pl, pg⟩ | ⟨hn, p1 | ⟨p1, p2 | ⟨p2, p3 | ⟨p3, p4⟩⟩⟩⟩
  · obtain ⟨z, rfl⟩ := Int.eq_ofNat_of_zero_le p3
    rw [Int.toNat_natCast] at pg
    have hz16 : z ≤ 16 := by omega
    have hl8 := HLT.out l pl
    have HFB := Lib.hid (fb_groups hl8.1 hl8.2)
    have HRP := Lib.hid (fun W => lib_strings_Repeat ⟨#[0]⟩ z W (by omega) (by show 1 * z ≤ _; omega))
    have hrp : (⟨(Lib.repeatL (⟨#[0]⟩ : ByteArray).data.toList z).toArray⟩ : ByteArray) = str (List.replicate z 0) := by
      show (⟨(Lib.repeatL [0] z).toArray⟩ : ByteArray) = _
      rw [repeat_zero]; rfl
    rw [hrp] at HRP
    have hcats : str (gbS Ra) ++ str (List.replicate z 0) ++ str (gbS Rb) = str (gbytes l) := by
      rw [px, py, str_append, str_append, pg]; rfl
    have hrs : (str (List.replicate z (0 : UInt8))).size = z := by rw [str_size, List.length_replicate]
    have hsz : (str (gbS Ra) ++ str (List.replicate z 0)).size ≤ 2016 := by rw [ByteArray.size_append]; omega
    have hk1 : (9223372036854775807 < (str (gbS Ra)).size + (str (List.replicate z (0 : UInt8))).size) = False := by simp only [eq_iff_iff, iff_false]; omega
    have hk2 : (9223372036854775807 < (str (gbS Ra) ++ str (List.replicate z 0)).size + (str (gbS Rb)).size) = False := by simp only [eq_iff_iff, iff_false]; omega
    have hk3 : (9223372036854775807 < (str (gbS Ra)).size + (str (List.replicate z (0 : UInt8))).size + (str (gbS Rb)).size) = False := by simp only [eq_iff_iff, iff_false]; omega
    have hf := fun W => qfrom_any (str (gbytes l)) W (by rw [str_size, gbytes_length, hl8.1]; omega)
    rw [str_toList, HFB.out, ← hcats] at hf
    have HF := Lib.hid hf
    have HE := Lib.hid (show R.map (fun l => (true, halfH l, halfL l)) = some (true, halfH l, halfL l) by rw [pl]; rfl)
    have dn : decide ((z : Int) < 0) = false := by rw [decide_eq_false_iff_not]; omega
    have dg : (gap != decide ((0 : Int) < (z : Int))) = false := by rw [p4]; simp
    have d0 : decide ((0 : Int) < (z : Int)) = gap := p4.symm
    have d0n : decide (0 < z) = gap := by rw [← d0]; simp
    have gg : (gap != gap) = false := by simp
    clear hf hcats hrp hrs hsz hl8 pg pl px py p3 p4 HFB
    rw [p1, p2]
    generalize str (List.replicate z 0) = Rp at *
    generalize str (gbS Ra) = P at *
    generalize str (gbS Rb) = Q at *
    generalize halfH l = hh at *
    generalize halfL l = ll at *
    go_wp2_with fail
    refine (HRP.out _).mono ?_
    rintro e w5 ⟨rfl, hb⟩
    have HB5 := Lib.hid (HB4.out.trans (hb.mono HB4.out.size))
    have HX5 := Lib.hid (HX4.out.kept hb HX4.out.lt)
    clear hb
    go_wp2_with fail
    refine (HF.out _).mono ?_
    rintro e w6 ⟨rfl, hb⟩
    have HB6 := Lib.hid (HB5.out.trans (hb.mono HB5.out.size))
    have HX6 := Lib.hid (HX5.out.kept hb HX5.out.lt)
    clear hb x0 x1 x2 xf0 xf1 xf2
    have x0 := HX6.out.c0
    have x1 := HX6.out.c1
    have x2 := HX6.out.c2
    have xf0 := HX6.out.f 0
    have xf1 := HX6.out.f 1
    have xf2 := HX6.out.f 2
    simp only [adRes]
    go_wp2_with fail
    change bodyPost _ _ _ _ _ (aset w6 w.heap.size true hh ll)
    exact bodyPost_ret (res_addr2 rfl _ _ rfl (HX6.out.set true hh ll)) rfl ⟨by rw [HE.out]; rfl, aset_below HB6.out (Nat.le_refl _) true hh ll⟩
  · have HE := Lib.hid hn
    rw [p1]
    generalize str (gbS Ra) = P at *
    generalize str (gbS Rb) = Q at *
    generalize Rb.isSome = qb at *
    go_wp2_with fail
    change bodyPost _ _ _ _ _ (aset w4 w.heap.size false 0 0)
    exact bodyPost_ret (res_addr2 rfl _ _ rfl (HX4.out.set false 0 0)) rfl ⟨by rw [HE.out]; rfl, aset_below HB4.out (Nat.le_refl _) false 0 0⟩
  · have HE := Lib.hid hn
    rw [p1, p2]
    generalize str (gbS Ra) = P at *
    generalize str (gbS Rb) = Q at *
    go_wp2_with fail
    change bodyPost _ _ _ _ _ (aset w4 w.heap.size false 0 0)
    exact bodyPost_ret (res_addr2 rfl _ _ rfl (HX4.out.set false 0 0)) rfl ⟨by rw [HE.out]; rfl, aset_below HB4.out (Nat.le_refl _) false 0 0⟩
  · have HE := Lib.hid hn
    rw [p1, p2]
    have dn : decide (Z < 0) = true := by rw [decide_eq_true_eq]; exact p3
    generalize str (gbS Ra) = P at *
    generalize str (gbS Rb) = Q at *
    go_wp2_with fail
    change bodyPost _ _ _ _ _ (aset w4 w.heap.size false 0 0)
    exact bodyPost_ret (res_addr2 rfl _ _ rfl (HX4.out.set false 0 0)) rfl ⟨by rw [HE.out]; rfl, aset_below HB4.out (Nat.le_refl _) false 0 0⟩
  · have HE := Lib.hid hn
    rw [p1, p2]
    have dn : decide (Z < 0) = false := by rw [decide_eq_false_iff_not]; omega
    clear HW HLT
    generalize str (gbS Ra) = P at *
    generalize str (gbS Rb) = Q at *
    by_cases hz0 : 0 < Z
    · have dz : decide (0 < Z) = true := decide_eq_true hz0
      rw [dz] at p4
      obtain rfl : gap = false := by cases gap <;> simp_all
      clear p4
      go_wp2_with fail
      change bodyPost _ _ _ _ _ (aset w4 w.heap.size false 0 0)
      exact bodyPost_ret (res_addr2 rfl _ _ rfl (HX4.out.set false 0 0)) rfl ⟨by rw [HE.out]; rfl, aset_below HB4.out (Nat.le_refl _) false 0 0⟩
    · have dz : decide (0 < Z) = false := decide_eq_false hz0
      rw [dz] at p4
      obtain rfl : gap = true := by cases gap <;> simp_all
      clear p4
      go_wp2_with fail
      change bodyPost _ _ _ _ _ (aset w4 w.heap.size false 0 0)
      exact bodyPost_ret (res_addr2 rfl _ _ rfl (HX4.out.set false 0 0)) rfl ⟨by rw [HE.out]; rfl, aset_below HB4.out (Nat.le_refl _) false 0 0⟩
end Go.Proofs.YtcblgbonijloiaaDoor
