/- Contracts of the program's layer 6: Format, FormatPrefix. -/
import Derived.Test.YtcblgbonijloiaaDoorAdqF6
namespace Go.Proofs.YtcblgbonijloiaaDoor
open Go.ChangeShapes Go.WideShapes Go.ChangeAt Go.RowKit
set_option linter.unusedVariables false

theorem num_app_from : ∀ (b : By) (x : Nat), b.foldl (fun a c => a * 256 + c.toNat) x = x * 256 ^ b.length + num b
  | [], x => by simp [num]
  | c :: r, x => by
    rw [List.foldl_cons, num_app_from r]
    show _ = x * 256 ^ (r.length + 1) + r.foldl (fun a c => a * 256 + c.toNat) (0 * 256 + c.toNat)
    rw [num_app_from r, Nat.pow_succ, Nat.add_mul, Nat.mul_assoc, Nat.mul_comm 256, Nat.zero_mul, Nat.zero_add]
    omega
theorem num_append (a b : By) : num (a ++ b) = num a * 256 ^ b.length + num b := by
  show (a ++ b).foldl _ 0 = _
  rw [List.foldl_append]
  exact num_app_from b _
theorem num_inj {a b : By} (hl : a.length = b.length) (h : num a = num b) : a = b := by
  rw [← leL_reverse_num a, ← leL_reverse_num b, hl, h]
theorem adrB_6 {hi lo : Nat} (h1 : hi < 18446744073709551616) (h2 : lo < 18446744073709551616) : adrB true hi lo = gbytes (digitsOf 65536 (numA hi lo) 8) := by
  have h64 : (256 : Nat) ^ 8 = 18446744073709551616 := by decide
  have hn : numA hi lo < 65536 ^ 8 := by
    have := numA_lt h1 h2
    have e : (65536 : Nat) ^ 8 = 2 ^ 128 := by decide
    rw [e]; exact this
  apply num_inj
  · rw [adrB_length, gbytes_length, digitsOf_len]; rfl
  · rw [num_groups (fun n h => digitsOf_lt (by omega) 8 _ n h), ofDigits_of (by omega) 8 _ hn]
    show num ((leL 8 hi).reverse ++ (leL 8 lo).reverse) = _
    rw [num_append, num_reverse_leL, num_reverse_leL, List.length_reverse, leL_length, h64, Nat.mod_eq_of_lt h1, Nat.mod_eq_of_lt h2]
    unfold numA
    have : (2 : Nat) ^ 64 = 18446744073709551616 := by decide
    rw [this, Nat.mul_comm]
theorem adrB_4 {hi lo : Nat} (h2 : lo < 4294967296) : adrB false hi lo = bytesN (digitsOf 256 lo 4) := by
  have h64 : (256 : Nat) ^ 4 = 4294967296 := by decide
  apply num_inj
  · rw [adrB_length]; unfold bytesN; rw [List.length_map, digitsOf_len]; rfl
  · rw [num_bytesN (fun n h => digitsOf_lt (by omega) 4 _ n h), ofDigits_of (by omega) 4 _ (by omega)]
    show num ((leL 4 lo).reverse) = _
    rw [num_reverse_leL, h64, Nat.mod_eq_of_lt h2]
/-- The canonical text of an address. -/
def fmtA (v6 : Bool) (hi lo : Nat) : By := if v6 then fmt6 (digitsOf 65536 (numA hi lo) 8) else fmt4 (digitsOf 256 lo 4)
set_option maxHeartbeats 2000000 in
set_option maxRecDepth 20000 in
theorem qfmt_6 (hi lo : Nat) (w : World) (h1 : hi < 18446744073709551616) (h2 : lo < 18446744073709551616) (ht : TW w) :
    Calls Tryd.prog 21 #[.agg #[.bool true, .int .u64 hi, .int .u64 lo]] w fun e w' => e = .returned (.string (str (fmtA true hi lo))) ∧ Below w.heap.size w w' := by
  obtain ⟨W0, hW0⟩ : ∃ W0, W0 = w.alloc (.cells #[.bool true, .int .u64 hi, .int .u64 lo] 25) := ⟨_, rfl⟩
  have HX := Lib.hid (show AB W0 w.heap.size true hi lo by rw [hW0]; exact ab_new w true hi lo)
  have HB := Lib.hid (show Below w.heap.size w W0 by rw [hW0]; exact below_alloc6 w _)
  have HT := Lib.hid (show TW W0 from ht.kept (by rw [hW0]; exact below_alloc6 w _))
  have HBY := Lib.hid (fun W => qbytes_any true hi lo W h1 h2)
  have HF := Lib.hid (fun W t => qfmt6_any (str (adrB true hi lo)) (digitsOf 65536 (numA hi lo) 8) W (by rw [str_toList, adrB_6 h1 h2]) (digitsOf_len _ _ _) (fun n h => digitsOf_lt (by omega) 8 _ n h) t)
  have HE : Hid (fmtA true hi lo = fmt6 (digitsOf 65536 (numA hi lo) 8)) := Lib.hid rfl
  generalize str (adrB true hi lo) = B at *
  generalize fmt6 (digitsOf 65536 (numA hi lo) 8) = F at *
  clear h1 h2 ht
  go_enter Tryd.func21, Tryd.ntmps21
  go_wp2_with fail
  rw [← hW0]
  clear hW0
  have x0 := HX.out.c0
  have x1 := HX.out.c1
  have x2 := HX.out.c2
  go_wp2_with fail
  refine (HBY.out _).mono ?_
  rintro e w2 ⟨rfl, hb⟩
  have HX2 := Lib.hid (HX.out.kept hb HX.out.lt)
  have HB2 := Lib.hid (HB.out.trans (hb.mono HB.out.size))
  have HT2 := Lib.hid (HT.out.kept hb)
  clear hb HX HB HT x0 x1 x2
  have x0 := HX2.out.c0
  go_wp2_with fail
  refine (HF.out _ HT2.out).mono ?_
  rintro e w3 ⟨rfl, hb⟩
  have HB3 := Lib.hid (HB2.out.trans (hb.mono HB2.out.size))
  clear hb
  go_wp2_with fail
  go_ret
  exact ⟨ret_str6 (by rw [HE.out]), HB3.out⟩
set_option maxHeartbeats 2000000 in
set_option maxRecDepth 20000 in
theorem qfmt_4 (lo : Nat) (w : World) (h2 : lo < 4294967296) (ht : TW w) :
    Calls Tryd.prog 21 #[.agg #[.bool false, .int .u64 0, .int .u64 lo]] w fun e w' => e = .returned (.string (str (fmtA false 0 lo))) ∧ Below w.heap.size w w' := by
  obtain ⟨W0, hW0⟩ : ∃ W0, W0 = w.alloc (.cells #[.bool false, .int .u64 0, .int .u64 lo] 25) := ⟨_, rfl⟩
  have HX := Lib.hid (show AB W0 w.heap.size false 0 lo by rw [hW0]; exact ab_new w false 0 lo)
  have HB := Lib.hid (show Below w.heap.size w W0 by rw [hW0]; exact below_alloc6 w _)
  have HT := Lib.hid (show TW W0 from ht.kept (by rw [hW0]; exact below_alloc6 w _))
  have HBY := Lib.hid (fun W => qbytes_any false 0 lo W (by omega) (by omega))
  have HE : Hid (fmtA false 0 lo = joinC 46 ((digitsOf 256 lo 4).map numL)) := Lib.hid rfl
  have hbl : (str (adrB false 0 lo)).data.toList = bytesN (digitsOf 256 lo 4) := by rw [str_toList, adrB_4 h2]
  have hdl := digitsOf_len 256 4 lo
  have hd := digitsOf_lt (b := 256) (by omega) 4 lo
  generalize digitsOf 256 lo 4 = l at *
  generalize str (adrB false 0 lo) = s at *
  have hlen := toList_length6 s
  have hs4 : s.size = 4 := by rw [← hlen, hbl]; unfold bytesN; rw [List.length_map, hdl]
  have HS := Lib.hid (show s.size = 4 ∧ l.length = 4 from ⟨hs4, hdl⟩)
  have HL := Lib.hid (fun (k : Nat) (h1 : k < s.size) (h2 : k < l.length) => show ((s[k]'h1).toNat : Nat) = l[k] ∧ l[k] < 256 from by
    have hb := hd l[k] (List.getElem_mem h2)
    refine ⟨?_, hb⟩
    have e : s.data.toList[k]? = some (s[k]'h1) := by rw [List.getElem?_eq_getElem (by rw [hlen]; exact h1)]; rfl
    rw [hbl] at e
    unfold bytesN at e
    rw [List.getElem?_map, List.getElem?_eq_getElem h2] at e
    rw [← Option.some.inj e, UInt8.toNat_ofNat']
    omega)
  have hs1000 : s.size ≤ 4 := by omega
  have HIT := Lib.hid (fun n W h t => pitoa6 n W h t)
  obtain ⟨i0, hinf, hz0, hz1, hz2⟩ := info_parts info_str6
  have HD := Lib.hid hd
  clear h2 ht hbl hdl hd hlen hs4
  go_enter Tryd.func21, Tryd.ntmps21
  go_wp2_with fail
  rw [← hW0]
  clear hW0
  have x0 := HX.out.c0
  have x1 := HX.out.c1
  have x2 := HX.out.c2
  go_wp2_with fail
  refine (HBY.out _).mono ?_
  rintro e w2 ⟨rfl, hb⟩
  have HX2 := Lib.hid (HX.out.kept hb HX.out.lt)
  have HB2 := Lib.hid (HB.out.trans (hb.mono HB.out.size))
  have HT2 := Lib.hid (HT.out.kept hb)
  clear hb HX HB HT x0 x1 x2 HBY
  have x0 := HX2.out.c0
  have HO0 := Lib.hid (show w2.ownsRow w2.heap.size 9 1 (.slice none (List.map numL []).length 0) (List.map numL []).length (strC (List.map numL [])) from World.ownsRow_nil w2 w2.heap.size 9 1)
  go_wp2_with fail
  go_loopw [4, 14] (fun v4 v14 wr => ∃ k cap' : Nat, ∃ A' : Option Addr, ∃ M : List By, v4 = .slice A' M.length cap' ∧ v14 = .int .i64 k ∧ k ≤ 4 ∧ Hid (M = (l.take k).map numL) ∧ Hid (Below w2.heap.size w2 wr) ∧ Hid (wr.ownsRow w2.heap.size 9 1 (.slice A' M.length cap') M.length (strC M))) (fun _ v14 _ => 4 - (intOf v14).toNat)
  case atStart => exact ⟨0, 0, none, [], rfl, rfl, Nat.zero_le _, Lib.hid rfl, Lib.hid (Below.refl _ _), HO0⟩
  case round =>
    clear HO0
    obtain ⟨k, cap', A', M, rfl, rfl, hk4, HK, HB, HO⟩ := hrel
    have hszw := HB.out.size
    by_cases hlt : k < 4
    · have hlts : k < s.size := by have := HS.out; omega
      have hkl : k < l.length := by have := HS.out; omega
      have dlt : decide ((k : Int) < (s.size : Int)) = true := by rw [decide_eq_true_eq]; omega
      have hlti : (k : Int) < (s.size : Int) := by omega
      have hki0 : (0 : Int) ≤ (k : Int) := by omega
      have hLk := HL.out k hlts hkl
      have hx8 := u8_lt (s[k]'hlts)
      have hMl0 : M.length = k := by rw [HK.out, List.length_map, List.length_take]; omega
      obtain ⟨k1, hk1⟩ : ∃ k1, k1 = k + 1 := ⟨_, rfl⟩
      have k1i : (k : Int) + 1 = (k1 : Int) := by omega
      obtain ⟨M2, hM2⟩ : ∃ M2, M2 = M ++ [numL l[k]] := ⟨_, rfl⟩
      have HM2 := Lib.hid (show M2 = (l.take k1).map numL by rw [hM2, HK.out, hk1, List.take_succ_eq_append_getElem hkl, List.map_append]; rfl)
      have HSN := Lib.hid (show strC M ++ [.string (str (numL l[k]))] = strC M2 by rw [hM2, strC_snoc])
      have hMl : M.length + 1 = M2.length := by rw [hM2]; simp
      have hMb : M.length ≤ 16 := by omega
      have HK1 := Lib.hid (show k1 = k + 1 ∧ k1 ≤ 4 from ⟨hk1, by omega⟩)
      have HTr := Lib.hid (HT2.out.kept HB.out)
      have hit := fun W t => HIT.out (l[k]) W (by have := hLk.2; omega) t
      rw [← hLk.1] at hit HSN
      clear hM2 hk1 hMl0 hLk
      generalize hxc : s[k]'hlts = c at *
      have HI := Lib.hid hit
      clear hit
      generalize str (numL c.toNat) = S at *
      go_wp2_with fail
      refine (HI.out _ HTr.out).mono ?_
      rintro e w3 ⟨rfl, hb⟩
      have HBB := Lib.hid (HB.out.trans (hb.mono HB.out.size))
      have HOB := Lib.hid (own_below6 HO.out hb)
      have hsz2 := HBB.out.size
      have HB3 := Lib.hid (HBB.out.alloc HBB.out.size (.cells #[.string S] 9))
      clear hb HB HO
      go_wp2_with (at_builtin; refine wpList_append_lies _ rfl _ _ 57 rfl w2.heap.size 9 i0 (.string ⟨#[]⟩) 1 16 Tryd.underlying57 hinf hz0 hz1 hz2 rfl (by omega) _ M.length (strC M) rfl (HOB.out.alloc _) ⟨w3.heap.size, 0, none⟩ 1 1 [.string S] rfl rfl ?c1 ?c2 (by omega) ?c3 ?c4 ?c5 _ rfl ?_)
      case c1 => exact World.news_of_block (cs := #[.string S]) (t := 9) (fr := (0, 0)) (heap_alloc_new w3 _)
      case c2 => simp [Value.oneCell']
      case c3 => unfold maxLen; omega
      case c4 => omega
      case c5 => simp; omega
      intro g2 cap2 w4 hown3 hgrow hat hlt2
      have hB4 := HB3.out.grown hgrow (by simp; omega) (fun j hj => (HOB.out.lt j hj).1)
      rw [HSN.out] at hown3
      try rw [hMl] at hown3
      try rw [hMl]
      have HB4 := Lib.hid hB4
      have HO3 := Lib.hid hown3
      clear hB4 hown3 hgrow hat hlt2 HOB HB3 hMl
      go_wp2_with fail
      go_roundw
      case rel => exact ⟨k1, cap2, some ⟨g2, 0, none⟩, M2, rfl, by go_num, HK1.out.2, HM2, HB4, HO3⟩
      case measure => have := HK1.out; simp [intOf]; omega
    · obtain rfl : k = 4 := by omega
      have dlt : decide (((4 : Nat) : Int) < (s.size : Int)) = false := by rw [decide_eq_false_iff_not]; have := HS.out; omega
      have s4 : s.size = 4 := HS.out.1
      have hMe : M = l.map numL := by rw [HK.out, List.take_of_length_le (by have := HS.out; omega)]
      have hM4 : M.length = 4 := by rw [hMe, List.length_map]; exact HS.out.2
      have hcap := own_cap6 HO.out
      obtain ⟨g, hA, hgl, hcell⟩ := own_stl HO.out (by omega)
      subst hA
      rw [hM4] at hcap
      have hj := pjoin6 g 0 cap' M 46 wr hgl (fun j p h => by rw [Nat.zero_add]; exact hcell j p h) (by omega) (by omega) (by
        have := join_len 46 3 M (fun p hp => by
          rw [hMe] at hp
          obtain ⟨d, hd, rfl⟩ := List.mem_map.1 hp
          exact num_len (by have := HD.out d hd; omega))
        omega)
      rw [hM4] at hj
      have HE2 := Lib.hid (show fmtA false 0 lo = joinC 46 M by rw [HE.out, hMe])
      have HJ := Lib.hid hj
      clear hj hcell hMe HO HK HL
      generalize joinC 46 M = F at *
      go_wp2_with fail
      refine HJ.out.mono ?_
      rintro e w3 ⟨rfl, hb⟩
      have HB3 := Lib.hid (HB2.out.trans ((HB.out.trans (hb.mono HB.out.size)).mono HB2.out.size))
      clear hb
      go_wp2_with fail
      go_ret
      exact ⟨ret_str6 (by rw [HE2.out]), HB3.out⟩
/-- Format of every address. -/
theorem qfmt_any (v6 : Bool) (hi lo : Nat) (w : World) (h1 : hi < 18446744073709551616) (h2 : lo < 18446744073709551616) (hv : vldA v6 hi lo = true) (ht : TW w) :
    Calls Tryd.prog 21 #[.agg #[.bool v6, .int .u64 hi, .int .u64 lo]] w fun e w' => e = .returned (.string (str (fmtA v6 hi lo))) ∧ Below w.heap.size w w' := by
  cases v6 with
  | true => exact qfmt_6 hi lo w h1 h2 ht
  | false =>
    unfold vldA at hv
    simp only [Bool.false_or, Bool.and_eq_true, beq_iff_eq, decide_eq_true_eq] at hv
    obtain ⟨rfl, h⟩ := hv
    exact qfmt_4 lo w h ht
end Go.Proofs.YtcblgbonijloiaaDoor
