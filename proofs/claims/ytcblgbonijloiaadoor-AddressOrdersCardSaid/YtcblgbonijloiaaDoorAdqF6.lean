/- Contract of the program's layer 6: format6. -/
import Derived.Test.YtcblgbonijloiaaDoorAdqZero
import Derived.Test.YtcblgbonijloiaaDoorAdqP6
namespace Go.Proofs.YtcblgbonijloiaaDoor
open Go.ChangeShapes Go.WideShapes Go.ChangeAt Go.RowKit
set_option linter.unusedVariables false

theorem gbytes_at {l : List Nat} {k : Nat} (h : k < l.length) (hl : ∀ n ∈ l, n < 65536) : num (((gbytes l).drop (2 * k)).take 2) = l[k] := by
  have e : gbytes l = gbytes (l.take k) ++ gbytes (l.drop k) := by rw [← gbytes_append, List.take_append_drop]
  have h4 : (gbytes (l.take k)).length = 2 * k := by rw [gbytes_length, List.length_take]; omega
  rw [e, List.drop_append_of_le_length (by omega), List.drop_of_length_le (by omega), List.nil_append, List.drop_eq_getElem_cons h, gbytes]
  have hn := hl l[k] (List.getElem_mem h)
  generalize l[k] = n at *
  rw [show (UInt8.ofNat (n / 256) :: UInt8.ofNat (n % 256) :: gbytes (l.drop (k + 1))).take 2 = [UInt8.ofNat (n / 256), UInt8.ofNat (n % 256)] from rfl]
  show (0 * 256 + (UInt8.ofNat (n / 256)).toNat) * 256 + (UInt8.ofNat (n % 256)).toNat = n
  rw [UInt8.toNat_ofNat', UInt8.toNat_ofNat']
  omega
theorem join_hex_len {q : List Nat} (hq : ∀ d ∈ q, d < 65536) : (joinC 58 (q.map hexL)).length ≤ q.length * 5 := by
  have := join_len 58 4 (q.map hexL) (fun p hp => by
    obtain ⟨d, hd, rfl⟩ := List.mem_map.1 hp
    exact hex_len (hq d hd))
  rwa [List.length_map] at this
theorem fmt6_none {l : List Nat} (h : best l = (none, 1)) : fmt6 l = joinC 58 (l.map hexL) := by unfold fmt6; rw [h]
theorem fmt6_some {l : List Nat} {k m : Nat} (h : best l = (some k, m)) : fmt6 l = joinC 58 ((l.take k).map hexL) ++ [58, 58] ++ joinC 58 ((l.drop (k + m)).map hexL) := by unfold fmt6; rw [h]
theorem own_below6 {w w' : World} {base : Nat} {e : TypeId} {size : Nat} {v : Value} {n : Nat} {xs : List Value} (h : w.ownsRow base e size v n xs) (hb : Below w.heap.size w w') : w'.ownsRow base e size v n xs := by
  refine ⟨h.1, ?_⟩
  rcases h.2 with hn | ⟨g, cap, cur, hv, hg, hh, rest⟩
  · exact .inl hn
  · exact .inr ⟨g, cap, cur, hv, hg, (hb.block g (Array.getElem?_eq_some_iff.1 hh).1).trans hh, rest⟩
theorem own_cap6 {w : World} {base : Nat} {e : TypeId} {A : Option Addr} {cap n : Nat} {xs : List Value} (h : w.ownsRow base e 1 (.slice A n cap) n xs) : n ≤ cap := by
  rcases h.2 with ⟨hv, hn⟩ | ⟨g, c, cur, hv, _, _, hn, _⟩
  · omega
  · cases hv; exact hn
theorem runFT_none : runFT (none, 1) = (0, 0) := rfl
theorem runFT_some (k m : Nat) : runFT (some k, m) = (k, k + m) := rfl
theorem qnum2 (s : ByteArray) (l : List Nat) (hs : s.data.toList = gbytes l) (h8 : l.length = 8) (hl : ∀ n ∈ l, n < 65536) (k i i2 : Nat) (hk : k < l.length) (hi : i = 2 * k) (hi2 : i2 = i + 2) (W : World) :
    Calls Tryd.prog 60 #[.string (s.extract i i2)] W fun e w' => e = .returned (.int .u64 ((l[k] : Nat) : Int)) ∧ w' = W := by
  have hlen := toList_length6 s
  rw [hs, gbytes_length, h8] at hlen
  have hz : (s.extract i i2).size ≤ 8 := by rw [ByteArray.size_extract]; omega
  have h := qnumber_any (s.extract i i2) W hz
  rw [extract_toList6, hs, show i2 - i = 2 by omega, hi, gbytes_at hk hl] at h
  rw [hi]
  exact h
set_option maxHeartbeats 2000000 in
set_option maxRecDepth 20000 in
theorem qfmt6_any (s : ByteArray) (l : List Nat) (w : World) (hs : s.data.toList = gbytes l) (h8 : l.length = 8) (hl : ∀ n ∈ l, n < 65536) (ht : TW w) :
    Calls Tryd.prog 52 #[.string s] w fun e w' => e = .returned (.string (str (fmt6 l))) ∧ Below w.heap.size w w' := by
  have hlen := toList_length6 s
  rw [hs, gbytes_length, h8] at hlen
  have hsz : s.size = 16 := hlen.symm
  have hs16 : s.size ≤ 16 := by omega
  have H8 := Lib.hid (show l.length = 8 ∧ s.size = 16 from ⟨h8, hsz⟩)
  have HNB := Lib.hid (qnum2 s l hs h8 hl)
  have HFM := Lib.hid (fun n W h t => lfmt_any n W h t)
  have HLL := Lib.hid hl
  have HT := Lib.hid ht
  have HO0 := Lib.hid (show w.ownsRow w.heap.size 9 1 (.slice none (List.map hexL []).length 0) (List.map hexL []).length (strC (List.map hexL [])) from World.ownsRow_nil w w.heap.size 9 1)
  obtain ⟨i0, hinf, hz0, hz1, hz2⟩ := info_parts info_str6
  clear hlen hs h8 hsz hl ht
  go_enter Tryd.func52, Tryd.ntmps52
  go_wp2_with fail
  go_loopw [3, 4] (fun v3 v4 wr => ∃ k i cap' : Nat, ∃ A' : Option Addr, ∃ M : List By, v3 = .slice A' M.length cap' ∧ v4 = .int .i64 i ∧ i ≤ 16 ∧ Hid (i = 2 * k ∧ M = (l.take k).map hexL) ∧ Hid (Below w.heap.size w wr) ∧ Hid (wr.ownsRow w.heap.size 9 1 (.slice A' M.length cap') M.length (strC M))) (fun _ v4 _ => 16 - (intOf v4).toNat)
  case atStart => exact ⟨0, 0, 0, none, [], rfl, rfl, Nat.zero_le _, Lib.hid ⟨rfl, rfl⟩, Lib.hid (Below.refl _ _), HO0⟩
  case round =>
    clear HO0
    obtain ⟨k, i, cap', A', M, rfl, rfl, hi16, HK, HB, HO⟩ := hrel
    have hszw := HB.out.size
    by_cases hlt : i < 16
    · have hlts : i < s.size := by have := H8.out; omega
      have dlt : decide ((i : Int) < (s.size : Int)) = true := by rw [decide_eq_true_eq]; omega
      have hlti : (i : Int) < (s.size : Int) := by omega
      obtain ⟨i2, hi2⟩ : ∃ i2, i2 = i + 2 := ⟨_, rfl⟩
      have hi2i : (i : Int) + 2 = (i2 : Int) := by omega
      have hk8 : k < 8 := by have := HK.out.1; omega
      have hkl : k < l.length := by have := H8.out; omega
      have hi2s : i2 ≤ s.size := by have := HK.out.1; have := H8.out; omega
      have hi2j : (i2 : Int) ≤ (s.size : Int) := by omega
      have hii2 : i ≤ i2 := by omega
      have hii2j : (i : Int) ≤ (i2 : Int) := by omega
      have hi0 : (0 : Int) ≤ (i : Int) := by omega
      have hn := HLL.out l[k] (List.getElem_mem hkl)
      have HN1 := Lib.hid (fun W => HNB.out k i i2 hkl HK.out.1 hi2 W)
      have HF1 := Lib.hid (fun W t => HFM.out l[k] W hn t)
      have hMl0 : M.length = k := by rw [HK.out.2, List.length_map, List.length_take]; omega
      obtain ⟨M2, hM2⟩ : ∃ M2, M2 = M ++ [hexL l[k]] := ⟨_, rfl⟩
      have HM2 := Lib.hid (show i2 = 2 * (k + 1) ∧ M2 = (l.take (k + 1)).map hexL from ⟨by have := HK.out.1; omega, by rw [hM2, HK.out.2, List.take_succ_eq_append_getElem hkl, List.map_append]; rfl⟩)
      have HSN := Lib.hid (show strC M ++ [.string (str (hexL l[k]))] = strC M2 by rw [hM2, strC_snoc])
      have hMl : M.length + 1 = M2.length := by rw [hM2]; simp
      have hMb : M.length ≤ 16 := by omega
      have HI2 := Lib.hid (show i2 = i + 2 ∧ i2 ≤ 16 from ⟨hi2, by have := HK.out.1; omega⟩)
      have HTr := Lib.hid (HT.out.kept HB.out)
      clear hM2 hi2 hn hMl0
      generalize hgx : l[k] = x at *
      generalize str (hexL x) = S at *
      go_wp2_with fail
      refine (HN1.out _).mono ?_
      rintro e w2 ⟨rfl, hw⟩
      have hw' := hw.symm
      clear hw
      subst hw'
      go_wp2_with fail
      refine (HF1.out _ HTr.out).mono ?_
      rintro e w2 ⟨rfl, hb⟩
      have HBB := Lib.hid (HB.out.trans (hb.mono HB.out.size))
      have HOB := Lib.hid (own_below6 HO.out hb)
      have hsz2 := HBB.out.size
      have HB2 := Lib.hid (HBB.out.alloc HBB.out.size (.cells #[.string S] 9))
      clear hb HB HO
      go_wp2_with (at_builtin; refine wpList_append_lies _ rfl _ _ 57 rfl w.heap.size 9 i0 (.string ⟨#[]⟩) 1 16 Tryd.underlying57 hinf hz0 hz1 hz2 rfl (by omega) _ M.length (strC M) rfl (HOB.out.alloc _) ⟨w2.heap.size, 0, none⟩ 1 1 [.string S] rfl rfl ?c1 ?c2 (by omega) ?c3 ?c4 ?c5 _ rfl ?_)
      case c1 => exact World.news_of_block (cs := #[.string S]) (t := 9) (fr := (0, 0)) (heap_alloc_new w2 _)
      case c2 => simp [Value.oneCell']
      case c3 => unfold maxLen; omega
      case c4 => omega
      case c5 => simp; omega
      intro g2 cap2 w3 hown3 hgrow hat hlt2
      have hB3 := HB2.out.grown hgrow (by simp; omega) (fun j hj => (HOB.out.lt j hj).1)
      rw [HSN.out] at hown3
      try rw [hMl] at hown3
      try rw [hMl]
      have HB3 := Lib.hid hB3
      have HO3 := Lib.hid hown3
      clear hB3 hown3 hgrow hat hlt2 HOB HB2 hMl
      go_wp2_with fail
      go_roundw
      case rel => exact ⟨k + 1, i2, cap2, some ⟨g2, 0, none⟩, M2, rfl, by go_num, HI2.out.2, HM2, HB3, HO3⟩
      case measure => have := HI2.out; simp [intOf]; omega
    · obtain rfl : i = 16 := by omega
      have dlt : decide (((16 : Nat) : Int) < (s.size : Int)) = false := by rw [decide_eq_false_iff_not]; have := H8.out; omega
      have s16 : s.size = 16 := H8.out.2
      have hk8 : k = 8 := by have := HK.out.1; omega
      have hMe : M = l.map hexL := by rw [HK.out.2, hk8, List.take_of_length_le (by have := H8.out; omega)]
      have hM8 : M.length = 8 := by rw [hMe, List.length_map]; exact H8.out.1
      have hcap := own_cap6 HO.out
      obtain ⟨g, hA, hgl, hcell⟩ := own_stl HO.out (by omega)
      subst hA
      have hcl : ∀ (i n : Nat), l[i]? = some n → wr.cell? ⟨g, i, none⟩ = some (.string (str (hexL n))) := fun i n h => hcell i (hexL n) (by rw [hMe, List.getElem?_map, h]; rfl)
      have hz := qzero_any l g cap' wr (by have := H8.out; omega) hcl
      rw [H8.out.1] at hz
      have hjl : ∀ q : List Nat, (∀ d ∈ q, d < 65536) → (joinC 58 (q.map hexL)).length ≤ q.length * 5 := fun q h => join_hex_len h
      have HBr := HB
      rw [hM8] at hcap
      rcases best_spec l with hb | ⟨f, m, hb, hm2, hfm, hsp⟩
      · rw [hb, runFT_none] at hz
        have HZ := Lib.hid hz
        have hj := pjoin6 g 0 cap' (l.map hexL) 58 wr hgl (fun j p h => by
          rw [List.getElem?_map] at h
          cases hq : l[j]? with
          | none => rw [hq] at h; cases h
          | some n => rw [hq] at h; obtain rfl := Option.some.inj h; rw [Nat.zero_add]; exact hcl j n hq) (by rw [List.length_map, H8.out.1]; exact hcap) (by rw [List.length_map, H8.out.1]; omega) (by have := hjl l HLL.out; have := H8.out; omega)
        rw [List.length_map, H8.out.1, ← fmt6_none hb] at hj
        have HJ := Lib.hid hj
        clear hz hj hjl hcl hcell hMe hb HO HK hk8 HNB HFM
        generalize hSe : str (fmt6 l) = S at *
        have HSE := Lib.hid hSe
        clear hSe
        go_wp2_with fail
        refine HZ.out.mono ?_
        rintro e w2 ⟨rfl, hw⟩
        have hw' := hw.symm
        clear hw
        subst hw'
        go_wp2_with fail
        refine HJ.out.mono ?_
        rintro e w2 ⟨rfl, hb⟩
        have HB2 := Lib.hid (HBr.out.trans (hb.mono HBr.out.size))
        clear hb
        go_wp2_with fail
        go_ret
        exact ⟨ret_str6 HSE.out.symm, HB2.out⟩
      · rw [hb, runFT_some] at hz
        have hf8 : f ≤ 8 := by have := H8.out; omega
        have hT8 : f + m ≤ 8 := by have := H8.out; omega
        have hj1 := fun (W : World) (hW : Below wr.heap.size wr W) => pjoin6 g 0 cap' ((l.take f).map hexL) 58 W (Nat.lt_of_lt_of_le hgl hW.size) (fun j p h => by
          rw [World.cell?_of_block (w := wr) (w' := W) (a := ⟨g, 0 + j, none⟩) (hW.block g hgl)]
          rw [List.getElem?_map] at h
          cases hq : (l.take f)[j]? with
          | none => rw [hq] at h; cases h
          | some n =>
            rw [hq] at h; obtain rfl := Option.some.inj h; rw [Nat.zero_add]
            refine hcl j n ?_
            rw [List.getElem?_take] at hq
            split at hq
            · exact hq
            · cases hq) (by rw [List.length_map, List.length_take]; omega) (by rw [List.length_map, List.length_take]; omega) (by have := hjl (l.take f) (fun d hd => HLL.out d (List.mem_of_mem_take hd)); rw [List.length_take] at this; omega)
        rw [List.length_map, List.length_take, H8.out.1, Nat.min_eq_left hf8] at hj1
        have hF := fmt6_some hb
        have h1l : (str (joinC 58 ((l.take f).map hexL))).size ≤ 40 := by
          rw [str_size]; have := hjl (l.take f) (fun d hd => HLL.out d (List.mem_of_mem_take hd)); rw [List.length_take] at this; omega
        have h2l : (str (joinC 58 ((l.drop (f + m)).map hexL))).size ≤ 40 := by
          rw [str_size]; have := hjl (l.drop (f + m)) (fun d hd => HLL.out d (List.mem_of_mem_drop hd)); rw [List.length_drop] at this; have := H8.out; omega
        have hjl2 := hjl (l.drop (f + m)) (fun d hd => HLL.out d (List.mem_of_mem_drop hd))
        rw [List.length_drop, H8.out.1] at hjl2
        have hdl : ((l.drop (f + m)).map hexL).length = 8 - (f + m) := by rw [List.length_map, List.length_drop, H8.out.1]
        have hdc : ∀ (W : World) (hW : Below wr.heap.size wr W) (j : Nat) p, ((l.drop (f + m)).map hexL)[j]? = some p → W.cell? ⟨g, (f + m) + j, none⟩ = some (.string (str p)) := fun W hW j p h => by
          rw [List.getElem?_map, List.getElem?_drop] at h
          rw [World.cell?_of_block (w := wr) (w' := W) (a := ⟨g, (f + m) + j, none⟩) (hW.block g hgl)]
          cases hq : l[f + m + j]? with
          | none => rw [hq] at h; cases h
          | some n => rw [hq] at h; obtain rfl := Option.some.inj h; exact hcl _ n hq
        have hcat : str (joinC 58 ((l.take f).map hexL)) ++ (⟨#[58, 58]⟩ : ByteArray) ++ str (joinC 58 ((l.drop (f + m)).map hexL)) = str (fmt6 l) := by
          rw [hF, ← str_append, ← str_append]; rfl
        obtain ⟨t, ht⟩ : ∃ t, t = f + m := ⟨_, rfl⟩
        rw [← ht] at hz hT8 h2l hjl2 hdl hdc hcat
        generalize joinC 58 ((l.take f).map hexL) = P0 at *
        obtain ⟨Q0, hQ0⟩ : ∃ Q0, Q0 = (l.drop t).map hexL := ⟨_, rfl⟩
        rw [← hQ0] at h2l hjl2 hdl hdc hcat
        have hj2 : ∀ (W : World) (hW : Below wr.heap.size wr W), t < 8 → Calls Tryd.prog 54 #[.slice (some ⟨g, t, none⟩) (8 - t) (cap' - t), .string ⟨#[58]⟩] W fun e w' => e = .returned (.string (str (joinC 58 Q0))) ∧ Below W.heap.size W w' := fun W hW h8 => by
          have := pjoin6 g t (cap' - t) Q0 58 W (Nat.lt_of_lt_of_le hgl hW.size) (hdc W hW) (by omega) (by omega) (by omega)
          rwa [hdl] at this
        have hj3 : t = 8 → joinC 58 Q0 = [] := fun h8 => by
          have : Q0 = [] := List.length_eq_zero_iff.1 (by omega)
          rw [this]; rfl
        have HZ := Lib.hid hz
        have HJ1 := Lib.hid hj1
        have HJ2 := Lib.hid hj2
        have HC := Lib.hid hcat
        have hft : f < t := by omega
        have dft : ((f : Int) == (t : Int)) = false := by rw [beq_eq_false_iff_ne]; omega
        have nft : ¬ f = t := by omega
        have hfi : (f : Int) ≤ 8 := by omega
        have hti : (t : Int) ≤ 8 := by omega
        have hti0 : (0 : Int) ≤ (t : Int) := by omega
        have hfi0 : (0 : Int) ≤ (f : Int) := by omega
        have hfc : f ≤ cap' := by omega
        have htc : t ≤ cap' := by omega
        have hfci : (f : Int) ≤ (cap' : Int) := by omega
        have htci : (t : Int) ≤ (cap' : Int) := by omega
        clear hz hj1 hj2 hjl hjl2 hcl hcell hMe hb HO HK hk8 HNB HFM hcat hF hdl hdc hQ0 ht hsp hfm hm2
        generalize joinC 58 Q0 = Q1 at *
        generalize hSe : str (fmt6 l) = S at *
        have HSE := Lib.hid hSe
        clear hSe
        generalize hPe : str P0 = P at *
        have hk1 : (9223372036854775807 < P.size + 2) = False := by simp only [eq_iff_iff, iff_false]; omega
        have hk2 : (9223372036854775807 < P.size + (⟨#[58, 58]⟩ : ByteArray).size) = False := hk1
        by_cases h8 : t = 8
        · have hj3' := hj3 h8
          rw [hj3'] at HC h2l
          have HJ3 := Lib.hid (fun (a : Option Addr) (c : Nat) (W : World) => lib_strings_Join_none a c ⟨#[58]⟩ W)
          clear hj3 hj3' HJ2 Q1 hPe
          subst h8
          have hS2 : str [] = (⟨#[]⟩ : ByteArray) := rfl
          rw [hS2] at HC h2l
          have hk3 : (9223372036854775807 < (P ++ (⟨#[58, 58]⟩ : ByteArray)).size + (⟨#[]⟩ : ByteArray).size) = False := by
            rw [ByteArray.size_append]; simp only [eq_iff_iff, iff_false]; show ¬ (_ < P.size + 2 + 0); omega
          have hk4 : (9223372036854775807 < P.size + 2 + (⟨#[]⟩ : ByteArray).size) = False := by
            simp only [eq_iff_iff, iff_false]; show ¬ (_ < P.size + 2 + 0); omega
          by_cases hc8 : cap' = 8
          · subst hc8
            go_wp2_with fail
            refine HZ.out.mono ?_
            rintro e w2 ⟨rfl, hw⟩
            have hw' := hw.symm
            clear hw
            subst hw'
            go_wp2_with fail
            go_region_held3 (fun _ => True) (trivial) (first
              | (go_at_call_of 54 (Value.slice (some (⟨g, 0, none⟩ : Addr)) f 8); refine (HJ1.out _ ?_).mono ?_; exact ⟨rfl, rfl, rfl, Nat.le_refl _, fun _ _ => rfl⟩; rintro e w5 ⟨rfl, hb3d⟩; have hb5 : Below wr.heap.size wr w5 := ⟨hb3d.os, hb3d.tape, hb3d.output, hb3d.size, hb3d.block⟩)
              | (go_at_call 54; refine (HJ3.out _ _ _).mono ?_; rintro e w6 ⟨rfl, rfl⟩))
            all_goals
              go_wp2_with fail
              go_ret
              exact ⟨ret_str6 (HC.out.trans HSE.out.symm), HBr.out.trans (hb5.mono HBr.out.size)⟩
          · have hc9 : ¬ 8 = cap' := fun h => hc8 h.symm
            go_wp2_with fail
            refine HZ.out.mono ?_
            rintro e w2 ⟨rfl, hw⟩
            have hw' := hw.symm
            clear hw
            subst hw'
            go_wp2_with fail
            go_region_held3 (fun _ => True) (trivial) (first
              | (go_at_call_of 54 (Value.slice (some (⟨g, 0, none⟩ : Addr)) f cap'); refine (HJ1.out _ ?_).mono ?_; exact ⟨rfl, rfl, rfl, Nat.le_refl _, fun _ _ => rfl⟩; rintro e w5 ⟨rfl, hb3d⟩; have hb5 : Below wr.heap.size wr w5 := ⟨hb3d.os, hb3d.tape, hb3d.output, hb3d.size, hb3d.block⟩)
              | (go_at_call 54; refine (HJ3.out _ _ _).mono ?_; rintro e w6 ⟨rfl, rfl⟩))
            all_goals
              go_wp2_with fail
              go_ret
              exact ⟨ret_str6 (HC.out.trans HSE.out.symm), HBr.out.trans (hb5.mono HBr.out.size)⟩
        · have ht8 : t < 8 := by omega
          have hk3 : (9223372036854775807 < (P ++ (⟨#[58, 58]⟩ : ByteArray)).size + (str Q1).size) = False := by
            rw [ByteArray.size_append]; simp only [eq_iff_iff, iff_false]; show ¬ (_ < P.size + 2 + _); omega
          have hk4 : (9223372036854775807 < P.size + 2 + (str Q1).size) = False := by
            simp only [eq_iff_iff, iff_false]; omega
          clear hj3 hPe
          generalize str Q1 = Q at *
          have htcn : ¬ cap' = t := by omega
          have htcn2 : t < cap' := by omega
          go_wp2_with fail
          refine HZ.out.mono ?_
          rintro e w2 ⟨rfl, hw⟩
          have hw' := hw.symm
          clear hw
          subst hw'
          go_wp2_with fail
          go_region_held3 (fun _ => True) (trivial) (first
            | (go_at_call_of 54 (Value.slice (some (⟨g, 0, none⟩ : Addr)) f cap'); refine (HJ1.out _ ?_).mono ?_; exact ⟨rfl, rfl, rfl, Nat.le_refl _, fun _ _ => rfl⟩; rintro e w5 ⟨rfl, hb3d⟩; have hb5 : Below wr.heap.size wr w5 := ⟨hb3d.os, hb3d.tape, hb3d.output, hb3d.size, hb3d.block⟩)
            | (go_at_call 54; refine (HJ2.out _ ?_ ht8).mono ?_; exact hb5; rintro e w6 ⟨rfl, hb4d⟩; have hb6 : Below wr.heap.size wr w6 := hb5.trans (hb4d.mono hb5.size)))
          all_goals
            go_wp2_with fail
            go_ret
            exact ⟨ret_str6 (HC.out.trans HSE.out.symm), HBr.out.trans (hb6.mono HBr.out.size)⟩
end Go.Proofs.YtcblgbonijloiaaDoor
