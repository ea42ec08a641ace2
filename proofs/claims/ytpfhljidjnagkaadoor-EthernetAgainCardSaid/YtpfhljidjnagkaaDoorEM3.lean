/- Contracts of the functions, part 3: EthREnc, LexMath, LexByte, LexFollow, LexSkip, LexName, LexMark, EthMac, AdrLib, EthPM. -/
import Derived.Below
import Derived.WalkSmall
import Derived.BigQuiet
import Derived.Deep.QuietTactic
import Derived.Deep.RegionWith
import Derived.Lib.Split
import Derived.Lib.SplitLaws
import Derived.Lib.CutLaws
import Derived.Lib.IndexMore
import Derived.Lib.Join
import Derived.Lib.Repeat
import Derived.Lib.ItoaNum
import Derived.Test.YtpfhljidjnagkaaDoorEM1
import Derived.Test.YtpfhljidjnagkaaDoorEM2
/- Contract of the reference of layer 10: Encode. -/
namespace Go.Proofs.YtpfhljidjnagkaaDoor
open Go.ChangeShapes Go.WideShapes Go.ChangeAt Go.RowKit
set_option linter.unusedVariables false

theorem add_ok10 {P Q : ByteArray} {a b : Nat} (h1 : P.size ≤ a) (h2 : Q.size ≤ b) (h : a + b ≤ 1000000000) : (9223372036854775807 < P.size + Q.size) = False := by
  simp only [eq_iff_iff, iff_false]; omega
theorem app_le10 {P Q : ByteArray} {a b : Nat} (h1 : P.size ≤ a) (h2 : Q.size ≤ b) : (P ++ Q).size ≤ a + b := by
  rw [ByteArray.size_append]; omega
theorem bad_of {x : EthR} (h : badE x) : encE x = ([], 4) := by unfold encE; rw [if_pos h]
theorem box_cell {w0 w : World} {g : Nat} {t : TypeId} {cs : Array Value} (h : Cells w0 g t cs) (hb : Below w0.heap.size w0 w) (i : Nat) (v : Value) (hv : cs[i]? = some v) : w.cell? ⟨g, i, none⟩ = some v :=
  ((Cells.cell (Cells.kept h hb (Cells.lt h)) i).trans hv)
set_option maxHeartbeats 8000000 in
set_option maxRecDepth 20000 in
theorem renc10_any (x : EthR) (A : Option Addr) (c : Nat) (w : World) (h : RowL EInt w A x.vl) (hd : x.dst < 18446744073709551616) (hsr : x.src < 18446744073709551616) (hn : x.vl.length ≤ 100000) (hp : x.pay.length ≤ 1000000) :
    Calls Tryd.prog 13 #[.agg #[.int .u64 (x.dst : Int), .int .u64 (x.src : Int), .slice A x.vl.length c, .int .i64 x.ty, .string (str x.pay)]] w fun e w' => e = .returned (.tuple #[.string (str (encE x).1), .int .i64 ((encE x).2 : Int)]) ∧ Below w.heap.size w w' := by
  obtain ⟨R, hR⟩ : ∃ R, R = encE x := ⟨_, rfl⟩
  rw [← hR]
  have HBAD := Lib.hid (fun (h : badE x) => show R = ([], 4) from hR.trans (bad_of h))
  have HGOOD := Lib.hid (fun (h : ¬ badE x) => show R = if 2 < x.vl.length then ([], 9) else if 4096 < (bodyE x).length then ([], 3) else (bodyE x, 0) from by rw [hR]; unfold encE; rw [if_neg h])
  have HBE := Lib.hid (show bodyE x = beL 6 x.dst ++ beL 6 x.src ++ tagsB x.vl x.vl.length ++ (beL 2 x.ty.toNat ++ x.pay) from rfl)
  have HBDF := Lib.hid (show badE x ↔ (281474976710656 ≤ x.dst ∨ 281474976710656 ≤ x.src ∨ (∃ v ∈ x.vl, v < 0 ∨ 4095 < v) ∨ x.ty < 1536 ∨ 65535 < x.ty ∨ tgN x.ty.toNat) from Iff.rfl)
  clear hR
  generalize bodyE x = BD at *
  generalize badE x = BB at *
  obtain ⟨d, sr, vl, ty, pay⟩ := x
  simp only at *
  obtain ⟨n, hnl⟩ : ∃ n, n = vl.length := ⟨_, rfl⟩
  rw [← hnl] at hn HGOOD HBE ⊢
  obtain ⟨P, hP⟩ : ∃ P, P = str pay := ⟨_, rfl⟩
  have HPS9 := Lib.hid (show P.size = pay.length by rw [hP, str_size])
  rw [← hP]
  have HPP := Lib.hid hP
  have HN := Lib.hid hnl
  have HS := Lib.hid h
  obtain ⟨W1, hW1⟩ : ∃ W, W = w.alloc (.cells #[.int .u64 (d : Int), .int .u64 (sr : Int), .slice A n c, .int .i64 ty, .string P] 26) := ⟨_, rfl⟩
  obtain ⟨g, hg⟩ : ∃ g, g = w.heap.size := ⟨_, rfl⟩
  have HX := Lib.hid (show Cells W1 g 26 #[.int .u64 (d : Int), .int .u64 (sr : Int), .slice A n c, .int .i64 ty, .string P] by rw [hW1, hg]; exact heap_alloc_new w _)
  have HB1 := Lib.hid (show Below w.heap.size w W1 by rw [hW1]; exact below_alloc6 w _)
  have HV0 := Lib.hid (fun (W : World) (hb : Below W1.heap.size W1 W) => box_cell HX.out hb 0 (.int .u64 (d : Int)) rfl)
  have HV1 := Lib.hid (fun (W : World) (hb : Below W1.heap.size W1 W) => box_cell HX.out hb 1 (.int .u64 (sr : Int)) rfl)
  have HV2 := Lib.hid (fun (W : World) (hb : Below W1.heap.size W1 W) => box_cell HX.out hb 2 (.slice A n c) rfl)
  have HV3 := Lib.hid (fun (W : World) (hb : Below W1.heap.size W1 W) => box_cell HX.out hb 3 (.int .i64 ty) rfl)
  have HV4 := Lib.hid (fun (W : World) (hb : Below W1.heap.size W1 W) => box_cell HX.out hb 4 (.string P) rfl)
  have HW := Lib.hid (fun (W : World) (hb : Below W1.heap.size W1 W) => HB1.out.trans (hb.mono HB1.out.size))
  have x0 := HV0.out W1 (Below.refl _ _)
  have x1 := HV1.out W1 (Below.refl _ _)
  have x2 := HV2.out W1 (Below.refl _ _)
  clear h hnl hP
  by_cases hbd : 281474976710656 ≤ d
  · have hR1 := Lib.hid (HBAD.out (HBDF.out.2 (.inl hbd)))
    have t0 : decide ((281474976710656 : Int) ≤ (d : Int)) = true := by simp; omega
    have n0 : (281474976710656 : Int) ≤ (d : Int) := by omega
    clear hbd
    go_enter Tryd.func13, Tryd.ntmps13
    go_wp2_with fail
    go_ret2
    exact ⟨by rw [hR1.out]; rfl, by rw [← hW1]; exact HB1.out⟩
  by_cases hbs : 281474976710656 ≤ sr
  · have hR1 := Lib.hid (HBAD.out (HBDF.out.2 (.inr (.inl hbs))))
    have t0 : decide ((281474976710656 : Int) ≤ (d : Int)) = false := by simp; omega
    have n0 : ¬ (281474976710656 : Int) ≤ (d : Int) := by omega
    have t1 : decide ((281474976710656 : Int) ≤ (sr : Int)) = true := by simp; omega
    have n1 : (281474976710656 : Int) ≤ (sr : Int) := by omega
    clear hbd hbs
    go_enter Tryd.func13, Tryd.ntmps13
    go_wp2_with fail
    go_ret2
    exact ⟨by rw [hR1.out]; rfl, by rw [← hW1]; exact HB1.out⟩
  have t0 : decide ((281474976710656 : Int) ≤ (d : Int)) = false := by simp; omega
  have n0 : ¬ (281474976710656 : Int) ≤ (d : Int) := by omega
  have t1 : decide ((281474976710656 : Int) ≤ (sr : Int)) = false := by simp; omega
  have n1 : ¬ (281474976710656 : Int) ≤ (sr : Int) := by omega
  have hd48 : d < 281474976710656 := by omega
  have hs48 : sr < 281474976710656 := by omega
  clear hbd hbs
  go_enter Tryd.func13, Tryd.ntmps13
  go_wp2_with fail
  rw [← hW1, ← hg]
  clear hW1 hg t0 n0 t1 n1
  go_loopw [4] (fun v4 wr => ∃ k : Nat, v4 = .int .i64 k ∧ k ≤ n ∧ Hid (∀ y ∈ vl.take k, 0 ≤ y ∧ y ≤ 4095) ∧ Hid (Below W1.heap.size W1 wr)) (fun v4 _ => n - (intOf v4).toNat)
  case atStart => exact ⟨0, rfl, Nat.zero_le _, Lib.hid (by simp), Lib.hid (Below.refl _ _)⟩
  case round =>
    obtain ⟨k, rfl, hk, HT, HB⟩ := hrel
    have hk0 : (0 : Int) ≤ (k : Int) := by omega
    clear x0 x1 x2
    have x2 := HV2.out wr HB.out
    by_cases hlt : k < n
    · have hki : (k : Int) < (n : Int) := by omega
      have dlt : decide ((k : Int) < (n : Int)) = true := by simp; omega
      obtain ⟨y, hy⟩ : ∃ y, vl[k]? = some y := ⟨vl[k]'(by have := HN.out; omega), List.getElem?_eq_getElem _⟩
      obtain ⟨ga, oa, rfl, hga⟩ := HS.out.shapeA (by have := HN.out; omega)
      have cy := EInt.at_ HS.out hy (HW.out wr HB.out)
      have HY := Lib.hid hy
      have hmem := List.mem_of_getElem? hy
      clear hy
      by_cases hb : y < 0 ∨ 4095 < y
      · have hR1 := Lib.hid (HBAD.out (HBDF.out.2 (.inr (.inr (.inl ⟨y, hmem, hb⟩)))))
        have HBW := Lib.hid (HW.out wr HB.out)
        have HCS : (y < 0 ∧ decide (y < (0 : Int)) = true) ∨ (¬ y < 0 ∧ decide (y < (0 : Int)) = false ∧ 4095 < y ∧ decide ((4095 : Int) < y) = true) := by
          simp only [decide_eq_true_eq, decide_eq_false_iff_not]
          omega
        clear hb hmem
        rcases HCS with ⟨y1, y2⟩ | ⟨y1, y2, y3, y4⟩ <;> (go_wp2_with fail; go_ret2; exact ⟨by rw [hR1.out]; rfl, HBW.out⟩)
      · have y2 : decide (y < (0 : Int)) = false := by simp; omega
        have y4 : decide ((4095 : Int) < y) = false := by simp; omega
        have y1 : ¬ y < 0 := by omega
        have y3 : ¬ 4095 < y := by omega
        have HT2 := Lib.hid (show ∀ z ∈ vl.take (k + 1), 0 ≤ z ∧ z ≤ 4095 from by
          obtain ⟨hkl, e⟩ := List.getElem?_eq_some_iff.1 HY.out
          rw [List.take_succ_eq_append_getElem hkl, e]
          intro z hz
          rcases List.mem_append.1 hz with h1 | h1
          · exact HT.out z h1
          · obtain rfl := List.mem_singleton.1 h1
            omega)
        clear hb hmem
        go_wp2_with fail
        go_roundw
        case rel => exact ⟨k + 1, by go_num, by omega, HT2, HB⟩
        case measure => simp [intOf]; omega
    · obtain rfl : k = n := by omega
      have dlt : decide ((k : Int) < (k : Int)) = false := by simp
      have nlt : ¬ (k : Int) < (k : Int) := by omega
      have HALL := Lib.hid (show ∀ y ∈ vl, 0 ≤ y ∧ y ≤ 4095 from by
        have := HT.out
        rwa [List.take_of_length_le (by have := HN.out; omega)] at this)
      have HBW := Lib.hid (HW.out wr HB.out)
      have x3 := HV3.out wr HB.out
      clear HT
      by_cases ht1 : ty < 1536 ∨ 65535 < ty
      · have hR1 := Lib.hid (HBAD.out (HBDF.out.2 (by rcases ht1 with h | h; exact .inr (.inr (.inr (.inl h))); exact .inr (.inr (.inr (.inr (.inl h)))))))
        have HCS : (ty < 1536 ∧ decide (ty < (1536 : Int)) = true) ∨ (¬ ty < 1536 ∧ decide (ty < (1536 : Int)) = false ∧ 65535 < ty ∧ decide ((65535 : Int) < ty) = true) := by
          simp only [decide_eq_true_eq, decide_eq_false_iff_not]
          omega
        clear ht1
        rcases HCS with ⟨y1, y2⟩ | ⟨y1, y2, y3, y4⟩ <;> (go_wp2_with fail; go_ret2; exact ⟨by rw [hR1.out]; rfl, HBW.out⟩)
      · obtain ⟨T, rfl⟩ : ∃ T : Nat, ty = (T : Int) := ⟨ty.toNat, by omega⟩
        have z1 : ¬ (T : Int) < 1536 := by omega
        have z2 : decide ((T : Int) < (1536 : Int)) = false := by simp; omega
        have z3 : ¬ (65535 : Int) < (T : Int) := by omega
        have z4 : decide ((65535 : Int) < (T : Int)) = false := by simp; omega
        have hT6 : T < 65536 := by omega
        have HTG := Lib.hid (fun (W : World) => rtag_any T W (by omega))
        have hty := HBDF.out
        rw [Int.toNat_natCast] at hty
        by_cases htg : tgN T
        · have hR1 := Lib.hid (HBAD.out (hty.2 (.inr (.inr (.inr (.inr (.inr htg)))))))
          rw [decide_eq_true htg] at HTG
          clear htg ht1 hty
          go_wp2_with fail
          refine (HTG.out _).mono ?_
          rintro e w5 ⟨rfl, rfl⟩
          go_wp2_with fail
          go_ret2
          exact ⟨by rw [hR1.out]; rfl, HBW.out⟩
        · have hnb : ¬ BB := fun h => by
            rcases hty.1 h with h | h | ⟨y, hy, h⟩ | h | h | h
            · omega
            · omega
            · have := HALL.out y hy; omega
            · omega
            · omega
            · exact htg h
          have HGD := Lib.hid (HGOOD.out hnb)
          rw [decide_eq_false htg] at HTG
          clear htg ht1 hty hnb HBAD HGOOD HBDF
          by_cases h2 : 2 < k
          · have hR1 := Lib.hid (show R = ([], 9) by rw [HGD.out, if_pos h2])
            have e2 : decide ((2 : Int) < (k : Int)) = true := by simp; omega
            have i2 : (2 : Int) < (k : Int) := by omega
            clear h2
            go_wp2_with fail
            refine (HTG.out _).mono ?_
            rintro e w5 ⟨rfl, rfl⟩
            go_wp2_with fail
            go_ret2
            exact ⟨by rw [hR1.out]; rfl, HBW.out⟩
          · have HG2 := Lib.hid (show R = if 4096 < BD.length then ([], 3) else (BD, 0) by rw [HGD.out, if_neg h2])
            have e2 : decide ((2 : Int) < (k : Int)) = false := by simp; omega
            have i2 : ¬ (2 : Int) < (k : Int) := by omega
            have hk2 : k ≤ 2 := by omega
            have HPD := Lib.hid (fun (W : World) => putB_any 6 d (d : Int) 6 rfl rfl (by decide) (by decide) (by omega) W)
            have HPS := Lib.hid (fun (W : World) => putB_any 6 sr (sr : Int) 6 rfl rfl (by decide) (by decide) (by omega) W)
            have cd : IntKind.i64.wrap (d : Int) = (d : Int) := by rw [IntKind.wrap_i64]; omega
            have cs : IntKind.i64.wrap (sr : Int) = (sr : Int) := by rw [IntKind.wrap_i64]; omega
            have HPT := Lib.hid (fun (W : World) => putB_any 2 T (T : Int) 2 rfl rfl (by decide) (by decide) (by omega) W)
            have HT1 := Lib.hid (fun (W : World) => putB_any 2 33024 33024 2 rfl rfl (by decide) (by decide) (by decide) W)
            have HT2 := Lib.hid (fun (W : World) => putB_any 2 34984 34984 2 rfl rfl (by decide) (by decide) (by decide) W)
            have HTV := Lib.hid (fun (y : Int) (hy : y ∈ vl) (W : World) => putB_any 2 y.toNat y 2 (by have := HALL.out y hy; omega) rfl (by decide) (by decide) (by have := HALL.out y hy; omega) W)
            clear h2 HGD
            go_wp2_with fail
            refine (HTG.out _).mono ?_
            rintro e w5 ⟨rfl, rfl⟩
            go_wp2_with fail
            have s6 : (str (beL 6 d)).size ≤ 6 := by rw [str_size, beL_len]; omega
            have s6' : (str (beL 6 sr)).size ≤ 6 := by rw [str_size, beL_len]; omega
            have q0 := add_ok10 s6 s6' (by omega)
            have HE0 := Lib.hid (show str (beL 6 d) ++ str (beL 6 sr) = str (beL 6 d ++ beL 6 sr ++ tagsB vl 0) by rw [str_append]; simp [tagsB])
            have HBE2 := Lib.hid (show BD = beL 6 d ++ beL 6 sr ++ tagsB vl k ++ (beL 2 T ++ pay) by have := HBE.out; rwa [Int.toNat_natCast] at this)
            have HLEN := Lib.hid (show ∀ j, (beL 6 d ++ beL 6 sr ++ tagsB vl j).length = 12 + 4 * j from fun j => by simp only [List.length_append, beL_len, tagsB_len])
            clear HBE s6 s6'
            generalize hbd : beL 6 d = bd at *
            generalize hbs : beL 6 sr = bs at *
            generalize hbt : beL 2 T = bt at *
            have HBT := Lib.hid (show bt.length = 2 by rw [← hbt, beL_len])
            clear hbd hbs hbt
            obtain ⟨D6, hD6⟩ : ∃ D, D = str bd := ⟨_, rfl⟩
            obtain ⟨S6, hS6⟩ : ∃ D, D = str bs := ⟨_, rfl⟩
            rw [← hD6] at HPD HE0 q0
            rw [← hS6] at HPS HE0 q0
            clear hD6 hS6
            refine wp_region_pick (fun w' => Below wr.heap.size wr w') (by kernel_rfl) (by kernel_rfl) (Below.refl _ _) ⟨rfl, rfl, rfl, Nat.le_refl _, fun _ _ => rfl⟩ (fun pw hp hq => ?_)
            have pp0 : ∀ u, (pw u).cell? ⟨g, 0, none⟩ = some (.int .u64 (d : Int)) := fun u => HV0.out _ (HB.out.trans ((hp u).mono HB.out.size))
            have pp1 : ∀ u, (pw u).cell? ⟨g, 1, none⟩ = some (.int .u64 (sr : Int)) := fun u => HV1.out _ (HB.out.trans ((hp u).mono HB.out.size))
            have HP := Lib.hid hp
            have HQ := Lib.hid hq
            clear hp hq
            repeat (go_big_quiet_step ((first | with_reducible exact Calls.pick_of HQ.out (fun W' hb => (HP.out _).trans (hb.mono (HP.out _).size)) (HPD.out _) | with_reducible exact Calls.pick_of HQ.out (fun W' hb => (HP.out _).trans (hb.mono (HP.out _).size)) (HPS.out _))))
            refine wpQuiet_nil ?_
            rintro _ ⟨u, rfl⟩
            have HB6 := Lib.hid (HB.out.trans ((HP.out u).mono HB.out.size))
            generalize pw u = w6 at *
            clear HP HQ pp0 pp1 HB x2 x3 HPD HPS q0 cd cs HBW
            go_wp2_with fail
            rw [HE0.out]
            clear HE0 HTG
            go_loopw [5, 6] (fun v5 v6 wr => ∃ j : Nat, v5 = .string (str (bd ++ bs ++ tagsB vl j)) ∧ v6 = .int .i64 j ∧ j ≤ k ∧ Hid (Below W1.heap.size W1 wr)) (fun _ v6 _ => k - (intOf v6).toNat)
            case atStart => exact ⟨0, rfl, rfl, Nat.zero_le _, HB6⟩
            case round =>
              clear HB6
              obtain ⟨j, rfl, rfl, hj, HB⟩ := hrel
              have hj0 : (0 : Int) ≤ (j : Int) := by omega
              have x2 := HV2.out wr HB.out
              have hOs : (str (bd ++ bs ++ tagsB vl j)).size ≤ 20 := by rw [str_size, HLEN.out]; omega
              by_cases hlt : j < k
              · have hji : (j : Int) < (k : Int) := by omega
                have dlt : decide ((j : Int) < (k : Int)) = true := by simp; omega
                obtain ⟨y, hy⟩ : ∃ y, vl[j]? = some y := ⟨vl[j]'(by have := HN.out; omega), List.getElem?_eq_getElem _⟩
                obtain ⟨ga, oa, rfl, hga⟩ := HS.out.shapeA (by have := HN.out; omega)
                have hmem := List.mem_of_getElem? hy
                have HPY := Lib.hid (HTV.out y hmem)
                have HCY := Lib.hid (fun (W : World) (hb : Below W1.heap.size W1 W) => EInt.at_ HS.out hy (HW.out W hb))
                have HTN := Lib.hid (tagsB_next hy)
                clear hmem hy
                obtain ⟨km, hkm⟩ : ∃ km, km = k - 1 := ⟨_, rfl⟩
                have hkmi : (k : Int) - 1 = (km : Int) := by omega
                have s2 : (str (beL 2 y.toNat)).size ≤ 2 := by rw [str_size, beL_len]; omega
                have s1 : (str (beL 2 33024)).size ≤ 2 := by rw [str_size, beL_len]; omega
                have s3 : (str (beL 2 34984)).size ≤ 2 := by rw [str_size, beL_len]; omega
                by_cases hjk : j = km
                · subst hjk
                  have ej : ((j : Int) == (j : Int)) = true := beq_self_eq_true _
                  have HNX := Lib.hid (show str (bd ++ bs ++ tagsB vl j) ++ str (beL 2 33024) ++ str (beL 2 y.toNat) = str (bd ++ bs ++ tagsB vl (j + 1)) by
                    rw [HTN.out]
                    unfold tagB
                    rw [if_pos (by have := HN.out; omega), str_append, str_append]
                    simp only [List.append_assoc])
                  have q1 := add_ok10 hOs s1 (by omega)
                  have q2 := add_ok10 (app_le10 hOs s1) s2 (by omega)
                  have q3 : (9223372036854775807 < (str (bd ++ bs ++ tagsB vl j)).size + (str (beL 2 33024)).size + (str (beL 2 y.toNat)).size) = False := by simp only [eq_iff_iff, iff_false]; omega
                  clear HTN hkm HTV HT2
                  obtain ⟨O, hO⟩ : ∃ O, O = str (bd ++ bs ++ tagsB vl j) := ⟨_, rfl⟩
                  obtain ⟨Y2, hY2⟩ : ∃ O, O = str (beL 2 y.toNat) := ⟨_, rfl⟩
                  obtain ⟨T2, hT2⟩ : ∃ O, O = str (beL 2 33024) := ⟨_, rfl⟩
                  rw [← hO] at HNX q1 q2 q3 ⊢
                  rw [← hY2] at HPY HNX q2 q3
                  rw [← hT2] at HT1 HNX q1 q2 q3
                  clear hO hY2 hT2 s1 s2 s3 hOs
                  go_wp2_with fail
                  refine wp_region_pick (fun w' => Below wr.heap.size wr w') (by kernel_rfl) (by kernel_rfl) (Below.refl _ _) ⟨rfl, rfl, rfl, Nat.le_refl _, fun _ _ => rfl⟩ (fun pw hp hq => ?_)
                  have pp0 : ∀ u, (pw u).cell? ⟨g, 2, none⟩ = some (.slice (some ⟨ga, oa, none⟩) k c) := fun u => HV2.out _ (HB.out.trans ((hp u).mono HB.out.size))
                  have pp1 : ∀ u, (pw u).cell? ⟨ga, oa + j, none⟩ = some (.int .i64 y) := fun u => HCY.out _ (HB.out.trans ((hp u).mono HB.out.size))
                  have HP := Lib.hid hp
                  have HQ := Lib.hid hq
                  clear hp hq
                  repeat (go_big_quiet_step ((first | with_reducible exact Calls.pick_of HQ.out (fun W' hb => (HP.out _).trans (hb.mono (HP.out _).size)) (HT1.out _) | with_reducible exact Calls.pick_of HQ.out (fun W' hb => (HP.out _).trans (hb.mono (HP.out _).size)) (HPY.out _))))
                  refine wpQuiet_nil ?_
                  rintro _ ⟨u, rfl⟩
                  have HB7 := Lib.hid (HB.out.trans ((HP.out u).mono HB.out.size))
                  generalize pw u = w7 at *
                  clear HP HQ pp0 pp1 HB x2
                  go_wp2_with fail
                  go_roundw
                  case rel => exact ⟨j + 1, by rw [← HNX.out], by go_num, by omega, HB7⟩
                  case measure => simp [intOf]; omega
                · have ej : ((j : Int) == (km : Int)) = false := by rw [beq_eq_false_iff_ne]; omega
                  have ij : ¬ (j : Int) = (km : Int) := by omega
                  have HNX := Lib.hid (show str (bd ++ bs ++ tagsB vl j) ++ str (beL 2 34984) ++ str (beL 2 y.toNat) = str (bd ++ bs ++ tagsB vl (j + 1)) by
                    rw [HTN.out]
                    unfold tagB
                    rw [if_neg (by have := HN.out; omega), str_append, str_append]
                    simp only [List.append_assoc])
                  have q1 := add_ok10 hOs s3 (by omega)
                  have q2 := add_ok10 (app_le10 hOs s3) s2 (by omega)
                  have q3 : (9223372036854775807 < (str (bd ++ bs ++ tagsB vl j)).size + (str (beL 2 34984)).size + (str (beL 2 y.toNat)).size) = False := by simp only [eq_iff_iff, iff_false]; omega
                  clear HTN hjk hkm HTV HT1
                  obtain ⟨O, hO⟩ : ∃ O, O = str (bd ++ bs ++ tagsB vl j) := ⟨_, rfl⟩
                  obtain ⟨Y2, hY2⟩ : ∃ O, O = str (beL 2 y.toNat) := ⟨_, rfl⟩
                  obtain ⟨T2, hT2⟩ : ∃ O, O = str (beL 2 34984) := ⟨_, rfl⟩
                  rw [← hO] at HNX q1 q2 q3 ⊢
                  rw [← hY2] at HPY HNX q2 q3
                  rw [← hT2] at HT2 HNX q1 q2 q3
                  clear hO hY2 hT2 s1 s2 s3 hOs
                  go_wp2_with fail
                  refine wp_region_pick (fun w' => Below wr.heap.size wr w') (by kernel_rfl) (by kernel_rfl) (Below.refl _ _) ⟨rfl, rfl, rfl, Nat.le_refl _, fun _ _ => rfl⟩ (fun pw hp hq => ?_)
                  have pp0 : ∀ u, (pw u).cell? ⟨g, 2, none⟩ = some (.slice (some ⟨ga, oa, none⟩) k c) := fun u => HV2.out _ (HB.out.trans ((hp u).mono HB.out.size))
                  have pp1 : ∀ u, (pw u).cell? ⟨ga, oa + j, none⟩ = some (.int .i64 y) := fun u => HCY.out _ (HB.out.trans ((hp u).mono HB.out.size))
                  have HP := Lib.hid hp
                  have HQ := Lib.hid hq
                  clear hp hq
                  repeat (go_big_quiet_step ((first | with_reducible exact Calls.pick_of HQ.out (fun W' hb => (HP.out _).trans (hb.mono (HP.out _).size)) (HT2.out _) | with_reducible exact Calls.pick_of HQ.out (fun W' hb => (HP.out _).trans (hb.mono (HP.out _).size)) (HPY.out _))))
                  refine wpQuiet_nil ?_
                  rintro _ ⟨u, rfl⟩
                  have HB7 := Lib.hid (HB.out.trans ((HP.out u).mono HB.out.size))
                  generalize pw u = w7 at *
                  clear HP HQ pp0 pp1 HB x2
                  go_wp2_with fail
                  go_roundw
                  case rel => exact ⟨j + 1, by rw [← HNX.out], by go_num, by omega, HB7⟩
                  case measure => simp [intOf]; omega
              · obtain rfl : j = k := by omega
                have dlt : decide ((j : Int) < (j : Int)) = false := by simp
                have nlt : ¬ (j : Int) < (j : Int) := by omega
                have sT : (str bt).size ≤ 2 := by rw [str_size, HBT.out]; omega
                have HFIN := Lib.hid (show str (bd ++ bs ++ tagsB vl j) ++ str bt ++ P = str BD by
                  rw [HPP.out, HBE2.out, str_append, str_append]
                  simp only [List.append_assoc])
                have q1 := add_ok10 hOs sT (by omega)
                have q2 := add_ok10 (app_le10 hOs sT) (Nat.le_of_eq HPS9.out) (by omega)
                have hP6 : P.size ≤ 1000000 := by have := HPS9.out; omega
                have q3 : (9223372036854775807 < (str (bd ++ bs ++ tagsB vl j)).size + (str bt).size + P.size) = False := by simp only [eq_iff_iff, iff_false]; omega
                have hBs : (str (bd ++ bs ++ tagsB vl j) ++ str bt ++ P).size = BD.length := by rw [HFIN.out, str_size]
                have hBs2 : (str (bd ++ bs ++ tagsB vl j)).size + (str bt).size + P.size = BD.length := by rw [← hBs, ByteArray.size_append, ByteArray.size_append]
                obtain ⟨O, hO⟩ : ∃ O, O = str (bd ++ bs ++ tagsB vl j) := ⟨_, rfl⟩
                obtain ⟨BT, hbT⟩ : ∃ O, O = str bt := ⟨_, rfl⟩
                rw [← hO] at HFIN q1 q2 q3 hBs hBs2 ⊢
                rw [← hbT] at HPT HFIN q1 q2 q3 hBs hBs2
                have HBS := Lib.hid hBs
                have HBS2 := Lib.hid hBs2
                clear hO hbT sT hOs HTV HT1 HT2 hBs hBs2
                go_wp2_with fail
                refine wp_region_pick (fun w' => Below wr.heap.size wr w') (by kernel_rfl) (by kernel_rfl) (Below.refl _ _) ⟨rfl, rfl, rfl, Nat.le_refl _, fun _ _ => rfl⟩ (fun pw hp hq => ?_)
                have pp0 : ∀ u, (pw u).cell? ⟨g, 3, none⟩ = some (.int .i64 (T : Int)) := fun u => HV3.out _ (HB.out.trans ((hp u).mono HB.out.size))
                have pp1 : ∀ u, (pw u).cell? ⟨g, 4, none⟩ = some (.string P) := fun u => HV4.out _ (HB.out.trans ((hp u).mono HB.out.size))
                have HP := Lib.hid hp
                have HQ := Lib.hid hq
                clear hp hq
                repeat (go_big_quiet_step ((first | with_reducible exact Calls.pick_of HQ.out (fun W' hb => (HP.out _).trans (hb.mono (HP.out _).size)) (HPT.out _))))
                refine wpQuiet_nil ?_
                rintro _ ⟨u, rfl⟩
                have HB7 := Lib.hid (HB.out.trans ((HP.out u).mono HB.out.size))
                generalize pw u = w7 at *
                clear HP HQ pp0 pp1 HB x2
                have HBW := Lib.hid (HW.out w7 HB7.out)
                by_cases hl : 4096 < BD.length
                · have hR1 := Lib.hid (show R = ([], 3) by rw [HG2.out, if_pos hl])
                  have dl : decide ((4096 : Int) < ((O ++ BT ++ P).size : Int)) = true := by rw [HBS.out]; simp; omega
                  have il : (4096 : Int) < ((O ++ BT ++ P).size : Int) := by rw [HBS.out]; omega
                  have il2 : (4096 : Int) < (O.size : Int) + (BT.size : Int) + (P.size : Int) := by have := HBS2.out; omega
                  clear hl
                  go_wp2_with fail
                  go_ret2
                  exact ⟨by rw [hR1.out]; rfl, HBW.out⟩
                · have hR1 := Lib.hid (show R = (BD, 0) by rw [HG2.out, if_neg hl])
                  have dl : decide ((4096 : Int) < ((O ++ BT ++ P).size : Int)) = false := by rw [HBS.out]; simp; omega
                  have il : ¬ (4096 : Int) < ((O ++ BT ++ P).size : Int) := by rw [HBS.out]; omega
                  have il2 : ¬ (4096 : Int) < (O.size : Int) + (BT.size : Int) + (P.size : Int) := by have := HBS2.out; omega
                  clear hl
                  go_wp2_with fail
                  go_ret2
                  exact ⟨by rw [hR1.out, HFIN.out]; rfl, HBW.out⟩
end Go.Proofs.YtpfhljidjnagkaaDoor

/- Plain mathematics of the lexer of layer 4: no Go in sight. Texts are lists of bytes. -/
namespace Go.Proofs.YtpfhljidjnagkaaDoor

/-- Letters, digits, the bytes of words and of names; the bytes that follow a backslash. -/
def letB (c : UInt8) : Bool := (97 ≤ c.toNat && c.toNat ≤ 122) || (65 ≤ c.toNat && c.toNat ≤ 90)
def digB (c : UInt8) : Bool := 48 ≤ c.toNat && c.toNat ≤ 57
def wordB (c : UInt8) : Bool := letB c || digB c || c.toNat == 95 || c.toNat == 46 || c.toNat == 58 || c.toNat == 47
def nameB (c : UInt8) : Bool := letB c || digB c || c.toNat == 95
def specB (c : UInt8) : Bool := c.toNat == 34 || c.toNat == 92 || c.toNat == 124
def plainB (c : UInt8) : Bool := 32 ≤ c.toNat && c.toNat ≤ 126 && !specB c
/-- The value of a hexadecimal digit. -/
def hexV (c : UInt8) : Option Nat :=
  if digB c then some (c.toNat - 48) else if 97 ≤ c.toNat && c.toNat ≤ 102 then some (c.toNat - 87) else if 65 ≤ c.toNat && c.toNat ≤ 70 then some (c.toNat - 55) else none
/-- A name. -/
def isName (L : List UInt8) : Bool := match L with
  | [] => false
  | c :: _ => L.length ≤ 32 && letB c && L.all nameB
/-- A number: its value. -/
def numV (L : List UInt8) : Nat := L.foldl (fun n c => n * 10 + (c.toNat - 48)) 0
def isNum (L : List UInt8) : Bool := match L with
  | [] => false
  | c :: r => L.length ≤ 13 && !(c.toNat == 48 && !r.isEmpty) && L.all digB && numV L < 1099511627776

/-- The marks, the longest first. -/
def marks : List (List UInt8) := [[45, 62], [60, 62], [60, 61], [40], [41], [91], [93], [123], [125], [44], [59], [33], [61], [60], [62], [38], [43]]
def markOf (L : List UInt8) : List UInt8 := (marks.find? fun m => m.isPrefixOf L).getD []

/-- How many bytes of white space and comments L begins with (true: inside a comment). -/
def skp : Bool → List UInt8 → Nat
  | _, [] => 0
  | true, c :: r => if c.toNat = 10 then 1 + skp false r else 1 + skp true r
  | false, c :: r => if c.toNat = 35 then 1 + skp true r else if c.toNat = 32 || c.toNat = 9 || c.toNat = 10 || c.toNat = 13 then 1 + skp false r else 0

/-- What a string's content may end in: a value and the offset behind it, or an error (the api's numbers: 14 syntax, 5 name, 3 long) and its offset. -/
inductive Res (α : Type) where
  | ok (v : α) (n : Nat)
  | err (e : Nat) (n : Nat)
/-- Where the reader of a string stands. -/
inductive Md where
  | plain
  | esc
  | g1
  | g2 (h : Nat)
  | g3
/-- A string behind its first quote: out: what has been read; off: the offset; st: where the string begins. -/
def lit (st : Nat) : Md → List UInt8 → Nat → List UInt8 → Res (List UInt8)
  | _, _, off, [] => .err 14 off
  | .plain, out, off, c :: r =>
    if c.toNat = 34 then (if 256 < out.length then .err 3 st else .ok out (off + 1))
    else if c.toNat = 92 then lit st .esc out (off + 1) r
    else if c.toNat = 124 then lit st .g1 out (off + 1) r
    else if c.toNat < 32 ∨ 126 < c.toNat then .err 14 off
    else lit st .plain (out ++ [c]) (off + 1) r
  | .esc, out, off, c :: r => if specB c then lit st .plain (out ++ [c]) (off + 1) r else .err 14 off
  | .g1, out, off, c :: r => match hexV c with
    | some h => lit st (.g2 h) out (off + 1) r
    | none => .err 14 off
  | .g2 h, out, off, c :: r => match hexV c with
    | some l => lit st .g3 (out ++ [UInt8.ofNat (16 * h + l)]) (off + 1) r
    | none => .err 14 off
  | .g3, out, off, c :: r => if c.toNat = 124 then lit st .plain out (off + 1) r else if c.toNat = 32 then lit st .g1 out (off + 1) r else .err 14 off

/-- A token: kind (the api's numbers: 0 end, 1 word, 2 string, 3 variable, 4 mark), text, offset. -/
structure Tok where
  kind : Nat
  text : List UInt8
  at_ : Nat
/-- The token that L begins with, L at offset off. -/
def tokAt (L : List UInt8) (off : Nat) : Res Tok := match L with
  | [] => .err 14 off
  | c :: r =>
    if wordB c then
      let n := (L.takeWhile wordB).length
      if 80 < n then .err 3 off else .ok ⟨1, L.takeWhile wordB, off⟩ (off + n)
    else if c.toNat = 36 then
      let m := r.takeWhile nameB
      if isName m then .ok ⟨3, m, off⟩ (off + 1 + m.length) else .err 5 off
    else if c.toNat = 34 then match lit off .plain [] (off + 1) r with
      | .ok t n => .ok ⟨2, t, off⟩ n
      | .err e n => .err e n
    else match markOf L with
      | [] => .err 14 off
      | m => .ok ⟨4, m, off⟩ (off + m.length)
/-- The tokens from an offset on, L the whole text (fuel: one more than the tokens). -/
def scanL (L : List UInt8) : Nat → Nat → List Tok → Res (List Tok)
  | 0, off, _ => .err 14 off
  | f + 1, off, out =>
    let p := off + skp false (L.drop off)
    if p < L.length then match tokAt (L.drop p) p with
      | .ok t n => scanL L f n (out ++ [t])
      | .err e n => .err e n
    else .ok (out ++ [⟨0, [], L.length⟩]) 0

/-- A quoted string, behind its first quote and ahead of its last (true: a group is open). -/
def hexD (n : Nat) : UInt8 := [48, 49, 50, 51, 52, 53, 54, 55, 56, 57, 97, 98, 99, 100, 101, 102].getD n 0
def quo : Bool → List UInt8 → List UInt8
  | true, [] => [124]
  | false, [] => []
  | b, c :: r => if plainB c then (if b then [124, c] else [c]) ++ quo false r else (if b then 32 else 124) :: hexD (c.toNat / 16) :: hexD (c.toNat % 16) :: quo true r
def quoteL (s : List UInt8) : List UInt8 := 34 :: quo false s ++ [34]

theorem hexV_hexD : ∀ n : Fin 16, hexV (hexD n.1) = some n.1 := by decide +kernel
theorem plain_facts : ∀ n : Fin 256, plainB (UInt8.ofNat n.1) = true → n.1 ≠ 34 ∧ n.1 ≠ 92 ∧ n.1 ≠ 124 ∧ 32 ≤ n.1 ∧ n.1 ≤ 126 := by decide +kernel
theorem plain_of {c : UInt8} (h : plainB c = true) : c.toNat ≠ 34 ∧ c.toNat ≠ 92 ∧ c.toNat ≠ 124 ∧ 32 ≤ c.toNat ∧ c.toNat ≤ 126 := by
  have := plain_facts ⟨c.toNat, c.toNat_lt⟩
  rw [show UInt8.ofNat (⟨c.toNat, c.toNat_lt⟩ : Fin 256).1 = c by simp] at this
  exact this h

/-- Reading what was quoted. -/
theorem lit_quo (st : Nat) (R : List UInt8) : ∀ (s : List UInt8) (out : List UInt8) (off : Nat),
    lit st .plain out off (quo false s ++ 34 :: R) = (if 256 < (out ++ s).length then .err 3 st else .ok (out ++ s) (off + (quo false s).length + 1)) ∧
    lit st .g3 out off (quo true s ++ 34 :: R) = (if 256 < (out ++ s).length then .err 3 st else .ok (out ++ s) (off + (quo true s).length + 1))
  | [], out, off => by
    constructor
    · simp [quo, lit]
    · simp [quo, lit]
  | c :: r, out, off => by
    have h16 : c.toNat / 16 < 16 := by have := c.toNat_lt; omega
    have l16 : c.toNat % 16 < 16 := by omega
    have e1 := hexV_hexD ⟨_, h16⟩
    have e2 := hexV_hexD ⟨_, l16⟩
    simp only at e1 e2
    have ec : UInt8.ofNat (16 * (c.toNat / 16) + c.toNat % 16) = c := by rw [Nat.div_add_mod]; simp
    have hout : out ++ [c] ++ r = out ++ c :: r := by simp
    by_cases hp : plainB c = true
    · obtain ⟨p1, p2, p3, p4, p5⟩ := plain_of hp
      have ih := (lit_quo st R r (out ++ [c]) (off + 1)).1
      have ih2 := (lit_quo st R r (out ++ [c]) (off + 1 + 1)).1
      rw [hout] at ih ih2
      constructor
      · simp only [quo, hp, if_true, Bool.false_eq_true, if_false, List.cons_append, List.nil_append, lit]
        rw [if_neg p1, if_neg p2, if_neg p3, if_neg (by omega), ih]
        simp only [List.length_cons, List.length_append]
        split <;> simp; omega
      · simp only [quo, hp, if_true, List.cons_append, List.nil_append, lit]
        rw [if_pos (by decide), if_neg p1, if_neg p2, if_neg p3, if_neg (by omega), ih2]
        simp only [List.length_cons, List.length_append]
        split <;> simp; omega
    · have ih := (lit_quo st R r (out ++ [c]) (off + 1 + 1 + 1)).2
      rw [hout] at ih
      constructor
      · simp only [quo, if_neg hp, Bool.false_eq_true, if_false, List.cons_append, lit]
        rw [if_neg (by decide), if_neg (by decide), if_pos (by decide)]
        simp only [e1, e2, ec]
        rw [ih]
        simp only [List.length_cons, List.length_append]
        split <;> simp; omega
      · simp only [quo, if_neg hp, if_true, List.cons_append, lit]
        rw [if_neg (by decide), if_pos (by decide)]
        simp only [e1, e2, ec]
        rw [ih]
        simp only [List.length_cons, List.length_append]
        split <;> simp; omega

/-- What follows a printed token: nothing, or a space. -/
def Sp (R : List UInt8) : Prop := R = [] ∨ ∃ R', R = 32 :: R'
theorem quote_reads (s R : List UInt8) (off : Nat) (h : s.length ≤ 256) : lit off .plain [] (off + 1) (quo false s ++ 34 :: R) = .ok s (off + (quoteL s).length) := by
  rw [(lit_quo off R s [] (off + 1)).1, List.nil_append, if_neg (by omega)]
  simp only [quoteL, List.length_cons, List.length_append, List.length_nil]
  congr 1
  omega
theorem quote_long (s R : List UInt8) (off : Nat) (h : 256 < s.length) : lit off .plain [] (off + 1) (quo false s ++ 34 :: R) = .err 3 off := by
  rw [(lit_quo off R s [] (off + 1)).1, List.nil_append, if_pos h]

/-- A token's own text; can it occur? -/
def tokText (k : Nat) (t : List UInt8) : List UInt8 := if k = 2 then quoteL t else if k = 3 then 36 :: t else t
def validT (k : Nat) (t : List UInt8) : Bool :=
  if k = 2 then decide (t.length ≤ 256) else if k = 3 then isName t else if k = 4 then !t.isEmpty && markOf t == t else k == 1 && !t.isEmpty && decide (t.length ≤ 80) && t.all wordB

theorem take_all {p : UInt8 → Bool} {t R : List UInt8} (h : t.all p = true) (hR : ∀ c R', R = c :: R' → p c = false) : (t ++ R).takeWhile p = t := by
  induction t with
  | nil =>
    cases R with
    | nil => rfl
    | cons c R' => simp [hR c R' rfl]
  | cons c t ih =>
    simp only [List.all_cons, Bool.and_eq_true] at h
    simp [h.1, ih h.2]
theorem sp_no {p : UInt8 → Bool} (hp : p 32 = false) {R : List UInt8} (h : Sp R) : ∀ c R', R = c :: R' → p c = false := by
  rintro c R' rfl
  rcases h with h | ⟨R2, h⟩
  · cases h
  · injection h with h1 _
    rw [h1]; exact hp
theorem mark_mem {t : List UInt8} (h : markOf t = t) (hne : t ≠ []) : t ∈ marks := by
  unfold markOf at h
  cases hf : marks.find? (fun m => m.isPrefixOf t) with
  | none => rw [hf] at h; exact absurd h.symm hne
  | some m =>
    rw [hf] at h
    have := List.mem_of_find?_eq_some hf
    simp only [Option.getD_some] at h
    rw [← h]; exact this
theorem mark_sp {t R : List UInt8} (h : t ∈ marks) (hR : Sp R) : markOf (t ++ R) = t ∧ ∃ c r, t = c :: r ∧ wordB c = false ∧ c.toNat ≠ 36 ∧ c.toNat ≠ 34 ∧ c.toNat ≠ 35 ∧ c.toNat ≠ 32 ∧ c.toNat ≠ 9 ∧ c.toNat ≠ 10 ∧ c.toNat ≠ 13 := by
  rcases hR with rfl | ⟨R', rfl⟩ <;> simp only [marks, List.mem_cons, List.not_mem_nil, or_false] at h <;>
    rcases h with rfl | rfl | rfl | rfl | rfl | rfl | rfl | rfl | rfl | rfl | rfl | rfl | rfl | rfl | rfl | rfl | rfl <;>
    exact ⟨by simp [markOf, marks, List.find?, List.isPrefixOf], _, _, rfl, by decide, by decide, by decide, by decide, by decide, by decide, by decide, by decide⟩

theorem word_first : ∀ n : Fin 256, wordB (UInt8.ofNat n.1) = true → n.1 ≠ 35 ∧ n.1 ≠ 32 ∧ n.1 ≠ 9 ∧ n.1 ≠ 10 ∧ n.1 ≠ 13 := by decide +kernel
theorem word_first_of {c : UInt8} (h : wordB c = true) : c.toNat ≠ 35 ∧ c.toNat ≠ 32 ∧ c.toNat ≠ 9 ∧ c.toNat ≠ 10 ∧ c.toNat ≠ 13 := by
  have := word_first ⟨c.toNat, c.toNat_lt⟩
  rw [show UInt8.ofNat (⟨c.toNat, c.toNat_lt⟩ : Fin 256).1 = c by simp] at this
  exact this h
theorem name_all {t : List UInt8} (h : isName t = true) : t.all nameB = true := by
  unfold isName at h
  split at h
  · cases h
  · simp only [Bool.and_eq_true] at h
    exact h.2

/-- A printed token is read as itself. -/
theorem tok_print {k : Nat} {t R : List UInt8} (h : validT k t = true) (hR : Sp R) (off : Nat) :
    tokAt (tokText k t ++ R) off = .ok ⟨k, t, off⟩ (off + (tokText k t).length) ∧ skp false (tokText k t ++ R) = 0 ∧ 0 < (tokText k t).length := by
  unfold validT at h
  unfold tokText
  by_cases h3 : k = 2
  · subst h3
    rw [if_pos rfl] at h ⊢
    have hlen := of_decide_eq_true h
    have e : quoteL t ++ R = 34 :: (quo false t ++ 34 :: R) := by simp [quoteL]
    rw [e]
    refine ⟨?_, ?_, by simp [quoteL]⟩
    · unfold tokAt
      simp only
      rw [if_neg (by decide), if_neg (by decide), if_pos (by decide), quote_reads t R off hlen]
    · simp [skp]
  · rw [if_neg h3] at h ⊢
    by_cases h2 : k = 3
    · subst h2
      rw [if_pos rfl] at h ⊢
      have ht := take_all (name_all h) (sp_no (p := nameB) (by decide) hR)
      refine ⟨?_, ?_, by simp⟩
      · rw [List.cons_append]
        unfold tokAt
        simp only
        rw [if_neg (by decide), if_pos (by decide), ht, if_pos h]
        simp only [List.length_cons]
        congr 1
        omega
      · simp [skp]
    · rw [if_neg h2] at h ⊢
      by_cases h4 : k = 4
      · subst h4
        rw [if_pos rfl] at h
        simp only [Bool.and_eq_true, Bool.not_eq_true', List.isEmpty_eq_false_iff, beq_iff_eq] at h
        obtain ⟨hm, c, r, rfl, f1, f2, f3, f4, f5, f6, f7, f8⟩ := mark_sp (mark_mem h.2 h.1) hR
        refine ⟨?_, ?_, by simp⟩
        · rw [List.cons_append] at hm ⊢
          unfold tokAt
          simp only
          rw [if_neg (by rw [f1]; decide), if_neg f2, if_neg f3, hm]
        · rw [List.cons_append]
          simp [skp, f4, f5, f6, f7, f8]
      · rw [if_neg h4] at h
        simp only [Bool.and_eq_true, Bool.not_eq_true', beq_iff_eq, decide_eq_true_eq, List.isEmpty_eq_false_iff] at h
        obtain ⟨⟨⟨rfl, hne⟩, h80⟩, hall⟩ := h
        have ht := take_all hall (sp_no (p := wordB) (by decide) hR)
        cases t with
        | nil => exact absurd rfl hne
        | cons c r =>
          have hc : wordB c = true := by simp only [List.all_cons, Bool.and_eq_true] at hall; exact hall.1
          obtain ⟨f4, f5, f6, f7, f8⟩ := word_first_of hc
          refine ⟨?_, ?_, by simp⟩
          · rw [List.cons_append] at ht ⊢
            unfold tokAt
            simp only
            rw [if_pos hc, ht, if_neg (by omega)]
          · rw [List.cons_append]
            simp [skp, f4, f5, f6, f7, f8]

/-- Tokens in a row, each behind a space; where they come to stand. -/
def tailT : List (Nat × List UInt8) → List UInt8
  | [] => []
  | x :: xs => 32 :: tokText x.1 x.2 ++ tailT xs
def joinT : List (Nat × List UInt8) → List UInt8
  | [] => []
  | x :: xs => tokText x.1 x.2 ++ tailT xs
def place : Nat → List (Nat × List UInt8) → List Tok
  | _, [] => []
  | off, x :: xs => ⟨x.1, x.2, off + 1⟩ :: place (off + 1 + (tokText x.1 x.2).length) xs
def placeJ : List (Nat × List UInt8) → List Tok
  | [] => []
  | x :: xs => ⟨x.1, x.2, 0⟩ :: place (tokText x.1 x.2).length xs
theorem tailT_sp : ∀ xs, Sp (tailT xs)
  | [] => .inl rfl
  | _ :: _ => .inr ⟨_, rfl⟩

theorem scan_tail : ∀ (xs : List (Nat × List UInt8)), (∀ x ∈ xs, validT x.1 x.2 = true) → ∀ (P : List UInt8) (out : List Tok) (f : Nat), xs.length + 1 ≤ f →
    scanL (P ++ tailT xs) f P.length out = .ok (out ++ place P.length xs ++ [⟨0, [], (P ++ tailT xs).length⟩]) 0
  | [], _, P, out, f, hf => by
    obtain ⟨g, rfl⟩ : ∃ g, f = g + 1 := ⟨f - 1, by simp at hf; omega⟩
    simp [scanL, tailT, skp, place]
  | x :: xs, hv, P, out, f, hf => by
    obtain ⟨g, rfl⟩ : ∃ g, f = g + 1 := ⟨f - 1, by simp at hf; omega⟩
    have hx := hv x (by simp)
    obtain ⟨h1, h2, h3⟩ := tok_print hx (tailT_sp xs) (P.length + 1)
    have e1 : (P ++ tailT (x :: xs)).drop P.length = 32 :: (tokText x.1 x.2 ++ tailT xs) := by simp [tailT]
    have e2 : (P ++ tailT (x :: xs)).drop (P.length + 1) = tokText x.1 x.2 ++ tailT xs := by
      rw [← List.drop_drop, e1]; rfl
    have e3 : P ++ tailT (x :: xs) = (P ++ 32 :: tokText x.1 x.2) ++ tailT xs := by simp [tailT]
    have e4 : (P ++ 32 :: tokText x.1 x.2).length = P.length + 1 + (tokText x.1 x.2).length := by simp; omega
    have hs : skp false (32 :: (tokText x.1 x.2 ++ tailT xs)) = 1 := by
      rw [skp, if_neg (by decide), if_pos (by decide), h2]
    have hlt : P.length + 1 < (P ++ tailT (x :: xs)).length := by rw [e3]; simp; omega
    rw [scanL]
    simp only [e1, hs]
    rw [if_pos hlt, e2, h1]
    simp only
    rw [e3, ← e4, scan_tail xs (fun y hy => hv y (by simp [hy])) (P ++ 32 :: tokText x.1 x.2) (out ++ [(⟨x.1, x.2, P.length + 1⟩ : Tok)]) g (by simp at hf; omega)]
    simp [place, e4]

/-- THE ROUND TRIP. -/
theorem scan_join (xs : List (Nat × List UInt8)) (hv : ∀ x ∈ xs, validT x.1 x.2 = true) (f : Nat) (hf : xs.length + 1 ≤ f) :
    scanL (joinT xs) f 0 [] = .ok (placeJ xs ++ [⟨0, [], (joinT xs).length⟩]) 0 := by
  cases xs with
  | nil =>
    obtain ⟨g, rfl⟩ : ∃ g, f = g + 1 := ⟨f - 1, by simp at hf; omega⟩
    simp [scanL, joinT, skp, placeJ]
  | cons x xs =>
    obtain ⟨g, rfl⟩ : ∃ g, f = g + 1 := ⟨f - 1, by simp at hf; omega⟩
    have hx := hv x (by simp)
    obtain ⟨h1, h2, h3⟩ := tok_print hx (tailT_sp xs) 0
    have e1 : joinT (x :: xs) = tokText x.1 x.2 ++ tailT xs := rfl
    have hlt : 0 < (joinT (x :: xs)).length := by rw [e1]; simp; omega
    rw [scanL]
    simp only [List.drop_zero]
    rw [e1, h2]
    simp only [Nat.zero_add, List.drop_zero]
    rw [if_pos (by rw [← e1]; exact hlt), h1]
    simp only [Nat.zero_add, List.nil_append]
    rw [scan_tail xs (fun y hy => hv y (by simp [hy])) (tokText x.1 x.2) [(⟨x.1, x.2, 0⟩ : Tok)] g (by simp at hf; omega)]
    simp [placeJ]

/-- The offsets ascend; kinds and texts are those that were printed. -/
theorem place_above : ∀ (xs : List (Nat × List UInt8)) (off : Nat), ∀ t ∈ place off xs, off < t.at_
  | [], _, t, h => by simp [place] at h
  | x :: xs, off, t, h => by
    simp only [place, List.mem_cons] at h
    rcases h with rfl | h
    · exact Nat.lt_succ_self _
    · have := place_above xs _ t h
      omega
theorem place_asc : ∀ (xs : List (Nat × List UInt8)) (off : Nat), (place off xs).Pairwise (fun a b => a.at_ < b.at_)
  | [], _ => by simp [place]
  | x :: xs, off => by
    simp only [place, List.pairwise_cons]
    exact ⟨fun t h => by have := place_above xs _ t h; omega, place_asc xs _⟩
theorem placeJ_asc (xs : List (Nat × List UInt8)) (hv : ∀ x ∈ xs, 0 < (tokText x.1 x.2).length) : (placeJ xs).Pairwise (fun a b => a.at_ < b.at_) := by
  cases xs with
  | nil => simp [placeJ]
  | cons x xs =>
    simp only [placeJ, List.pairwise_cons]
    exact ⟨fun t h => by have := place_above xs _ t h; have := hv x (by simp); omega, place_asc xs _⟩
theorem place_map : ∀ (xs : List (Nat × List UInt8)) (off : Nat), (place off xs).map (fun t => (t.kind, t.text)) = xs
  | [], _ => rfl
  | x :: xs, off => by simp [place, place_map xs]
theorem placeJ_map (xs : List (Nat × List UInt8)) : (placeJ xs).map (fun t => (t.kind, t.text)) = xs := by
  cases xs with
  | nil => rfl
  | cons x xs => simp [placeJ, place_map]
theorem placeJ_length (xs : List (Nat × List UInt8)) : (placeJ xs).length = xs.length := by
  have := congrArg List.length (placeJ_map xs)
  simpa using this
/-- A quoted string is one token, or too long. -/
theorem scan_quote (s : List UInt8) (h : s.length ≤ 256) : scanL (quoteL s) 2 0 [] = .ok [⟨2, s, 0⟩, ⟨0, [], (quoteL s).length⟩] 0 := by
  have := scan_join [(2, s)] (by simp [validT, h]) 2 (by simp)
  simpa [joinT, tailT, tokText, placeJ, place] using this
theorem scan_quote_long (s : List UInt8) (h : 256 < s.length) (f : Nat) : scanL (quoteL s) (f + 1) 0 [] = .err 3 0 := by
  have e : quoteL s = 34 :: (quo false s ++ 34 :: []) := by simp [quoteL]
  have hs : skp false (quoteL s) = 0 := by rw [e, skp, if_neg (by decide), if_neg (by decide)]
  rw [scanL]
  simp only [List.drop_zero, hs, Nat.zero_add]
  rw [if_pos (by rw [e]; simp)]
  have ht : tokAt (quoteL s) 0 = .err 3 0 := by
    rw [e]
    unfold tokAt
    simp only
    rw [if_neg (by decide), if_neg (by decide), if_pos (by decide), quote_long s [] 0 h]
  rw [ht]
end Go.Proofs.YtpfhljidjnagkaaDoor

/- Contracts of the lexer's tests of bytes, of the program (over runes) and of the reference (over bytes). -/
namespace Go.Proofs.YtpfhljidjnagkaaDoor
open Go.ChangeShapes Go.WideShapes Go.ChangeAt Go.RowKit

/-- A quiet contract that says 'w = w'', met inside a region that draws. -/
theorem quiet_eq4 {P : Program} {f : FuncId} {args : Array Value} {w : World} {n : Nat} {v : Value}
    (h : Calls P f args (w.drewN n) fun e w' => e = .returned v ∧ w.drewN n = w') : Calls P f args (w.drewN n) fun e w'' => e = .returned v ∧ ∃ m, w'' = w.drewN m :=
  h.mono fun _ _ ⟨he, hm⟩ => ⟨he, n, hm.symm⟩

theorem letB_eq (c : UInt8) : letB c = (decide ((97 : Int) ≤ (c.toNat : Int)) && decide ((c.toNat : Int) ≤ 122) || decide ((65 : Int) ≤ (c.toNat : Int)) && decide ((c.toNat : Int) ≤ 90)) := by
  unfold letB
  congr 2 <;> simp <;> omega
theorem digB_eq (c : UInt8) : digB c = (decide ((48 : Int) ≤ (c.toNat : Int)) && decide ((c.toNat : Int) ≤ 57)) := by
  unfold digB
  congr 2 <;> simp <;> omega
theorem nat_beq (n k : Nat) : (n == k) = ((n : Int) == (k : Int)) := by
  rw [Bool.eq_iff_iff]; simp; omega
theorem specB_eq (c : UInt8) : specB c = ((c.toNat : Int) == 34 || (c.toNat : Int) == 92 || (c.toNat : Int) == 124) := by
  unfold specB
  rw [nat_beq, nat_beq, nat_beq]; rfl
theorem nameB_eq (c : UInt8) : nameB c = (letB c || digB c || (c.toNat : Int) == 95) := by
  unfold nameB
  rw [nat_beq]; rfl
theorem wordB_eq (c : UInt8) : wordB c = (letB c || digB c || (c.toNat : Int) == 95 || (c.toNat : Int) == 46 || (c.toNat : Int) == 58 || (c.toNat : Int) == 47) := by
  unfold wordB
  rw [nat_beq, nat_beq, nat_beq, nat_beq]; rfl
theorem wordB_name (c : UInt8) : wordB c = (nameB c || (c.toNat : Int) == 46 || (c.toNat : Int) == 58 || (c.toNat : Int) == 47) := by
  rw [wordB_eq, nameB_eq]
theorem plainB_eq (c : UInt8) : plainB c = (decide ((32 : Int) ≤ (c.toNat : Int)) && decide ((c.toNat : Int) ≤ 126) && !specB c) := by
  unfold plainB
  congr 3 <;> simp <;> omega
def spaceB (c : UInt8) : Bool := c.toNat == 32 || c.toNat == 9 || c.toNat == 10 || c.toNat == 13
theorem spaceB_eq (c : UInt8) : spaceB c = ((c.toNat : Int) == 32 || (c.toNat : Int) == 9 || (c.toNat : Int) == 10 || (c.toNat : Int) == 13) := by
  unfold spaceB
  rw [nat_beq, nat_beq, nat_beq, nat_beq]; rfl

theorem rdigit_any (c : UInt8) (w : World) :
    Calls Tryd.prog 42 #[.int .u8 (c.toNat : Int)] w fun e w' => e = .returned (.bool (digB c)) ∧ w = w' := by
  have hb := u8_lt c
  rw [digB_eq]
  generalize c.toNat = n at *
  go_enter Tryd.func42, Tryd.ntmps42
  go_wp2_with fail
  all_goals
    go_ret
    refine ⟨?_, rfl⟩
    first
      | rfl
      | (show Ending.returned (Value.bool _) = Ending.returned (Value.bool _); congr 2; rw [Bool.eq_iff_iff]; simp; try omega)

end Go.Proofs.YtpfhljidjnagkaaDoor

/- Contract: follow, for whatever step. -/
namespace Go.Proofs.YtpfhljidjnagkaaDoor
open Go.ChangeShapes Go.WideShapes Go.ChangeAt Go.RowKit

end Go.Proofs.YtpfhljidjnagkaaDoor

/- Contracts: skip of the program (a closure) and of the reference (two loops); follow with a step that only tests. -/
namespace Go.Proofs.YtpfhljidjnagkaaDoor
open Go.ChangeShapes Go.WideShapes Go.ChangeAt Go.RowKit

theorem drop_at (s : ByteArray) (k : Nat) (h : k < s.size) : s.data.toList.drop k = s[k] :: s.data.toList.drop (k + 1) := by
  rw [List.drop_eq_getElem_cons (by simpa using h)]; rfl
theorem drop_end (s : ByteArray) : s.data.toList.drop s.size = [] := List.drop_of_length_le (by simp)

/-- Within a comment behind this byte? -/
def cmtB (m : Bool) (c : UInt8) : Bool := c.toNat == 35 || m && !(c.toNat == 10)
theorem skp_cons (m : Bool) (c : UInt8) (r : List UInt8) : skp m (c :: r) = if (cmtB m c || spaceB c) = true then 1 + skp (cmtB m c) r else 0 := by
  cases m
  · by_cases h : c.toNat = 35
    · simp [skp, cmtB, h]
    · have e : (c.toNat == 35) = false := by simpa using h
      by_cases h2 : spaceB c = true
      · have h3 := h2
        simp only [spaceB, Bool.or_eq_true, beq_iff_eq] at h3
        simp [skp, cmtB, h, h2, h3, e]
      · have h3 := h2
        simp only [spaceB, Bool.or_eq_true, beq_iff_eq] at h3
        simp [skp, cmtB, h, h2, h3, e]
  · by_cases h : c.toNat = 10
    · simp [skp, cmtB, spaceB, h]
    · have e : (c.toNat == 10) = false := by simpa using h
      simp [skp, cmtB, h, e]

theorem cmtB_eq (m : Bool) (c : UInt8) : cmtB m c = ((c.toNat : Int) == 35 || m && (c.toNat : Int) != 10) := by
  unfold cmtB
  rw [nat_beq, nat_beq]; rfl

theorem skp_true_out (k : Nat) (s : ByteArray) (h : k = s.size ∨ ∃ h : k < s.size, s[k].toNat = 10) : skp true (s.data.toList.drop k) = skp false (s.data.toList.drop k) := by
  rcases h with rfl | ⟨h, h10⟩
  · rw [drop_end]; rfl
  · rw [drop_at s k h]
    simp [skp, h10]

end Go.Proofs.YtpfhljidjnagkaaDoor

/- Contracts: names and numbers, of the program and of the reference. -/
namespace Go.Proofs.YtpfhljidjnagkaaDoor
open Go.ChangeShapes Go.WideShapes Go.ChangeAt Go.RowKit

theorem take_len (L : List UInt8) (p : UInt8 → Bool) : ((L.takeWhile p).length == L.length) = L.all p := by
  induction L with
  | nil => rfl
  | cons c r ih =>
    rw [List.takeWhile_cons, List.all_cons]
    cases h : p c
    · simp
    · simp [ih]

theorem first_of (s : ByteArray) (h : 0 < s.size) : s.data.toList = s[0] :: s.data.toList.drop 1 := by
  have := drop_at s 0 h
  rwa [List.drop_zero] at this

theorem str_isEmpty4 (l : List UInt8) : (str l).toList.isEmpty = l.isEmpty := by
  rw [(ByteArray.toList_eq _).trans (str_toList l)]
theorem empty_of {s : ByteArray} (h : 0 < s.size) : s.toList.isEmpty = false := by
  obtain ⟨⟨l⟩⟩ := s
  cases l with
  | nil => exact absurd h (by decide)
  | cons c r =>
    have e : (str (c :: r)).toList.isEmpty = false := by rw [str_isEmpty4]; rfl
    exact e
theorem isName_of (s : ByteArray) (h : 0 < s.size) : isName s.data.toList = (decide (s.size ≤ 32) && letB s[0] && s.data.toList.all nameB) := by
  have e := first_of s h
  have hl : s.data.toList.length = s.size := by simp
  rw [← hl]
  generalize s[0] = c at *
  generalize s.data.toList.drop 1 = r at *
  rw [e]
  rfl
theorem all_cut (L : List UInt8) (p : UInt8 → Bool) (k : Nat) : L.all p = ((L.take k).all p && (L.drop k).all p) := by
  rw [← List.all_append, List.take_append_drop]
theorem all_next (s : ByteArray) (p : UInt8 → Bool) (k : Nat) (h : k < s.size) : (s.data.toList.take (k + 1)).all p = ((s.data.toList.take k).all p && p s[k]) := by
  have e : s.data.toList.take (k + 1) = s.data.toList.take k ++ [s[k]] := by rw [List.take_succ_eq_append_getElem (by simpa using h)]; rfl
  rw [e, List.all_append]
  simp
theorem all_not (s : ByteArray) (p : UInt8 → Bool) (k : Nat) (h : k < s.size) (hp : p s[k] = false) : s.data.toList.all p = false := by
  rw [all_cut _ p k, drop_at s k h, List.all_cons, hp]
  simp
theorem all_end (s : ByteArray) (p : UInt8 → Bool) : (s.data.toList.take s.size).all p = s.data.toList.all p := by
  rw [List.take_of_length_le (by simp)]

theorem numV_snoc (L : List UInt8) (c : UInt8) : numV (L ++ [c]) = numV L * 10 + (c.toNat - 48) := by simp [numV]
theorem dig_le {c : UInt8} (h : digB c = true) : 48 ≤ c.toNat ∧ c.toNat ≤ 57 := by
  unfold digB at h
  simpa using h
theorem numV_lt : ∀ (k : Nat) (s : ByteArray), k ≤ s.size → (s.data.toList.take k).all digB = true → numV (s.data.toList.take k) < 10 ^ k
  | 0, _, _, _ => by simp [numV]
  | k + 1, s, hk, h => by
    rw [all_next s digB k (by omega), Bool.and_eq_true] at h
    have ih := numV_lt k s (by omega) h.1
    have e : s.data.toList.take (k + 1) = s.data.toList.take k ++ [s[k]] := by rw [List.take_succ_eq_append_getElem (by simp; omega)]; rfl
    rw [e, numV_snoc, Nat.pow_succ]
    have := dig_le h.2
    omega
theorem isNum_of (s : ByteArray) (h : 0 < s.size) : isNum s.data.toList = (decide (s.size ≤ 13) && !(s[0].toNat == 48 && decide (1 < s.size)) && s.data.toList.all digB && decide (numV s.data.toList < 1099511627776)) := by
  have e := first_of s h
  have hl : s.data.toList.length = s.size := by simp
  rw [← hl]
  generalize s[0] = c at *
  generalize s.data.toList.drop 1 = r at *
  rw [e]
  unfold isNum
  have hr : (!r.isEmpty) = decide (1 < (c :: r).length) := by
    cases r <;> simp
  simp only [hr]
/-- What Number answers. -/
def numR (s : ByteArray) : Value := .tuple #[.int .i64 (if isNum s.data.toList then numV s.data.toList else 0 : Nat), .bool (isNum s.data.toList)]
theorem numR_no {s : ByteArray} (h : isNum s.data.toList = false) : numR s = .tuple #[.int .i64 0, .bool false] := by
  unfold numR
  rw [h]; rfl
theorem numR_yes {s : ByteArray} (h : isNum s.data.toList = true) : numR s = .tuple #[.int .i64 (numV s.data.toList), .bool true] := by
  unfold numR
  rw [h]; rfl

end Go.Proofs.YtpfhljidjnagkaaDoor

/- Contracts: marks, hexadecimal digits. -/
namespace Go.Proofs.YtpfhljidjnagkaaDoor
open Go.ChangeShapes Go.WideShapes Go.ChangeAt Go.RowKit

def isMk (L : List UInt8) : Bool := marks.any fun m => m == L
def hexI (c : UInt8) : Int := match hexV c with
  | some v => v
  | none => -1
theorem rhex4_any (c : UInt8) (w : World) :
    Calls Tryd.prog 30 #[.int .u8 (c.toNat : Int)] w fun e w' => e = .returned (.int .i64 (hexI c)) ∧ w = w' := by
  have hb := u8_lt c
  have h0 := fun W => rdigit_any c W
  unfold hexI hexV
  split
  · rename_i v h
    split at h
    · rename_i hd
      rw [hd] at h0
      have H0 := Lib.hid h0
      injection h with h
      obtain ⟨d1, d2⟩ := dig_le hd
      generalize c.toNat = n at *
      clear h0 hd
      go_enter Tryd.func30, Tryd.ntmps30
      go_wp2_with fail
      refine (H0.out _).mono ?_
      rintro e w1 ⟨rfl, rfl⟩
      go_wp2_with fail
      all_goals first | omega | (go_ret; exact ⟨by subst h; go_num, rfl⟩)
    rename_i hd
    rw [Bool.not_eq_true] at hd
    rw [hd] at h0
    have H0 := Lib.hid h0
    split at h
    · rename_i h1
      injection h with h
      simp at h1
      generalize c.toNat = n at *
      clear h0 hd
      go_enter Tryd.func30, Tryd.ntmps30
      go_wp2_with fail
      refine (H0.out _).mono ?_
      rintro e w1 ⟨rfl, rfl⟩
      go_wp2_with fail
      all_goals first | omega | (go_ret; exact ⟨by subst h; go_num, rfl⟩)
    rename_i h1
    split at h
    · rename_i h2
      injection h with h
      simp at h1 h2
      generalize c.toNat = n at *
      clear h0 hd
      go_enter Tryd.func30, Tryd.ntmps30
      go_wp2_with fail
      refine (H0.out _).mono ?_
      rintro e w1 ⟨rfl, rfl⟩
      go_wp2_with fail
      all_goals first | omega | (go_ret; exact ⟨by subst h; go_num, rfl⟩)
    · cases h
  · rename_i h
    split at h
    · cases h
    rename_i hd
    split at h
    · cases h
    rename_i h1
    split at h
    · cases h
    rename_i h2
    rw [Bool.not_eq_true] at hd
    rw [hd] at h0
    have H0 := Lib.hid h0
    simp at h1 h2
    generalize c.toNat = n at *
    clear h h0 hd
    go_enter Tryd.func30, Tryd.ntmps30
    go_wp2_with fail
    refine (H0.out _).mono ?_
    rintro e w1 ⟨rfl, rfl⟩
    go_wp2_with fail
    all_goals first | omega | (go_ret; exact ⟨rfl, rfl⟩)
end Go.Proofs.YtpfhljidjnagkaaDoor

/- Texts of hardware addresses: plain mathematics. -/
namespace Go.Proofs.YtpfhljidjnagkaaDoor
open Go.ChangeShapes Go.WideShapes Go.ChangeAt Go.RowKit
set_option linter.unusedVariables false

/-- A small hexadecimal digit. -/
def hexM (x : Nat) : UInt8 := UInt8.ofNat (if x < 10 then 48 + x else 87 + x)
theorem hexI_hexM {x : Nat} (h : x < 16) : hexI (hexM x) = (x : Int) := by
  have : ∀ y : Fin 16, hexI (hexM y.val) = (y.val : Int) := by decide
  exact this ⟨x, h⟩
/-- The text of the first k bytes. -/
def macP (b : List UInt8) : Nat → List UInt8
  | 0 => []
  | k + 1 => macP b k ++ ((if 0 < k then [58] else []) ++ ([hexM ((b.getD k 0).toNat / 16)] ++ [hexM ((b.getD k 0).toNat % 16)]))
def fmtMac (n : Nat) : List UInt8 := if 281474976710656 ≤ n then [] else macP (beL 6 n) 6
/-- The number of the first k characters, if they are in order. -/
def pmP (s : List UInt8) : Nat → Option Nat
  | 0 => some 0
  | k + 1 => match pmP s k with
    | none => none
    | some n => if k % 3 = 2 then (if s[k]? = some 58 then some n else none) else match s[k]? with
      | none => none
      | some c => if hexI c < 0 then none else some (n * 16 + (hexI c).toNat)
def pMac (s : List UInt8) : Nat × Nat := if s.length ≠ 17 then (0, 2) else match pmP s 17 with
  | none => (0, 2)
  | some n => (n, 0)
theorem pm_sep {s : List UInt8} {k n : Nat} (h : pmP s k = some n) (hk : k % 3 = 2) (hs : s[k]? = some 58) : pmP s (k + 1) = some n := by
  rw [pmP, h]
  simp only
  rw [if_pos hk, if_pos hs]
theorem pm_dig {s : List UInt8} {k n x : Nat} (h : pmP s k = some n) (hk : k % 3 ≠ 2) (hx : x < 16) (hs : s[k]? = some (hexM x)) : pmP s (k + 1) = some (n * 16 + x) := by
  rw [pmP, h]
  simp only
  rw [if_neg hk, hs]
  simp only
  rw [hexI_hexM hx, if_neg (by omega), Int.toNat_natCast]
theorem pm_none {s : List UInt8} {k : Nat} (h : pmP s k = none) : ∀ j, pmP s (k + j) = none
  | 0 => h
  | j + 1 => by
    show pmP s ((k + j) + 1) = none
    rw [pmP, pm_none h j]
theorem hexI_lt (c : UInt8) : hexI c < 16 := by
  have h : ∀ y : Fin 256, hexI (UInt8.ofNat y.val) < 16 := by decide +kernel
  have h2 := h ⟨c.toNat, u8_lt c⟩
  simpa using h2
theorem pm_lt {s : List UInt8} : ∀ (k n : Nat), pmP s k = some n → n < 16 ^ (k - k / 3)
  | 0, n, h => by
    rw [pmP] at h
    obtain rfl := Option.some.inj h
    decide
  | k + 1, n, h => by
    rw [pmP] at h
    cases hk : pmP s k with
    | none => rw [hk] at h; cases h
    | some m =>
      rw [hk] at h
      simp only at h
      have ih := pm_lt k m hk
      by_cases h3 : k % 3 = 2
      · rw [if_pos h3] at h
        split at h
        · obtain rfl := Option.some.inj h
          rw [show (k + 1) - (k + 1) / 3 = k - k / 3 by omega]
          exact ih
        · cases h
      · rw [if_neg h3] at h
        split at h
        · cases h
        · rename_i c hc
          split at h
          · cases h
          · obtain rfl := Option.some.inj h
            have hl := hexI_lt c
            rw [show (k + 1) - (k + 1) / 3 = (k - k / 3) + 1 by omega, Nat.pow_succ]
            omega
/-- READING WHAT WAS PRINTED. -/
theorem mac_round {n : Nat} (h : n < 281474976710656) : pMac (fmtMac n) = (n, 0) := by
  have hl := beL_len 6 n
  have hn := num_beL 6 n (by omega)
  unfold fmtMac
  rw [if_neg (by omega)]
  generalize beL 6 n = b at *
  match b, hl with
  | [b0, b1, b2, b3, b4, b5], _ =>
    have k0 := u8_lt b0
    have k1 := u8_lt b1
    have k2 := u8_lt b2
    have k3 := u8_lt b3
    have k4 := u8_lt b4
    have k5 := u8_lt b5
    have hnum : num [b0, b1, b2, b3, b4, b5] = ((((b0.toNat * 256 + b1.toNat) * 256 + b2.toNat) * 256 + b3.toNat) * 256 + b4.toNat) * 256 + b5.toNat := by simp [num]
    rw [hnum] at hn
    have e : macP [b0, b1, b2, b3, b4, b5] 6 = [hexM (b0.toNat / 16), hexM (b0.toNat % 16), 58, hexM (b1.toNat / 16), hexM (b1.toNat % 16), 58, hexM (b2.toNat / 16), hexM (b2.toNat % 16), 58, hexM (b3.toNat / 16), hexM (b3.toNat % 16), 58, hexM (b4.toNat / 16), hexM (b4.toNat % 16), 58, hexM (b5.toNat / 16), hexM (b5.toNat % 16)] := rfl
    rw [e]
    obtain ⟨s, hs⟩ : ∃ s, s = [hexM (b0.toNat / 16), hexM (b0.toNat % 16), 58, hexM (b1.toNat / 16), hexM (b1.toNat % 16), 58, hexM (b2.toNat / 16), hexM (b2.toNat % 16), 58, hexM (b3.toNat / 16), hexM (b3.toNat % 16), 58, hexM (b4.toNat / 16), hexM (b4.toNat % 16), 58, hexM (b5.toNat / 16), hexM (b5.toNat % 16)] := ⟨_, rfl⟩
    rw [← hs]
    have p0 : pmP s 0 = some 0 := rfl
    have p2 := pm_dig (pm_dig p0 (by decide) (by omega) (x := b0.toNat / 16) (by rw [hs]; rfl)) (by decide) (by omega) (x := b0.toNat % 16) (by rw [hs]; rfl)
    have p3 := pm_sep p2 (by decide) (by rw [hs]; rfl)
    have p5 := pm_dig (pm_dig p3 (by decide) (by omega) (x := b1.toNat / 16) (by rw [hs]; rfl)) (by decide) (by omega) (x := b1.toNat % 16) (by rw [hs]; rfl)
    have p6 := pm_sep p5 (by decide) (by rw [hs]; rfl)
    have p8 := pm_dig (pm_dig p6 (by decide) (by omega) (x := b2.toNat / 16) (by rw [hs]; rfl)) (by decide) (by omega) (x := b2.toNat % 16) (by rw [hs]; rfl)
    have p9 := pm_sep p8 (by decide) (by rw [hs]; rfl)
    have p11 := pm_dig (pm_dig p9 (by decide) (by omega) (x := b3.toNat / 16) (by rw [hs]; rfl)) (by decide) (by omega) (x := b3.toNat % 16) (by rw [hs]; rfl)
    have p12 := pm_sep p11 (by decide) (by rw [hs]; rfl)
    have p14 := pm_dig (pm_dig p12 (by decide) (by omega) (x := b4.toNat / 16) (by rw [hs]; rfl)) (by decide) (by omega) (x := b4.toNat % 16) (by rw [hs]; rfl)
    have p15 := pm_sep p14 (by decide) (by rw [hs]; rfl)
    have p17 := pm_dig (pm_dig p15 (by decide) (by omega) (x := b5.toNat / 16) (by rw [hs]; rfl)) (by decide) (by omega) (x := b5.toNat % 16) (by rw [hs]; rfl)
    unfold pMac
    rw [if_neg (by rw [hs]; simp), p17]
    simp only [Prod.mk.injEq, and_true]
    omega
theorem mac_big {n : Nat} (h : 281474976710656 ≤ n) : pMac (fmtMac n) = (0, 2) := by
  unfold fmtMac pMac
  rw [if_pos h, if_pos (by decide)]
theorem macP_len {b : List UInt8} : ∀ k, (macP b (k + 1)).length = 3 * k + 2
  | 0 => rfl
  | k + 1 => by
    rw [macP, List.length_append, macP_len k, if_pos (by omega)]
    simp
    omega
theorem fmtMac_len (n : Nat) : (fmtMac n).length ≤ 17 := by
  unfold fmtMac
  split
  · simp
  · rw [macP_len 5]; decide
end Go.Proofs.YtpfhljidjnagkaaDoor

/- From the library's words (Split, Cut, Join, Repeat, Itoa) to the plain mathematics of addresses: no Go in sight. -/
namespace Go.Proofs.YtpfhljidjnagkaaDoor
set_option linter.unusedVariables false

theorem neg1 (i : Nat) : ((i : Int) == -1) = false := by
  rw [beq_eq_false_iff_ne]; omega
theorem neg2 (i : Nat) : ((i : Int) + 1 == -1) = false := by
  rw [beq_eq_false_iff_ne]; omega
theorem digits_num : ∀ (n : Nat), Lib.decDigits n = numL n := by
  intro n
  induction n using Nat.strongRecOn with
  | _ n ih =>
    rw [Lib.decDigits, numL]
    by_cases h : n < 10
    · rw [dif_pos h, if_pos (by omega)]; rfl
    · rw [dif_neg h, if_neg (by omega), ih (n / 10) (by omega)]; rfl
theorem itoa_num (n : Nat) : Lib.itoa (n : Int) = numL n := by
  unfold Lib.itoa
  rw [if_neg (by omega), Int.toNat_natCast, digits_num]
theorem join_joinC (c : UInt8) : ∀ l : List By, Lib.join l [c] = joinC c l
  | [] => rfl
  | [p] => by rw [Lib.join_one]; rfl
  | p :: q :: r => by
    rw [joinC, ← join_joinC c (q :: r)]
    simp [Lib.join, List.intercalate, List.intersperse]
theorem repeat_zero (k : Nat) : Lib.repeatL [0] k = List.replicate k 0 := by
  have := Lib.repeatL_replicate 0 1 k
  rw [Nat.mul_one] at this
  exact this
/-! ### Split -/
def addH (p : By) : List By → List By
  | [] => []
  | a :: r => (p ++ a) :: r
theorem splitGo_cur (c : UInt8) : ∀ (s cur : By), splitGo c cur s = addH cur (splitGo c [] s)
  | [], cur => by simp [splitGo, addH]
  | x :: r, cur => by
    rw [splitGo, splitGo]
    split
    · simp [addH]
    · rw [splitGo_cur c r (cur ++ [x]), splitGo_cur c r ([] ++ [x])]
      cases splitGo c [] r with
      | nil => rfl
      | cons a q => simp [addH]
theorem index_one_cons (x c : UInt8) (r : By) : Lib.index (x :: r) [c] = if x = c then 0 else if Lib.index r [c] == -1 then -1 else Lib.index r [c] + 1 := by
  rw [Lib.index]
  by_cases h : x = c
  · subst h; simp
  · rw [if_neg h, if_neg (by simp; exact fun e => h e.symm)]
theorem splitK_ne {x c : UInt8} (h : x ≠ c) (k : Nat) (r : By) : Lib.splitK [c] 0 k (x :: r) = addH [x] (Lib.splitK [c] 0 k r) := by
  cases k with
  | zero => rfl
  | succ k =>
    rw [Lib.splitK, Lib.splitK, index_one_cons, if_neg h]
    by_cases h1 : Lib.index r [c] = -1
    · rw [h1]; rfl
    · have hg := Lib.index_ge r [c]
      obtain ⟨i, hi⟩ := Int.eq_ofNat_of_zero_le (a := Lib.index r [c]) (by omega)
      rw [hi]
      have e1 := neg1 i
      have e2 := neg2 i
      have e3 : ((i : Int) + 1).toNat = i + 1 := by omega
      simp only [e1, e2, e3, Bool.false_eq_true, if_false, Int.toNat_natCast]
      rfl
theorem split_lib (c : UInt8) : ∀ s : By, Lib.splitK [c] 0 (Lib.count s [c]) s = splitL c s
  | [] => by
    rw [Lib.count_one]
    rfl
  | x :: r => by
    have ih := split_lib c r
    unfold splitL at ih ⊢
    rw [splitGo]
    by_cases h : x = c
    · subst h
      rw [if_pos rfl, Lib.count_cons_eq, Nat.add_comm, Lib.splitK, index_one_cons, if_pos rfl, ← ih]
      rfl
    · rw [if_neg h, Lib.count_cons_ne x c r h, splitK_ne h, ih, splitGo_cur c r ([] ++ [x])]
      rfl
/-- The pieces that Split makes, as lists of bytes. -/
theorem split_bytes (c : UInt8) (s : ByteArray) : (Lib.splitB ⟨#[c]⟩ 0 (Lib.countB s ⟨#[c]⟩) s).map (·.data.toList) = splitL c s.data.toList := by
  rw [Lib.splitB_data, ← split_lib]
theorem split_length (c : UInt8) (s : ByteArray) : (Lib.splitB ⟨#[c]⟩ 0 (Lib.countB s ⟨#[c]⟩) s).length = Lib.countB s ⟨#[c]⟩ + 1 :=
  Lib.splitB_all ⟨#[c]⟩ (Nat.le_refl 1) 0 _ s rfl
/-! ### Cut -/
theorem cut_one (c : UInt8) : ∀ s : By, Lib.cut s [c] = match cutAt c s with | (a, some b) => (a, b, true) | (a, none) => (a, [], false)
  | [] => rfl
  | x :: r => by
    have ih := cut_one c r
    unfold Lib.cut at ih ⊢
    rw [index_one_cons, cutAt]
    by_cases h : x = c
    · rw [if_pos h, if_pos h]; rfl
    · rw [if_neg h, if_neg h]
      by_cases h1 : Lib.index r [c] = -1
      · rw [h1] at ih ⊢
        rw [if_neg (by decide)] at ih
        cases hq : cutAt c r with
        | mk a o =>
          rw [hq] at ih
          cases o with
          | none =>
            have e := congrArg Prod.fst ih
            simp only at e
            subst e; rfl
          | some b => have := congrArg (fun p => p.2.2) ih; simp at this
      · have hg := Lib.index_ge r [c]
        obtain ⟨i, hi⟩ := Int.eq_ofNat_of_zero_le (a := Lib.index r [c]) (by omega)
        rw [hi] at ih ⊢
        have e1 := neg1 i
        have e3 : ((i : Int) + 1).toNat = i + 1 := by omega
        rw [if_pos (by omega)] at ih
        simp only [e1, Bool.false_eq_true, if_false, Int.toNat_natCast] at ih ⊢
        rw [if_pos (by omega), e3]
        cases hq : cutAt c r with
        | mk a o =>
          rw [hq] at ih
          cases o with
          | none => have := congrArg (fun p => p.2.2) ih; simp at this
          | some b =>
            have ea := congrArg Prod.fst ih
            have eb := congrArg (fun p => p.2.1) ih
            simp only at ea eb
            subst ea eb
            simp [List.take_succ_cons]
theorem index_two_nil (x : UInt8) : Lib.index [x] [58, 58] = -1 := by
  rw [Lib.index, if_neg (by simp)]
  rfl
theorem index_two_cons (x y : UInt8) (r : By) : Lib.index (x :: y :: r) [58, 58] = if x = 58 ∧ y = 58 then 0 else if Lib.index (y :: r) [58, 58] == -1 then -1 else Lib.index (y :: r) [58, 58] + 1 := by
  rw [Lib.index]
  by_cases h : x = 58 ∧ y = 58
  · obtain ⟨rfl, rfl⟩ := h
    rw [if_pos (by simp), if_pos ⟨rfl, rfl⟩]
  · rw [if_neg h, if_neg (by simp; exact fun e1 e2 => h ⟨e1.symm, e2.symm⟩)]
theorem cut_two : ∀ s : By, Lib.cut s [58, 58] = match cutGap s with | some (a, b) => (a, b, true) | none => (s, [], false)
  | [] => rfl
  | [x] => by
    unfold Lib.cut
    rw [index_two_nil]
    rfl
  | x :: y :: r => by
    have ih := cut_two (y :: r)
    unfold Lib.cut at ih ⊢
    have h2 := index_two_cons x y r
    rw [cutGap]
    by_cases h : x = 58 ∧ y = 58
    · rw [if_pos h] at h2 ⊢
      rw [h2]; rfl
    · rw [if_neg h] at h2 ⊢
      rw [h2]
      clear h2
      generalize hz : Lib.index (y :: r) [58, 58] = z at *
      have hg := Lib.index_ge (y :: r) [58, 58]
      rw [hz] at hg
      by_cases h1 : z = -1
      · subst h1
        rw [if_neg (by decide)] at ih
        cases hq : cutGap (y :: r) with
        | none => rfl
        | some p =>
          rw [hq] at ih
          have := congrArg (fun p => p.2.2) ih; simp at this
      · obtain ⟨i, rfl⟩ := Int.eq_ofNat_of_zero_le (a := z) (by omega)
        have e1 := neg1 i
        have e3 : ((i : Int) + 1).toNat = i + 1 := by omega
        rw [if_pos (by omega)] at ih
        simp only [e1, Bool.false_eq_true, if_false, Int.toNat_natCast] at ih ⊢
        rw [if_pos (by omega), e3]
        cases hq : cutGap (y :: r) with
        | none => rw [hq] at ih; have := congrArg (fun p => p.2.2) ih; simp at this
        | some p =>
          obtain ⟨a, b⟩ := p
          rw [hq] at ih
          have ea := congrArg Prod.fst ih
          have eb := congrArg (fun p => p.2.1) ih
          simp only at ea eb
          subst ea eb
          simp only [Option.map_some, List.take_succ_cons, List.length_cons, List.length_nil]
          rw [show i + 1 + (0 + 1 + 1) = (i + (0 + 1 + 1)) + 1 by omega, List.drop_succ_cons]
theorem has_one (c : UInt8) : ∀ s : By, decide (0 ≤ Lib.indexByte s c) = decide (c ∈ s)
  | [] => by simp [Lib.indexByte]
  | x :: r => by
    have ih := has_one c r
    rw [Lib.indexByte]
    by_cases h : x = c
    · subst h; simp
    · rw [if_neg (by simpa using h)]
      have hm : decide (c ∈ x :: r) = decide (c ∈ r) := by
        rw [decide_eq_decide, List.mem_cons]
        constructor
        · rintro (e | e)
          · exact absurd e.symm h
          · exact e
        · exact Or.inr
      rw [hm, ← ih]
      have hg := Lib.indexByte_ge r c
      by_cases h1 : Lib.indexByte r c = -1
      · rw [h1]; rfl
      · rw [if_neg (by simpa using h1), decide_eq_decide]
        omega
end Go.Proofs.YtpfhljidjnagkaaDoor

/- How the program reads a hardware address: parts at colons, each a number to the base 16. Plain mathematics. -/
namespace Go.Proofs.YtpfhljidjnagkaaDoor
set_option linter.unusedVariables false

/-- ParseUint to the base 16, at most 255. -/
def pU : Nat → List UInt8 → Option Nat
  | acc, [] => some acc
  | acc, c :: r => if hexI c < 0 then none else if 255 < acc * 16 + (hexI c).toNat then none else pU (acc * 16 + (hexI c).toNat) r
def pUint (p : List UInt8) : Option Nat := if p = [] then none else pU 0 p
theorem pU_lt : ∀ (p : List UInt8) (acc n : Nat), acc ≤ 255 → pU acc p = some n → n ≤ 255
  | [], acc, n, h, e => by rw [pU] at e; obtain rfl := Option.some.inj e; exact h
  | c :: r, acc, n, h, e => by
    rw [pU] at e
    split at e
    · cases e
    · split at e
      · cases e
      · exact pU_lt r _ n (by omega) e
theorem pUint_lt {p : List UInt8} {n : Nat} (h : pUint p = some n) : n ≤ 255 := by
  unfold pUint at h
  split at h
  · cases h
  · exact pU_lt p 0 n (by omega) h
theorem pU_none {p : List UInt8} {acc : Nat} {c : UInt8} {r : List UInt8} (h : pU acc (c :: r) = none) : pU acc (c :: r) = none := h
/-- A part of two digits. -/
def mac2 (p : List UInt8) : Option Nat := if p.length = 2 then pUint p else none
theorem mac2_two {a b : UInt8} (ha : 0 ≤ hexI a) (hb : 0 ≤ hexI b) : mac2 [a, b] = some ((hexI a).toNat * 16 + (hexI b).toNat) := by
  have h1 := hexI_lt a
  have h2 := hexI_lt b
  unfold mac2 pUint
  rw [if_pos (show [a, b].length = 2 from rfl), if_neg (by simp), pU, if_neg (by omega), if_neg (by omega), pU, if_neg (by omega), if_neg (by omega), pU, Nat.zero_mul, Nat.zero_add]
theorem mac2_inv {p : List UInt8} {v : Nat} (h : mac2 p = some v) : ∃ a b, p = [a, b] ∧ 0 ≤ hexI a ∧ 0 ≤ hexI b ∧ v = (hexI a).toNat * 16 + (hexI b).toNat := by
  unfold mac2 at h
  split at h
  · rename_i hl
    match p, hl with
    | [a, b], _ =>
      unfold pUint at h
      rw [if_neg (by simp), pU] at h
      split at h
      · cases h
      · rename_i ha
        split at h
        · cases h
        · rw [pU] at h
          split at h
          · cases h
          · rename_i hb
            split at h
            · cases h
            · rw [pU] at h
              have := Option.some.inj h
              exact ⟨a, b, rfl, by omega, by omega, by omega⟩
  · cases h
/-- The number of the first k parts. -/
def macK (Q : List (List UInt8)) : Nat → Option Nat
  | 0 => some 0
  | k + 1 => match macK Q k with
    | none => none
    | some n => match mac2 (Q.getD k []) with
      | none => none
      | some v => some (n * 256 + v)
theorem macK_next {Q : List (List UInt8)} {k n v : Nat} (h : macK Q k = some n) (h2 : mac2 (Q.getD k []) = some v) : macK Q (k + 1) = some (n * 256 + v) := by
  rw [macK, h]; simp only; rw [h2]
theorem macK_stop {Q : List (List UInt8)} {k : Nat} (h : mac2 (Q.getD k []) = none) : macK Q (k + 1) = none := by
  rw [macK]
  cases macK Q k with
  | none => rfl
  | some n => simp only; rw [h]
theorem macK_none {Q : List (List UInt8)} {k : Nat} (h : macK Q k = none) : ∀ j, macK Q (k + j) = none
  | 0 => h
  | j + 1 => by show macK Q ((k + j) + 1) = none; rw [macK, macK_none h j]
theorem macK_inv {Q : List (List UInt8)} {k n : Nat} (h : macK Q (k + 1) = some n) : ∃ m v, macK Q k = some m ∧ mac2 (Q.getD k []) = some v ∧ n = m * 256 + v := by
  rw [macK] at h
  cases hk : macK Q k with
  | none => rw [hk] at h; cases h
  | some m =>
    rw [hk] at h
    simp only at h
    cases hv : mac2 (Q.getD k []) with
    | none => rw [hv] at h; cases h
    | some v => rw [hv] at h; exact ⟨m, v, rfl, rfl, (Option.some.inj h).symm⟩
theorem macK_lt {Q : List (List UInt8)} : ∀ (k n : Nat), macK Q k = some n → n < 256 ^ k
  | 0, n, h => by rw [macK] at h; obtain rfl := Option.some.inj h; decide
  | k + 1, n, h => by
    obtain ⟨m, v, h1, h2, rfl⟩ := macK_inv h
    have := macK_lt k m h1
    obtain ⟨a, b, _, ha, hb, rfl⟩ := mac2_inv h2
    have h1 := hexI_lt a
    have h2 := hexI_lt b
    rw [Nat.pow_succ]
    omega
def pmParts (Q : List (List UInt8)) : Nat × Nat := if Q.length ≠ 6 then (0, 2) else match macK Q 6 with
  | none => (0, 2)
  | some n => (n, 0)
/-! ### The parts of a text -/
def ptsN (S : List UInt8) : List (List UInt8) := Lib.splitK [58] 0 (min 7 (S.length + 1) - 1) S
theorem splitK_hit6 (c : UInt8) (k : Nat) (r : List UInt8) : Lib.splitK [c] 0 (k + 1) (c :: r) = [] :: Lib.splitK [c] 0 k r := by
  rw [Lib.splitK, index_one_cons, if_pos rfl]
  rfl
theorem splitK_nil6 (c : UInt8) (k : Nat) : Lib.splitK [c] 0 k [] = [[]] := by
  cases k with
  | zero => rfl
  | succ k =>
    rw [Lib.splitK]
    rfl
theorem splitK_ne0 (c : UInt8) : ∀ (k : Nat) (s : List UInt8), Lib.splitK [c] 0 k s ≠ []
  | 0, s => by simp [Lib.splitK]
  | k + 1, s => by
    rw [Lib.splitK]
    split <;> simp
theorem joinC_addH (c x : UInt8) : ∀ l : List By, l ≠ [] → joinC c (addH [x] l) = x :: joinC c l
  | [], h => absurd rfl h
  | [p], _ => rfl
  | p :: q :: r, _ => rfl
theorem joinC_nil (c : UInt8) : ∀ l : List By, l ≠ [] → joinC c ([] :: l) = c :: joinC c l
  | [], h => absurd rfl h
  | p :: r, _ => rfl
theorem join_splitK (c : UInt8) : ∀ (s : List UInt8) (k : Nat), joinC c (Lib.splitK [c] 0 k s) = s
  | [], k => by rw [splitK_nil6]; rfl
  | x :: r, k => by
    by_cases h : x = c
    · subst h
      cases k with
      | zero => rfl
      | succ k => rw [splitK_hit6, joinC_nil _ _ (splitK_ne0 _ _ _), join_splitK x r k]
    · rw [splitK_ne h, joinC_addH _ _ _ (splitK_ne0 _ _ _), join_splitK c r k]
theorem hexI_58 : hexI 58 = -1 := by decide
theorem hex_ne58 {a : UInt8} (h : 0 ≤ hexI a) : a ≠ 58 := fun e => by rw [e, hexI_58] at h; omega
theorem pm_digi {s : List UInt8} {k n : Nat} {c : UInt8} (h : pmP s k = some n) (hk : k % 3 ≠ 2) (hx : 0 ≤ hexI c) (hs : s[k]? = some c) : pmP s (k + 1) = some (n * 16 + (hexI c).toNat) := by
  rw [pmP, h]
  simp only
  rw [if_neg hk, hs]
  simp only
  rw [if_neg (by omega)]
theorem pm_inv {s : List UInt8} {k n : Nat} (h : pmP s (k + 1) = some n) : ∃ m, pmP s k = some m ∧ (k % 3 = 2 → s[k]? = some 58) ∧ (k % 3 ≠ 2 → ∃ c, s[k]? = some c ∧ 0 ≤ hexI c) := by
  rw [pmP] at h
  cases hk : pmP s k with
  | none => rw [hk] at h; cases h
  | some m =>
    rw [hk] at h
    simp only at h
    refine ⟨m, rfl, fun h3 => ?_, fun h3 => ?_⟩
    · rw [if_pos h3] at h
      by_cases h4 : s[k]? = some 58
      · exact h4
      · rw [if_neg h4] at h; cases h
    · rw [if_neg h3] at h
      cases hc : s[k]? with
      | none => rw [hc] at h; cases h
      | some c =>
        rw [hc] at h
        simp only at h
        by_cases h5 : hexI c < 0
        · rw [if_pos h5] at h; cases h
        · exact ⟨c, rfl, by omega⟩
def mac17 (a0 b0 a1 b1 a2 b2 a3 b3 a4 b4 a5 b5 : UInt8) : List UInt8 := [a0, b0, 58, a1, b1, 58, a2, b2, 58, a3, b3, 58, a4, b4, 58, a5, b5]
theorem pts_mac17 {a0 b0 a1 b1 a2 b2 a3 b3 a4 b4 a5 b5 : UInt8} (h0 : a0 ≠ 58) (g0 : b0 ≠ 58) (h1 : a1 ≠ 58) (g1 : b1 ≠ 58) (h2 : a2 ≠ 58) (g2 : b2 ≠ 58) (h3 : a3 ≠ 58) (g3 : b3 ≠ 58) (h4 : a4 ≠ 58) (g4 : b4 ≠ 58) (h5 : a5 ≠ 58) (g5 : b5 ≠ 58) :
    ptsN (mac17 a0 b0 a1 b1 a2 b2 a3 b3 a4 b4 a5 b5) = [[a0, b0], [a1, b1], [a2, b2], [a3, b3], [a4, b4], [a5, b5]] := by
  show Lib.splitK [58] 0 6 (mac17 a0 b0 a1 b1 a2 b2 a3 b3 a4 b4 a5 b5) = _
  unfold mac17
  rw [splitK_ne h0, splitK_ne g0, splitK_hit6, splitK_ne h1, splitK_ne g1, splitK_hit6, splitK_ne h2, splitK_ne g2, splitK_hit6, splitK_ne h3, splitK_ne g3, splitK_hit6, splitK_ne h4, splitK_ne g4, splitK_hit6, splitK_ne h5, splitK_ne g5, splitK_nil6]
  rfl
theorem pm_mac17 {a0 b0 a1 b1 a2 b2 a3 b3 a4 b4 a5 b5 : UInt8} (h0 : 0 ≤ hexI a0) (g0 : 0 ≤ hexI b0) (h1 : 0 ≤ hexI a1) (g1 : 0 ≤ hexI b1) (h2 : 0 ≤ hexI a2) (g2 : 0 ≤ hexI b2) (h3 : 0 ≤ hexI a3) (g3 : 0 ≤ hexI b3) (h4 : 0 ≤ hexI a4) (g4 : 0 ≤ hexI b4) (h5 : 0 ≤ hexI a5) (g5 : 0 ≤ hexI b5) :
    pMac (mac17 a0 b0 a1 b1 a2 b2 a3 b3 a4 b4 a5 b5) = pmParts [[a0, b0], [a1, b1], [a2, b2], [a3, b3], [a4, b4], [a5, b5]] := by
  obtain ⟨s, hs⟩ : ∃ s, s = mac17 a0 b0 a1 b1 a2 b2 a3 b3 a4 b4 a5 b5 := ⟨_, rfl⟩
  rw [← hs]
  have p0 : pmP s 0 = some 0 := rfl
  have p2 := pm_digi (pm_digi p0 (by decide) h0 (by rw [hs]; rfl)) (by decide) g0 (by rw [hs]; rfl)
  have p5 := pm_digi (pm_digi (pm_sep p2 (by decide) (by rw [hs]; rfl)) (by decide) h1 (by rw [hs]; rfl)) (by decide) g1 (by rw [hs]; rfl)
  have p8 := pm_digi (pm_digi (pm_sep p5 (by decide) (by rw [hs]; rfl)) (by decide) h2 (by rw [hs]; rfl)) (by decide) g2 (by rw [hs]; rfl)
  have p11 := pm_digi (pm_digi (pm_sep p8 (by decide) (by rw [hs]; rfl)) (by decide) h3 (by rw [hs]; rfl)) (by decide) g3 (by rw [hs]; rfl)
  have p14 := pm_digi (pm_digi (pm_sep p11 (by decide) (by rw [hs]; rfl)) (by decide) h4 (by rw [hs]; rfl)) (by decide) g4 (by rw [hs]; rfl)
  have p17 := pm_digi (pm_digi (pm_sep p14 (by decide) (by rw [hs]; rfl)) (by decide) h5 (by rw [hs]; rfl)) (by decide) g5 (by rw [hs]; rfl)
  obtain ⟨Q, hQ⟩ : ∃ Q, Q = [[a0, b0], [a1, b1], [a2, b2], [a3, b3], [a4, b4], [a5, b5]] := ⟨_, rfl⟩
  rw [← hQ]
  have m0 : macK Q 0 = some 0 := rfl
  have m6 := macK_next (macK_next (macK_next (macK_next (macK_next (macK_next m0 (by rw [hQ]; exact mac2_two h0 g0)) (by rw [hQ]; exact mac2_two h1 g1)) (by rw [hQ]; exact mac2_two h2 g2)) (by rw [hQ]; exact mac2_two h3 g3)) (by rw [hQ]; exact mac2_two h4 g4)) (by rw [hQ]; exact mac2_two h5 g5)
  unfold pMac pmParts
  rw [if_neg (by rw [hs]; simp [mac17]), p17, if_neg (by rw [hQ]; simp), m6]
  simp only [Prod.mk.injEq, and_true]
  omega
/-- WHAT THE PROGRAM DOES IS WHAT THE REFERENCE DOES. -/
theorem mac_parts (S : List UInt8) : pMac S = pmParts (ptsN S) := by
  by_cases hgood : (ptsN S).length = 6 ∧ ∃ n, macK (ptsN S) 6 = some n
  · obtain ⟨hl, n, hn⟩ := hgood
    have hj := join_splitK 58 S (min 7 (S.length + 1) - 1)
    have hQ : ptsN S = Lib.splitK [58] 0 (min 7 (S.length + 1) - 1) S := rfl
    rw [← hQ] at hj
    clear hQ
    generalize ptsN S = Q at *
    match Q, hl with
    | [p0, p1, p2, p3, p4, p5], _ =>
      obtain ⟨n5, v5, k5, j5, _⟩ := macK_inv hn
      obtain ⟨n4, v4, k4, j4, _⟩ := macK_inv k5
      obtain ⟨n3, v3, k3, j3, _⟩ := macK_inv k4
      obtain ⟨n2, v2, k2, j2, _⟩ := macK_inv k3
      obtain ⟨n1, v1, k1, j1, _⟩ := macK_inv k2
      obtain ⟨n0, v0, k0, j0, _⟩ := macK_inv k1
      obtain ⟨a0, b0, e0, h0, g0, _⟩ := mac2_inv j0
      obtain ⟨a1, b1, e1, h1, g1, _⟩ := mac2_inv j1
      obtain ⟨a2, b2, e2, h2, g2, _⟩ := mac2_inv j2
      obtain ⟨a3, b3, e3, h3, g3, _⟩ := mac2_inv j3
      obtain ⟨a4, b4, e4, h4, g4, _⟩ := mac2_inv j4
      obtain ⟨a5, b5, e5, h5, g5, _⟩ := mac2_inv j5
      have e0' : p0 = [a0, b0] := e0
      have e1' : p1 = [a1, b1] := e1
      have e2' : p2 = [a2, b2] := e2
      have e3' : p3 = [a3, b3] := e3
      have e4' : p4 = [a4, b4] := e4
      have e5' : p5 = [a5, b5] := e5
      subst e0' e1' e2' e3' e4' e5'
      have hS : S = mac17 a0 b0 a1 b1 a2 b2 a3 b3 a4 b4 a5 b5 := hj.symm
      rw [hS]
      exact pm_mac17 h0 g0 h1 g1 h2 g2 h3 g3 h4 g4 h5 g5
  · have hp : pmParts (ptsN S) = (0, 2) := by
      unfold pmParts
      by_cases hl : (ptsN S).length = 6
      · rw [if_neg (by omega)]
        cases hm : macK (ptsN S) 6 with
        | none => rfl
        | some n => exact absurd ⟨hl, n, hm⟩ hgood
      · rw [if_pos hl]
    rw [hp]
    unfold pMac
    by_cases hl : S.length = 17
    · rw [if_neg (by omega)]
      cases hm : pmP S 17 with
      | none => rfl
      | some n =>
        exfalso
        apply hgood
        match S, hl with
        | [x0, x1, x2, x3, x4, x5, x6, x7, x8, x9, x10, x11, x12, x13, x14, x15, x16], _ =>
          obtain ⟨m16, k16, _, d16⟩ := pm_inv hm
          obtain ⟨m15, k15, _, d15⟩ := pm_inv k16
          obtain ⟨m14, k14, d14, _⟩ := pm_inv k15
          obtain ⟨m13, k13, _, d13⟩ := pm_inv k14
          obtain ⟨m12, k12, _, d12⟩ := pm_inv k13
          obtain ⟨m11, k11, d11, _⟩ := pm_inv k12
          obtain ⟨m10, k10, _, d10⟩ := pm_inv k11
          obtain ⟨m9, k9, _, d9⟩ := pm_inv k10
          obtain ⟨m8, k8, d8, _⟩ := pm_inv k9
          obtain ⟨m7, k7, _, d7⟩ := pm_inv k8
          obtain ⟨m6, k6, _, d6⟩ := pm_inv k7
          obtain ⟨m5, k5, d5, _⟩ := pm_inv k6
          obtain ⟨m4, k4, _, d4⟩ := pm_inv k5
          obtain ⟨m3, k3, _, d3⟩ := pm_inv k4
          obtain ⟨m2, k2, d2, _⟩ := pm_inv k3
          obtain ⟨m1, k1, _, d1⟩ := pm_inv k2
          obtain ⟨m0, k0, _, d0⟩ := pm_inv k1
          have q2 : x2 = 58 := Option.some.inj (d2 (by decide))
          have q5 : x5 = 58 := Option.some.inj (d5 (by decide))
          have q8 : x8 = 58 := Option.some.inj (d8 (by decide))
          have q11 : x11 = 58 := Option.some.inj (d11 (by decide))
          have q14 : x14 = 58 := Option.some.inj (d14 (by decide))
          have dig : ∀ {x : UInt8} {o : Option UInt8}, o = some x → (∃ c, o = some c ∧ 0 ≤ hexI c) → 0 ≤ hexI x := by
            rintro x o rfl ⟨c, h1, h2⟩
            obtain rfl := Option.some.inj h1
            exact h2
          have r0 : 0 ≤ hexI x0 := dig rfl (d0 (by decide))
          have r1 : 0 ≤ hexI x1 := dig rfl (d1 (by decide))
          have r3 : 0 ≤ hexI x3 := dig rfl (d3 (by decide))
          have r4 : 0 ≤ hexI x4 := dig rfl (d4 (by decide))
          have r6 : 0 ≤ hexI x6 := dig rfl (d6 (by decide))
          have r7 : 0 ≤ hexI x7 := dig rfl (d7 (by decide))
          have r9 : 0 ≤ hexI x9 := dig rfl (d9 (by decide))
          have r10 : 0 ≤ hexI x10 := dig rfl (d10 (by decide))
          have r12 : 0 ≤ hexI x12 := dig rfl (d12 (by decide))
          have r13 : 0 ≤ hexI x13 := dig rfl (d13 (by decide))
          have r15 : 0 ≤ hexI x15 := dig rfl (d15 (by decide))
          have r16 : 0 ≤ hexI x16 := dig rfl (d16 (by decide))
          subst q2 q5 q8 q11 q14
          have hpt := pts_mac17 (hex_ne58 r0) (hex_ne58 r1) (hex_ne58 r3) (hex_ne58 r4) (hex_ne58 r6) (hex_ne58 r7) (hex_ne58 r9) (hex_ne58 r10) (hex_ne58 r12) (hex_ne58 r13) (hex_ne58 r15) (hex_ne58 r16)
          unfold mac17 at hpt
          rw [hpt]
          refine ⟨rfl, _, macK_next (macK_next (macK_next (macK_next (macK_next (macK_next (show macK _ 0 = some 0 from rfl) (mac2_two r0 r1)) (mac2_two r3 r4)) (mac2_two r6 r7)) (mac2_two r9 r10)) (mac2_two r12 r13)) (mac2_two r15 r16)⟩
    · rw [if_pos hl]
/-! ### The digits as ParseUint meets them -/
/-- 'c | 32'. -/
def lowN (c : UInt8) : Nat := c.toNat ||| 32
theorem low_all : ∀ y : Fin 256, (48 ≤ y.val ∧ y.val ≤ 57 → hexI (UInt8.ofNat y.val) = (y.val : Int) - 48) ∧ (¬ (48 ≤ y.val ∧ y.val ≤ 57) → 97 ≤ y.val ||| 32 → y.val ||| 32 ≤ 102 → hexI (UInt8.ofNat y.val) = ((y.val ||| 32 : Nat) : Int) - 87) ∧ (¬ (48 ≤ y.val ∧ y.val ≤ 57) → ¬ (97 ≤ y.val ||| 32 ∧ y.val ||| 32 ≤ 102) → hexI (UInt8.ofNat y.val) < 0) := by decide +kernel
theorem low_hex (c : UInt8) : (48 ≤ c.toNat ∧ c.toNat ≤ 57 → hexI c = (c.toNat : Int) - 48) ∧ (¬ (48 ≤ c.toNat ∧ c.toNat ≤ 57) → 97 ≤ lowN c → lowN c ≤ 102 → hexI c = (lowN c : Int) - 87) ∧ (¬ (48 ≤ c.toNat ∧ c.toNat ≤ 57) → ¬ (97 ≤ lowN c ∧ lowN c ≤ 102) → hexI c < 0) := by
  have h := low_all ⟨c.toNat, u8_lt c⟩
  simpa [lowN] using h
end Go.Proofs.YtpfhljidjnagkaaDoor
