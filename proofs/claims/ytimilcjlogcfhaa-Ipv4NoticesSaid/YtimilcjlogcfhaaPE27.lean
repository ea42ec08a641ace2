/- Contracts of the functions, part 27: Ip4PEnc. -/
import Derived.BigQuiet
import Derived.Deep.Cut
import Derived.Test.YtimilcjlogcfhaaPE8
import Derived.Test.YtimilcjlogcfhaaPE18
import Derived.Test.YtimilcjlogcfhaaPE19
import Derived.Test.YtimilcjlogcfhaaPE26
/- Contract of the program of layer 11: Encode. -/
namespace Go.Proofs.Ytimilcjlogcfhaa
open Go.ChangeShapes Go.WideShapes Go.ChangeAt Go.RowKit
set_option linter.unusedVariables false

theorem or_pow_left (x k : Nat) (h : x < 2 ^ k) (h2 : 2 ^ k + x < 9223372036854775808) : bits .or .i64 ((2 ^ k : Nat) : Int) (x : Int) = ((2 ^ k + x : Nat) : Int) := by
  have e : 2 ^ k ||| x = 2 ^ k + x := by
    have := Nat.two_pow_add_eq_or_of_lt h 1
    rw [Nat.mul_one] at this
    exact this.symm
  have ht : (2 : Nat) ^ IntKind.i64.bits = 18446744073709551616 := by decide
  show IntKind.i64.wrap ((((((2 ^ k : Nat) : Int) % ((2 : Nat) ^ IntKind.i64.bits : Nat)).toNat ||| ((x : Int) % ((2 : Nat) ^ IntKind.i64.bits : Nat)).toNat) : Nat) : Int) = _
  rw [ht]
  generalize 2 ^ k = P at *
  have e1 : ((x : Int) % (18446744073709551616 : Nat)).toNat = x := by omega
  have e2 : ((P : Int) % (18446744073709551616 : Nat)).toNat = P := by omega
  rw [e1, e2, e]
  exact IntWalk.i64_in _ (by omega)
theorem qbytes4_any (lo : Nat) (w : World) (h : lo < 4294967296) :
    Calls Try.prog 37 #[.agg #[.bool false, .int .u64 0, .int .u64 (lo : Int)]] w fun e w' => e = .returned (.string (str (beL 4 lo))) ∧ Below w.heap.size w w' := by
  have := qbytes_any false 0 lo w (by decide) (by omega)
  exact this
theorem beL_one (n : Nat) : beL 1 n = [UInt8.ofNat n] := by
  unfold beL
  simp [leL]
  apply UInt8.toNat_inj.mp
  rw [UInt8.toNat_ofNat', UInt8.toNat_ofNat']
  omega
theorem csum_skip {a b : List UInt8} (ha : a.length % 2 = 0) : csum (a ++ b) = csum (a ++ (beL 2 0 ++ b)) := by
  unfold csum
  rw [wsum_append _ _ ha, wsum_append _ _ ha, wsum_append _ _ (by rw [beL_len]), wsum_be2 (by omega), Nat.zero_add]
/-- What Encode leaves. -/
def Enc4P (w : World) (R : List UInt8 × Nat) (e : Ending) (w' : World) : Prop := e = .returned (.tuple #[.string (str R.1), .int .i64 (R.2 : Int)]) ∧ Below w.heap.size w w'
set_option maxHeartbeats 4000000 in
set_option maxRecDepth 20000 in
theorem penc11_bad (tos id ttl proto off : Int) (dont more sv dv : Bool) (sh sl dh dl n : Nat) (P : ByteArray) (A : Option Addr) (c : Nat) (w : World)
    (hrg : ∀ W, Below w.heap.size w W → Calls Try.prog 32 #[.agg #[.int .i64 tos, .int .i64 id, .int .i64 ttl, .int .i64 proto, .bool dont, .bool more, .int .i64 off, .bool sv, .int .u64 (sh : Int), .int .u64 (sl : Int), .bool dv, .int .u64 (dh : Int), .int .u64 (dl : Int), .slice A n c, .string P]] W fun e w' => e = .returned (.bool false) ∧ Below W.heap.size W w') :
    Calls Try.prog 15 #[.agg #[.int .i64 tos, .int .i64 id, .int .i64 ttl, .int .i64 proto, .bool dont, .bool more, .int .i64 off, .bool sv, .int .u64 (sh : Int), .int .u64 (sl : Int), .bool dv, .int .u64 (dh : Int), .int .u64 (dl : Int), .slice A n c, .string P]] w (Enc4P w ([], 4)) := by
  have HRG := Lib.hid hrg
  clear hrg
  obtain ⟨W1, hW1⟩ : ∃ W, W = w.alloc (.cells #[.int .i64 tos, .int .i64 id, .int .i64 ttl, .int .i64 proto, .bool dont, .bool more, .int .i64 off, .bool sv, .int .u64 (sh : Int), .int .u64 (sl : Int), .bool dv, .int .u64 (dh : Int), .int .u64 (dl : Int), .slice A n c, .string P] 28) := ⟨_, rfl⟩
  obtain ⟨g, hg⟩ : ∃ g, g = w.heap.size := ⟨_, rfl⟩
  have HX := Lib.hid (show Cells W1 g 28 #[.int .i64 tos, .int .i64 id, .int .i64 ttl, .int .i64 proto, .bool dont, .bool more, .int .i64 off, .bool sv, .int .u64 (sh : Int), .int .u64 (sl : Int), .bool dv, .int .u64 (dh : Int), .int .u64 (dl : Int), .slice A n c, .string P] by rw [hW1, hg]; exact heap_alloc_new w _)
  have HB1 := Lib.hid (show Below w.heap.size w W1 by rw [hW1]; exact below_alloc6 w _)
  have HV := Lib.hid (fun (W : World) (hb : Below W1.heap.size W1 W) (i : Nat) (v : Value) (hv : (#[.int .i64 tos, .int .i64 id, .int .i64 ttl, .int .i64 proto, .bool dont, .bool more, .int .i64 off, .bool sv, .int .u64 (sh : Int), .int .u64 (sl : Int), .bool dv, .int .u64 (dh : Int), .int .u64 (dl : Int), .slice A n c, .string P])[i]? = some v) => show W.cell? ⟨g, i, none⟩ = some v from box_cell HX.out hb i v hv)
  have HW := Lib.hid (fun (W : World) (hb : Below W1.heap.size W1 W) => HB1.out.trans (hb.mono HB1.out.size))
  have HWG := Lib.hid (And.intro hW1.symm hg.symm)
  clear hW1 hg HX
  go_enter Try.func15, Try.ntmps15
  go_wp2_with fail
  rw [HWG.out.1, HWG.out.2]
  refine (HRG.out _ HB1.out).mono ?_
  rintro e w2 ⟨rfl, hb2⟩
  have HB2 := Lib.hid (show Below W1.heap.size W1 w2 from hb2)
  clear hb2 HRG
  go_wp2_with fail
  go_ret2
  exact ⟨rfl, HW.out _ HB2.out⟩
set_option maxHeartbeats 8000000 in
set_option maxRecDepth 20000 in
theorem penc11_ok (T I L X F sl dl n : Nat) (dont more : Bool) (l : List OpR) (pay : List UInt8) (P : ByteArray) (A : Option Addr) (c : Nat) (p : Ip4R) (w : World) (hpe : p = ⟨(T : Int), (I : Int), (L : Int), (X : Int), dont, more, (F : Int), ⟨false, 0, sl⟩, ⟨false, 0, dl⟩, l, pay⟩) (hP : P = str pay) (hnl : n = l.length)
    (hnb : ¬ badI p) (hT : T ≤ 255) (hI : I ≤ 65535) (hL : L ≤ 255) (hX : X ≤ 255) (hF : F ≤ 65528) (hsl : sl < 4294967296) (hdl : dl < 4294967296) (hok : okK l) (hl : l.length ≤ 1000) (hd : ∀ x ∈ l, x.dat.length ≤ 281474976710656) (hp : pay.length ≤ 1000000) (h : RowL EOpt w A l)
    (hrg : ∀ W, Below w.heap.size w W → Calls Try.prog 32 #[.agg #[.int .i64 (T : Int), .int .i64 (I : Int), .int .i64 (L : Int), .int .i64 (X : Int), .bool dont, .bool more, .int .i64 (F : Int), .bool false, .int .u64 0, .int .u64 (sl : Int), .bool false, .int .u64 0, .int .u64 (dl : Int), .slice A n c, .string P]] W fun e w' => e = .returned (.bool true) ∧ Below W.heap.size W w') :
    Calls Try.prog 15 #[.agg #[.int .i64 (T : Int), .int .i64 (I : Int), .int .i64 (L : Int), .int .i64 (X : Int), .bool dont, .bool more, .int .i64 (F : Int), .bool false, .int .u64 0, .int .u64 (sl : Int), .bool false, .int .u64 0, .int .u64 (dl : Int), .slice A n c, .string P]] w (Enc4P w (encI p)) := by
  obtain ⟨R, hR⟩ : ∃ R, R = encI p := ⟨_, rfl⟩
  rw [← hR]
  unfold encI at hR
  rw [if_neg hnb] at hR
  have hops : p.ops = l := by rw [hpe]
  have hpay : p.pay = pay := by rw [hpe]
  have hPs : P.size = pay.length := by rw [hP, str_size]
  have hPs6 : P.size ≤ 1000000 := by omega
  have HSZ := Lib.hid (fun (W : World) (hb : Below w.heap.size w W) => by
    have := psize11_any A c l W (h.kept hb) hl hd
    rwa [← hnl] at this)
  have HOB := Lib.hid (fun (h4 : (wrOs l).length ≤ 40) (W : World) (hb : Below w.heap.size w W) => by
    have := pbytes11_any A c l W (h.kept hb) h4 hok
    rwa [← hnl] at this)
  have HRG := Lib.hid hrg
  have HPL := Lib.hid (fun (W : World) => place11_any (T : Int) (I : Int) (L : Int) (X : Int) (F : Int) dont more false false 0 sl 0 dl n A c P W (by omega) (by omega))
  obtain ⟨fl, hfl⟩ : ∃ f, f = (F : Int).toNat / 8 + (if dont then 16384 else 0) + (if more then 8192 else 0) := ⟨_, rfl⟩
  rw [← hfl] at HPL
  have hfl16 : fl ≤ 65535 := by rw [hfl, Int.toNat_natCast]; split <;> split <;> omega
  have hflI : flagsI p = fl := by unfold flagsI; rw [hpe, hfl]
  have HOP := Lib.hid (And.intro hops hpay)
  have HPP := Lib.hid hP
  have HPS := Lib.hid hPs
  have HFL := Lib.hid hflI
  have HPE := Lib.hid hpe
  obtain ⟨t, ht⟩ : ∃ t, t = (wrOs l).length := ⟨_, rfl⟩
  rw [hops, ← ht] at hR
  rw [← ht] at HSZ HOB
  have ht9 : t ≤ 281474976710658000 := by
    have h1 := wrOs_le l 281474976710656 hd
    have h2 : l.length * (2 + 281474976710656) ≤ 1000 * (2 + 281474976710656) := Nat.mul_le_mul_right _ hl
    omega
  clear hrg h hd hok hops hpay hP hPs hfl hflI hpe hnb hnl
  obtain ⟨W1, hW1⟩ : ∃ W, W = w.alloc (.cells #[.int .i64 (T : Int), .int .i64 (I : Int), .int .i64 (L : Int), .int .i64 (X : Int), .bool dont, .bool more, .int .i64 (F : Int), .bool false, .int .u64 0, .int .u64 (sl : Int), .bool false, .int .u64 0, .int .u64 (dl : Int), .slice A n c, .string P] 28) := ⟨_, rfl⟩
  obtain ⟨g, hg⟩ : ∃ g, g = w.heap.size := ⟨_, rfl⟩
  have HX := Lib.hid (show Cells W1 g 28 #[.int .i64 (T : Int), .int .i64 (I : Int), .int .i64 (L : Int), .int .i64 (X : Int), .bool dont, .bool more, .int .i64 (F : Int), .bool false, .int .u64 0, .int .u64 (sl : Int), .bool false, .int .u64 0, .int .u64 (dl : Int), .slice A n c, .string P] by rw [hW1, hg]; exact heap_alloc_new w _)
  have HB1 := Lib.hid (show Below w.heap.size w W1 by rw [hW1]; exact below_alloc6 w _)
  have HV := Lib.hid (fun (W : World) (hb : Below W1.heap.size W1 W) (i : Nat) (v : Value) (hv : (#[.int .i64 (T : Int), .int .i64 (I : Int), .int .i64 (L : Int), .int .i64 (X : Int), .bool dont, .bool more, .int .i64 (F : Int), .bool false, .int .u64 0, .int .u64 (sl : Int), .bool false, .int .u64 0, .int .u64 (dl : Int), .slice A n c, .string P])[i]? = some v) => show W.cell? ⟨g, i, none⟩ = some v from box_cell HX.out hb i v hv)
  have HW := Lib.hid (fun (W : World) (hb : Below W1.heap.size W1 W) => HB1.out.trans (hb.mono HB1.out.size))
  have HWG := Lib.hid (And.intro hW1.symm hg.symm)
  clear hW1 hg HX
  have HRH := Lib.hid hR
  have HTT := Lib.hid ht
  clear hR ht
  go_enter Try.func15, Try.ntmps15
  go_wp2_with fail
  rw [HWG.out.1, HWG.out.2]
  refine (HRG.out _ HB1.out).mono ?_
  rintro e w2 ⟨rfl, hb2⟩
  have HB2 := Lib.hid (show Below W1.heap.size W1 w2 from hb2)
  clear hb2 HRG
  have x13 := HV.out w2 HB2.out 13 (.slice A n c) rfl
  by_cases h40 : 40 < t
  · have d40 : decide ((40 : Int) < (t : Int)) = true := by simp; omega
    have n40 : (40 : Int) < (t : Int) := by omega
    have HF := Lib.hid (show R = ([], 3) by rw [HRH.out, if_pos h40])
    clear h40
    go_wp2_with fail
    refine (HSZ.out _ (HW.out _ HB2.out)).mono ?_
    rintro e w3 ⟨rfl, hb3⟩
    have HB3 := Lib.hid (HW.out _ (HB2.out.trans (hb3.mono HB2.out.size)))
    clear hb3
    go_wp2_with fail
    go_ret2
    exact ⟨by rw [HF.out]; rfl, HB3.out⟩
  have d40 : decide ((40 : Int) < (t : Int)) = false := by simp; omega
  have n40 : ¬ (40 : Int) < (t : Int) := by omega
  have HR1 := Lib.hid (show R = if 65535 < totI p then ([], 3) else (headI p ++ p.pay, 0) by rw [HRH.out, if_neg h40])
  have HOB2 := Lib.hid (HOB.out (by omega))
  clear HRH HOB
  have hOs : (wrP l).length ≤ 40 := by
    have h1 := (wrP_len l).1
    have h2 := need_pad (show (wrOs l).length ≤ 40 by have := HTT.out; omega)
    omega
  have hO4 := (wrP_len l).2
  clear h40
  obtain ⟨O, hO⟩ : ∃ O, O = str (wrP l) := ⟨_, rfl⟩
  rw [← hO] at HOB2
  have hOsz : O.size = (wrP l).length := by rw [hO, str_size]
  have hO40 : O.size ≤ 40 := by omega
  have hO44 : O.size % 4 = 0 := by omega
  have HOO := Lib.hid hO
  obtain ⟨hl20, hhl⟩ : ∃ h, h = 20 + O.size := ⟨_, rfl⟩
  obtain ⟨tt, htt⟩ : ∃ t, t = hl20 + P.size := ⟨_, rfl⟩
  have k20 : (20 : Int) + (O.size : Int) = (hl20 : Int) := by omega
  have ktt : (hl20 : Int) + (P.size : Int) = (tt : Int) := by omega
  have hlI20 : hlI p = hl20 := by unfold hlI; rw [HOP.out.1, hhl, hOsz]
  have htotI : totI p = tt := by unfold totI; rw [hlI20, HOP.out.2, htt, HPS.out]
  have hh60 : hl20 ≤ 60 := by omega
  have hh4 : hl20 % 4 = 0 := by omega
  have htt6 : tt ≤ 1000060 := by omega
  have HHI := Lib.hid (And.intro hlI20 htotI)
  have HR2 := Lib.hid (show R = if 65535 < tt then ([], 3) else (headI p ++ p.pay, 0) by rw [HR1.out, htotI])
  clear hO hOs hO4 hOsz hhl htt hlI20 htotI HR1
  go_wp2_with fail
  refine (HSZ.out _ (HW.out _ HB2.out)).mono ?_
  rintro e w3 ⟨rfl, hb3⟩
  have HB3 := Lib.hid (HB2.out.trans (hb3.mono HB2.out.size))
  clear hb3 x13
  have x13 := HV.out w3 HB3.out 13 (.slice A n c) rfl
  go_wp2_with fail
  refine (HOB2.out _ (HW.out _ HB3.out)).mono ?_
  rintro e w4 ⟨rfl, hb4⟩
  have HB4 := Lib.hid (HB3.out.trans (hb4.mono HB3.out.size))
  clear hb4 x13 HB2 HB3 HOB2 HSZ
  have x14 := HV.out w4 HB4.out 14 (.string P) rfl
  by_cases h65 : 65535 < tt
  · have d65 : decide ((65535 : Int) < (tt : Int)) = true := by simp; omega
    have n65 : (65535 : Int) < (tt : Int) := by omega
    have HF := Lib.hid (show R = ([], 3) by rw [HR2.out, if_pos h65])
    clear h65
    go_wp2_with fail
    go_ret2
    exact ⟨by rw [HF.out]; rfl, HW.out _ HB4.out⟩
  have d65 : decide ((65535 : Int) < (tt : Int)) = false := by simp; omega
  have n65 : ¬ (65535 : Int) < (tt : Int) := by omega
  have HF := Lib.hid (show R = (headI p ++ p.pay, 0) by rw [HR2.out, if_neg h65])
  have htt16 : tt ≤ 65535 := by omega
  clear h65 HR2
  obtain ⟨hq, hhq⟩ : ∃ h, h = hl20 / 4 := ⟨_, rfl⟩
  have hqi : (hl20 : Int) / 4 = (hq : Int) := by omega
  have hqt : (hl20 : Int).tdiv 4 = (hq : Int) := by rw [Int.tdiv_eq_ediv_of_nonneg (by omega)]; exact hqi
  obtain ⟨h64, hh64⟩ : ∃ h, h = 64 + hq := ⟨_, rfl⟩
  have hor : bits .or .i64 64 (hq : Int) = (h64 : Int) := by rw [hh64]; exact or_pow_left hq 6 (by omega) (by omega)
  have h64l : h64 ≤ 79 := by omega
  have HH64 := Lib.hid (show h64 = 64 + hl20 / 4 by rw [hh64, hhq])
  clear hh64 hhq
  have wq1 : IntKind.i64.wrap (hq : Int) = (hq : Int) := IntWalk.i64_in _ (by omega)
  have HPH := Lib.hid (fun (W : World) => pputB_any 1 h64 (h64 : Int) 1 rfl rfl (by decide) (by decide) (by omega) (by omega) W)
  have HPT := Lib.hid (fun (W : World) => pputB_any 1 T (T : Int) 1 rfl rfl (by decide) (by decide) (by omega) (by omega) W)
  have HPN := Lib.hid (fun (W : World) => pputB_any 2 tt (tt : Int) 2 rfl rfl (by decide) (by decide) (by omega) (by omega) W)
  have HPI := Lib.hid (fun (W : World) => pputB_any 2 I (I : Int) 2 rfl rfl (by decide) (by decide) (by omega) (by omega) W)
  have HPF := Lib.hid (fun (W : World) => pputB_any 2 fl (fl : Int) 2 rfl rfl (by decide) (by decide) (by omega) (by omega) W)
  have HPA := Lib.hid (fun (W : World) => pputB_any 1 L (L : Int) 1 rfl rfl (by decide) (by decide) (by omega) (by omega) W)
  have HPX := Lib.hid (fun (W : World) => pputB_any 1 X (X : Int) 1 rfl rfl (by decide) (by decide) (by omega) (by omega) W)
  have HSA := Lib.hid (fun (W : World) => qbytes4_any sl W hsl)
  have HDA := Lib.hid (fun (W : World) => qbytes4_any dl W hdl)
  obtain ⟨A1, hA1⟩ : ∃ A, A = str (beL 1 h64) := ⟨_, rfl⟩
  rw [← hA1] at HPH
  have sA1 : A1.size = 1 := by rw [hA1, str_size, beL_len]
  have HA1 := Lib.hid hA1
  clear hA1
  obtain ⟨A2, hA2⟩ : ∃ A, A = str (beL 1 T) := ⟨_, rfl⟩
  rw [← hA2] at HPT
  have sA2 : A2.size = 1 := by rw [hA2, str_size, beL_len]
  have HA2 := Lib.hid hA2
  clear hA2
  obtain ⟨A3, hA3⟩ : ∃ A, A = str (beL 2 tt) := ⟨_, rfl⟩
  rw [← hA3] at HPN
  have sA3 : A3.size = 2 := by rw [hA3, str_size, beL_len]
  have HA3 := Lib.hid hA3
  clear hA3
  obtain ⟨B1, hB1⟩ : ∃ A, A = str (beL 2 I) := ⟨_, rfl⟩
  rw [← hB1] at HPI
  have sB1 : B1.size = 2 := by rw [hB1, str_size, beL_len]
  have HB1' := Lib.hid hB1
  clear hB1
  obtain ⟨B2, hB2⟩ : ∃ A, A = str (beL 2 fl) := ⟨_, rfl⟩
  rw [← hB2] at HPF
  have sB2 : B2.size = 2 := by rw [hB2, str_size, beL_len]
  have HB2' := Lib.hid hB2
  clear hB2
  obtain ⟨B3, hB3⟩ : ∃ A, A = str (beL 1 L) := ⟨_, rfl⟩
  rw [← hB3] at HPA
  have sB3 : B3.size = 1 := by rw [hB3, str_size, beL_len]
  have HB3' := Lib.hid hB3
  clear hB3
  obtain ⟨B4, hB4⟩ : ∃ A, A = str (beL 1 X) := ⟨_, rfl⟩
  rw [← hB4] at HPX
  have sB4 : B4.size = 1 := by rw [hB4, str_size, beL_len]
  have HB4' := Lib.hid hB4
  clear hB4
  obtain ⟨C1, hC1⟩ : ∃ A, A = str (beL 4 sl) := ⟨_, rfl⟩
  rw [← hC1] at HSA
  have sC1 : C1.size = 4 := by rw [hC1, str_size, beL_len]
  have HC1 := Lib.hid hC1
  clear hC1
  obtain ⟨C2, hC2⟩ : ∃ A, A = str (beL 4 dl) := ⟨_, rfl⟩
  rw [← hC2] at HDA
  have sC2 : C2.size = 4 := by rw [hC2, str_size, beL_len]
  have HC2 := Lib.hid hC2
  clear hC2
  have u0 : (9223372036854775807 < A1.size + A2.size) = False := by simp only [eq_iff_iff, iff_false]; omega
  have u1 : (9223372036854775807 < A1.size + A2.size + A3.size) = False := by simp only [eq_iff_iff, iff_false]; omega
  have u1a : (9223372036854775807 < (A1 ++ A2).size + A3.size) = False := by simp only [eq_iff_iff, iff_false, ByteArray.size_append]; omega
  go_upto_region 10 with fail
  clear x14 k20 ktt
  refine wp_region_pick (fun w' => Below w4.heap.size w4 w') (by kernel_rfl) (by kernel_rfl) (Below.refl _ _) ⟨rfl, rfl, rfl, Nat.le_refl _, fun _ _ => rfl⟩ (fun pw hp hq => ?_)
  have y0 : ∀ u, (pw u).cell? ⟨g, 0, none⟩ = some (.int .i64 (T : Int)) := fun u => HV.out _ (HB4.out.trans ((hp u).mono HB4.out.size)) 0 _ rfl
  have HP := Lib.hid hp
  have HQ := Lib.hid hq
  clear hp hq
  repeat (go_big_quiet_step ((first | with_reducible exact Calls.pick_of HQ.out (fun W' hb => (HP.out _).trans (hb.mono (HP.out _).size)) (HPH.out _) | with_reducible exact Calls.pick_of HQ.out (fun W' hb => (HP.out _).trans (hb.mono (HP.out _).size)) (HPT.out _) | with_reducible exact Calls.pick_of HQ.out (fun W' hb => (HP.out _).trans (hb.mono (HP.out _).size)) (HPN.out _))))
  refine wpQuiet_nil ?_
  rintro _ ⟨u, rfl⟩
  have HB5 := Lib.hid (HB4.out.trans ((HP.out u).mono HB4.out.size))
  generalize pw u = w5 at *
  clear HP HQ y0 HB4 HPH HPT HPN u0 u1 u1a
  obtain ⟨G1, hG1⟩ : ∃ G, G = A1 ++ A2 ++ A3 := ⟨_, rfl⟩
  have sG1 : G1.size = 4 := by rw [hG1, ByteArray.size_append, ByteArray.size_append]; omega
  rw [← hG1]
  have HG1 := Lib.hid hG1
  clear hG1
  have u0 : (9223372036854775807 < B1.size + B2.size) = False := by simp only [eq_iff_iff, iff_false]; omega
  have u1 : (9223372036854775807 < B1.size + B2.size + B3.size) = False := by simp only [eq_iff_iff, iff_false]; omega
  have u1a : (9223372036854775807 < (B1 ++ B2).size + B3.size) = False := by simp only [eq_iff_iff, iff_false, ByteArray.size_append]; omega
  have u2 : (9223372036854775807 < B1.size + B2.size + B3.size + B4.size) = False := by simp only [eq_iff_iff, iff_false]; omega
  have u2a : (9223372036854775807 < (B1 ++ B2 ++ B3).size + B4.size) = False := by simp only [eq_iff_iff, iff_false, ByteArray.size_append]; omega
  have u3 : (9223372036854775807 < G1.size + (B1.size + B2.size + B3.size + B4.size)) = False := by simp only [eq_iff_iff, iff_false]; omega
  have u3a : (9223372036854775807 < G1.size + (B1 ++ B2 ++ B3 ++ B4).size) = False := by simp only [eq_iff_iff, iff_false, ByteArray.size_append]; omega
  have u3b : (9223372036854775807 < G1.size + (B1.size + B2.size + B3.size + B4.size)) = False := by simp only [eq_iff_iff, iff_false]; omega
  go_upto_region 11 with fail
  refine wp_region_pick (fun w' => Below w5.heap.size w5 w') (by kernel_rfl) (by kernel_rfl) (Below.refl _ _) ⟨rfl, rfl, rfl, Nat.le_refl _, fun _ _ => rfl⟩ (fun pw hp hq => ?_)
  have y0 : ∀ u, (pw u).cell? ⟨g, 0, none⟩ = some (.int .i64 (T : Int)) := fun u => HV.out _ (HB5.out.trans ((hp u).mono HB5.out.size)) 0 _ rfl
  have y1 : ∀ u, (pw u).cell? ⟨g, 1, none⟩ = some (.int .i64 (I : Int)) := fun u => HV.out _ (HB5.out.trans ((hp u).mono HB5.out.size)) 1 _ rfl
  have y2 : ∀ u, (pw u).cell? ⟨g, 2, none⟩ = some (.int .i64 (L : Int)) := fun u => HV.out _ (HB5.out.trans ((hp u).mono HB5.out.size)) 2 _ rfl
  have y3 : ∀ u, (pw u).cell? ⟨g, 3, none⟩ = some (.int .i64 (X : Int)) := fun u => HV.out _ (HB5.out.trans ((hp u).mono HB5.out.size)) 3 _ rfl
  have y4 : ∀ u, (pw u).cell? ⟨g, 4, none⟩ = some (.bool dont) := fun u => HV.out _ (HB5.out.trans ((hp u).mono HB5.out.size)) 4 _ rfl
  have y5 : ∀ u, (pw u).cell? ⟨g, 5, none⟩ = some (.bool more) := fun u => HV.out _ (HB5.out.trans ((hp u).mono HB5.out.size)) 5 _ rfl
  have y6 : ∀ u, (pw u).cell? ⟨g, 6, none⟩ = some (.int .i64 (F : Int)) := fun u => HV.out _ (HB5.out.trans ((hp u).mono HB5.out.size)) 6 _ rfl
  have y7 : ∀ u, (pw u).cell? ⟨g, 7, none⟩ = some (.bool false) := fun u => HV.out _ (HB5.out.trans ((hp u).mono HB5.out.size)) 7 _ rfl
  have y8 : ∀ u, (pw u).cell? ⟨g, 8, none⟩ = some (.int .u64 0) := fun u => HV.out _ (HB5.out.trans ((hp u).mono HB5.out.size)) 8 _ rfl
  have y9 : ∀ u, (pw u).cell? ⟨g, 9, none⟩ = some (.int .u64 (sl : Int)) := fun u => HV.out _ (HB5.out.trans ((hp u).mono HB5.out.size)) 9 _ rfl
  have y10 : ∀ u, (pw u).cell? ⟨g, 10, none⟩ = some (.bool false) := fun u => HV.out _ (HB5.out.trans ((hp u).mono HB5.out.size)) 10 _ rfl
  have y11 : ∀ u, (pw u).cell? ⟨g, 11, none⟩ = some (.int .u64 0) := fun u => HV.out _ (HB5.out.trans ((hp u).mono HB5.out.size)) 11 _ rfl
  have y12 : ∀ u, (pw u).cell? ⟨g, 12, none⟩ = some (.int .u64 (dl : Int)) := fun u => HV.out _ (HB5.out.trans ((hp u).mono HB5.out.size)) 12 _ rfl
  have y13 : ∀ u, (pw u).cell? ⟨g, 13, none⟩ = some (.slice A n c) := fun u => HV.out _ (HB5.out.trans ((hp u).mono HB5.out.size)) 13 _ rfl
  have y14 : ∀ u, (pw u).cell? ⟨g, 14, none⟩ = some (.string P) := fun u => HV.out _ (HB5.out.trans ((hp u).mono HB5.out.size)) 14 _ rfl
  have HP := Lib.hid hp
  have HQ := Lib.hid hq
  clear hp hq
  repeat (go_big_quiet_step ((first | with_reducible exact Calls.pick_of HQ.out (fun W' hb => (HP.out _).trans (hb.mono (HP.out _).size)) (HPI.out _) | with_reducible exact Calls.pick_of HQ.out (fun W' hb => (HP.out _).trans (hb.mono (HP.out _).size)) (HPL.out _) | with_reducible exact Calls.pick_of HQ.out (fun W' hb => (HP.out _).trans (hb.mono (HP.out _).size)) (HPF.out _) | with_reducible exact Calls.pick_of HQ.out (fun W' hb => (HP.out _).trans (hb.mono (HP.out _).size)) (HPA.out _) | with_reducible exact Calls.pick_of HQ.out (fun W' hb => (HP.out _).trans (hb.mono (HP.out _).size)) (HPX.out _))))
  refine wpQuiet_nil ?_
  rintro _ ⟨u, rfl⟩
  have HB6 := Lib.hid (HB5.out.trans ((HP.out u).mono HB5.out.size))
  generalize pw u = w6 at *
  clear HP HQ y0 y1 y2 y3 y4 y5 y6 y7 y8 y9 y10 y11 y12 y13 y14 HB5 HPI HPL HPF HPA HPX u0 u1 u1a u2 u2a u3 u3a u3b
  obtain ⟨G2, hG2⟩ : ∃ G, G = G1 ++ (B1 ++ B2 ++ B3 ++ B4) := ⟨_, rfl⟩
  have sG2 : G2.size = 10 := by rw [hG2]; simp only [ByteArray.size_append]; omega
  rw [← hG2]
  have HG2 := Lib.hid hG2
  clear hG2
  have u0 : (9223372036854775807 < C1.size + C2.size) = False := by simp only [eq_iff_iff, iff_false]; omega
  have u1 : (9223372036854775807 < C1.size + C2.size + O.size) = False := by simp only [eq_iff_iff, iff_false]; omega
  have u1a : (9223372036854775807 < (C1 ++ C2).size + O.size) = False := by simp only [eq_iff_iff, iff_false, ByteArray.size_append]; omega
  go_upto_region 12 with fail
  refine wp_region_pick (fun w' => Below w6.heap.size w6 w') (by kernel_rfl) (by kernel_rfl) (Below.refl _ _) ⟨rfl, rfl, rfl, Nat.le_refl _, fun _ _ => rfl⟩ (fun pw hp hq => ?_)
  have y7 : ∀ u, (pw u).cell? ⟨g, 7, none⟩ = some (.bool false) := fun u => HV.out _ (HB6.out.trans ((hp u).mono HB6.out.size)) 7 _ rfl
  have y8 : ∀ u, (pw u).cell? ⟨g, 8, none⟩ = some (.int .u64 0) := fun u => HV.out _ (HB6.out.trans ((hp u).mono HB6.out.size)) 8 _ rfl
  have y9 : ∀ u, (pw u).cell? ⟨g, 9, none⟩ = some (.int .u64 (sl : Int)) := fun u => HV.out _ (HB6.out.trans ((hp u).mono HB6.out.size)) 9 _ rfl
  have y10 : ∀ u, (pw u).cell? ⟨g, 10, none⟩ = some (.bool false) := fun u => HV.out _ (HB6.out.trans ((hp u).mono HB6.out.size)) 10 _ rfl
  have y11 : ∀ u, (pw u).cell? ⟨g, 11, none⟩ = some (.int .u64 0) := fun u => HV.out _ (HB6.out.trans ((hp u).mono HB6.out.size)) 11 _ rfl
  have y12 : ∀ u, (pw u).cell? ⟨g, 12, none⟩ = some (.int .u64 (dl : Int)) := fun u => HV.out _ (HB6.out.trans ((hp u).mono HB6.out.size)) 12 _ rfl
  have HP := Lib.hid hp
  have HQ := Lib.hid hq
  clear hp hq
  repeat (go_big_quiet_step ((first | with_reducible exact Calls.pick_of HQ.out (fun W' hb => (HP.out _).trans (hb.mono (HP.out _).size)) (HSA.out _) | with_reducible exact Calls.pick_of HQ.out (fun W' hb => (HP.out _).trans (hb.mono (HP.out _).size)) (HDA.out _))))
  refine wpQuiet_nil ?_
  rintro _ ⟨u, rfl⟩
  have HB7 := Lib.hid (HB6.out.trans ((HP.out u).mono HB6.out.size))
  generalize pw u = w7 at *
  clear HP HQ y7 y8 y9 y10 y11 y12 HB6 HSA HDA u0 u1 u1a
  obtain ⟨G3, hG3⟩ : ∃ G, G = C1 ++ C2 ++ O := ⟨_, rfl⟩
  have sG3 : G3.size ≤ 48 := by rw [hG3]; simp only [ByteArray.size_append]; omega
  rw [← hG3]
  have HPRE := Lib.hid (show G2 = str (preI p) by
    rw [HG2.out, HG1.out, HA1.out, HA2.out, HA3.out, HB1'.out, HB2'.out, HB3'.out, HB4'.out, beL_one, beL_one, beL_one, beL_one]
    unfold preI
    rw [HHI.out.1, HHI.out.2, HFL.out, HPE.out]
    simp only [Int.toNat_natCast, str_append]
    rw [← HH64.out]
    simp)
  have HPOS := Lib.hid (show G3 = str (postI p) by
    rw [hG3, HC1.out, HC2.out, HOO.out]
    unfold postI
    rw [HPE.out]
    simp only [str_append, List.append_assoc])
  clear hG3
  obtain ⟨sm, hsm⟩ : ∃ s, s = sumI p := ⟨_, rfl⟩
  have hsm16 : sm ≤ 65535 := by rw [hsm]; exact csum_le _
  have HSUM := Lib.hid (fun (W : World) => show Calls Try.prog 23 #[.string (G2 ++ G3)] W fun e w' => e = .returned (.int .i64 (sm : Int)) ∧ W = w' from by
    have e1 : G2 ++ G3 = str (preI p ++ postI p) := by rw [HPRE.out, HPOS.out, str_append]
    have := sum_any (G2 ++ G3) W (by rw [ByteArray.size_append]; omega)
    rw [e1, str_toList, csum_skip (by rw [preI_len])] at this
    rw [e1, hsm]
    exact this)
  have HSMI := Lib.hid hsm
  clear hsm
  have u0 : (9223372036854775807 < G2.size + G3.size) = False := by simp only [eq_iff_iff, iff_false]; omega
  go_wp2_with fail
  refine (HSUM.out _).mono ?_
  rintro e w8 ⟨rfl, rfl⟩
  clear HSUM u0
  have HPS2 := Lib.hid (fun (W : World) => pputB_any 2 sm (sm : Int) 2 rfl rfl (by decide) (by decide) (by omega) (by omega) W)
  obtain ⟨E1, hE1⟩ : ∃ A, A = str (beL 2 sm) := ⟨_, rfl⟩
  rw [← hE1] at HPS2
  have sE1 : E1.size = 2 := by rw [hE1, str_size, beL_len]
  have HE1 := Lib.hid hE1
  clear hE1
  have u0 : (9223372036854775807 < G2.size + E1.size) = False := by simp only [eq_iff_iff, iff_false]; omega
  have u1 : (9223372036854775807 < G2.size + E1.size + G3.size) = False := by simp only [eq_iff_iff, iff_false]; omega
  have u1a : (9223372036854775807 < (G2 ++ E1).size + G3.size) = False := by simp only [eq_iff_iff, iff_false, ByteArray.size_append]; omega
  have u2 : (9223372036854775807 < G2.size + E1.size + G3.size + P.size) = False := by simp only [eq_iff_iff, iff_false]; omega
  have u2a : (9223372036854775807 < (G2 ++ E1 ++ G3).size + P.size) = False := by simp only [eq_iff_iff, iff_false, ByteArray.size_append]; omega
  go_upto_region 14 with fail
  refine wp_region_pick (fun w' => Below w7.heap.size w7 w') (by kernel_rfl) (by kernel_rfl) (Below.refl _ _) ⟨rfl, rfl, rfl, Nat.le_refl _, fun _ _ => rfl⟩ (fun pw hp hq => ?_)
  have y14 : ∀ u, (pw u).cell? ⟨g, 14, none⟩ = some (.string P) := fun u => HV.out _ (HB7.out.trans ((hp u).mono HB7.out.size)) 14 _ rfl
  have HP := Lib.hid hp
  have HQ := Lib.hid hq
  clear hp hq
  repeat (go_big_quiet_step ((first | with_reducible exact Calls.pick_of HQ.out (fun W' hb => (HP.out _).trans (hb.mono (HP.out _).size)) (HPS2.out _))))
  refine wpQuiet_nil ?_
  rintro _ ⟨u, rfl⟩
  have HB9 := Lib.hid (HB7.out.trans ((HP.out u).mono HB7.out.size))
  generalize pw u = w9 at *
  clear HP HQ y14 HB7 HPS2 u0 u1 u1a u2 u2a
  have HFIN := Lib.hid (show G2 ++ E1 ++ G3 ++ P = str (headI p ++ p.pay) by
    rw [HPRE.out, HE1.out, HPOS.out, HPP.out, HOP.out.2, HSMI.out]
    unfold headI
    simp only [str_append, List.append_assoc])
  go_wp2_with fail
  go_ret2
  exact ⟨by rw [HF.out, ← HFIN.out]; rfl, HW.out _ HB9.out⟩
end Go.Proofs.Ytimilcjlogcfhaa
