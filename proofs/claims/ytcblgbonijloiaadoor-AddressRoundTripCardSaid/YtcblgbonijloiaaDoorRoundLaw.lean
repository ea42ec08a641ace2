/- AddressRoundTrip holds: for every address and every number of bits the law about reading what was printed returns true and leaves memory as it was; the library's tables are tied to the program's text. No other condition. -/
import Derived.Test.YtcblgbonijloiaaDoorAwk06c
import Derived.Test.YtcblgbonijloiaaDoorCards
namespace Go.Proofs.YtcblgbonijloiaaDoor.addressRoundTrip
open Go.ChangeShapes Go.WideShapes Go.ChangeAt Go.RowKit
open Go.Joins
set_option linter.unusedVariables false

theorem own : ownKnob Tryd.prog.godebug = none := by kernel_rfl
theorem laidOut : laidOutB Tryd.prog = true := by kernel_rfl
set_option maxHeartbeats 4000000 in
set_option maxRecDepth 20000 in
theorem inv (va : Bool) (xa za : Nat) (n : Int) (w : World) (ht : TW w) (hxa : xa < 18446744073709551616) (hza : za < 18446744073709551616) (hv : vldA va xa za = false) :
    Calls Tryd.prog 7 #[.agg #[.bool va, .int .u64 xa, .int .u64 za], .int .i64 n] w fun e w' => e = .returned (.bool true) ∧ Below w.heap.size w w' := by
  have hm := addr_guard
  have hm2 := pfx_guard
  have HL := Lib.hid (fun W t => lives_any W t)
  have HV := Lib.hid (fun W => qvalid_any va xa za W)
  rw [hv] at HV
  obtain ⟨W0, hW0⟩ : ∃ W, W = w.alloc (.cells #[.bool va, .int .u64 xa, .int .u64 za] 25) := ⟨_, rfl⟩
  have HB0 := Lib.hid (show Below w.heap.size w W0 by rw [hW0]; exact below_alloc6 w _)
  have HT0 := Lib.hid (show TW W0 by rw [hW0]; exact ht.kept (below_alloc6 w _))
  have HE0 := Lib.hid (show AB W0 w.heap.size va xa za by rw [hW0]; exact ab_new w va xa za)
  go_enter Tryd.func7, Tryd.ntmps7
  go_wp2_with fail
  rw [← hW0]
  clear hW0
  refine (HL.out _ HT0.out).mono ?_
  rintro e w1 ⟨rfl, hb⟩
  have HE1 := Lib.hid (show AB w1 w.heap.size va xa za from HE0.out.kept hb HE0.out.lt)
  have HB1 := Lib.hid (HB0.out.trans (hb.mono HB0.out.size))
  have HT1 := Lib.hid (HT0.out.kept hb)
  clear hb HE0 HB0 HT0
  have f0_0 := HE1.out.c0
  have f0_1 := HE1.out.c1
  have f0_2 := HE1.out.c2
  have fl0 := HE1.out.lt
  go_wp2_with fail
  clear f0_0 f0_1 f0_2 fl0
  refine (HV.out _).mono ?_
  rintro e w2 ⟨rfl, hb⟩
  have HE2 := Lib.hid (show AB w2 w.heap.size va xa za from HE1.out.kept hb HE1.out.lt)
  have HB2 := Lib.hid (HB1.out.trans (hb.mono HB1.out.size))
  have HT2 := Lib.hid (HT1.out.kept hb)
  clear hb HE1 HB1 HT1
  have f0_0 := HE2.out.c0
  have f0_1 := HE2.out.c1
  have f0_2 := HE2.out.c2
  have fl0 := HE2.out.lt
  go_wp2_with fail
  go_ret
  exact ⟨rfl, HB2.out⟩
set_option maxHeartbeats 4000000 in
set_option maxRecDepth 20000 in
theorem bad (va : Bool) (xa za : Nat) (n : Int) (w : World) (ht : TW w) (hxa : xa < 18446744073709551616) (hza : za < 18446744073709551616) (hv : vldA va xa za = true) (hn : n < 0 ∨ (width va : Int) < n) :
    Calls Tryd.prog 7 #[.agg #[.bool va, .int .u64 xa, .int .u64 za], .int .i64 n] w fun e w' => e = .returned (.bool true) ∧ Below w.heap.size w w' := by
  have hm := addr_guard
  have hm2 := pfx_guard
  have HL := Lib.hid (fun W t => lives_any W t)
  have HV := Lib.hid (fun W => qvalid_any va xa za W)
  rw [hv] at HV
  obtain ⟨W0, hW0⟩ : ∃ W, W = w.alloc (.cells #[.bool va, .int .u64 xa, .int .u64 za] 25) := ⟨_, rfl⟩
  have HB0 := Lib.hid (show Below w.heap.size w W0 by rw [hW0]; exact below_alloc6 w _)
  have HT0 := Lib.hid (show TW W0 by rw [hW0]; exact ht.kept (below_alloc6 w _))
  have HE0 := Lib.hid (show AB W0 w.heap.size va xa za by rw [hW0]; exact ab_new w va xa za)
  have HF := Lib.hid (fun W t => qfmt_any va xa za W hxa hza hv t)
  have HP := Lib.hid (fun W t => qparse_any (str (fmtA va xa za)) W (by rw [str_size]; have := fmtA_len hxa hza hv; omega) t)
  rw [str_toList, pRes_fmtA hxa hza hv] at HP
  have HBY := Lib.hid (fun W => qbytes_any va xa za W hxa hza)
  have HFB := Lib.hid (fun W => qfrom_any (str (adrB va xa za)) W (by rw [str_size, adrB_length]; split <;> omega))
  rw [str_toList, fb_adrB hxa hza hv] at HFB
  simp only [adRes] at HFB
  have qm := fun W => addr_neq va va xa xa za za W
  simp only [beq_self_eq_true, Bool.and_self, Bool.not_true] at qm
  generalize str (fmtA va xa za) = S1 at *
  generalize str (adrB va xa za) = S2 at *
  have HM := Lib.hid (fun W => qmake_bad va xa za n W hn)
  have qp := fun W => pfx_eql false false 0 0 0 0 0 0 W
  simp only [beq_self_eq_true, Bool.and_self] at qp
  clear hn hv hxa hza ht
  go_enter Tryd.func7, Tryd.ntmps7
  go_wp2_with fail
  rw [← hW0]
  clear hW0
  refine (HL.out _ HT0.out).mono ?_
  rintro e w1 ⟨rfl, hb⟩
  have HE1 := Lib.hid (show AB w1 w.heap.size va xa za from HE0.out.kept hb HE0.out.lt)
  have HB1 := Lib.hid (HB0.out.trans (hb.mono HB0.out.size))
  have HT1 := Lib.hid (HT0.out.kept hb)
  clear hb HE0 HB0 HT0
  have f0_0 := HE1.out.c0
  have f0_1 := HE1.out.c1
  have f0_2 := HE1.out.c2
  have fl0 := HE1.out.lt
  go_wp2_with fail
  clear f0_0 f0_1 f0_2 fl0
  refine (HV.out _).mono ?_
  rintro e w2 ⟨rfl, hb⟩
  have HE2 := Lib.hid (show AB w2 w.heap.size va xa za from HE1.out.kept hb HE1.out.lt)
  have HB2 := Lib.hid (HB1.out.trans (hb.mono HB1.out.size))
  have HT2 := Lib.hid (HT1.out.kept hb)
  clear hb HE1 HB1 HT1
  have f0_0 := HE2.out.c0
  have f0_1 := HE2.out.c1
  have f0_2 := HE2.out.c2
  have fl0 := HE2.out.lt
  go_wp2_with fail
  clear f0_0 f0_1 f0_2 fl0
  refine (HF.out _ HT2.out).mono ?_
  rintro e w3 ⟨rfl, hb⟩
  have HE3 := Lib.hid (show AB w3 w.heap.size va xa za from HE2.out.kept hb HE2.out.lt)
  have HB3 := Lib.hid (HB2.out.trans (hb.mono HB2.out.size))
  have HT3 := Lib.hid (HT2.out.kept hb)
  clear hb HE2 HB2 HT2
  have f0_0 := HE3.out.c0
  have f0_1 := HE3.out.c1
  have f0_2 := HE3.out.c2
  have fl0 := HE3.out.lt
  go_wp2_with fail
  clear f0_0 f0_1 f0_2 fl0
  refine (HP.out _ HT3.out).mono ?_
  rintro e w4 ⟨rfl, hb⟩
  obtain ⟨gb, hgb⟩ : ∃ g, g = w4.heap.size := ⟨_, rfl⟩
  obtain ⟨W4, hW4⟩ : ∃ W, W = w4.alloc (.cells #[.bool va, .int .u64 xa, .int .u64 za] 25) := ⟨_, rfl⟩
  have HE4 := Lib.hid (show AB W4 w.heap.size va xa za ∧ AB W4 gb va xa za from by rw [hW4, hgb]; exact ⟨(HE3.out.kept hb HE3.out.lt).al _ , ab_new w4 va xa za⟩)
  have HB4 := Lib.hid (show Below w.heap.size w W4 by rw [hW4]; exact (HB3.out.trans (hb.mono HB3.out.size)).trans ((below_alloc6 w4 _).mono (HB3.out.trans (hb.mono HB3.out.size)).size))
  have HT4 := Lib.hid (show TW W4 by rw [hW4]; exact (HT3.out.kept hb).al _)
  have hx := HE3.out.kept hb HE3.out.lt
  have f0_0 := hx.c0
  have f0_1 := hx.c1
  have f0_2 := hx.c2
  have fl0 := hx.lt
  clear hx
  clear hb HE3 HB3 HT3
  go_wp2_with fail
  first | rw [← hW4, ← hgb] | rw [← hW4] | skip
  clear hW4 hgb
  clear f0_0 f0_1 f0_2 fl0
  refine (HBY.out _).mono ?_
  rintro e w5 ⟨rfl, hb⟩
  have HE5 := Lib.hid (show AB w5 w.heap.size va xa za ∧ AB w5 gb va xa za from ⟨HE4.out.1.kept hb HE4.out.1.lt , HE4.out.2.kept hb HE4.out.2.lt⟩)
  have HB5 := Lib.hid (HB4.out.trans (hb.mono HB4.out.size))
  have HT5 := Lib.hid (HT4.out.kept hb)
  clear hb HE4 HB4 HT4
  have f0_0 := HE5.out.1.c0
  have f0_1 := HE5.out.1.c1
  have f0_2 := HE5.out.1.c2
  have fl0 := HE5.out.1.lt
  have f1_0 := HE5.out.2.c0
  have f1_1 := HE5.out.2.c1
  have f1_2 := HE5.out.2.c2
  have fl1 := HE5.out.2.lt
  go_wp2_with fail
  clear f0_0 f0_1 f0_2 fl0 f1_0 f1_1 f1_2 fl1
  refine (HFB.out _).mono ?_
  rintro e w6 ⟨rfl, hb⟩
  obtain ⟨gc, hgc⟩ : ∃ g, g = w6.heap.size := ⟨_, rfl⟩
  obtain ⟨W6, hW6⟩ : ∃ W, W = w6.alloc (.cells #[.bool va, .int .u64 xa, .int .u64 za] 25) := ⟨_, rfl⟩
  have HE6 := Lib.hid (show AB W6 w.heap.size va xa za ∧ AB W6 gb va xa za ∧ AB W6 gc va xa za from by rw [hW6, hgc]; exact ⟨(HE5.out.1.kept hb HE5.out.1.lt).al _ , (HE5.out.2.kept hb HE5.out.2.lt).al _ , ab_new w6 va xa za⟩)
  have HB6 := Lib.hid (show Below w.heap.size w W6 by rw [hW6]; exact (HB5.out.trans (hb.mono HB5.out.size)).trans ((below_alloc6 w6 _).mono (HB5.out.trans (hb.mono HB5.out.size)).size))
  have HT6 := Lib.hid (show TW W6 by rw [hW6]; exact (HT5.out.kept hb).al _)
  have hx := HE5.out.1.kept hb HE5.out.1.lt
  have f0_0 := hx.c0
  have f0_1 := hx.c1
  have f0_2 := hx.c2
  have fl0 := hx.lt
  clear hx
  have hx := HE5.out.2.kept hb HE5.out.2.lt
  have f1_0 := hx.c0
  have f1_1 := hx.c1
  have f1_2 := hx.c2
  have fl1 := hx.lt
  clear hx
  clear hb HE5 HB5 HT5
  go_wp2_with fail
  first | rw [← hW6, ← hgc] | rw [← hW6] | skip
  clear hW6 hgc
  clear f0_0 f0_1 f0_2 fl0 f1_0 f1_1 f1_2 fl1
  refine (HM.out _).mono ?_
  rintro e w7 ⟨rfl, hb⟩
  obtain ⟨gp, hgp⟩ : ∃ g, g = w7.heap.size := ⟨_, rfl⟩
  obtain ⟨W7, hW7⟩ : ∃ W, W = w7.alloc (.cells #[.bool false, .int .u64 0, .int .u64 0, .int .i64 0] 30) := ⟨_, rfl⟩
  have HE7 := Lib.hid (show AB W7 w.heap.size va xa za ∧ AB W7 gb va xa za ∧ AB W7 gc va xa za ∧ PB W7 gp false 0 0 0 from by rw [hW7, hgp]; exact ⟨(HE6.out.1.kept hb HE6.out.1.lt).al _ , (HE6.out.2.1.kept hb HE6.out.2.1.lt).al _ , (HE6.out.2.2.kept hb HE6.out.2.2.lt).al _ , pb_new w7 false 0 0 0⟩)
  have HB7 := Lib.hid (show Below w.heap.size w W7 by rw [hW7]; exact (HB6.out.trans (hb.mono HB6.out.size)).trans ((below_alloc6 w7 _).mono (HB6.out.trans (hb.mono HB6.out.size)).size))
  have HT7 := Lib.hid (show TW W7 by rw [hW7]; exact (HT6.out.kept hb).al _)
  have hx := HE6.out.1.kept hb HE6.out.1.lt
  have f0_0 := hx.c0
  have f0_1 := hx.c1
  have f0_2 := hx.c2
  have fl0 := hx.lt
  clear hx
  have hx := HE6.out.2.1.kept hb HE6.out.2.1.lt
  have f1_0 := hx.c0
  have f1_1 := hx.c1
  have f1_2 := hx.c2
  have fl1 := hx.lt
  clear hx
  have hx := HE6.out.2.2.kept hb HE6.out.2.2.lt
  have f2_0 := hx.c0
  have f2_1 := hx.c1
  have f2_2 := hx.c2
  have fl2 := hx.lt
  clear hx
  clear hb HE6 HB6 HT6
  go_wp2_with fail
  go_ret
  exact ⟨rfl, by rw [← hW7]; exact HB7.out⟩
set_option maxHeartbeats 4000000 in
set_option maxRecDepth 20000 in
theorem good (va : Bool) (xa za : Nat) (k : Nat) (w : World) (ht : TW w) (hxa : xa < 18446744073709551616) (hza : za < 18446744073709551616) (hv : vldA va xa za = true) (hk : k ≤ width va) :
    Calls Tryd.prog 7 #[.agg #[.bool va, .int .u64 xa, .int .u64 za], .int .i64 k] w fun e w' => e = .returned (.bool true) ∧ Below w.heap.size w w' := by
  have hm := addr_guard
  have hm2 := pfx_guard
  have HL := Lib.hid (fun W t => lives_any W t)
  have HV := Lib.hid (fun W => qvalid_any va xa za W)
  rw [hv] at HV
  obtain ⟨W0, hW0⟩ : ∃ W, W = w.alloc (.cells #[.bool va, .int .u64 xa, .int .u64 za] 25) := ⟨_, rfl⟩
  have HB0 := Lib.hid (show Below w.heap.size w W0 by rw [hW0]; exact below_alloc6 w _)
  have HT0 := Lib.hid (show TW W0 by rw [hW0]; exact ht.kept (below_alloc6 w _))
  have HE0 := Lib.hid (show AB W0 w.heap.size va xa za by rw [hW0]; exact ab_new w va xa za)
  have HF := Lib.hid (fun W t => qfmt_any va xa za W hxa hza hv t)
  have HP := Lib.hid (fun W t => qparse_any (str (fmtA va xa za)) W (by rw [str_size]; have := fmtA_len hxa hza hv; omega) t)
  rw [str_toList, pRes_fmtA hxa hza hv] at HP
  have HBY := Lib.hid (fun W => qbytes_any va xa za W hxa hza)
  have HFB := Lib.hid (fun W => qfrom_any (str (adrB va xa za)) W (by rw [str_size, adrB_length]; split <;> omega))
  rw [str_toList, fb_adrB hxa hza hv] at HFB
  simp only [adRes] at HFB
  have qm := fun W => addr_neq va va xa xa za za W
  simp only [beq_self_eq_true, Bool.and_self, Bool.not_true] at qm
  generalize str (fmtA va xa za) = S1 at *
  generalize str (adrB va xa za) = S2 at *
  have HM := Lib.hid (fun W => qmake_ok va xa za k W hxa hza hk)
  have hk128 : k ≤ 128 := by unfold width at hk; split at hk <;> omega
  have hml := mk_lt (v := va) (k := k) hxa hza
  have hmv := mk_valid (k := k) hv
  have HFP := Lib.hid (fun W t => qfmtp_any va (mkH va k xa) (mkL va k za) k W hml.1 hml.2 hmv hk128 t)
  have HPP := Lib.hid (fun W t => qpparse_any (str (fmtPA va (mkH va k xa) (mkL va k za) k)) W (by rw [str_size]; unfold fmtPA; rw [List.length_append, List.length_cons]; have := fmtA_len hml.1 hml.2 hmv; have := num_len (n := k) (by omega); omega) t)
  rw [str_toList, ppRes_fmtPA hml.1 hml.2 hmv hk (mk_mk va k xa za)] at HPP
  have HVP := Lib.hid (fun W => qvalidp_any va (mkH va k xa) (mkL va k za) (k : Int) W hml.1 hml.2)
  rw [mk_vldP hk hv] at HVP
  have HCO := Lib.hid (fun W => qcont_any va (mkH va k xa) (mkL va k za) (k : Int) va xa za W hxa hza)
  rw [mk_cont hk] at HCO
  generalize str (fmtPA va (mkH va k xa) (mkL va k za) k) = S3 at *
  generalize mkH va k xa = xp at *
  generalize mkL va k za = zp at *
  have qp := fun W => pfx_eql va va xp xp zp zp k k W
  simp only [beq_self_eq_true, Bool.and_self] at qp
  clear hk hk128 hml hmv hv hxa hza ht
  go_enter Tryd.func7, Tryd.ntmps7
  go_wp2_with fail
  rw [← hW0]
  clear hW0
  refine (HL.out _ HT0.out).mono ?_
  rintro e w1 ⟨rfl, hb⟩
  have HE1 := Lib.hid (show AB w1 w.heap.size va xa za from HE0.out.kept hb HE0.out.lt)
  have HB1 := Lib.hid (HB0.out.trans (hb.mono HB0.out.size))
  have HT1 := Lib.hid (HT0.out.kept hb)
  clear hb HE0 HB0 HT0
  have f0_0 := HE1.out.c0
  have f0_1 := HE1.out.c1
  have f0_2 := HE1.out.c2
  have fl0 := HE1.out.lt
  go_wp2_with fail
  clear f0_0 f0_1 f0_2 fl0
  refine (HV.out _).mono ?_
  rintro e w2 ⟨rfl, hb⟩
  have HE2 := Lib.hid (show AB w2 w.heap.size va xa za from HE1.out.kept hb HE1.out.lt)
  have HB2 := Lib.hid (HB1.out.trans (hb.mono HB1.out.size))
  have HT2 := Lib.hid (HT1.out.kept hb)
  clear hb HE1 HB1 HT1
  have f0_0 := HE2.out.c0
  have f0_1 := HE2.out.c1
  have f0_2 := HE2.out.c2
  have fl0 := HE2.out.lt
  go_wp2_with fail
  clear f0_0 f0_1 f0_2 fl0
  refine (HF.out _ HT2.out).mono ?_
  rintro e w3 ⟨rfl, hb⟩
  have HE3 := Lib.hid (show AB w3 w.heap.size va xa za from HE2.out.kept hb HE2.out.lt)
  have HB3 := Lib.hid (HB2.out.trans (hb.mono HB2.out.size))
  have HT3 := Lib.hid (HT2.out.kept hb)
  clear hb HE2 HB2 HT2
  have f0_0 := HE3.out.c0
  have f0_1 := HE3.out.c1
  have f0_2 := HE3.out.c2
  have fl0 := HE3.out.lt
  go_wp2_with fail
  clear f0_0 f0_1 f0_2 fl0
  refine (HP.out _ HT3.out).mono ?_
  rintro e w4 ⟨rfl, hb⟩
  obtain ⟨gb, hgb⟩ : ∃ g, g = w4.heap.size := ⟨_, rfl⟩
  obtain ⟨W4, hW4⟩ : ∃ W, W = w4.alloc (.cells #[.bool va, .int .u64 xa, .int .u64 za] 25) := ⟨_, rfl⟩
  have HE4 := Lib.hid (show AB W4 w.heap.size va xa za ∧ AB W4 gb va xa za from by rw [hW4, hgb]; exact ⟨(HE3.out.kept hb HE3.out.lt).al _ , ab_new w4 va xa za⟩)
  have HB4 := Lib.hid (show Below w.heap.size w W4 by rw [hW4]; exact (HB3.out.trans (hb.mono HB3.out.size)).trans ((below_alloc6 w4 _).mono (HB3.out.trans (hb.mono HB3.out.size)).size))
  have HT4 := Lib.hid (show TW W4 by rw [hW4]; exact (HT3.out.kept hb).al _)
  have hx := HE3.out.kept hb HE3.out.lt
  have f0_0 := hx.c0
  have f0_1 := hx.c1
  have f0_2 := hx.c2
  have fl0 := hx.lt
  clear hx
  clear hb HE3 HB3 HT3
  go_wp2_with fail
  first | rw [← hW4, ← hgb] | rw [← hW4] | skip
  clear hW4 hgb
  clear f0_0 f0_1 f0_2 fl0
  refine (HBY.out _).mono ?_
  rintro e w5 ⟨rfl, hb⟩
  have HE5 := Lib.hid (show AB w5 w.heap.size va xa za ∧ AB w5 gb va xa za from ⟨HE4.out.1.kept hb HE4.out.1.lt , HE4.out.2.kept hb HE4.out.2.lt⟩)
  have HB5 := Lib.hid (HB4.out.trans (hb.mono HB4.out.size))
  have HT5 := Lib.hid (HT4.out.kept hb)
  clear hb HE4 HB4 HT4
  have f0_0 := HE5.out.1.c0
  have f0_1 := HE5.out.1.c1
  have f0_2 := HE5.out.1.c2
  have fl0 := HE5.out.1.lt
  have f1_0 := HE5.out.2.c0
  have f1_1 := HE5.out.2.c1
  have f1_2 := HE5.out.2.c2
  have fl1 := HE5.out.2.lt
  go_wp2_with fail
  clear f0_0 f0_1 f0_2 fl0 f1_0 f1_1 f1_2 fl1
  refine (HFB.out _).mono ?_
  rintro e w6 ⟨rfl, hb⟩
  obtain ⟨gc, hgc⟩ : ∃ g, g = w6.heap.size := ⟨_, rfl⟩
  obtain ⟨W6, hW6⟩ : ∃ W, W = w6.alloc (.cells #[.bool va, .int .u64 xa, .int .u64 za] 25) := ⟨_, rfl⟩
  have HE6 := Lib.hid (show AB W6 w.heap.size va xa za ∧ AB W6 gb va xa za ∧ AB W6 gc va xa za from by rw [hW6, hgc]; exact ⟨(HE5.out.1.kept hb HE5.out.1.lt).al _ , (HE5.out.2.kept hb HE5.out.2.lt).al _ , ab_new w6 va xa za⟩)
  have HB6 := Lib.hid (show Below w.heap.size w W6 by rw [hW6]; exact (HB5.out.trans (hb.mono HB5.out.size)).trans ((below_alloc6 w6 _).mono (HB5.out.trans (hb.mono HB5.out.size)).size))
  have HT6 := Lib.hid (show TW W6 by rw [hW6]; exact (HT5.out.kept hb).al _)
  have hx := HE5.out.1.kept hb HE5.out.1.lt
  have f0_0 := hx.c0
  have f0_1 := hx.c1
  have f0_2 := hx.c2
  have fl0 := hx.lt
  clear hx
  have hx := HE5.out.2.kept hb HE5.out.2.lt
  have f1_0 := hx.c0
  have f1_1 := hx.c1
  have f1_2 := hx.c2
  have fl1 := hx.lt
  clear hx
  clear hb HE5 HB5 HT5
  go_wp2_with fail
  first | rw [← hW6, ← hgc] | rw [← hW6] | skip
  clear hW6 hgc
  clear f0_0 f0_1 f0_2 fl0 f1_0 f1_1 f1_2 fl1
  refine (HM.out _).mono ?_
  rintro e w7 ⟨rfl, hb⟩
  obtain ⟨gp, hgp⟩ : ∃ g, g = w7.heap.size := ⟨_, rfl⟩
  obtain ⟨W7, hW7⟩ : ∃ W, W = w7.alloc (.cells #[.bool va, .int .u64 xp, .int .u64 zp, .int .i64 k] 30) := ⟨_, rfl⟩
  have HE7 := Lib.hid (show AB W7 w.heap.size va xa za ∧ AB W7 gb va xa za ∧ AB W7 gc va xa za ∧ PB W7 gp va xp zp k from by rw [hW7, hgp]; exact ⟨(HE6.out.1.kept hb HE6.out.1.lt).al _ , (HE6.out.2.1.kept hb HE6.out.2.1.lt).al _ , (HE6.out.2.2.kept hb HE6.out.2.2.lt).al _ , pb_new w7 va xp zp k⟩)
  have HB7 := Lib.hid (show Below w.heap.size w W7 by rw [hW7]; exact (HB6.out.trans (hb.mono HB6.out.size)).trans ((below_alloc6 w7 _).mono (HB6.out.trans (hb.mono HB6.out.size)).size))
  have HT7 := Lib.hid (show TW W7 by rw [hW7]; exact (HT6.out.kept hb).al _)
  have hx := HE6.out.1.kept hb HE6.out.1.lt
  have f0_0 := hx.c0
  have f0_1 := hx.c1
  have f0_2 := hx.c2
  have fl0 := hx.lt
  clear hx
  have hx := HE6.out.2.1.kept hb HE6.out.2.1.lt
  have f1_0 := hx.c0
  have f1_1 := hx.c1
  have f1_2 := hx.c2
  have fl1 := hx.lt
  clear hx
  have hx := HE6.out.2.2.kept hb HE6.out.2.2.lt
  have f2_0 := hx.c0
  have f2_1 := hx.c1
  have f2_2 := hx.c2
  have fl2 := hx.lt
  clear hx
  clear hb HE6 HB6 HT6
  go_wp2_with fail
  first | rw [← hW7, ← hgp] | rw [← hW7] | skip
  clear hW7 hgp
  clear f0_0 f0_1 f0_2 fl0 f1_0 f1_1 f1_2 fl1 f2_0 f2_1 f2_2 fl2
  refine (HFP.out _ HT7.out).mono ?_
  rintro e w8 ⟨rfl, hb⟩
  have HE8 := Lib.hid (show AB w8 w.heap.size va xa za ∧ AB w8 gb va xa za ∧ AB w8 gc va xa za ∧ PB w8 gp va xp zp k from ⟨HE7.out.1.kept hb HE7.out.1.lt , HE7.out.2.1.kept hb HE7.out.2.1.lt , HE7.out.2.2.1.kept hb HE7.out.2.2.1.lt , HE7.out.2.2.2.kept hb HE7.out.2.2.2.lt⟩)
  have HB8 := Lib.hid (HB7.out.trans (hb.mono HB7.out.size))
  have HT8 := Lib.hid (HT7.out.kept hb)
  clear hb HE7 HB7 HT7
  have f0_0 := HE8.out.1.c0
  have f0_1 := HE8.out.1.c1
  have f0_2 := HE8.out.1.c2
  have fl0 := HE8.out.1.lt
  have f1_0 := HE8.out.2.1.c0
  have f1_1 := HE8.out.2.1.c1
  have f1_2 := HE8.out.2.1.c2
  have fl1 := HE8.out.2.1.lt
  have f2_0 := HE8.out.2.2.1.c0
  have f2_1 := HE8.out.2.2.1.c1
  have f2_2 := HE8.out.2.2.1.c2
  have fl2 := HE8.out.2.2.1.lt
  have f3_0 := HE8.out.2.2.2.c0
  have f3_1 := HE8.out.2.2.2.c1
  have f3_2 := HE8.out.2.2.2.c2
  have f3_3 := HE8.out.2.2.2.c3
  have fl3 := HE8.out.2.2.2.lt
  go_wp2_with fail
  clear f0_0 f0_1 f0_2 fl0 f1_0 f1_1 f1_2 fl1 f2_0 f2_1 f2_2 fl2 f3_0 f3_1 f3_2 f3_3 fl3
  refine (HPP.out _ HT8.out).mono ?_
  rintro e w9 ⟨rfl, hb⟩
  obtain ⟨gq, hgq⟩ : ∃ g, g = w9.heap.size := ⟨_, rfl⟩
  obtain ⟨W9, hW9⟩ : ∃ W, W = w9.alloc (.cells #[.bool va, .int .u64 xp, .int .u64 zp, .int .i64 k] 30) := ⟨_, rfl⟩
  have HE9 := Lib.hid (show AB W9 w.heap.size va xa za ∧ AB W9 gb va xa za ∧ AB W9 gc va xa za ∧ PB W9 gp va xp zp k ∧ PB W9 gq va xp zp k from by rw [hW9, hgq]; exact ⟨(HE8.out.1.kept hb HE8.out.1.lt).al _ , (HE8.out.2.1.kept hb HE8.out.2.1.lt).al _ , (HE8.out.2.2.1.kept hb HE8.out.2.2.1.lt).al _ , (HE8.out.2.2.2.kept hb HE8.out.2.2.2.lt).al _ , pb_new w9 va xp zp k⟩)
  have HB9 := Lib.hid (show Below w.heap.size w W9 by rw [hW9]; exact (HB8.out.trans (hb.mono HB8.out.size)).trans ((below_alloc6 w9 _).mono (HB8.out.trans (hb.mono HB8.out.size)).size))
  have HT9 := Lib.hid (show TW W9 by rw [hW9]; exact (HT8.out.kept hb).al _)
  have hx := HE8.out.1.kept hb HE8.out.1.lt
  have f0_0 := hx.c0
  have f0_1 := hx.c1
  have f0_2 := hx.c2
  have fl0 := hx.lt
  clear hx
  have hx := HE8.out.2.1.kept hb HE8.out.2.1.lt
  have f1_0 := hx.c0
  have f1_1 := hx.c1
  have f1_2 := hx.c2
  have fl1 := hx.lt
  clear hx
  have hx := HE8.out.2.2.1.kept hb HE8.out.2.2.1.lt
  have f2_0 := hx.c0
  have f2_1 := hx.c1
  have f2_2 := hx.c2
  have fl2 := hx.lt
  clear hx
  have hx := HE8.out.2.2.2.kept hb HE8.out.2.2.2.lt
  have f3_0 := hx.c0
  have f3_1 := hx.c1
  have f3_2 := hx.c2
  have f3_3 := hx.c3
  have fl3 := hx.lt
  clear hx
  clear hb HE8 HB8 HT8
  go_wp2_with fail
  first | rw [← hW9, ← hgq] | rw [← hW9] | skip
  clear hW9 hgq
  clear f0_0 f0_1 f0_2 fl0 f1_0 f1_1 f1_2 fl1 f2_0 f2_1 f2_2 fl2 f3_0 f3_1 f3_2 f3_3 fl3
  refine (HVP.out _).mono ?_
  rintro e w10 ⟨rfl, hb⟩
  have HE10 := Lib.hid (show AB w10 w.heap.size va xa za ∧ AB w10 gb va xa za ∧ AB w10 gc va xa za ∧ PB w10 gp va xp zp k ∧ PB w10 gq va xp zp k from ⟨HE9.out.1.kept hb HE9.out.1.lt , HE9.out.2.1.kept hb HE9.out.2.1.lt , HE9.out.2.2.1.kept hb HE9.out.2.2.1.lt , HE9.out.2.2.2.1.kept hb HE9.out.2.2.2.1.lt , HE9.out.2.2.2.2.kept hb HE9.out.2.2.2.2.lt⟩)
  have HB10 := Lib.hid (HB9.out.trans (hb.mono HB9.out.size))
  have HT10 := Lib.hid (HT9.out.kept hb)
  clear hb HE9 HB9 HT9
  have f0_0 := HE10.out.1.c0
  have f0_1 := HE10.out.1.c1
  have f0_2 := HE10.out.1.c2
  have fl0 := HE10.out.1.lt
  have f1_0 := HE10.out.2.1.c0
  have f1_1 := HE10.out.2.1.c1
  have f1_2 := HE10.out.2.1.c2
  have fl1 := HE10.out.2.1.lt
  have f2_0 := HE10.out.2.2.1.c0
  have f2_1 := HE10.out.2.2.1.c1
  have f2_2 := HE10.out.2.2.1.c2
  have fl2 := HE10.out.2.2.1.lt
  have f3_0 := HE10.out.2.2.2.1.c0
  have f3_1 := HE10.out.2.2.2.1.c1
  have f3_2 := HE10.out.2.2.2.1.c2
  have f3_3 := HE10.out.2.2.2.1.c3
  have fl3 := HE10.out.2.2.2.1.lt
  have f4_0 := HE10.out.2.2.2.2.c0
  have f4_1 := HE10.out.2.2.2.2.c1
  have f4_2 := HE10.out.2.2.2.2.c2
  have f4_3 := HE10.out.2.2.2.2.c3
  have fl4 := HE10.out.2.2.2.2.lt
  go_wp2_with fail
  clear f0_0 f0_1 f0_2 fl0 f1_0 f1_1 f1_2 fl1 f2_0 f2_1 f2_2 fl2 f3_0 f3_1 f3_2 f3_3 fl3 f4_0 f4_1 f4_2 f4_3 fl4
  refine (HCO.out _).mono ?_
  rintro e w11 ⟨rfl, hb⟩
  have HE11 := Lib.hid (show AB w11 w.heap.size va xa za ∧ AB w11 gb va xa za ∧ AB w11 gc va xa za ∧ PB w11 gp va xp zp k ∧ PB w11 gq va xp zp k from ⟨HE10.out.1.kept hb HE10.out.1.lt , HE10.out.2.1.kept hb HE10.out.2.1.lt , HE10.out.2.2.1.kept hb HE10.out.2.2.1.lt , HE10.out.2.2.2.1.kept hb HE10.out.2.2.2.1.lt , HE10.out.2.2.2.2.kept hb HE10.out.2.2.2.2.lt⟩)
  have HB11 := Lib.hid (HB10.out.trans (hb.mono HB10.out.size))
  have HT11 := Lib.hid (HT10.out.kept hb)
  clear hb HE10 HB10 HT10
  have f0_0 := HE11.out.1.c0
  have f0_1 := HE11.out.1.c1
  have f0_2 := HE11.out.1.c2
  have fl0 := HE11.out.1.lt
  have f1_0 := HE11.out.2.1.c0
  have f1_1 := HE11.out.2.1.c1
  have f1_2 := HE11.out.2.1.c2
  have fl1 := HE11.out.2.1.lt
  have f2_0 := HE11.out.2.2.1.c0
  have f2_1 := HE11.out.2.2.1.c1
  have f2_2 := HE11.out.2.2.1.c2
  have fl2 := HE11.out.2.2.1.lt
  have f3_0 := HE11.out.2.2.2.1.c0
  have f3_1 := HE11.out.2.2.2.1.c1
  have f3_2 := HE11.out.2.2.2.1.c2
  have f3_3 := HE11.out.2.2.2.1.c3
  have fl3 := HE11.out.2.2.2.1.lt
  have f4_0 := HE11.out.2.2.2.2.c0
  have f4_1 := HE11.out.2.2.2.2.c1
  have f4_2 := HE11.out.2.2.2.2.c2
  have f4_3 := HE11.out.2.2.2.2.c3
  have fl4 := HE11.out.2.2.2.2.lt
  go_wp2_with fail
  go_ret
  exact ⟨rfl, HB11.out⟩
theorem walk (va : Bool) (xa za : Nat) (n : Int) (w : World) (ht : TW w) (hxa : xa < 18446744073709551616) (hza : za < 18446744073709551616) (hn : (Lit.int .i64 n).wf = true) :
    Calls Tryd.prog 7 #[.agg #[.bool va, .int .u64 xa, .int .u64 za], .int .i64 n] w fun e w' => e = .returned (.bool true) ∧ Below w.heap.size w w' := by
  cases hv : vldA va xa za with
  | false => exact inv va xa za n w ht hxa hza hv
  | true =>
    by_cases hb : n < 0 ∨ (width va : Int) < n
    · exact bad va xa za n w ht hxa hza hv hb
    · obtain ⟨k, rfl⟩ := Int.eq_ofNat_of_zero_le (a := n) (by omega)
      exact good va xa za k w ht hxa hza hv (by omega)

set_option maxRecDepth 100000 in
theorem lifted (os : Os) (started : os.Started) (H : Type) (enc : TypeId × Value → H) :
    ReturnsInHanded {} Tryd.checked os 7 .any (fun w args => (Rows.addressRoundTripSpec.pre enc Tryd.prog Tryd.f7 [] false w args ∧ laidMetH Tryd.prog laidL w) ∧ sizedMet enc Tryd.prog Tryd.f7 (OpenSpec.ofChange Rows.addressRoundTripSpec) false w args) (Rows.addressRoundTripSpec.post enc Tryd.prog Tryd.f7 false true false false) := by
  refine wrap6 (C := Tryd.checked) (X := fun w _ => laidMetH Tryd.prog laidL w) (fun _ _ _ hh h => h.of_heap hh) own started (by kernel_rfl) Tryd.func7
    (ChangeSpec.witness_shaped (enc := enc) (C := Tryd.checked) (os := os) (X := fun w _ => laidMetH Tryd.prog laidL w) false (World.laidAll Tryd.prog os laidL) #[(.agg #[.bool false, .int .u64 0, .int .u64 0]), .int .i64 0] 8 (World.laidAll_os _ _ _) (World.shaped_of_ZipB (by kernel_rfl) (by kernel_rfl)) (by kernel_rfl) (by kernel_rfl) (by kernel_rfl) (door_met os _)) ?_
  intro W base args ds gs before hval0 hW hL hsh
  have hval : ∀ (j : Nat) t v, Tryd.f7.params[j]? = some t → args[j]? = some v → Value.okWide Tryd.prog W .any base t v := hval0
  have hW' := hW
  obtain ⟨p, q, hA0, hV, rfl, hfz, hnd⟩ := hW
  have hA : DataW.TrodAll enc Tryd.prog W 0 (fun _ => true) true Tryd.f7.params.toList args.toList ds p := hA0
  rw [Tryd.params7] at hA hval
  obtain ⟨v0, vs0, d0, ds0, p0, q0, hargs, rfl, rfl, h0, r0⟩ := trodAll_cons hA
  obtain ⟨v1, vs1, d1, ds1, p1, q1, rfl, rfl, rfl, h1, r1⟩ := trodAll_cons r0
  obtain ⟨rfl, rfl, rfl⟩ := trodAll_nil r1
  obtain rfl : args = #[v0, v1] := by cases args; simp_all
  obtain ⟨rfl, rfl⟩ := trodVars_none hV
  have k0 := h0
  have lt0 : ∀ x ∈ p0, x.block < W.heap.size := by obtain ⟨m, hm⟩ := k0; exact DataW.trod_lt m _ _ _ hm
  obtain ⟨c00, c01, c02, y00, y01, y02, m0, rfl, rfl, rfl, hy00, hy01, hy02⟩ := open_agg3 Tryd.underlying25 (by kernel_rfl) cellsAddr6 (hval 0 25 v0 rfl rfl) h0
  obtain ⟨b0, e00, rfl⟩ := DataW.trod_bool Tryd.underlying4 hy00
  obtain ⟨x0, e01, rfl, wx0⟩ := DataW.trod_int Tryd.underlying23 hy01
  obtain ⟨z0, e02, rfl, wz0⟩ := DataW.trod_int Tryd.underlying23 hy02
  simp at e00 e01 e02
  subst e00 e01 e02
  obtain ⟨X0, rfl, hX0⟩ := nat_of_wf6 wx0
  obtain ⟨Z0, rfl, hZ0⟩ := nat_of_wf6 wz0
  obtain ⟨a1, rfl, rfl, rfl, w1⟩ := open_int Tryd.underlying3 (hval 1 3 v1 rfl rfl) h1
  clear hA0 hval0
  refine (walk b0 X0 Z0 a1 W (tied_of_laid hL hsh) hX0 hZ0 w1).mono fun e W' ⟨he, bel⟩ => ?_
  subst he
  exact ⟨_, rfl, _, _, _, [], _, [], hW', trodAll_mk1 (shut_bool Tryd.underlying4 _), (trodAll_cons_mk (Below.trod laidOut (by kernel_rfl) (of_decide_eq_true (by kernel_rfl)) k0 bel lt0) (trodAll_cons_mk (shut_int Tryd.underlying3 w1) trodAll_mk0)), rfl, bel.frame _, fun h => by cases h⟩

theorem over : Rows.addressRoundTripRow.holds Tryd.pinned (OpenSpec.ofChange Rows.addressRoundTripSpec) :=
  OpenClaim.holds_of_wide 7 Tryd.f7 rfl rfl rfl rfl rfl rfl rfl ⟨rfl, rfl, rfl, rfl, rfl⟩ rfl rfl rfl rfl rfl (by kernel_rfl) Tryd.func7 (by kernel_rfl)
    (of_decide_eq_true (by kernel_rfl)) (by unfold Func.isWrapper; first | (rw [if_pos (by decide +kernel)]; kernel_rfl) | (rw [if_neg (by decide +kernel)]; exact ⟨rfl, rfl⟩))
    (fun os started H enc _ => lifted os started H enc)

theorem bare : Rows.AddressRoundTripSaid := over

/-- The tied card. -/
theorem proved : Rows.AddressRoundTripCardSaid :=
  Claim7.holds_tied_plain_at .later [] _ true _ false
    bare (fun _ h => by cases h) (by kernel_rfl) (fun _ h => by cases h) addressRoundTrip_row_tie rfl ⟨rfl, rfl⟩ (by kernel_rfl) rfl
    (fun f fn hf hfn => by
      obtain rfl : f = 7 := Option.some.inj ((show Tryd.prog.funcNamed "intrusion/intrusionlaw06.AddressRoundTrip" = some 7 by kernel_rfl).symm.trans hf) |>.symm
      obtain rfl : fn = Tryd.f7 := (Option.some.inj (Tryd.func7.symm.trans hfn)).symm
      exact ⟨by kernel_rfl, fun j t ht => by
        rw [Tryd.params7] at ht
        have hm : t ∈ [25, 3] := by simpa using Array.mem_of_getElem? ht
        have hall : ([25, 3].all fun u => !Tryd.prog.wantsStandIn u) = true := by kernel_rfl
        exact (show Tryd.prog.wantsStandIn t = false by simpa using List.all_eq_true.1 hall t hm)⟩)
    (by kernel_rfl)
#print axioms proved


end Go.Proofs.YtcblgbonijloiaaDoor.addressRoundTrip
