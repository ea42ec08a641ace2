/- AddressContains holds: for every two addresses and every number of bits the law about the bounds of a prefix returns true and leaves memory as it was; the library's tables are tied to the program's text. No other condition. -/
import Derived.Test.YtcblgbonijloiaaDoorAwk06e
import Derived.Test.YtcblgbonijloiaaDoorPick
import Derived.Test.YtcblgbonijloiaaDoorCards
namespace Go.Proofs.YtcblgbonijloiaaDoor.addressContains
open Go.ChangeShapes Go.WideShapes Go.ChangeAt Go.RowKit
open Go.Joins
set_option linter.unusedVariables false

theorem own : ownKnob Tryd.prog.godebug = none := by kernel_rfl
theorem laidOut : laidOutB Tryd.prog = true := by kernel_rfl
set_option maxHeartbeats 16000000 in
set_option maxRecDepth 20000 in
theorem inv0 (va : Bool) (xa za : Nat) (vb : Bool) (xb zb : Nat) (n : Int) (w : World) (ht : TW w) (hxa : xa < 18446744073709551616) (hza : za < 18446744073709551616) (hxb : xb < 18446744073709551616) (hzb : zb < 18446744073709551616) (v0 : vldA va xa za = false) :
    Calls Tryd.prog 9 #[.agg #[.bool va, .int .u64 xa, .int .u64 za], .agg #[.bool vb, .int .u64 xb, .int .u64 zb], .int .i64 n] w fun e w' => e = .returned (.bool true) ∧ Below w.heap.size w w' := by
  have hm := addr_guard
  have hm2 := pfx_guard
  have HL := Lib.hid (fun W t => lives_any W t)
  have HV0 := Lib.hid (fun W => qvalid_any va xa za W)
  have HV1 := Lib.hid (fun W => qvalid_any vb xb zb W)
  obtain ⟨W0, hW0⟩ : ∃ W, W = (w.alloc (.cells #[.bool va, .int .u64 xa, .int .u64 za] 25)).alloc (.cells #[.bool vb, .int .u64 xb, .int .u64 zb] 25) := ⟨_, rfl⟩
  have HB0 := Lib.hid (show Below w.heap.size w W0 by rw [hW0]; exact below2 w _ _)
  have HT0 := Lib.hid (show TW W0 by rw [hW0]; exact ht.kept (below2 w _ _))
  have HE0 := Lib.hid (show AB W0 w.heap.size va xa za ∧ AB W0 (w.heap.size + 1) vb xb zb from by rw [hW0]; exact ⟨(ab_new w va xa za).al _, ab2 w _ vb xb zb⟩)
  rw [v0] at HV0
  go_enter Tryd.func9, Tryd.ntmps9
  go_wp2_with fail
  rw [← hW0]
  clear hW0
  refine (HL.out _ HT0.out).mono ?_
  rintro e w1 ⟨rfl, hb⟩
  have HE1 := Lib.hid (show AB w1 w.heap.size va xa za ∧ AB w1 (w.heap.size + 1) vb xb zb from ⟨HE0.out.1.kept hb HE0.out.1.lt , HE0.out.2.kept hb HE0.out.2.lt⟩)
  have HB1 := Lib.hid (HB0.out.trans (hb.mono HB0.out.size))
  have HT1 := Lib.hid (HT0.out.kept hb)
  clear hb HE0 HB0 HT0
  have f0_0 := HE1.out.1.c0
  have f0_1 := HE1.out.1.c1
  have f0_2 := HE1.out.1.c2
  have fl0 := HE1.out.1.lt
  have f1_0 := HE1.out.2.c0
  have f1_1 := HE1.out.2.c1
  have f1_2 := HE1.out.2.c2
  have fl1 := HE1.out.2.lt
  go_wp2_with fail
  clear f0_0 f0_1 f0_2 fl0 f1_0 f1_1 f1_2 fl1
  refine (HV0.out _).mono ?_
  rintro e w2 ⟨rfl, hb⟩
  have HE2 := Lib.hid (show AB w2 w.heap.size va xa za ∧ AB w2 (w.heap.size + 1) vb xb zb from ⟨HE1.out.1.kept hb HE1.out.1.lt , HE1.out.2.kept hb HE1.out.2.lt⟩)
  have HB2 := Lib.hid (HB1.out.trans (hb.mono HB1.out.size))
  have HT2 := Lib.hid (HT1.out.kept hb)
  clear hb HE1 HB1 HT1
  have f0_0 := HE2.out.1.c0
  have f0_1 := HE2.out.1.c1
  have f0_2 := HE2.out.1.c2
  have fl0 := HE2.out.1.lt
  have f1_0 := HE2.out.2.c0
  have f1_1 := HE2.out.2.c1
  have f1_2 := HE2.out.2.c2
  have fl1 := HE2.out.2.lt
  go_wp2_with fail
  go_ret
  exact ⟨rfl, HB2.out⟩
set_option maxHeartbeats 16000000 in
set_option maxRecDepth 20000 in
theorem inv1 (va : Bool) (xa za : Nat) (vb : Bool) (xb zb : Nat) (n : Int) (w : World) (ht : TW w) (hxa : xa < 18446744073709551616) (hza : za < 18446744073709551616) (hxb : xb < 18446744073709551616) (hzb : zb < 18446744073709551616) (v0 : vldA va xa za = true) (v1 : vldA vb xb zb = false) :
    Calls Tryd.prog 9 #[.agg #[.bool va, .int .u64 xa, .int .u64 za], .agg #[.bool vb, .int .u64 xb, .int .u64 zb], .int .i64 n] w fun e w' => e = .returned (.bool true) ∧ Below w.heap.size w w' := by
  have hm := addr_guard
  have hm2 := pfx_guard
  have HL := Lib.hid (fun W t => lives_any W t)
  have HV0 := Lib.hid (fun W => qvalid_any va xa za W)
  have HV1 := Lib.hid (fun W => qvalid_any vb xb zb W)
  obtain ⟨W0, hW0⟩ : ∃ W, W = (w.alloc (.cells #[.bool va, .int .u64 xa, .int .u64 za] 25)).alloc (.cells #[.bool vb, .int .u64 xb, .int .u64 zb] 25) := ⟨_, rfl⟩
  have HB0 := Lib.hid (show Below w.heap.size w W0 by rw [hW0]; exact below2 w _ _)
  have HT0 := Lib.hid (show TW W0 by rw [hW0]; exact ht.kept (below2 w _ _))
  have HE0 := Lib.hid (show AB W0 w.heap.size va xa za ∧ AB W0 (w.heap.size + 1) vb xb zb from by rw [hW0]; exact ⟨(ab_new w va xa za).al _, ab2 w _ vb xb zb⟩)
  rw [v0] at HV0
  rw [v1] at HV1
  go_enter Tryd.func9, Tryd.ntmps9
  go_wp2_with fail
  rw [← hW0]
  clear hW0
  refine (HL.out _ HT0.out).mono ?_
  rintro e w1 ⟨rfl, hb⟩
  have HE1 := Lib.hid (show AB w1 w.heap.size va xa za ∧ AB w1 (w.heap.size + 1) vb xb zb from ⟨HE0.out.1.kept hb HE0.out.1.lt , HE0.out.2.kept hb HE0.out.2.lt⟩)
  have HB1 := Lib.hid (HB0.out.trans (hb.mono HB0.out.size))
  have HT1 := Lib.hid (HT0.out.kept hb)
  clear hb HE0 HB0 HT0
  have f0_0 := HE1.out.1.c0
  have f0_1 := HE1.out.1.c1
  have f0_2 := HE1.out.1.c2
  have fl0 := HE1.out.1.lt
  have f1_0 := HE1.out.2.c0
  have f1_1 := HE1.out.2.c1
  have f1_2 := HE1.out.2.c2
  have fl1 := HE1.out.2.lt
  go_wp2_with fail
  clear f0_0 f0_1 f0_2 fl0 f1_0 f1_1 f1_2 fl1
  refine (HV0.out _).mono ?_
  rintro e w2 ⟨rfl, hb⟩
  have HE2 := Lib.hid (show AB w2 w.heap.size va xa za ∧ AB w2 (w.heap.size + 1) vb xb zb from ⟨HE1.out.1.kept hb HE1.out.1.lt , HE1.out.2.kept hb HE1.out.2.lt⟩)
  have HB2 := Lib.hid (HB1.out.trans (hb.mono HB1.out.size))
  have HT2 := Lib.hid (HT1.out.kept hb)
  clear hb HE1 HB1 HT1
  have f0_0 := HE2.out.1.c0
  have f0_1 := HE2.out.1.c1
  have f0_2 := HE2.out.1.c2
  have fl0 := HE2.out.1.lt
  have f1_0 := HE2.out.2.c0
  have f1_1 := HE2.out.2.c1
  have f1_2 := HE2.out.2.c2
  have fl1 := HE2.out.2.lt
  go_wp2_with fail
  clear f0_0 f0_1 f0_2 fl0 f1_0 f1_1 f1_2 fl1
  refine (HV1.out _).mono ?_
  rintro e w3 ⟨rfl, hb⟩
  have HE3 := Lib.hid (show AB w3 w.heap.size va xa za ∧ AB w3 (w.heap.size + 1) vb xb zb from ⟨HE2.out.1.kept hb HE2.out.1.lt , HE2.out.2.kept hb HE2.out.2.lt⟩)
  have HB3 := Lib.hid (HB2.out.trans (hb.mono HB2.out.size))
  have HT3 := Lib.hid (HT2.out.kept hb)
  clear hb HE2 HB2 HT2
  have f0_0 := HE3.out.1.c0
  have f0_1 := HE3.out.1.c1
  have f0_2 := HE3.out.1.c2
  have fl0 := HE3.out.1.lt
  have f1_0 := HE3.out.2.c0
  have f1_1 := HE3.out.2.c1
  have f1_2 := HE3.out.2.c2
  have fl1 := HE3.out.2.lt
  go_wp2_with fail
  go_ret
  exact ⟨rfl, HB3.out⟩
set_option maxHeartbeats 16000000 in
set_option maxRecDepth 20000 in
theorem bad (va : Bool) (xa za : Nat) (vb : Bool) (xb zb : Nat) (n : Int) (w : World) (ht : TW w) (hxa : xa < 18446744073709551616) (hza : za < 18446744073709551616) (hxb : xb < 18446744073709551616) (hzb : zb < 18446744073709551616) (v0 : vldA va xa za = true) (v1 : vldA vb xb zb = true) (hn : n < 0 ∨ (width va : Int) < n) :
    Calls Tryd.prog 9 #[.agg #[.bool va, .int .u64 xa, .int .u64 za], .agg #[.bool vb, .int .u64 xb, .int .u64 zb], .int .i64 n] w fun e w' => e = .returned (.bool true) ∧ Below w.heap.size w w' := by
  have hm := addr_guard
  have hm2 := pfx_guard
  have HL := Lib.hid (fun W t => lives_any W t)
  have HV0 := Lib.hid (fun W => qvalid_any va xa za W)
  have HV1 := Lib.hid (fun W => qvalid_any vb xb zb W)
  obtain ⟨W0, hW0⟩ : ∃ W, W = (w.alloc (.cells #[.bool va, .int .u64 xa, .int .u64 za] 25)).alloc (.cells #[.bool vb, .int .u64 xb, .int .u64 zb] 25) := ⟨_, rfl⟩
  have HB0 := Lib.hid (show Below w.heap.size w W0 by rw [hW0]; exact below2 w _ _)
  have HT0 := Lib.hid (show TW W0 by rw [hW0]; exact ht.kept (below2 w _ _))
  have HE0 := Lib.hid (show AB W0 w.heap.size va xa za ∧ AB W0 (w.heap.size + 1) vb xb zb from by rw [hW0]; exact ⟨(ab_new w va xa za).al _, ab2 w _ vb xb zb⟩)
  rw [v0] at HV0
  rw [v1] at HV1
  have HM := Lib.hid (fun W => qmake_bad va xa za n W hn)
  clear hn v0 v1 hxa hza hxb hzb ht
  go_enter Tryd.func9, Tryd.ntmps9
  go_wp2_with fail
  rw [← hW0]
  clear hW0
  refine (HL.out _ HT0.out).mono ?_
  rintro e w1 ⟨rfl, hb⟩
  have HE1 := Lib.hid (show AB w1 w.heap.size va xa za ∧ AB w1 (w.heap.size + 1) vb xb zb from ⟨HE0.out.1.kept hb HE0.out.1.lt , HE0.out.2.kept hb HE0.out.2.lt⟩)
  have HB1 := Lib.hid (HB0.out.trans (hb.mono HB0.out.size))
  have HT1 := Lib.hid (HT0.out.kept hb)
  clear hb HE0 HB0 HT0
  have f0_0 := HE1.out.1.c0
  have f0_1 := HE1.out.1.c1
  have f0_2 := HE1.out.1.c2
  have fl0 := HE1.out.1.lt
  have f1_0 := HE1.out.2.c0
  have f1_1 := HE1.out.2.c1
  have f1_2 := HE1.out.2.c2
  have fl1 := HE1.out.2.lt
  go_wp2_with fail
  clear f0_0 f0_1 f0_2 fl0 f1_0 f1_1 f1_2 fl1
  refine (HV0.out _).mono ?_
  rintro e w2 ⟨rfl, hb⟩
  have HE2 := Lib.hid (show AB w2 w.heap.size va xa za ∧ AB w2 (w.heap.size + 1) vb xb zb from ⟨HE1.out.1.kept hb HE1.out.1.lt , HE1.out.2.kept hb HE1.out.2.lt⟩)
  have HB2 := Lib.hid (HB1.out.trans (hb.mono HB1.out.size))
  have HT2 := Lib.hid (HT1.out.kept hb)
  clear hb HE1 HB1 HT1
  have f0_0 := HE2.out.1.c0
  have f0_1 := HE2.out.1.c1
  have f0_2 := HE2.out.1.c2
  have fl0 := HE2.out.1.lt
  have f1_0 := HE2.out.2.c0
  have f1_1 := HE2.out.2.c1
  have f1_2 := HE2.out.2.c2
  have fl1 := HE2.out.2.lt
  go_wp2_with fail
  clear f0_0 f0_1 f0_2 fl0 f1_0 f1_1 f1_2 fl1
  refine (HV1.out _).mono ?_
  rintro e w3 ⟨rfl, hb⟩
  have HE3 := Lib.hid (show AB w3 w.heap.size va xa za ∧ AB w3 (w.heap.size + 1) vb xb zb from ⟨HE2.out.1.kept hb HE2.out.1.lt , HE2.out.2.kept hb HE2.out.2.lt⟩)
  have HB3 := Lib.hid (HB2.out.trans (hb.mono HB2.out.size))
  have HT3 := Lib.hid (HT2.out.kept hb)
  clear hb HE2 HB2 HT2
  have f0_0 := HE3.out.1.c0
  have f0_1 := HE3.out.1.c1
  have f0_2 := HE3.out.1.c2
  have fl0 := HE3.out.1.lt
  have f1_0 := HE3.out.2.c0
  have f1_1 := HE3.out.2.c1
  have f1_2 := HE3.out.2.c2
  have fl1 := HE3.out.2.lt
  go_wp2_with fail
  clear f0_0 f0_1 f0_2 fl0 f1_0 f1_1 f1_2 fl1
  refine (HM.out _).mono ?_
  rintro e w4 ⟨rfl, hb⟩
  obtain ⟨gp, hgp⟩ : ∃ g, g = w4.heap.size := ⟨_, rfl⟩
  obtain ⟨W4, hW4⟩ : ∃ W, W = w4.alloc (.cells #[.bool false, .int .u64 0, .int .u64 0, .int .i64 0] 30) := ⟨_, rfl⟩
  have HE4 := Lib.hid (show AB W4 w.heap.size va xa za ∧ AB W4 (w.heap.size + 1) vb xb zb ∧ PB W4 gp false 0 0 0 from by rw [hW4, hgp]; exact ⟨(HE3.out.1.kept hb HE3.out.1.lt).al _ , (HE3.out.2.kept hb HE3.out.2.lt).al _ , pb_new w4 false 0 0 0⟩)
  have HB4 := Lib.hid (show Below w.heap.size w W4 by rw [hW4]; exact (HB3.out.trans (hb.mono HB3.out.size)).trans ((below_alloc6 w4 _).mono (HB3.out.trans (hb.mono HB3.out.size)).size))
  have HT4 := Lib.hid (show TW W4 by rw [hW4]; exact (HT3.out.kept hb).al _)
  have hx := HE3.out.1.kept hb HE3.out.1.lt
  have f0_0 := hx.c0
  have f0_1 := hx.c1
  have f0_2 := hx.c2
  have fl0 := hx.lt
  clear hx
  have hx := HE3.out.2.kept hb HE3.out.2.lt
  have f1_0 := hx.c0
  have f1_1 := hx.c1
  have f1_2 := hx.c2
  have fl1 := hx.lt
  clear hx
  clear hb HE3 HB3 HT3
  go_wp2_with fail
  go_ret
  exact ⟨rfl, by rw [← hW4]; exact HB4.out⟩
set_option maxHeartbeats 16000000 in
set_option maxRecDepth 20000 in
theorem good (va : Bool) (xa za : Nat) (vb : Bool) (xb zb : Nat) (k : Nat) (w : World) (ht : TW w) (hxa : xa < 18446744073709551616) (hza : za < 18446744073709551616) (hxb : xb < 18446744073709551616) (hzb : zb < 18446744073709551616) (v0 : vldA va xa za = true) (v1 : vldA vb xb zb = true) (hk : k ≤ width va) :
    Calls Tryd.prog 9 #[.agg #[.bool va, .int .u64 xa, .int .u64 za], .agg #[.bool vb, .int .u64 xb, .int .u64 zb], .int .i64 k] w fun e w' => e = .returned (.bool true) ∧ Below w.heap.size w w' := by
  have hm := addr_guard
  have hm2 := pfx_guard
  have HL := Lib.hid (fun W t => lives_any W t)
  have HV0 := Lib.hid (fun W => qvalid_any va xa za W)
  have HV1 := Lib.hid (fun W => qvalid_any vb xb zb W)
  obtain ⟨W0, hW0⟩ : ∃ W, W = (w.alloc (.cells #[.bool va, .int .u64 xa, .int .u64 za] 25)).alloc (.cells #[.bool vb, .int .u64 xb, .int .u64 zb] 25) := ⟨_, rfl⟩
  have HB0 := Lib.hid (show Below w.heap.size w W0 by rw [hW0]; exact below2 w _ _)
  have HT0 := Lib.hid (show TW W0 by rw [hW0]; exact ht.kept (below2 w _ _))
  have HE0 := Lib.hid (show AB W0 w.heap.size va xa za ∧ AB W0 (w.heap.size + 1) vb xb zb from by rw [hW0]; exact ⟨(ab_new w va xa za).al _, ab2 w _ vb xb zb⟩)
  rw [v0] at HV0
  rw [v1] at HV1
  have HM := Lib.hid (fun W => qmake_ok va xa za k W hxa hza hk)
  have hml := mk_lt (v := va) (k := k) hxa hza
  have hll := last_lt (v := va) (k := k) hxa hza
  have HBD := Lib.hid (fun W => qbounds_any va (mkH va k xa) (mkL va k za) k W hml.1 hml.2 (mk_vldP hk v0))
  rw [show lowO (frH va k) (mkH va k xa) = lastH va k xa from rfl, show lowO (frL va k) (mkL va k za) = lastL va k za from rfl] at HBD
  have HCA := Lib.hid (fun W => qcont_any va (mkH va k xa) (mkL va k za) (k : Int) va xa za W hxa hza)
  rw [mk_cont hk] at HCA
  have HCF := Lib.hid (fun W => qcont_any va (mkH va k xa) (mkL va k za) (k : Int) va (mkH va k xa) (mkL va k za) W hml.1 hml.2)
  rw [cont_first hk] at HCF
  have HCL := Lib.hid (fun W => qcont_any va (mkH va k xa) (mkL va k za) (k : Int) va (lastH va k xa) (lastL va k za) W hll.1 hll.2)
  rw [cont_last hk] at HCL
  have HCB := Lib.hid (fun W => qcont_any va (mkH va k xa) (mkL va k za) (k : Int) vb xb zb W hxb hzb)
  rw [cont_between hk hxa hza hxb hzb] at HCB
  have HC1 := Lib.hid (fun W => qcmp_any va (mkH va k xa) (mkL va k za) vb xb zb W)
  have HC2 := Lib.hid (fun W => qcmp_any vb xb zb va (lastH va k xa) (lastL va k za) W)
  generalize cmpA va (mkH va k xa) (mkL va k za) vb xb zb = c1 at *
  generalize cmpA vb xb zb va (lastH va k xa) (lastL va k za) = c2 at *
  generalize lastH va k xa = xl at *
  generalize lastL va k za = zl at *
  generalize mkH va k xa = xp at *
  generalize mkL va k za = zp at *
  clear hk hml hll v0 v1 hxa hza hxb hzb ht
  go_enter Tryd.func9, Tryd.ntmps9
  go_wp2_with fail
  rw [← hW0]
  clear hW0
  refine (HL.out _ HT0.out).mono ?_
  rintro e w1 ⟨rfl, hb⟩
  have HE1 := Lib.hid (show AB w1 w.heap.size va xa za ∧ AB w1 (w.heap.size + 1) vb xb zb from ⟨HE0.out.1.kept hb HE0.out.1.lt , HE0.out.2.kept hb HE0.out.2.lt⟩)
  have HB1 := Lib.hid (HB0.out.trans (hb.mono HB0.out.size))
  have HT1 := Lib.hid (HT0.out.kept hb)
  clear hb HE0 HB0 HT0
  have f0_0 := HE1.out.1.c0
  have f0_1 := HE1.out.1.c1
  have f0_2 := HE1.out.1.c2
  have fl0 := HE1.out.1.lt
  have f1_0 := HE1.out.2.c0
  have f1_1 := HE1.out.2.c1
  have f1_2 := HE1.out.2.c2
  have fl1 := HE1.out.2.lt
  go_wp2_with fail
  clear f0_0 f0_1 f0_2 fl0 f1_0 f1_1 f1_2 fl1
  refine (HV0.out _).mono ?_
  rintro e w2 ⟨rfl, hb⟩
  have HE2 := Lib.hid (show AB w2 w.heap.size va xa za ∧ AB w2 (w.heap.size + 1) vb xb zb from ⟨HE1.out.1.kept hb HE1.out.1.lt , HE1.out.2.kept hb HE1.out.2.lt⟩)
  have HB2 := Lib.hid (HB1.out.trans (hb.mono HB1.out.size))
  have HT2 := Lib.hid (HT1.out.kept hb)
  clear hb HE1 HB1 HT1
  have f0_0 := HE2.out.1.c0
  have f0_1 := HE2.out.1.c1
  have f0_2 := HE2.out.1.c2
  have fl0 := HE2.out.1.lt
  have f1_0 := HE2.out.2.c0
  have f1_1 := HE2.out.2.c1
  have f1_2 := HE2.out.2.c2
  have fl1 := HE2.out.2.lt
  go_wp2_with fail
  clear f0_0 f0_1 f0_2 fl0 f1_0 f1_1 f1_2 fl1
  refine (HV1.out _).mono ?_
  rintro e w3 ⟨rfl, hb⟩
  have HE3 := Lib.hid (show AB w3 w.heap.size va xa za ∧ AB w3 (w.heap.size + 1) vb xb zb from ⟨HE2.out.1.kept hb HE2.out.1.lt , HE2.out.2.kept hb HE2.out.2.lt⟩)
  have HB3 := Lib.hid (HB2.out.trans (hb.mono HB2.out.size))
  have HT3 := Lib.hid (HT2.out.kept hb)
  clear hb HE2 HB2 HT2
  have f0_0 := HE3.out.1.c0
  have f0_1 := HE3.out.1.c1
  have f0_2 := HE3.out.1.c2
  have fl0 := HE3.out.1.lt
  have f1_0 := HE3.out.2.c0
  have f1_1 := HE3.out.2.c1
  have f1_2 := HE3.out.2.c2
  have fl1 := HE3.out.2.lt
  go_wp2_with fail
  clear f0_0 f0_1 f0_2 fl0 f1_0 f1_1 f1_2 fl1
  refine (HM.out _).mono ?_
  rintro e w4 ⟨rfl, hb⟩
  obtain ⟨gp, hgp⟩ : ∃ g, g = w4.heap.size := ⟨_, rfl⟩
  obtain ⟨W4, hW4⟩ : ∃ W, W = w4.alloc (.cells #[.bool va, .int .u64 xp, .int .u64 zp, .int .i64 k] 30) := ⟨_, rfl⟩
  have HE4 := Lib.hid (show AB W4 w.heap.size va xa za ∧ AB W4 (w.heap.size + 1) vb xb zb ∧ PB W4 gp va xp zp k from by rw [hW4, hgp]; exact ⟨(HE3.out.1.kept hb HE3.out.1.lt).al _ , (HE3.out.2.kept hb HE3.out.2.lt).al _ , pb_new w4 va xp zp k⟩)
  have HB4 := Lib.hid (show Below w.heap.size w W4 by rw [hW4]; exact (HB3.out.trans (hb.mono HB3.out.size)).trans ((below_alloc6 w4 _).mono (HB3.out.trans (hb.mono HB3.out.size)).size))
  have HT4 := Lib.hid (show TW W4 by rw [hW4]; exact (HT3.out.kept hb).al _)
  have hx := HE3.out.1.kept hb HE3.out.1.lt
  have f0_0 := hx.c0
  have f0_1 := hx.c1
  have f0_2 := hx.c2
  have fl0 := hx.lt
  clear hx
  have hx := HE3.out.2.kept hb HE3.out.2.lt
  have f1_0 := hx.c0
  have f1_1 := hx.c1
  have f1_2 := hx.c2
  have fl1 := hx.lt
  clear hx
  clear hb HE3 HB3 HT3
  go_wp2_with fail
  first | rw [← hW4, ← hgp] | rw [← hW4] | skip
  clear hW4 hgp
  clear f0_0 f0_1 f0_2 fl0 f1_0 f1_1 f1_2 fl1
  refine (HBD.out _).mono ?_
  rintro e w5 ⟨rfl, hb⟩
  obtain ⟨gr, hgr⟩ : ∃ g, g = w5.heap.size := ⟨_, rfl⟩
  obtain ⟨W5, hW5⟩ : ∃ W, W = w5.alloc (.cells #[.bool va, .int .u64 xp, .int .u64 zp, .bool va, .int .u64 xl, .int .u64 zl] 40) := ⟨_, rfl⟩
  have HE5 := Lib.hid (show AB W5 w.heap.size va xa za ∧ AB W5 (w.heap.size + 1) vb xb zb ∧ PB W5 gp va xp zp k ∧ RB W5 gr va xp zp va xl zl from by rw [hW5, hgr]; exact ⟨(HE4.out.1.kept hb HE4.out.1.lt).al _ , (HE4.out.2.1.kept hb HE4.out.2.1.lt).al _ , (HE4.out.2.2.kept hb HE4.out.2.2.lt).al _ , rb_new w5 va xp zp va xl zl⟩)
  have HB5 := Lib.hid (show Below w.heap.size w W5 by rw [hW5]; exact (HB4.out.trans (hb.mono HB4.out.size)).trans ((below_alloc6 w5 _).mono (HB4.out.trans (hb.mono HB4.out.size)).size))
  have HT5 := Lib.hid (show TW W5 by rw [hW5]; exact (HT4.out.kept hb).al _)
  have hx := HE4.out.1.kept hb HE4.out.1.lt
  have f0_0 := hx.c0
  have f0_1 := hx.c1
  have f0_2 := hx.c2
  have fl0 := hx.lt
  clear hx
  have hx := HE4.out.2.1.kept hb HE4.out.2.1.lt
  have f1_0 := hx.c0
  have f1_1 := hx.c1
  have f1_2 := hx.c2
  have fl1 := hx.lt
  clear hx
  have hx := HE4.out.2.2.kept hb HE4.out.2.2.lt
  have f2_0 := hx.c0
  have f2_1 := hx.c1
  have f2_2 := hx.c2
  have f2_3 := hx.c3
  have fl2 := hx.lt
  clear hx
  clear hb HE4 HB4 HT4
  go_wp2_with fail
  first | rw [← hW5, ← hgr] | rw [← hW5] | skip
  clear hW5 hgr
  clear f0_0 f0_1 f0_2 fl0 f1_0 f1_1 f1_2 fl1 f2_0 f2_1 f2_2 f2_3 fl2
  refine (HCA.out _).mono ?_
  rintro e w6 ⟨rfl, hb⟩
  have HE6 := Lib.hid (show AB w6 w.heap.size va xa za ∧ AB w6 (w.heap.size + 1) vb xb zb ∧ PB w6 gp va xp zp k ∧ RB w6 gr va xp zp va xl zl from ⟨HE5.out.1.kept hb HE5.out.1.lt , HE5.out.2.1.kept hb HE5.out.2.1.lt , HE5.out.2.2.1.kept hb HE5.out.2.2.1.lt , HE5.out.2.2.2.kept hb HE5.out.2.2.2.lt⟩)
  have HB6 := Lib.hid (HB5.out.trans (hb.mono HB5.out.size))
  have HT6 := Lib.hid (HT5.out.kept hb)
  clear hb HE5 HB5 HT5
  have f0_0 := HE6.out.1.c0
  have f0_1 := HE6.out.1.c1
  have f0_2 := HE6.out.1.c2
  have fl0 := HE6.out.1.lt
  have f1_0 := HE6.out.2.1.c0
  have f1_1 := HE6.out.2.1.c1
  have f1_2 := HE6.out.2.1.c2
  have fl1 := HE6.out.2.1.lt
  have f2_0 := HE6.out.2.2.1.c0
  have f2_1 := HE6.out.2.2.1.c1
  have f2_2 := HE6.out.2.2.1.c2
  have f2_3 := HE6.out.2.2.1.c3
  have fl2 := HE6.out.2.2.1.lt
  have f3_0 : w6.cell? ⟨gr, 0, none⟩ = some (.bool va) := (HE6.out.2.2.2.c 0).trans rfl
  have f3_1 : w6.cell? ⟨gr, 1, none⟩ = some (.int .u64 xp) := (HE6.out.2.2.2.c 1).trans rfl
  have f3_2 : w6.cell? ⟨gr, 2, none⟩ = some (.int .u64 zp) := (HE6.out.2.2.2.c 2).trans rfl
  have f3_3 : w6.cell? ⟨gr, 3, none⟩ = some (.bool va) := (HE6.out.2.2.2.c 3).trans rfl
  have f3_4 : w6.cell? ⟨gr, 4, none⟩ = some (.int .u64 xl) := (HE6.out.2.2.2.c 4).trans rfl
  have f3_5 : w6.cell? ⟨gr, 5, none⟩ = some (.int .u64 zl) := (HE6.out.2.2.2.c 5).trans rfl
  have fl3 := HE6.out.2.2.2.lt
  go_wp2_with fail
  clear f0_0 f0_1 f0_2 fl0 f1_0 f1_1 f1_2 fl1 f2_0 f2_1 f2_2 f2_3 fl2 f3_0 f3_1 f3_2 f3_3 f3_4 f3_5 fl3
  refine (HCF.out _).mono ?_
  rintro e w7 ⟨rfl, hb⟩
  have HE7 := Lib.hid (show AB w7 w.heap.size va xa za ∧ AB w7 (w.heap.size + 1) vb xb zb ∧ PB w7 gp va xp zp k ∧ RB w7 gr va xp zp va xl zl from ⟨HE6.out.1.kept hb HE6.out.1.lt , HE6.out.2.1.kept hb HE6.out.2.1.lt , HE6.out.2.2.1.kept hb HE6.out.2.2.1.lt , HE6.out.2.2.2.kept hb HE6.out.2.2.2.lt⟩)
  have HB7 := Lib.hid (HB6.out.trans (hb.mono HB6.out.size))
  have HT7 := Lib.hid (HT6.out.kept hb)
  clear hb HE6 HB6 HT6
  have f0_0 := HE7.out.1.c0
  have f0_1 := HE7.out.1.c1
  have f0_2 := HE7.out.1.c2
  have fl0 := HE7.out.1.lt
  have f1_0 := HE7.out.2.1.c0
  have f1_1 := HE7.out.2.1.c1
  have f1_2 := HE7.out.2.1.c2
  have fl1 := HE7.out.2.1.lt
  have f2_0 := HE7.out.2.2.1.c0
  have f2_1 := HE7.out.2.2.1.c1
  have f2_2 := HE7.out.2.2.1.c2
  have f2_3 := HE7.out.2.2.1.c3
  have fl2 := HE7.out.2.2.1.lt
  have f3_0 : w7.cell? ⟨gr, 0, none⟩ = some (.bool va) := (HE7.out.2.2.2.c 0).trans rfl
  have f3_1 : w7.cell? ⟨gr, 1, none⟩ = some (.int .u64 xp) := (HE7.out.2.2.2.c 1).trans rfl
  have f3_2 : w7.cell? ⟨gr, 2, none⟩ = some (.int .u64 zp) := (HE7.out.2.2.2.c 2).trans rfl
  have f3_3 : w7.cell? ⟨gr, 3, none⟩ = some (.bool va) := (HE7.out.2.2.2.c 3).trans rfl
  have f3_4 : w7.cell? ⟨gr, 4, none⟩ = some (.int .u64 xl) := (HE7.out.2.2.2.c 4).trans rfl
  have f3_5 : w7.cell? ⟨gr, 5, none⟩ = some (.int .u64 zl) := (HE7.out.2.2.2.c 5).trans rfl
  have fl3 := HE7.out.2.2.2.lt
  go_wp2_with fail
  clear f0_0 f0_1 f0_2 fl0 f1_0 f1_1 f1_2 fl1 f2_0 f2_1 f2_2 f2_3 fl2 f3_0 f3_1 f3_2 f3_3 f3_4 f3_5 fl3
  refine (HCL.out _).mono ?_
  rintro e w8 ⟨rfl, hb⟩
  have HE8 := Lib.hid (show AB w8 w.heap.size va xa za ∧ AB w8 (w.heap.size + 1) vb xb zb ∧ PB w8 gp va xp zp k ∧ RB w8 gr va xp zp va xl zl from ⟨HE7.out.1.kept hb HE7.out.1.lt , HE7.out.2.1.kept hb HE7.out.2.1.lt , HE7.out.2.2.1.kept hb HE7.out.2.2.1.lt , HE7.out.2.2.2.kept hb HE7.out.2.2.2.lt⟩)
  have HB8 := Lib.hid (HB7.out.trans (hb.mono HB7.out.size))
  have HT8 := Lib.hid (HT7.out.kept hb)
  clear hb HE7 HB7 HT7
  have f0_0 := HE8.out.1.c0
  have f0_1 := HE8.out.1.c1
  have f0_2 := HE8.out.1.c2
  have fl0 := HE8.out.1.lt
  have f1_0 := HE8.out.2.1.c0
  have f1_1 := HE8.out.2.1.c1
  have f1_2 := HE8.out.2.1.c2
  have fl1 := HE8.out.2.1.lt
  have f2_0 := HE8.out.2.2.1.c0
  have f2_1 := HE8.out.2.2.1.c1
  have f2_2 := HE8.out.2.2.1.c2
  have f2_3 := HE8.out.2.2.1.c3
  have fl2 := HE8.out.2.2.1.lt
  have f3_0 : w8.cell? ⟨gr, 0, none⟩ = some (.bool va) := (HE8.out.2.2.2.c 0).trans rfl
  have f3_1 : w8.cell? ⟨gr, 1, none⟩ = some (.int .u64 xp) := (HE8.out.2.2.2.c 1).trans rfl
  have f3_2 : w8.cell? ⟨gr, 2, none⟩ = some (.int .u64 zp) := (HE8.out.2.2.2.c 2).trans rfl
  have f3_3 : w8.cell? ⟨gr, 3, none⟩ = some (.bool va) := (HE8.out.2.2.2.c 3).trans rfl
  have f3_4 : w8.cell? ⟨gr, 4, none⟩ = some (.int .u64 xl) := (HE8.out.2.2.2.c 4).trans rfl
  have f3_5 : w8.cell? ⟨gr, 5, none⟩ = some (.int .u64 zl) := (HE8.out.2.2.2.c 5).trans rfl
  have fl3 := HE8.out.2.2.2.lt
  go_wp2_with fail
  clear f0_0 f0_1 f0_2 fl0 f1_0 f1_1 f1_2 fl1 f2_0 f2_1 f2_2 f2_3 fl2 f3_0 f3_1 f3_2 f3_3 f3_4 f3_5 fl3
  refine wp_region_pick (fun w' => Below w8.heap.size w8 w') (by kernel_rfl) (by kernel_rfl) (Below.refl _ _) ⟨rfl, rfl, rfl, Nat.le_refl _, fun _ _ => rfl⟩ (fun p hp hq => ?_)
  have p0_0 : ∀ u, (p u).cell? ⟨w.heap.size, 0, none⟩ = some (.bool va) := fun u => (HE8.out.1.kept (hp u) HE8.out.1.lt).c0
  have p0_1 : ∀ u, (p u).cell? ⟨w.heap.size, 1, none⟩ = some (.int .u64 xa) := fun u => (HE8.out.1.kept (hp u) HE8.out.1.lt).c1
  have p0_2 : ∀ u, (p u).cell? ⟨w.heap.size, 2, none⟩ = some (.int .u64 za) := fun u => (HE8.out.1.kept (hp u) HE8.out.1.lt).c2
  have p1_0 : ∀ u, (p u).cell? ⟨(w.heap.size + 1), 0, none⟩ = some (.bool vb) := fun u => (HE8.out.2.1.kept (hp u) HE8.out.2.1.lt).c0
  have p1_1 : ∀ u, (p u).cell? ⟨(w.heap.size + 1), 1, none⟩ = some (.int .u64 xb) := fun u => (HE8.out.2.1.kept (hp u) HE8.out.2.1.lt).c1
  have p1_2 : ∀ u, (p u).cell? ⟨(w.heap.size + 1), 2, none⟩ = some (.int .u64 zb) := fun u => (HE8.out.2.1.kept (hp u) HE8.out.2.1.lt).c2
  have p2_0 : ∀ u, (p u).cell? ⟨gp, 0, none⟩ = some (.bool va) := fun u => (HE8.out.2.2.1.kept (hp u) HE8.out.2.2.1.lt).c0
  have p2_1 : ∀ u, (p u).cell? ⟨gp, 1, none⟩ = some (.int .u64 xp) := fun u => (HE8.out.2.2.1.kept (hp u) HE8.out.2.2.1.lt).c1
  have p2_2 : ∀ u, (p u).cell? ⟨gp, 2, none⟩ = some (.int .u64 zp) := fun u => (HE8.out.2.2.1.kept (hp u) HE8.out.2.2.1.lt).c2
  have p2_3 : ∀ u, (p u).cell? ⟨gp, 3, none⟩ = some (.int .i64 k) := fun u => (HE8.out.2.2.1.kept (hp u) HE8.out.2.2.1.lt).c3
  have p3_0 : ∀ u, (p u).cell? ⟨gr, 0, none⟩ = some (.bool va) := fun u => ((HE8.out.2.2.2.kept (hp u) HE8.out.2.2.2.lt).c 0).trans rfl
  have p3_1 : ∀ u, (p u).cell? ⟨gr, 1, none⟩ = some (.int .u64 xp) := fun u => ((HE8.out.2.2.2.kept (hp u) HE8.out.2.2.2.lt).c 1).trans rfl
  have p3_2 : ∀ u, (p u).cell? ⟨gr, 2, none⟩ = some (.int .u64 zp) := fun u => ((HE8.out.2.2.2.kept (hp u) HE8.out.2.2.2.lt).c 2).trans rfl
  have p3_3 : ∀ u, (p u).cell? ⟨gr, 3, none⟩ = some (.bool va) := fun u => ((HE8.out.2.2.2.kept (hp u) HE8.out.2.2.2.lt).c 3).trans rfl
  have p3_4 : ∀ u, (p u).cell? ⟨gr, 4, none⟩ = some (.int .u64 xl) := fun u => ((HE8.out.2.2.2.kept (hp u) HE8.out.2.2.2.lt).c 4).trans rfl
  have p3_5 : ∀ u, (p u).cell? ⟨gr, 5, none⟩ = some (.int .u64 zl) := fun u => ((HE8.out.2.2.2.kept (hp u) HE8.out.2.2.2.lt).c 5).trans rfl
  have HP := Lib.hid hp
  have HQ := Lib.hid hq
  clear hp hq
  by_cases d1 : c1 ≤ 0
  · have t1 : decide (c1 ≤ 0) = true := decide_eq_true d1
    rw [t1, Bool.true_and] at HCB
    cases t2 : decide (c2 ≤ 0)
    all_goals
      rw [t2] at HCB
      repeat (go_big_quiet_step ((first | with_reducible exact Calls.pick_of HQ.out (fun W' hb => (HP.out _).trans (hb.mono (HP.out _).size)) (HCB.out _) | with_reducible exact Calls.pick_of HQ.out (fun W' hb => (HP.out _).trans (hb.mono (HP.out _).size)) (HC1.out _) | with_reducible exact Calls.pick_of HQ.out (fun W' hb => (HP.out _).trans (hb.mono (HP.out _).size)) (HC2.out _))))
      refine wpQuiet_nil ?_
      rintro _ ⟨u, rfl⟩
      have HS := Lib.hid (HP.out u)
      generalize p u = W9 at *
      clear HP HQ p0_0 p0_1 p0_2 p1_0 p1_1 p1_2 p2_0 p2_1 p2_2 p2_3 p3_0 p3_1 p3_2 p3_3 p3_4 p3_5
      go_wp2_with fail
      go_ret
      exact ⟨rfl, HB8.out.trans (HS.out.mono HB8.out.size)⟩
  · have t1 : decide (c1 ≤ 0) = false := decide_eq_false d1
    rw [t1, Bool.false_and] at HCB
    repeat (go_big_quiet_step ((first | with_reducible exact Calls.pick_of HQ.out (fun W' hb => (HP.out _).trans (hb.mono (HP.out _).size)) (HCB.out _) | with_reducible exact Calls.pick_of HQ.out (fun W' hb => (HP.out _).trans (hb.mono (HP.out _).size)) (HC1.out _) | with_reducible exact Calls.pick_of HQ.out (fun W' hb => (HP.out _).trans (hb.mono (HP.out _).size)) (HC2.out _))))
    refine wpQuiet_nil ?_
    rintro _ ⟨u, rfl⟩
    have HS := Lib.hid (HP.out u)
    generalize p u = W9 at *
    clear HP HQ p0_0 p0_1 p0_2 p1_0 p1_1 p1_2 p2_0 p2_1 p2_2 p2_3 p3_0 p3_1 p3_2 p3_3 p3_4 p3_5
    go_wp2_with fail
    go_ret
    exact ⟨rfl, HB8.out.trans (HS.out.mono HB8.out.size)⟩
theorem walk (va : Bool) (xa za : Nat) (vb : Bool) (xb zb : Nat) (n : Int) (w : World) (ht : TW w) (hxa : xa < 18446744073709551616) (hza : za < 18446744073709551616) (hxb : xb < 18446744073709551616) (hzb : zb < 18446744073709551616) (hn : (Lit.int .i64 n).wf = true) :
    Calls Tryd.prog 9 #[.agg #[.bool va, .int .u64 xa, .int .u64 za], .agg #[.bool vb, .int .u64 xb, .int .u64 zb], .int .i64 n] w fun e w' => e = .returned (.bool true) ∧ Below w.heap.size w w' := by
  cases v0 : vldA va xa za with
  | false => exact inv0 va xa za vb xb zb n w ht hxa hza hxb hzb v0
  | true =>
    cases v1 : vldA vb xb zb with
    | false => exact inv1 va xa za vb xb zb n w ht hxa hza hxb hzb v0 v1
    | true =>
      by_cases hb : n < 0 ∨ (width va : Int) < n
      · exact bad va xa za vb xb zb n w ht hxa hza hxb hzb v0 v1 hb
      · obtain ⟨k, rfl⟩ := Int.eq_ofNat_of_zero_le (a := n) (by omega)
        exact good va xa za vb xb zb k w ht hxa hza hxb hzb v0 v1 (by omega)

set_option maxRecDepth 100000 in
theorem lifted (os : Os) (started : os.Started) (H : Type) (enc : TypeId × Value → H) :
    ReturnsInHanded {} Tryd.checked os 9 .any (fun w args => (Rows.addressContainsSpec.pre enc Tryd.prog Tryd.f9 [] false w args ∧ laidMetH Tryd.prog laidL w) ∧ sizedMet enc Tryd.prog Tryd.f9 (OpenSpec.ofChange Rows.addressContainsSpec) false w args) (Rows.addressContainsSpec.post enc Tryd.prog Tryd.f9 false true false false) := by
  refine wrap6 (C := Tryd.checked) (X := fun w _ => laidMetH Tryd.prog laidL w) (fun _ _ _ hh h => h.of_heap hh) own started (by kernel_rfl) Tryd.func9
    (ChangeSpec.witness_shaped (enc := enc) (C := Tryd.checked) (os := os) (X := fun w _ => laidMetH Tryd.prog laidL w) false (World.laidAll Tryd.prog os laidL) #[(.agg #[.bool false, .int .u64 0, .int .u64 0]), (.agg #[.bool false, .int .u64 0, .int .u64 0]), .int .i64 0] 8 (World.laidAll_os _ _ _) (World.shaped_of_ZipB (by kernel_rfl) (by kernel_rfl)) (by kernel_rfl) (by kernel_rfl) (by kernel_rfl) (door_met os _)) ?_
  intro W base args ds gs before hval0 hW hL hsh
  have hval : ∀ (j : Nat) t v, Tryd.f9.params[j]? = some t → args[j]? = some v → Value.okWide Tryd.prog W .any base t v := hval0
  have hW' := hW
  obtain ⟨p, q, hA0, hV, rfl, hfz, hnd⟩ := hW
  have hA : DataW.TrodAll enc Tryd.prog W 0 (fun _ => true) true Tryd.f9.params.toList args.toList ds p := hA0
  rw [Tryd.params9] at hA hval
  obtain ⟨v0, vs0, d0, ds0, p0, q0, hargs, rfl, rfl, h0, r0⟩ := trodAll_cons hA
  obtain ⟨v1, vs1, d1, ds1, p1, q1, rfl, rfl, rfl, h1, r1⟩ := trodAll_cons r0
  obtain ⟨v2, vs2, d2, ds2, p2, q2, rfl, rfl, rfl, h2, r2⟩ := trodAll_cons r1
  obtain ⟨rfl, rfl, rfl⟩ := trodAll_nil r2
  obtain rfl : args = #[v0, v1, v2] := by cases args; simp_all
  obtain ⟨rfl, rfl⟩ := trodVars_none hV
  have k0 := h0
  have lt0 : ∀ x ∈ p0, x.block < W.heap.size := by obtain ⟨m, hm⟩ := k0; exact DataW.trod_lt m _ _ _ hm
  obtain ⟨c00, c01, c02, y00, y01, y02, m0, rfl, rfl, rfl, hy00, hy01, hy02⟩ := open_agg3 Tryd.underlying25 (by kernel_rfl) cellsAddr6 (hval 0 25 v0 rfl rfl) h0
  obtain ⟨b0, e00, rfl⟩ := DataW.trod_bool Tryd.underlying4 hy00
  obtain ⟨x0, e01, rfl, wx0⟩ := DataW.trod_int Tryd.underlying23 hy01
  obtain ⟨z0, e02, rfl, wz0⟩ := DataW.trod_int Tryd.underlying23 hy02
  simp at e00 e01 e02
  subst e00 e01 e02
  obtain ⟨X0, rfl, hX0⟩ := nat_of_wf6 wx0
  obtain ⟨Z0, rfl, hZ0⟩ := nat_of_wf6 wz0
  have k1 := h1
  have lt1 : ∀ x ∈ p1, x.block < W.heap.size := by obtain ⟨m, hm⟩ := k1; exact DataW.trod_lt m _ _ _ hm
  obtain ⟨c10, c11, c12, y10, y11, y12, m1, rfl, rfl, rfl, hy10, hy11, hy12⟩ := open_agg3 Tryd.underlying25 (by kernel_rfl) cellsAddr6 (hval 1 25 v1 rfl rfl) h1
  obtain ⟨b1, e10, rfl⟩ := DataW.trod_bool Tryd.underlying4 hy10
  obtain ⟨x1, e11, rfl, wx1⟩ := DataW.trod_int Tryd.underlying23 hy11
  obtain ⟨z1, e12, rfl, wz1⟩ := DataW.trod_int Tryd.underlying23 hy12
  simp at e10 e11 e12
  subst e10 e11 e12
  obtain ⟨X1, rfl, hX1⟩ := nat_of_wf6 wx1
  obtain ⟨Z1, rfl, hZ1⟩ := nat_of_wf6 wz1
  obtain ⟨a2, rfl, rfl, rfl, w2⟩ := open_int Tryd.underlying3 (hval 2 3 v2 rfl rfl) h2
  clear hA0 hval0
  refine (walk b0 X0 Z0 b1 X1 Z1 a2 W (tied_of_laid hL hsh) hX0 hZ0 hX1 hZ1 w2).mono fun e W' ⟨he, bel⟩ => ?_
  subst he
  exact ⟨_, rfl, _, _, _, [], _, [], hW', trodAll_mk1 (shut_bool Tryd.underlying4 _), (trodAll_cons_mk (Below.trod laidOut (by kernel_rfl) (of_decide_eq_true (by kernel_rfl)) k0 bel lt0) (trodAll_cons_mk (Below.trod laidOut (by kernel_rfl) (of_decide_eq_true (by kernel_rfl)) k1 bel lt1) (trodAll_cons_mk (shut_int Tryd.underlying3 w2) trodAll_mk0))), rfl, bel.frame _, fun h => by cases h⟩

theorem over : Rows.addressContainsRow.holds Tryd.pinned (OpenSpec.ofChange Rows.addressContainsSpec) :=
  OpenClaim.holds_of_wide 9 Tryd.f9 rfl rfl rfl rfl rfl rfl rfl ⟨rfl, rfl, rfl, rfl, rfl⟩ rfl rfl rfl rfl rfl (by kernel_rfl) Tryd.func9 (by kernel_rfl)
    (of_decide_eq_true (by kernel_rfl)) (by unfold Func.isWrapper; first | (rw [if_pos (by decide +kernel)]; kernel_rfl) | (rw [if_neg (by decide +kernel)]; exact ⟨rfl, rfl⟩))
    (fun os started H enc _ => lifted os started H enc)

theorem bare : Rows.AddressContainsSaid := over

/-- The tied card. -/
theorem proved : Rows.AddressContainsCardSaid :=
  Claim7.holds_tied_plain_at .later [] _ true _ false
    bare (fun _ h => by cases h) (by kernel_rfl) (fun _ h => by cases h) addressContains_row_tie rfl ⟨rfl, rfl⟩ (by kernel_rfl) rfl
    (fun f fn hf hfn => by
      obtain rfl : f = 9 := Option.some.inj ((show Tryd.prog.funcNamed "intrusion/intrusionlaw06.AddressContains" = some 9 by kernel_rfl).symm.trans hf) |>.symm
      obtain rfl : fn = Tryd.f9 := (Option.some.inj (Tryd.func9.symm.trans hfn)).symm
      exact ⟨by kernel_rfl, fun j t ht => by
        rw [Tryd.params9] at ht
        have hm : t ∈ [25, 25, 3] := by simpa using Array.mem_of_getElem? ht
        have hall : ([25, 25, 3].all fun u => !Tryd.prog.wantsStandIn u) = true := by kernel_rfl
        exact (show Tryd.prog.wantsStandIn t = false by simpa using List.all_eq_true.1 hall t hm)⟩)
    (by kernel_rfl)
#print axioms proved


end Go.Proofs.YtcblgbonijloiaaDoor.addressContains
