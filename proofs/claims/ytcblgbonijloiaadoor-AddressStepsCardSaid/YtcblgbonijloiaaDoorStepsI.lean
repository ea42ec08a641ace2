/- AddressSteps holds: for every three addresses the law about Next, Previous and Compare returns true and leaves memory as it was; the library's tables are tied to the program's text. No other condition. -/
import Derived.Test.YtcblgbonijloiaaDoorAwk06b
import Derived.Test.YtcblgbonijloiaaDoorCards
namespace Go.Proofs.YtcblgbonijloiaaDoor.addressSteps
open Go.ChangeShapes Go.WideShapes Go.ChangeAt Go.RowKit
set_option linter.unusedVariables false

theorem own : ownKnob Tryd.prog.godebug = none := by kernel_rfl
theorem laidOut : laidOutB Tryd.prog = true := by kernel_rfl
theorem ab3 (w : World) (o1 o2 : Obj) (v6 : Bool) (hi lo : Nat) : AB (((w.alloc o1).alloc o2).alloc (.cells #[.bool v6, .int .u64 hi, .int .u64 lo] 25)) (w.heap.size + 2) v6 hi lo := by
  have := ab_new ((w.alloc o1).alloc o2) v6 hi lo
  rwa [show ((w.alloc o1).alloc o2).heap.size = w.heap.size + 2 by simp] at this
set_option maxHeartbeats 16000000 in
set_option maxRecDepth 20000 in
theorem inv0 (va : Bool) (xa za : Nat) (vb : Bool) (xb zb : Nat) (vc : Bool) (xc zc : Nat) (w : World) (ht : TW w) (hxa : xa < 18446744073709551616) (hza : za < 18446744073709551616) (hxb : xb < 18446744073709551616) (hzb : zb < 18446744073709551616) (hxc : xc < 18446744073709551616) (hzc : zc < 18446744073709551616) (v0 : vldA va xa za = false) :
    Calls Tryd.prog 8 #[.agg #[.bool va, .int .u64 xa, .int .u64 za], .agg #[.bool vb, .int .u64 xb, .int .u64 zb], .agg #[.bool vc, .int .u64 xc, .int .u64 zc]] w fun e w' => e = .returned (.bool true) ∧ Below w.heap.size w w' := by
  have hm := addr_guard
  have HL := Lib.hid (fun W t => lives_any W t)
  have HV0 := Lib.hid (fun W => qvalid_any va xa za W)
  have HV1 := Lib.hid (fun W => qvalid_any vb xb zb W)
  have HV2 := Lib.hid (fun W => qvalid_any vc xc zc W)
  obtain ⟨W0, hW0⟩ : ∃ W, W = ((w.alloc (.cells #[.bool va, .int .u64 xa, .int .u64 za] 25)).alloc (.cells #[.bool vb, .int .u64 xb, .int .u64 zb] 25)).alloc (.cells #[.bool vc, .int .u64 xc, .int .u64 zc] 25) := ⟨_, rfl⟩
  have HB0 := Lib.hid (show Below w.heap.size w W0 by rw [hW0]; exact below3 w _ _ _)
  have HT0 := Lib.hid (show TW W0 by rw [hW0]; exact ht.kept (below3 w _ _ _))
  have HE0 := Lib.hid (show AB W0 w.heap.size va xa za ∧ AB W0 (w.heap.size + 1) vb xb zb ∧ AB W0 (w.heap.size + 2) vc xc zc from by rw [hW0]; exact ⟨((ab_new w va xa za).al _).al _, (ab2 w _ vb xb zb).al _, ab3 w _ _ vc xc zc⟩)
  rw [v0] at HV0
  go_enter Tryd.func8, Tryd.ntmps8
  go_wp2_with fail
  rw [← hW0]
  clear hW0
  refine (HL.out _ HT0.out).mono ?_
  rintro e w1 ⟨rfl, hb⟩
  have HE1 := Lib.hid (show AB w1 w.heap.size va xa za ∧ AB w1 (w.heap.size + 1) vb xb zb ∧ AB w1 (w.heap.size + 2) vc xc zc from ⟨HE0.out.1.kept hb HE0.out.1.lt , HE0.out.2.1.kept hb HE0.out.2.1.lt , HE0.out.2.2.kept hb HE0.out.2.2.lt⟩)
  have HB1 := Lib.hid (HB0.out.trans (hb.mono HB0.out.size))
  have HT1 := Lib.hid (HT0.out.kept hb)
  clear hb HE0 HB0 HT0
  have f0_0 := HE1.out.1.c0
  have f0_1 := HE1.out.1.c1
  have f0_2 := HE1.out.1.c2
  have fl0 := HE1.out.1.lt
  have f1_0 := HE1.out.2.1.c0
  have f1_1 := HE1.out.2.1.c1
  have f1_2 := HE1.out.2.1.c2
  have fl1 := HE1.out.2.1.lt
  have f2_0 := HE1.out.2.2.c0
  have f2_1 := HE1.out.2.2.c1
  have f2_2 := HE1.out.2.2.c2
  have fl2 := HE1.out.2.2.lt
  go_wp2_with fail
  clear f0_0 f0_1 f0_2 fl0 f1_0 f1_1 f1_2 fl1 f2_0 f2_1 f2_2 fl2
  refine (HV0.out _).mono ?_
  rintro e w2 ⟨rfl, hb⟩
  have HE2 := Lib.hid (show AB w2 w.heap.size va xa za ∧ AB w2 (w.heap.size + 1) vb xb zb ∧ AB w2 (w.heap.size + 2) vc xc zc from ⟨HE1.out.1.kept hb HE1.out.1.lt , HE1.out.2.1.kept hb HE1.out.2.1.lt , HE1.out.2.2.kept hb HE1.out.2.2.lt⟩)
  have HB2 := Lib.hid (HB1.out.trans (hb.mono HB1.out.size))
  have HT2 := Lib.hid (HT1.out.kept hb)
  clear hb HE1 HB1 HT1
  have f0_0 := HE2.out.1.c0
  have f0_1 := HE2.out.1.c1
  have f0_2 := HE2.out.1.c2
  have fl0 := HE2.out.1.lt
  have f1_0 := HE2.out.2.1.c0
  have f1_1 := HE2.out.2.1.c1
  have f1_2 := HE2.out.2.1.c2
  have fl1 := HE2.out.2.1.lt
  have f2_0 := HE2.out.2.2.c0
  have f2_1 := HE2.out.2.2.c1
  have f2_2 := HE2.out.2.2.c2
  have fl2 := HE2.out.2.2.lt
  go_wp2_with fail
  go_ret
  exact ⟨rfl, HB2.out⟩
set_option maxHeartbeats 16000000 in
set_option maxRecDepth 20000 in
theorem inv1 (va : Bool) (xa za : Nat) (vb : Bool) (xb zb : Nat) (vc : Bool) (xc zc : Nat) (w : World) (ht : TW w) (hxa : xa < 18446744073709551616) (hza : za < 18446744073709551616) (hxb : xb < 18446744073709551616) (hzb : zb < 18446744073709551616) (hxc : xc < 18446744073709551616) (hzc : zc < 18446744073709551616) (v0 : vldA va xa za = true) (v1 : vldA vb xb zb = false) :
    Calls Tryd.prog 8 #[.agg #[.bool va, .int .u64 xa, .int .u64 za], .agg #[.bool vb, .int .u64 xb, .int .u64 zb], .agg #[.bool vc, .int .u64 xc, .int .u64 zc]] w fun e w' => e = .returned (.bool true) ∧ Below w.heap.size w w' := by
  have hm := addr_guard
  have HL := Lib.hid (fun W t => lives_any W t)
  have HV0 := Lib.hid (fun W => qvalid_any va xa za W)
  have HV1 := Lib.hid (fun W => qvalid_any vb xb zb W)
  have HV2 := Lib.hid (fun W => qvalid_any vc xc zc W)
  obtain ⟨W0, hW0⟩ : ∃ W, W = ((w.alloc (.cells #[.bool va, .int .u64 xa, .int .u64 za] 25)).alloc (.cells #[.bool vb, .int .u64 xb, .int .u64 zb] 25)).alloc (.cells #[.bool vc, .int .u64 xc, .int .u64 zc] 25) := ⟨_, rfl⟩
  have HB0 := Lib.hid (show Below w.heap.size w W0 by rw [hW0]; exact below3 w _ _ _)
  have HT0 := Lib.hid (show TW W0 by rw [hW0]; exact ht.kept (below3 w _ _ _))
  have HE0 := Lib.hid (show AB W0 w.heap.size va xa za ∧ AB W0 (w.heap.size + 1) vb xb zb ∧ AB W0 (w.heap.size + 2) vc xc zc from by rw [hW0]; exact ⟨((ab_new w va xa za).al _).al _, (ab2 w _ vb xb zb).al _, ab3 w _ _ vc xc zc⟩)
  rw [v0] at HV0
  rw [v1] at HV1
  go_enter Tryd.func8, Tryd.ntmps8
  go_wp2_with fail
  rw [← hW0]
  clear hW0
  refine (HL.out _ HT0.out).mono ?_
  rintro e w1 ⟨rfl, hb⟩
  have HE1 := Lib.hid (show AB w1 w.heap.size va xa za ∧ AB w1 (w.heap.size + 1) vb xb zb ∧ AB w1 (w.heap.size + 2) vc xc zc from ⟨HE0.out.1.kept hb HE0.out.1.lt , HE0.out.2.1.kept hb HE0.out.2.1.lt , HE0.out.2.2.kept hb HE0.out.2.2.lt⟩)
  have HB1 := Lib.hid (HB0.out.trans (hb.mono HB0.out.size))
  have HT1 := Lib.hid (HT0.out.kept hb)
  clear hb HE0 HB0 HT0
  have f0_0 := HE1.out.1.c0
  have f0_1 := HE1.out.1.c1
  have f0_2 := HE1.out.1.c2
  have fl0 := HE1.out.1.lt
  have f1_0 := HE1.out.2.1.c0
  have f1_1 := HE1.out.2.1.c1
  have f1_2 := HE1.out.2.1.c2
  have fl1 := HE1.out.2.1.lt
  have f2_0 := HE1.out.2.2.c0
  have f2_1 := HE1.out.2.2.c1
  have f2_2 := HE1.out.2.2.c2
  have fl2 := HE1.out.2.2.lt
  go_wp2_with fail
  clear f0_0 f0_1 f0_2 fl0 f1_0 f1_1 f1_2 fl1 f2_0 f2_1 f2_2 fl2
  refine (HV0.out _).mono ?_
  rintro e w2 ⟨rfl, hb⟩
  have HE2 := Lib.hid (show AB w2 w.heap.size va xa za ∧ AB w2 (w.heap.size + 1) vb xb zb ∧ AB w2 (w.heap.size + 2) vc xc zc from ⟨HE1.out.1.kept hb HE1.out.1.lt , HE1.out.2.1.kept hb HE1.out.2.1.lt , HE1.out.2.2.kept hb HE1.out.2.2.lt⟩)
  have HB2 := Lib.hid (HB1.out.trans (hb.mono HB1.out.size))
  have HT2 := Lib.hid (HT1.out.kept hb)
  clear hb HE1 HB1 HT1
  have f0_0 := HE2.out.1.c0
  have f0_1 := HE2.out.1.c1
  have f0_2 := HE2.out.1.c2
  have fl0 := HE2.out.1.lt
  have f1_0 := HE2.out.2.1.c0
  have f1_1 := HE2.out.2.1.c1
  have f1_2 := HE2.out.2.1.c2
  have fl1 := HE2.out.2.1.lt
  have f2_0 := HE2.out.2.2.c0
  have f2_1 := HE2.out.2.2.c1
  have f2_2 := HE2.out.2.2.c2
  have fl2 := HE2.out.2.2.lt
  go_wp2_with fail
  clear f0_0 f0_1 f0_2 fl0 f1_0 f1_1 f1_2 fl1 f2_0 f2_1 f2_2 fl2
  refine (HV1.out _).mono ?_
  rintro e w3 ⟨rfl, hb⟩
  have HE3 := Lib.hid (show AB w3 w.heap.size va xa za ∧ AB w3 (w.heap.size + 1) vb xb zb ∧ AB w3 (w.heap.size + 2) vc xc zc from ⟨HE2.out.1.kept hb HE2.out.1.lt , HE2.out.2.1.kept hb HE2.out.2.1.lt , HE2.out.2.2.kept hb HE2.out.2.2.lt⟩)
  have HB3 := Lib.hid (HB2.out.trans (hb.mono HB2.out.size))
  have HT3 := Lib.hid (HT2.out.kept hb)
  clear hb HE2 HB2 HT2
  have f0_0 := HE3.out.1.c0
  have f0_1 := HE3.out.1.c1
  have f0_2 := HE3.out.1.c2
  have fl0 := HE3.out.1.lt
  have f1_0 := HE3.out.2.1.c0
  have f1_1 := HE3.out.2.1.c1
  have f1_2 := HE3.out.2.1.c2
  have fl1 := HE3.out.2.1.lt
  have f2_0 := HE3.out.2.2.c0
  have f2_1 := HE3.out.2.2.c1
  have f2_2 := HE3.out.2.2.c2
  have fl2 := HE3.out.2.2.lt
  go_wp2_with fail
  go_ret
  exact ⟨rfl, HB3.out⟩
set_option maxHeartbeats 16000000 in
set_option maxRecDepth 20000 in
theorem inv2 (va : Bool) (xa za : Nat) (vb : Bool) (xb zb : Nat) (vc : Bool) (xc zc : Nat) (w : World) (ht : TW w) (hxa : xa < 18446744073709551616) (hza : za < 18446744073709551616) (hxb : xb < 18446744073709551616) (hzb : zb < 18446744073709551616) (hxc : xc < 18446744073709551616) (hzc : zc < 18446744073709551616) (v0 : vldA va xa za = true) (v1 : vldA vb xb zb = true) (v2 : vldA vc xc zc = false) :
    Calls Tryd.prog 8 #[.agg #[.bool va, .int .u64 xa, .int .u64 za], .agg #[.bool vb, .int .u64 xb, .int .u64 zb], .agg #[.bool vc, .int .u64 xc, .int .u64 zc]] w fun e w' => e = .returned (.bool true) ∧ Below w.heap.size w w' := by
  have hm := addr_guard
  have HL := Lib.hid (fun W t => lives_any W t)
  have HV0 := Lib.hid (fun W => qvalid_any va xa za W)
  have HV1 := Lib.hid (fun W => qvalid_any vb xb zb W)
  have HV2 := Lib.hid (fun W => qvalid_any vc xc zc W)
  obtain ⟨W0, hW0⟩ : ∃ W, W = ((w.alloc (.cells #[.bool va, .int .u64 xa, .int .u64 za] 25)).alloc (.cells #[.bool vb, .int .u64 xb, .int .u64 zb] 25)).alloc (.cells #[.bool vc, .int .u64 xc, .int .u64 zc] 25) := ⟨_, rfl⟩
  have HB0 := Lib.hid (show Below w.heap.size w W0 by rw [hW0]; exact below3 w _ _ _)
  have HT0 := Lib.hid (show TW W0 by rw [hW0]; exact ht.kept (below3 w _ _ _))
  have HE0 := Lib.hid (show AB W0 w.heap.size va xa za ∧ AB W0 (w.heap.size + 1) vb xb zb ∧ AB W0 (w.heap.size + 2) vc xc zc from by rw [hW0]; exact ⟨((ab_new w va xa za).al _).al _, (ab2 w _ vb xb zb).al _, ab3 w _ _ vc xc zc⟩)
  rw [v0] at HV0
  rw [v1] at HV1
  rw [v2] at HV2
  go_enter Tryd.func8, Tryd.ntmps8
  go_wp2_with fail
  rw [← hW0]
  clear hW0
  refine (HL.out _ HT0.out).mono ?_
  rintro e w1 ⟨rfl, hb⟩
  have HE1 := Lib.hid (show AB w1 w.heap.size va xa za ∧ AB w1 (w.heap.size + 1) vb xb zb ∧ AB w1 (w.heap.size + 2) vc xc zc from ⟨HE0.out.1.kept hb HE0.out.1.lt , HE0.out.2.1.kept hb HE0.out.2.1.lt , HE0.out.2.2.kept hb HE0.out.2.2.lt⟩)
  have HB1 := Lib.hid (HB0.out.trans (hb.mono HB0.out.size))
  have HT1 := Lib.hid (HT0.out.kept hb)
  clear hb HE0 HB0 HT0
  have f0_0 := HE1.out.1.c0
  have f0_1 := HE1.out.1.c1
  have f0_2 := HE1.out.1.c2
  have fl0 := HE1.out.1.lt
  have f1_0 := HE1.out.2.1.c0
  have f1_1 := HE1.out.2.1.c1
  have f1_2 := HE1.out.2.1.c2
  have fl1 := HE1.out.2.1.lt
  have f2_0 := HE1.out.2.2.c0
  have f2_1 := HE1.out.2.2.c1
  have f2_2 := HE1.out.2.2.c2
  have fl2 := HE1.out.2.2.lt
  go_wp2_with fail
  clear f0_0 f0_1 f0_2 fl0 f1_0 f1_1 f1_2 fl1 f2_0 f2_1 f2_2 fl2
  refine (HV0.out _).mono ?_
  rintro e w2 ⟨rfl, hb⟩
  have HE2 := Lib.hid (show AB w2 w.heap.size va xa za ∧ AB w2 (w.heap.size + 1) vb xb zb ∧ AB w2 (w.heap.size + 2) vc xc zc from ⟨HE1.out.1.kept hb HE1.out.1.lt , HE1.out.2.1.kept hb HE1.out.2.1.lt , HE1.out.2.2.kept hb HE1.out.2.2.lt⟩)
  have HB2 := Lib.hid (HB1.out.trans (hb.mono HB1.out.size))
  have HT2 := Lib.hid (HT1.out.kept hb)
  clear hb HE1 HB1 HT1
  have f0_0 := HE2.out.1.c0
  have f0_1 := HE2.out.1.c1
  have f0_2 := HE2.out.1.c2
  have fl0 := HE2.out.1.lt
  have f1_0 := HE2.out.2.1.c0
  have f1_1 := HE2.out.2.1.c1
  have f1_2 := HE2.out.2.1.c2
  have fl1 := HE2.out.2.1.lt
  have f2_0 := HE2.out.2.2.c0
  have f2_1 := HE2.out.2.2.c1
  have f2_2 := HE2.out.2.2.c2
  have fl2 := HE2.out.2.2.lt
  go_wp2_with fail
  clear f0_0 f0_1 f0_2 fl0 f1_0 f1_1 f1_2 fl1 f2_0 f2_1 f2_2 fl2
  refine (HV1.out _).mono ?_
  rintro e w3 ⟨rfl, hb⟩
  have HE3 := Lib.hid (show AB w3 w.heap.size va xa za ∧ AB w3 (w.heap.size + 1) vb xb zb ∧ AB w3 (w.heap.size + 2) vc xc zc from ⟨HE2.out.1.kept hb HE2.out.1.lt , HE2.out.2.1.kept hb HE2.out.2.1.lt , HE2.out.2.2.kept hb HE2.out.2.2.lt⟩)
  have HB3 := Lib.hid (HB2.out.trans (hb.mono HB2.out.size))
  have HT3 := Lib.hid (HT2.out.kept hb)
  clear hb HE2 HB2 HT2
  have f0_0 := HE3.out.1.c0
  have f0_1 := HE3.out.1.c1
  have f0_2 := HE3.out.1.c2
  have fl0 := HE3.out.1.lt
  have f1_0 := HE3.out.2.1.c0
  have f1_1 := HE3.out.2.1.c1
  have f1_2 := HE3.out.2.1.c2
  have fl1 := HE3.out.2.1.lt
  have f2_0 := HE3.out.2.2.c0
  have f2_1 := HE3.out.2.2.c1
  have f2_2 := HE3.out.2.2.c2
  have fl2 := HE3.out.2.2.lt
  go_wp2_with fail
  clear f0_0 f0_1 f0_2 fl0 f1_0 f1_1 f1_2 fl1 f2_0 f2_1 f2_2 fl2
  refine (HV2.out _).mono ?_
  rintro e w4 ⟨rfl, hb⟩
  have HE4 := Lib.hid (show AB w4 w.heap.size va xa za ∧ AB w4 (w.heap.size + 1) vb xb zb ∧ AB w4 (w.heap.size + 2) vc xc zc from ⟨HE3.out.1.kept hb HE3.out.1.lt , HE3.out.2.1.kept hb HE3.out.2.1.lt , HE3.out.2.2.kept hb HE3.out.2.2.lt⟩)
  have HB4 := Lib.hid (HB3.out.trans (hb.mono HB3.out.size))
  have HT4 := Lib.hid (HT3.out.kept hb)
  clear hb HE3 HB3 HT3
  have f0_0 := HE4.out.1.c0
  have f0_1 := HE4.out.1.c1
  have f0_2 := HE4.out.1.c2
  have fl0 := HE4.out.1.lt
  have f1_0 := HE4.out.2.1.c0
  have f1_1 := HE4.out.2.1.c1
  have f1_2 := HE4.out.2.1.c2
  have fl1 := HE4.out.2.1.lt
  have f2_0 := HE4.out.2.2.c0
  have f2_1 := HE4.out.2.2.c1
  have f2_2 := HE4.out.2.2.c2
  have fl2 := HE4.out.2.2.lt
  go_wp2_with fail
  go_ret
  exact ⟨rfl, HB4.out⟩
end Go.Proofs.YtcblgbonijloiaaDoor.addressSteps
