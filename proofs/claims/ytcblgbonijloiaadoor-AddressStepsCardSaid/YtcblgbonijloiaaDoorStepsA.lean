/- AddressSteps: one way through the law. -/
import Derived.Test.YtcblgbonijloiaaDoorStepsI
namespace Go.Proofs.YtcblgbonijloiaaDoor.addressSteps
open Go.ChangeShapes Go.WideShapes Go.ChangeAt Go.RowKit
set_option linter.unusedVariables false

set_option maxHeartbeats 16000000 in
set_option maxRecDepth 20000 in
theorem last (va : Bool) (xa za : Nat) (vb : Bool) (xb zb : Nat) (vc : Bool) (xc zc : Nat) (w : World) (ht : TW w) (hxa : xa < 18446744073709551616) (hza : za < 18446744073709551616) (hxb : xb < 18446744073709551616) (hzb : zb < 18446744073709551616) (hxc : xc < 18446744073709551616) (hzc : zc < 18446744073709551616) (v0 : vldA va xa za = true) (v1 : vldA vb xb zb = true) (v2 : vldA vc xc zc = true) (hn : nxtA va xa za = none) :
    Calls Tryd.prog 8 #[.agg #[.bool va, .int .u64 xa, .int .u64 za], .agg #[.bool vb, .int .u64 xb, .int .u64 zb], .agg #[.bool vc, .int .u64 xc, .int .u64 zc]] w fun e w' => e = .returned (.bool true) ∧ Below w.heap.size w w' := by
  have hm := addr_guard
  have HL := Lib.hid (fun W t => lives_any W t)
  have HV0 := Lib.hid (fun W => qvalid_any va xa za W)
  have HV1 := Lib.hid (fun W => qvalid_any vb xb zb W)
  have HV2 := Lib.hid (fun W => qvalid_any vc xc zc W)
  obtain ⟨W0, hW0⟩ : ∃ W, W = ((w.alloc (.cells #[.bool va, .int .u64 xa, .int .u64 za] 25)).alloc (.cells #[.bool vb, .int .u64 xb, .int .u64 zb] 25)).alloc (.cells #[.bool vc, .int .u64 xc, .int .u64 zc] 25) := ⟨_, rfl⟩
  have HB0 := Lib.hid (show Below w.heap.size w W0 by rw [hW0]; exact below3 w _ _ _)
  have HT0 := Lib.hid (show TW W0 by rw [hW0]; exact ht.kept (below3 w _ _ _))
  have HE0 := Lib.hid (show AB W0 w.heap.size va xa za ∧ AB W0 (w.heap.size + 1) vb xb zb ∧ AB W0 (w.heap.size + 2) vc xc zc from by rw [hW0]; exact ⟨((ab_new w va xa za).al _).al _, (ab2 w _ vb xb zb).al _, ab3 w _ _ vc xc zc⟩)
  rw [v0] at HV0
  rw [v1] at HV1
  rw [v2] at HV2
  have HN := Lib.hid (fun W => qnext_any va xa za W hxa hza v0)
  rw [hn] at HN
  simp only [aRes] at HN
  obtain ⟨heq, hne, hb_ba, htr⟩ := ord3 va xa za vb xb zb vc xc zc hxa hza hxb hzb hxc hzc
  have HC_ab := Lib.hid (fun W => qcmp_any va xa za vb xb zb W)
  generalize cmpA va xa za vb xb zb = c_ab at *
  have HC_ba := Lib.hid (fun W => qcmp_any vb xb zb va xa za W)
  generalize cmpA vb xb zb va xa za = c_ba at *
  have HC_bc := Lib.hid (fun W => qcmp_any vb xb zb vc xc zc W)
  generalize cmpA vb xb zb vc xc zc = c_bc at *
  have HC_ac := Lib.hid (fun W => qcmp_any va xa za vc xc zc W)
  generalize cmpA va xa za vc xc zc = c_ac at *
  have qe := fun W => addr_eql va vb xa xb za zb W
  generalize (va == vb && ((xa : Int) == (xb : Int) && (za : Int) == (zb : Int))) = E at *
  have hw2 : IntKind.i64.wrap (-c_ba) = c_ab := by rw [← hne]; exact IntWalk.i64_in _ (by omega)
  have hE : (E != E) = false := by simp
  have hcc : (c_ab != c_ab) = false := by simp
  have hw3 : IntKind.i64.wrap c_ab = c_ab := IntWalk.i64_in _ (by omega)
  have HTR := Lib.hid htr
  clear v0 v1 v2 hn ht hxa hza hxb hzb hxc hzc htr hne
  go_enter Tryd.func8, Tryd.ntmps8
  go_wp2_with fail
  rw [← hW0]
  clear hW0
  refine (HL.out _ HT0.out).mono ?_
  rintro e w1 ⟨rfl, hb⟩
  have HE1 := Lib.hid (show AB w1 w.heap.size va xa za ∧ AB w1 (w.heap.size + 1) vb xb zb ∧ AB w1 (w.heap.size + 2) vc xc zc from ⟨HE0.out.1.kept hb HE0.out.1.lt , HE0.out.2.1.kept hb HE0.out.2.1.lt , HE0.out.2.2.kept hb HE0.out.2.2.lt⟩)
  have HB1 := Lib.hid (HB0.out.trans (hb.mono HB0.out.size))
  have HT1 := Lib.hid (HT0.out.kept hb)
  clear hb HE0 HB0 HT0
  have f0_0 := HE1.out.1.c0
  have f0_1 := HE1.out.1.c1
  have f0_2 := HE1.out.1.c2
  have fl0 := HE1.out.1.lt
  have f1_0 := HE1.out.2.1.c0
  have f1_1 := HE1.out.2.1.c1
  have f1_2 := HE1.out.2.1.c2
  have fl1 := HE1.out.2.1.lt
  have f2_0 := HE1.out.2.2.c0
  have f2_1 := HE1.out.2.2.c1
  have f2_2 := HE1.out.2.2.c2
  have fl2 := HE1.out.2.2.lt
  go_wp2_with fail
  clear f0_0 f0_1 f0_2 fl0 f1_0 f1_1 f1_2 fl1 f2_0 f2_1 f2_2 fl2
  refine (HV0.out _).mono ?_
  rintro e w2 ⟨rfl, hb⟩
  have HE2 := Lib.hid (show AB w2 w.heap.size va xa za ∧ AB w2 (w.heap.size + 1) vb xb zb ∧ AB w2 (w.heap.size + 2) vc xc zc from ⟨HE1.out.1.kept hb HE1.out.1.lt , HE1.out.2.1.kept hb HE1.out.2.1.lt , HE1.out.2.2.kept hb HE1.out.2.2.lt⟩)
  have HB2 := Lib.hid (HB1.out.trans (hb.mono HB1.out.size))
  have HT2 := Lib.hid (HT1.out.kept hb)
  clear hb HE1 HB1 HT1
  have f0_0 := HE2.out.1.c0
  have f0_1 := HE2.out.1.c1
  have f0_2 := HE2.out.1.c2
  have fl0 := HE2.out.1.lt
  have f1_0 := HE2.out.2.1.c0
  have f1_1 := HE2.out.2.1.c1
  have f1_2 := HE2.out.2.1.c2
  have fl1 := HE2.out.2.1.lt
  have f2_0 := HE2.out.2.2.c0
  have f2_1 := HE2.out.2.2.c1
  have f2_2 := HE2.out.2.2.c2
  have fl2 := HE2.out.2.2.lt
  go_wp2_with fail
  clear f0_0 f0_1 f0_2 fl0 f1_0 f1_1 f1_2 fl1 f2_0 f2_1 f2_2 fl2
  refine (HV1.out _).mono ?_
  rintro e w3 ⟨rfl, hb⟩
  have HE3 := Lib.hid (show AB w3 w.heap.size va xa za ∧ AB w3 (w.heap.size + 1) vb xb zb ∧ AB w3 (w.heap.size + 2) vc xc zc from ⟨HE2.out.1.kept hb HE2.out.1.lt , HE2.out.2.1.kept hb HE2.out.2.1.lt , HE2.out.2.2.kept hb HE2.out.2.2.lt⟩)
  have HB3 := Lib.hid (HB2.out.trans (hb.mono HB2.out.size))
  have HT3 := Lib.hid (HT2.out.kept hb)
  clear hb HE2 HB2 HT2
  have f0_0 := HE3.out.1.c0
  have f0_1 := HE3.out.1.c1
  have f0_2 := HE3.out.1.c2
  have fl0 := HE3.out.1.lt
  have f1_0 := HE3.out.2.1.c0
  have f1_1 := HE3.out.2.1.c1
  have f1_2 := HE3.out.2.1.c2
  have fl1 := HE3.out.2.1.lt
  have f2_0 := HE3.out.2.2.c0
  have f2_1 := HE3.out.2.2.c1
  have f2_2 := HE3.out.2.2.c2
  have fl2 := HE3.out.2.2.lt
  go_wp2_with fail
  clear f0_0 f0_1 f0_2 fl0 f1_0 f1_1 f1_2 fl1 f2_0 f2_1 f2_2 fl2
  refine (HV2.out _).mono ?_
  rintro e w4 ⟨rfl, hb⟩
  have HE4 := Lib.hid (show AB w4 w.heap.size va xa za ∧ AB w4 (w.heap.size + 1) vb xb zb ∧ AB w4 (w.heap.size + 2) vc xc zc from ⟨HE3.out.1.kept hb HE3.out.1.lt , HE3.out.2.1.kept hb HE3.out.2.1.lt , HE3.out.2.2.kept hb HE3.out.2.2.lt⟩)
  have HB4 := Lib.hid (HB3.out.trans (hb.mono HB3.out.size))
  have HT4 := Lib.hid (HT3.out.kept hb)
  clear hb HE3 HB3 HT3
  have f0_0 := HE4.out.1.c0
  have f0_1 := HE4.out.1.c1
  have f0_2 := HE4.out.1.c2
  have fl0 := HE4.out.1.lt
  have f1_0 := HE4.out.2.1.c0
  have f1_1 := HE4.out.2.1.c1
  have f1_2 := HE4.out.2.1.c2
  have fl1 := HE4.out.2.1.lt
  have f2_0 := HE4.out.2.2.c0
  have f2_1 := HE4.out.2.2.c1
  have f2_2 := HE4.out.2.2.c2
  have fl2 := HE4.out.2.2.lt
  go_wp2_with fail
  clear f0_0 f0_1 f0_2 fl0 f1_0 f1_1 f1_2 fl1 f2_0 f2_1 f2_2 fl2
  refine (HN.out _).mono ?_
  rintro e w5 ⟨rfl, hb⟩
  obtain ⟨gn, hgn⟩ : ∃ g, g = w5.heap.size := ⟨_, rfl⟩
  obtain ⟨W5, hW5⟩ : ∃ W, W = w5.alloc (.cells #[.bool false, .int .u64 0, .int .u64 0] 25) := ⟨_, rfl⟩
  have HE5 := Lib.hid (show AB W5 w.heap.size va xa za ∧ AB W5 (w.heap.size + 1) vb xb zb ∧ AB W5 (w.heap.size + 2) vc xc zc ∧ AB W5 gn false 0 0 from by rw [hW5, hgn]; exact ⟨(HE4.out.1.kept hb HE4.out.1.lt).al _ , (HE4.out.2.1.kept hb HE4.out.2.1.lt).al _ , (HE4.out.2.2.kept hb HE4.out.2.2.lt).al _ , ab_new w5 false 0 0⟩)
  have HB5 := Lib.hid (show Below w.heap.size w W5 by rw [hW5]; exact (HB4.out.trans (hb.mono HB4.out.size)).trans ((below_alloc6 w5 _).mono (HB4.out.trans (hb.mono HB4.out.size)).size))
  have HT5 := Lib.hid (show TW W5 by rw [hW5]; exact (HT4.out.kept hb).al _)
  have hx := HE4.out.1.kept hb HE4.out.1.lt
  have f0_0 := hx.c0
  have f0_1 := hx.c1
  have f0_2 := hx.c2
  have fl0 := hx.lt
  clear hx
  have hx := HE4.out.2.1.kept hb HE4.out.2.1.lt
  have f1_0 := hx.c0
  have f1_1 := hx.c1
  have f1_2 := hx.c2
  have fl1 := hx.lt
  clear hx
  have hx := HE4.out.2.2.kept hb HE4.out.2.2.lt
  have f2_0 := hx.c0
  have f2_1 := hx.c1
  have f2_2 := hx.c2
  have fl2 := hx.lt
  clear hx
  clear hb HE4 HB4 HT4
  go_wp2_with fail
  first | rw [← hW5, ← hgn] | rw [← hW5] | skip
  clear hW5 hgn
  have f0_0 := HE5.out.1.c0
  have f0_1 := HE5.out.1.c1
  have f0_2 := HE5.out.1.c2
  have fl0 := HE5.out.1.lt
  have f1_0 := HE5.out.2.1.c0
  have f1_1 := HE5.out.2.1.c1
  have f1_2 := HE5.out.2.1.c2
  have fl1 := HE5.out.2.1.lt
  have f2_0 := HE5.out.2.2.1.c0
  have f2_1 := HE5.out.2.2.1.c1
  have f2_2 := HE5.out.2.2.1.c2
  have fl2 := HE5.out.2.2.1.lt
  have f3_0 := HE5.out.2.2.2.c0
  have f3_1 := HE5.out.2.2.2.c1
  have f3_2 := HE5.out.2.2.2.c2
  have fl3 := HE5.out.2.2.2.lt
  go_region_held3 (fun w' => w'.cell? ⟨w.heap.size, 0, none⟩ = some (.bool va) ∧ w'.cell? ⟨w.heap.size, 1, none⟩ = some (.int .u64 xa) ∧ w'.cell? ⟨w.heap.size, 2, none⟩ = some (.int .u64 za) ∧ w'.cell? ⟨(w.heap.size + 1), 0, none⟩ = some (.bool vb) ∧ w'.cell? ⟨(w.heap.size + 1), 1, none⟩ = some (.int .u64 xb) ∧ w'.cell? ⟨(w.heap.size + 1), 2, none⟩ = some (.int .u64 zb)) (go_keep) (first | (go_at_call_of 33 (Value.agg #[.bool vb, .int .u64 (xb : Int), .int .u64 (zb : Int)]); refine (HC_ba.out _).mono ?_; rintro e wt7 ⟨rfl, hbd7⟩; have hb7 : Below W5.heap.size W5 wt7 := hb6.trans ((show Below wt6.heap.size wt6 wt7 from ⟨hbd7.os, hbd7.tape, hbd7.output, hbd7.size, hbd7.block⟩).mono hb6.size); have hy70 := HE5.out.1.kept hb7 HE5.out.1.lt; have t700 := hy70.c0; have t701 := hy70.c1; have t702 := hy70.c2; have hy71 := HE5.out.2.1.kept hb7 HE5.out.2.1.lt; have t710 := hy71.c0; have t711 := hy71.c1; have t712 := hy71.c2) | (have hz5 := hb5; go_at_call_of 33 (Value.agg #[.bool va, .int .u64 (xa : Int), .int .u64 (za : Int)]); refine (HC_ab.out _).mono ?_; rintro e wt6 ⟨rfl, hbd6⟩; have hb6 : Below W5.heap.size W5 wt6 := hb5.trans ((show Below wt5.heap.size wt5 wt6 from ⟨hbd6.os, hbd6.tape, hbd6.output, hbd6.size, hbd6.block⟩).mono hb5.size); have hy60 := HE5.out.1.kept hb6 HE5.out.1.lt; have t600 := hy60.c0; have t601 := hy60.c1; have t602 := hy60.c2; have hy61 := HE5.out.2.1.kept hb6 HE5.out.2.1.lt; have t610 := hy61.c0; have t611 := hy61.c1; have t612 := hy61.c2) | (go_at_call_of 33 (Value.agg #[.bool va, .int .u64 (xa : Int), .int .u64 (za : Int)]); refine (HC_ab.out _).mono ?_; rintro e wt5 ⟨rfl, hbd5⟩; have hb5 : Below W5.heap.size W5 wt5 := ⟨hbd5.os, hbd5.tape, hbd5.output, hbd5.size, hbd5.block⟩; have hy50 := HE5.out.1.kept hb5 HE5.out.1.lt; have t500 := hy50.c0; have t501 := hy50.c1; have t502 := hy50.c2; have hy51 := HE5.out.2.1.kept hb5 HE5.out.2.1.lt; have t510 := hy51.c0; have t511 := hy51.c1; have t512 := hy51.c2))
  all_goals
    have HE8 := Lib.hid (show AB wt7 w.heap.size va xa za ∧ AB wt7 (w.heap.size + 1) vb xb zb ∧ AB wt7 (w.heap.size + 2) vc xc zc ∧ AB wt7 gn false 0 0 from ⟨HE5.out.1.kept hb7 HE5.out.1.lt , HE5.out.2.1.kept hb7 HE5.out.2.1.lt , HE5.out.2.2.1.kept hb7 HE5.out.2.2.1.lt , HE5.out.2.2.2.kept hb7 HE5.out.2.2.2.lt⟩)
    have HB8 := Lib.hid (HB5.out.trans (hb7.mono HB5.out.size))
    have HT8 := Lib.hid (HT5.out.kept hb7)
    clear HE5 HB5 HT5 hb5 hb6 hb7
    clear t500 t501 t502 t510 t511 t512 t600 t601 t602 t610 t611 t612 t700 t701 t702 t710 t711 t712 hy50 hy51 hy60 hy61 hy70 hy71
    clear f0_0 f0_1 f0_2 fl0 f1_0 f1_1 f1_2 fl1 f2_0 f2_1 f2_2 fl2 f3_0 f3_1 f3_2 fl3
    have f0_0 := HE8.out.1.c0
    have f0_1 := HE8.out.1.c1
    have f0_2 := HE8.out.1.c2
    have fl0 := HE8.out.1.lt
    have f1_0 := HE8.out.2.1.c0
    have f1_1 := HE8.out.2.1.c1
    have f1_2 := HE8.out.2.1.c2
    have fl1 := HE8.out.2.1.lt
    have f2_0 := HE8.out.2.2.1.c0
    have f2_1 := HE8.out.2.2.1.c1
    have f2_2 := HE8.out.2.2.1.c2
    have fl2 := HE8.out.2.2.1.lt
    have f3_0 := HE8.out.2.2.2.c0
    have f3_1 := HE8.out.2.2.2.c1
    have f3_2 := HE8.out.2.2.2.c2
    have fl3 := HE8.out.2.2.2.lt
    go_wp2_with fail
    clear f0_0 f0_1 f0_2 fl0 f1_0 f1_1 f1_2 fl1 f2_0 f2_1 f2_2 fl2 f3_0 f3_1 f3_2 fl3
    refine (HC_ab.out _).mono ?_
    rintro e w9 ⟨rfl, hb⟩
    have HE9 := Lib.hid (show AB w9 w.heap.size va xa za ∧ AB w9 (w.heap.size + 1) vb xb zb ∧ AB w9 (w.heap.size + 2) vc xc zc ∧ AB w9 gn false 0 0 from ⟨HE8.out.1.kept hb HE8.out.1.lt , HE8.out.2.1.kept hb HE8.out.2.1.lt , HE8.out.2.2.1.kept hb HE8.out.2.2.1.lt , HE8.out.2.2.2.kept hb HE8.out.2.2.2.lt⟩)
    have HB9 := Lib.hid (HB8.out.trans (hb.mono HB8.out.size))
    have HT9 := Lib.hid (HT8.out.kept hb)
    clear hb HE8 HB8 HT8
    have f0_0 := HE9.out.1.c0
    have f0_1 := HE9.out.1.c1
    have f0_2 := HE9.out.1.c2
    have fl0 := HE9.out.1.lt
    have f1_0 := HE9.out.2.1.c0
    have f1_1 := HE9.out.2.1.c1
    have f1_2 := HE9.out.2.1.c2
    have fl1 := HE9.out.2.1.lt
    have f2_0 := HE9.out.2.2.1.c0
    have f2_1 := HE9.out.2.2.1.c1
    have f2_2 := HE9.out.2.2.1.c2
    have fl2 := HE9.out.2.2.1.lt
    have f3_0 := HE9.out.2.2.2.c0
    have f3_1 := HE9.out.2.2.2.c1
    have f3_2 := HE9.out.2.2.2.c2
    have fl3 := HE9.out.2.2.2.lt
    by_cases p1 : 0 < c_ab
    · have d1 : decide (0 < c_ab) = true := decide_eq_true p1
      clear HTR p1
      go_wp2_with fail
      go_ret
      exact ⟨rfl, HB9.out⟩
    · have d1 : decide (0 < c_ab) = false := decide_eq_false p1
      go_wp2_with fail
      clear f0_0 f0_1 f0_2 fl0 f1_0 f1_1 f1_2 fl1 f2_0 f2_1 f2_2 fl2 f3_0 f3_1 f3_2 fl3
      refine (HC_bc.out _).mono ?_
      rintro e w10 ⟨rfl, hb⟩
      have HE10 := Lib.hid (show AB w10 w.heap.size va xa za ∧ AB w10 (w.heap.size + 1) vb xb zb ∧ AB w10 (w.heap.size + 2) vc xc zc ∧ AB w10 gn false 0 0 from ⟨HE9.out.1.kept hb HE9.out.1.lt , HE9.out.2.1.kept hb HE9.out.2.1.lt , HE9.out.2.2.1.kept hb HE9.out.2.2.1.lt , HE9.out.2.2.2.kept hb HE9.out.2.2.2.lt⟩)
      have HB10 := Lib.hid (HB9.out.trans (hb.mono HB9.out.size))
      have HT10 := Lib.hid (HT9.out.kept hb)
      clear hb HE9 HB9 HT9
      have f0_0 := HE10.out.1.c0
      have f0_1 := HE10.out.1.c1
      have f0_2 := HE10.out.1.c2
      have fl0 := HE10.out.1.lt
      have f1_0 := HE10.out.2.1.c0
      have f1_1 := HE10.out.2.1.c1
      have f1_2 := HE10.out.2.1.c2
      have fl1 := HE10.out.2.1.lt
      have f2_0 := HE10.out.2.2.1.c0
      have f2_1 := HE10.out.2.2.1.c1
      have f2_2 := HE10.out.2.2.1.c2
      have fl2 := HE10.out.2.2.1.lt
      have f3_0 := HE10.out.2.2.2.c0
      have f3_1 := HE10.out.2.2.2.c1
      have f3_2 := HE10.out.2.2.2.c2
      have fl3 := HE10.out.2.2.2.lt
      by_cases p2 : 0 < c_bc
      · have d2 : decide (0 < c_bc) = true := decide_eq_true p2
        clear HTR p1 p2
        go_wp2_with fail
        go_ret
        exact ⟨rfl, HB10.out⟩
      · have d2 : decide (0 < c_bc) = false := decide_eq_false p2
        go_wp2_with fail
        clear f0_0 f0_1 f0_2 fl0 f1_0 f1_1 f1_2 fl1 f2_0 f2_1 f2_2 fl2 f3_0 f3_1 f3_2 fl3
        refine (HC_ac.out _).mono ?_
        rintro e w11 ⟨rfl, hb⟩
        have HE11 := Lib.hid (show AB w11 w.heap.size va xa za ∧ AB w11 (w.heap.size + 1) vb xb zb ∧ AB w11 (w.heap.size + 2) vc xc zc ∧ AB w11 gn false 0 0 from ⟨HE10.out.1.kept hb HE10.out.1.lt , HE10.out.2.1.kept hb HE10.out.2.1.lt , HE10.out.2.2.1.kept hb HE10.out.2.2.1.lt , HE10.out.2.2.2.kept hb HE10.out.2.2.2.lt⟩)
        have HB11 := Lib.hid (HB10.out.trans (hb.mono HB10.out.size))
        have HT11 := Lib.hid (HT10.out.kept hb)
        clear hb HE10 HB10 HT10
        have f0_0 := HE11.out.1.c0
        have f0_1 := HE11.out.1.c1
        have f0_2 := HE11.out.1.c2
        have fl0 := HE11.out.1.lt
        have f1_0 := HE11.out.2.1.c0
        have f1_1 := HE11.out.2.1.c1
        have f1_2 := HE11.out.2.1.c2
        have fl1 := HE11.out.2.1.lt
        have f2_0 := HE11.out.2.2.1.c0
        have f2_1 := HE11.out.2.2.1.c1
        have f2_2 := HE11.out.2.2.1.c2
        have fl2 := HE11.out.2.2.1.lt
        have f3_0 := HE11.out.2.2.2.c0
        have f3_1 := HE11.out.2.2.2.c1
        have f3_2 := HE11.out.2.2.2.c2
        have fl3 := HE11.out.2.2.2.lt
        have p3 : c_ac ≤ 0 := by have := HTR.out; omega
        have d3 : decide (c_ac ≤ 0) = true := decide_eq_true p3
        clear HTR p1 p2
        go_wp2_with fail
        go_ret
        exact ⟨rfl, HB11.out⟩
end Go.Proofs.YtcblgbonijloiaaDoor.addressSteps
