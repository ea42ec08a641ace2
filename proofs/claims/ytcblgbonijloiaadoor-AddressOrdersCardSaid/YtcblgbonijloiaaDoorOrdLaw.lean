/- AddressOrders holds: for every two addresses and every number of bits the law about Compare, Next, Previous and Contains beside the reference returns true and leaves memory as it was; the library's tables are tied to the program's text. No other condition. -/
import Derived.Test.YtcblgbonijloiaaDoorAwk06b
import Derived.Test.YtcblgbonijloiaaDoorAwk06d
import Derived.Test.YtcblgbonijloiaaDoorPick
import Derived.Test.YtcblgbonijloiaaDoorCards
namespace Go.Proofs.YtcblgbonijloiaaDoor.addressOrders
open Go.ChangeShapes Go.WideShapes Go.ChangeAt Go.RowKit
open Go.Joins
set_option linter.unusedVariables false

theorem own : ownKnob Tryd.prog.godebug = none := by kernel_rfl
theorem laidOut : laidOutB Tryd.prog = true := by kernel_rfl
theorem aRes_parts (o : Option (Bool × Nat × Nat)) : ∃ (v : Bool) (x z : Nat) (ok : Bool), aRes o = .tuple #[.agg #[.bool v, .int .u64 x, .int .u64 z], .bool ok] := by
  cases o with
  | none => exact ⟨false, 0, 0, false, rfl⟩
  | some p => exact ⟨p.1, p.2.1, p.2.2, true, rfl⟩
set_option maxHeartbeats 16000000 in
set_option maxRecDepth 20000 in
theorem inv0 (va : Bool) (xa za : Nat) (vb : Bool) (xb zb : Nat) (n : Int) (w : World) (ht : TW w) (hxa : xa < 18446744073709551616) (hza : za < 18446744073709551616) (hxb : xb < 18446744073709551616) (hzb : zb < 18446744073709551616) (v0 : vldA va xa za = false) :
    Calls Tryd.prog 6 #[.agg #[.bool va, .int .u64 xa, .int .u64 za], .agg #[.bool vb, .int .u64 xb, .int .u64 zb], .int .i64 n] w fun e w' => e = .returned (.bool true) ∧ Below w.heap.size w w' := by
  have hm := addr_guard
  have hm2 := pfx_guard
  have HL := Lib.hid (fun W t => lives_any W t)
  have HTw := Lib.hid ht
  have HV0 := Lib.hid (fun W => rvalid6_any va xa za W)
  have HV1 := Lib.hid (fun W => rvalid6_any vb xb zb W)
  obtain ⟨W0, hW0⟩ : ∃ W, W = (w.alloc (.cells #[.bool va, .int .u64 xa, .int .u64 za] 25)).alloc (.cells #[.bool vb, .int .u64 xb, .int .u64 zb] 25) := ⟨_, rfl⟩
  have HB0 := Lib.hid (show Below w.heap.size w W0 by rw [hW0]; exact below2 w _ _)
  have HT0 := Lib.hid (show TW W0 by rw [hW0]; exact ht.kept (below2 w _ _))
  have HE0 := Lib.hid (show AB W0 w.heap.size va xa za ∧ AB W0 (w.heap.size + 1) vb xb zb from by rw [hW0]; exact ⟨(ab_new w va xa za).al _, ab2 w _ vb xb zb⟩)
  rw [v0] at HV0
  go_enter Tryd.func6, Tryd.ntmps6
  go_wp2_with fail
  rw [← hW0]
  clear hW0
  refine (HV0.out _).mono ?_
  rintro e w1 ⟨rfl, hb⟩
  have HE1 := Lib.hid (show AB w1 w.heap.size va xa za ∧ AB w1 (w.heap.size + 1) vb xb zb from ⟨HE0.out.1.kept hb HE0.out.1.lt , HE0.out.2.kept hb HE0.out.2.lt⟩)
  have HB1 := Lib.hid (HB0.out.trans (hb.mono HB0.out.size))
  have HT1 := Lib.hid (HT0.out.kept hb)
  clear hb HE0 HB0 HT0
  have f0_0 := HE1.out.1.c0
  have f0_1 := HE1.out.1.c1
  have f0_2 := HE1.out.1.c2
  have fl0 := HE1.out.1.lt
  have f1_0 := HE1.out.2.c0
  have f1_1 := HE1.out.2.c1
  have f1_2 := HE1.out.2.c2
  have fl1 := HE1.out.2.lt
  go_wp2_with fail
  clear f0_0 f0_1 f0_2 fl0 f1_0 f1_1 f1_2 fl1
  refine (HL.out _ HT1.out).mono ?_
  rintro e w2 ⟨rfl, hb⟩
  have HE2 := Lib.hid (show AB w2 w.heap.size va xa za ∧ AB w2 (w.heap.size + 1) vb xb zb from ⟨HE1.out.1.kept hb HE1.out.1.lt , HE1.out.2.kept hb HE1.out.2.lt⟩)
  have HB2 := Lib.hid (HB1.out.trans (hb.mono HB1.out.size))
  have HT2 := Lib.hid (HT1.out.kept hb)
  clear hb HE1 HB1 HT1
  have f0_0 := HE2.out.1.c0
  have f0_1 := HE2.out.1.c1
  have f0_2 := HE2.out.1.c2
  have fl0 := HE2.out.1.lt
  have f1_0 := HE2.out.2.c0
  have f1_1 := HE2.out.2.c1
  have f1_2 := HE2.out.2.c2
  have fl1 := HE2.out.2.lt
  go_wp2_with fail
  go_ret
  exact ⟨rfl, HB2.out⟩
set_option maxHeartbeats 16000000 in
set_option maxRecDepth 20000 in
theorem inv1 (va : Bool) (xa za : Nat) (vb : Bool) (xb zb : Nat) (n : Int) (w : World) (ht : TW w) (hxa : xa < 18446744073709551616) (hza : za < 18446744073709551616) (hxb : xb < 18446744073709551616) (hzb : zb < 18446744073709551616) (v0 : vldA va xa za = true) (v1 : vldA vb xb zb = false) :
    Calls Tryd.prog 6 #[.agg #[.bool va, .int .u64 xa, .int .u64 za], .agg #[.bool vb, .int .u64 xb, .int .u64 zb], .int .i64 n] w fun e w' => e = .returned (.bool true) ∧ Below w.heap.size w w' := by
  have hm := addr_guard
  have hm2 := pfx_guard
  have HL := Lib.hid (fun W t => lives_any W t)
  have HTw := Lib.hid ht
  have HV0 := Lib.hid (fun W => rvalid6_any va xa za W)
  have HV1 := Lib.hid (fun W => rvalid6_any vb xb zb W)
  obtain ⟨W0, hW0⟩ : ∃ W, W = (w.alloc (.cells #[.bool va, .int .u64 xa, .int .u64 za] 25)).alloc (.cells #[.bool vb, .int .u64 xb, .int .u64 zb] 25) := ⟨_, rfl⟩
  have HB0 := Lib.hid (show Below w.heap.size w W0 by rw [hW0]; exact below2 w _ _)
  have HT0 := Lib.hid (show TW W0 by rw [hW0]; exact ht.kept (below2 w _ _))
  have HE0 := Lib.hid (show AB W0 w.heap.size va xa za ∧ AB W0 (w.heap.size + 1) vb xb zb from by rw [hW0]; exact ⟨(ab_new w va xa za).al _, ab2 w _ vb xb zb⟩)
  rw [v0] at HV0
  rw [v1] at HV1
  go_enter Tryd.func6, Tryd.ntmps6
  go_wp2_with fail
  rw [← hW0]
  clear hW0
  refine (HV0.out _).mono ?_
  rintro e w1 ⟨rfl, hb⟩
  have HE1 := Lib.hid (show AB w1 w.heap.size va xa za ∧ AB w1 (w.heap.size + 1) vb xb zb from ⟨HE0.out.1.kept hb HE0.out.1.lt , HE0.out.2.kept hb HE0.out.2.lt⟩)
  have HB1 := Lib.hid (HB0.out.trans (hb.mono HB0.out.size))
  have HT1 := Lib.hid (HT0.out.kept hb)
  clear hb HE0 HB0 HT0
  have f0_0 := HE1.out.1.c0
  have f0_1 := HE1.out.1.c1
  have f0_2 := HE1.out.1.c2
  have fl0 := HE1.out.1.lt
  have f1_0 := HE1.out.2.c0
  have f1_1 := HE1.out.2.c1
  have f1_2 := HE1.out.2.c2
  have fl1 := HE1.out.2.lt
  go_wp2_with fail
  clear f0_0 f0_1 f0_2 fl0 f1_0 f1_1 f1_2 fl1
  refine (HV1.out _).mono ?_
  rintro e w2 ⟨rfl, hb⟩
  have HE2 := Lib.hid (show AB w2 w.heap.size va xa za ∧ AB w2 (w.heap.size + 1) vb xb zb from ⟨HE1.out.1.kept hb HE1.out.1.lt , HE1.out.2.kept hb HE1.out.2.lt⟩)
  have HB2 := Lib.hid (HB1.out.trans (hb.mono HB1.out.size))
  have HT2 := Lib.hid (HT1.out.kept hb)
  clear hb HE1 HB1 HT1
  have f0_0 := HE2.out.1.c0
  have f0_1 := HE2.out.1.c1
  have f0_2 := HE2.out.1.c2
  have fl0 := HE2.out.1.lt
  have f1_0 := HE2.out.2.c0
  have f1_1 := HE2.out.2.c1
  have f1_2 := HE2.out.2.c2
  have fl1 := HE2.out.2.lt
  go_wp2_with fail
  clear f0_0 f0_1 f0_2 fl0 f1_0 f1_1 f1_2 fl1
  refine (HL.out _ HT2.out).mono ?_
  rintro e w3 ⟨rfl, hb⟩
  have HE3 := Lib.hid (show AB w3 w.heap.size va xa za ∧ AB w3 (w.heap.size + 1) vb xb zb from ⟨HE2.out.1.kept hb HE2.out.1.lt , HE2.out.2.kept hb HE2.out.2.lt⟩)
  have HB3 := Lib.hid (HB2.out.trans (hb.mono HB2.out.size))
  have HT3 := Lib.hid (HT2.out.kept hb)
  clear hb HE2 HB2 HT2
  have f0_0 := HE3.out.1.c0
  have f0_1 := HE3.out.1.c1
  have f0_2 := HE3.out.1.c2
  have fl0 := HE3.out.1.lt
  have f1_0 := HE3.out.2.c0
  have f1_1 := HE3.out.2.c1
  have f1_2 := HE3.out.2.c2
  have fl1 := HE3.out.2.lt
  go_wp2_with fail
  go_ret
  exact ⟨rfl, HB3.out⟩
set_option maxHeartbeats 16000000 in
set_option maxRecDepth 20000 in
theorem bad (va : Bool) (xa za : Nat) (vb : Bool) (xb zb : Nat) (n : Int) (w : World) (ht : TW w) (hxa : xa < 18446744073709551616) (hza : za < 18446744073709551616) (hxb : xb < 18446744073709551616) (hzb : zb < 18446744073709551616) (v0 : vldA va xa za = true) (v1 : vldA vb xb zb = true) (hn : n < 0 ∨ (width vb : Int) < n) :
    Calls Tryd.prog 6 #[.agg #[.bool va, .int .u64 xa, .int .u64 za], .agg #[.bool vb, .int .u64 xb, .int .u64 zb], .int .i64 n] w fun e w' => e = .returned (.bool true) ∧ Below w.heap.size w w' := by
  have hm := addr_guard
  have hm2 := pfx_guard
  have HL := Lib.hid (fun W t => lives_any W t)
  have HTw := Lib.hid ht
  have HV0 := Lib.hid (fun W => rvalid6_any va xa za W)
  have HV1 := Lib.hid (fun W => rvalid6_any vb xb zb W)
  obtain ⟨W0, hW0⟩ : ∃ W, W = (w.alloc (.cells #[.bool va, .int .u64 xa, .int .u64 za] 25)).alloc (.cells #[.bool vb, .int .u64 xb, .int .u64 zb] 25) := ⟨_, rfl⟩
  have HB0 := Lib.hid (show Below w.heap.size w W0 by rw [hW0]; exact below2 w _ _)
  have HT0 := Lib.hid (show TW W0 by rw [hW0]; exact ht.kept (below2 w _ _))
  have HE0 := Lib.hid (show AB W0 w.heap.size va xa za ∧ AB W0 (w.heap.size + 1) vb xb zb from by rw [hW0]; exact ⟨(ab_new w va xa za).al _, ab2 w _ vb xb zb⟩)
  rw [v0] at HV0
  rw [v1] at HV1
  have HN := Lib.hid (fun W => qnext_any va xa za W hxa hza v0)
  have HRN := Lib.hid (fun W => rnext6_any va xa za W hxa hza)
  obtain ⟨vn, xn, zn, on, en⟩ := aRes_parts (nxtA va xa za)
  rw [en] at HN HRN
  have HPV := Lib.hid (fun W => qprev_any va xa za W hxa hza)
  have HRP := Lib.hid (fun W => rprev6_any va xa za W hxa hza)
  obtain ⟨vp, xp, zp, op, ep⟩ := aRes_parts (prvA va xa za)
  rw [ep] at HPV HRP
  have HC := Lib.hid (fun W => qcmp_any va xa za vb xb zb W)
  have HRC := Lib.hid (fun W => rcmp6_any va xa za vb xb zb W)
  generalize cmpA va xa za vb xb zb = c at *
  have qn := fun W => addr_neq vn vn xn xn zn zn W
  have qp := fun W => addr_eql vp vp xp xp zp zp W
  simp only [beq_self_eq_true, Bool.and_self, Bool.not_true] at qn qp
  have e1 : (on != on) = false := by simp
  have e2 : (op == op) = true := by simp
  have e3 : (c != c) = false := by simp
  clear en ep
  have HM := Lib.hid (fun W => rmake6_bad vb xb zb n W hxb hzb hn)
  clear hn v0 v1 hxa hza hxb hzb ht
  have f0_0 := HE0.out.1.c0
  have f0_1 := HE0.out.1.c1
  have f0_2 := HE0.out.1.c2
  go_enter Tryd.func6, Tryd.ntmps6
  go_wp2_with fail
  rw [← hW0]
  clear hW0
  clear f0_0 f0_1 f0_2
  refine (HV0.out _).mono ?_
  rintro e w1 ⟨rfl, hb⟩
  have HE1 := Lib.hid (show AB w1 w.heap.size va xa za ∧ AB w1 (w.heap.size + 1) vb xb zb from ⟨HE0.out.1.kept hb HE0.out.1.lt , HE0.out.2.kept hb HE0.out.2.lt⟩)
  have HB1 := Lib.hid (HB0.out.trans (hb.mono HB0.out.size))
  have HT1 := Lib.hid (HT0.out.kept hb)
  clear hb HE0 HB0 HT0
  have f0_0 := HE1.out.1.c0
  have f0_1 := HE1.out.1.c1
  have f0_2 := HE1.out.1.c2
  have fl0 := HE1.out.1.lt
  have f1_0 := HE1.out.2.c0
  have f1_1 := HE1.out.2.c1
  have f1_2 := HE1.out.2.c2
  have fl1 := HE1.out.2.lt
  go_wp2_with fail
  clear f0_0 f0_1 f0_2 fl0 f1_0 f1_1 f1_2 fl1
  refine (HV1.out _).mono ?_
  rintro e w2 ⟨rfl, hb⟩
  have HE2 := Lib.hid (show AB w2 w.heap.size va xa za ∧ AB w2 (w.heap.size + 1) vb xb zb from ⟨HE1.out.1.kept hb HE1.out.1.lt , HE1.out.2.kept hb HE1.out.2.lt⟩)
  have HB2 := Lib.hid (HB1.out.trans (hb.mono HB1.out.size))
  have HT2 := Lib.hid (HT1.out.kept hb)
  clear hb HE1 HB1 HT1
  have f0_0 := HE2.out.1.c0
  have f0_1 := HE2.out.1.c1
  have f0_2 := HE2.out.1.c2
  have fl0 := HE2.out.1.lt
  have f1_0 := HE2.out.2.c0
  have f1_1 := HE2.out.2.c1
  have f1_2 := HE2.out.2.c2
  have fl1 := HE2.out.2.lt
  go_wp2_with fail
  clear f0_0 f0_1 f0_2 fl0 f1_0 f1_1 f1_2 fl1
  refine (HN.out _).mono ?_
  rintro e w3 ⟨rfl, hb⟩
  obtain ⟨gx, hgx⟩ : ∃ g, g = w3.heap.size := ⟨_, rfl⟩
  obtain ⟨W3, hW3⟩ : ∃ W, W = w3.alloc (.cells #[.bool vn, .int .u64 xn, .int .u64 zn] 25) := ⟨_, rfl⟩
  have HE3 := Lib.hid (show AB W3 w.heap.size va xa za ∧ AB W3 (w.heap.size + 1) vb xb zb ∧ AB W3 gx vn xn zn from by rw [hW3, hgx]; exact ⟨(HE2.out.1.kept hb HE2.out.1.lt).al _ , (HE2.out.2.kept hb HE2.out.2.lt).al _ , ab_new w3 vn xn zn⟩)
  have HB3 := Lib.hid (show Below w.heap.size w W3 by rw [hW3]; exact (HB2.out.trans (hb.mono HB2.out.size)).trans ((below_alloc6 w3 _).mono (HB2.out.trans (hb.mono HB2.out.size)).size))
  have HT3 := Lib.hid (show TW W3 by rw [hW3]; exact (HT2.out.kept hb).al _)
  have HLT_gx := Lib.hid (show w.heap.size < gx ∧ (w.heap.size + 1) < gx ∧ w.heap.size ≤ gx from by rw [hgx]; exact ⟨(HE2.out.1.kept hb HE2.out.1.lt).lt , (HE2.out.2.kept hb HE2.out.2.lt).lt , (HB2.out.trans (hb.mono HB2.out.size)).size⟩)
  have hx := HE2.out.1.kept hb HE2.out.1.lt
  have f0_0 := hx.c0
  have f0_1 := hx.c1
  have f0_2 := hx.c2
  have fl0 := hx.lt
  clear hx
  have hx := HE2.out.2.kept hb HE2.out.2.lt
  have f1_0 := hx.c0
  have f1_1 := hx.c1
  have f1_2 := hx.c2
  have fl1 := hx.lt
  clear hx
  clear hb HE2 HB2 HT2
  go_wp2_with fail
  first | rw [← hW3, ← hgx] | rw [← hW3] | skip
  clear hW3 hgx
  clear f0_0 f0_1 f0_2 fl0 f1_0 f1_1 f1_2 fl1
  refine (HRN.out _).mono ?_
  rintro e w4 ⟨rfl, hb⟩
  obtain ⟨gy, hgy⟩ : ∃ g, g = w4.heap.size := ⟨_, rfl⟩
  obtain ⟨W4, hW4⟩ : ∃ W, W = w4.alloc (.cells #[.bool vn, .int .u64 xn, .int .u64 zn] 25) := ⟨_, rfl⟩
  have HE4 := Lib.hid (show AB W4 w.heap.size va xa za ∧ AB W4 (w.heap.size + 1) vb xb zb ∧ AB W4 gx vn xn zn ∧ AB W4 gy vn xn zn from by rw [hW4, hgy]; exact ⟨(HE3.out.1.kept hb HE3.out.1.lt).al _ , (HE3.out.2.1.kept hb HE3.out.2.1.lt).al _ , (HE3.out.2.2.kept hb HE3.out.2.2.lt).al _ , ab_new w4 vn xn zn⟩)
  have HB4 := Lib.hid (show Below w.heap.size w W4 by rw [hW4]; exact (HB3.out.trans (hb.mono HB3.out.size)).trans ((below_alloc6 w4 _).mono (HB3.out.trans (hb.mono HB3.out.size)).size))
  have HT4 := Lib.hid (show TW W4 by rw [hW4]; exact (HT3.out.kept hb).al _)
  have HLT_gy := Lib.hid (show w.heap.size < gy ∧ (w.heap.size + 1) < gy ∧ gx < gy ∧ w.heap.size ≤ gy from by rw [hgy]; exact ⟨(HE3.out.1.kept hb HE3.out.1.lt).lt , (HE3.out.2.1.kept hb HE3.out.2.1.lt).lt , (HE3.out.2.2.kept hb HE3.out.2.2.lt).lt , (HB3.out.trans (hb.mono HB3.out.size)).size⟩)
  have hx := HE3.out.1.kept hb HE3.out.1.lt
  have f0_0 := hx.c0
  have f0_1 := hx.c1
  have f0_2 := hx.c2
  have fl0 := hx.lt
  clear hx
  have hx := HE3.out.2.1.kept hb HE3.out.2.1.lt
  have f1_0 := hx.c0
  have f1_1 := hx.c1
  have f1_2 := hx.c2
  have fl1 := hx.lt
  clear hx
  have hx := HE3.out.2.2.kept hb HE3.out.2.2.lt
  have f2_0 := hx.c0
  have f2_1 := hx.c1
  have f2_2 := hx.c2
  have fl2 := hx.lt
  clear hx
  clear hb HE3 HB3 HT3
  go_wp2_with fail
  first | rw [← hW4, ← hgy] | rw [← hW4] | skip
  clear hW4 hgy
  clear f0_0 f0_1 f0_2 fl0 f1_0 f1_1 f1_2 fl1 f2_0 f2_1 f2_2 fl2
  refine wp_region_pick (fun w' => Below W4.heap.size W4 w') (by kernel_rfl) (by kernel_rfl) (Below.refl _ _) ⟨rfl, rfl, rfl, Nat.le_refl _, fun _ _ => rfl⟩ (fun p hp hq => ?_)
  have p0_0 : ∀ u, (p u).cell? ⟨w.heap.size, 0, none⟩ = some (.bool va) := fun u => (HE4.out.1.kept (hp u) HE4.out.1.lt).c0
  have p0_1 : ∀ u, (p u).cell? ⟨w.heap.size, 1, none⟩ = some (.int .u64 xa) := fun u => (HE4.out.1.kept (hp u) HE4.out.1.lt).c1
  have p0_2 : ∀ u, (p u).cell? ⟨w.heap.size, 2, none⟩ = some (.int .u64 za) := fun u => (HE4.out.1.kept (hp u) HE4.out.1.lt).c2
  have p1_0 : ∀ u, (p u).cell? ⟨(w.heap.size + 1), 0, none⟩ = some (.bool vb) := fun u => (HE4.out.2.1.kept (hp u) HE4.out.2.1.lt).c0
  have p1_1 : ∀ u, (p u).cell? ⟨(w.heap.size + 1), 1, none⟩ = some (.int .u64 xb) := fun u => (HE4.out.2.1.kept (hp u) HE4.out.2.1.lt).c1
  have p1_2 : ∀ u, (p u).cell? ⟨(w.heap.size + 1), 2, none⟩ = some (.int .u64 zb) := fun u => (HE4.out.2.1.kept (hp u) HE4.out.2.1.lt).c2
  have p2_0 : ∀ u, (p u).cell? ⟨gx, 0, none⟩ = some (.bool vn) := fun u => (HE4.out.2.2.1.kept (hp u) HE4.out.2.2.1.lt).c0
  have p2_1 : ∀ u, (p u).cell? ⟨gx, 1, none⟩ = some (.int .u64 xn) := fun u => (HE4.out.2.2.1.kept (hp u) HE4.out.2.2.1.lt).c1
  have p2_2 : ∀ u, (p u).cell? ⟨gx, 2, none⟩ = some (.int .u64 zn) := fun u => (HE4.out.2.2.1.kept (hp u) HE4.out.2.2.1.lt).c2
  have p3_0 : ∀ u, (p u).cell? ⟨gy, 0, none⟩ = some (.bool vn) := fun u => (HE4.out.2.2.2.kept (hp u) HE4.out.2.2.2.lt).c0
  have p3_1 : ∀ u, (p u).cell? ⟨gy, 1, none⟩ = some (.int .u64 xn) := fun u => (HE4.out.2.2.2.kept (hp u) HE4.out.2.2.2.lt).c1
  have p3_2 : ∀ u, (p u).cell? ⟨gy, 2, none⟩ = some (.int .u64 zn) := fun u => (HE4.out.2.2.2.kept (hp u) HE4.out.2.2.2.lt).c2
  have HP := Lib.hid hp
  have HQ := Lib.hid hq
  clear hp hq
  repeat (go_big_quiet_step ((first | with_reducible exact Calls.pick_of HQ.out (fun W' hb => (HP.out _).trans (hb.mono (HP.out _).size)) (HC.out _) | with_reducible exact Calls.pick_of HQ.out (fun W' hb => (HP.out _).trans (hb.mono (HP.out _).size)) (HRC.out _))))
  refine wpQuiet_nil ?_
  rintro _ ⟨u, rfl⟩
  have hb := HP.out u
  generalize p u = w5 at *
  clear HP HQ p0_0 p0_1 p0_2 p1_0 p1_1 p1_2 p2_0 p2_1 p2_2 p3_0 p3_1 p3_2
  have HE5 := Lib.hid (show AB w5 w.heap.size va xa za ∧ AB w5 (w.heap.size + 1) vb xb zb ∧ AB w5 gx vn xn zn ∧ AB w5 gy vn xn zn from ⟨HE4.out.1.kept hb HE4.out.1.lt , HE4.out.2.1.kept hb HE4.out.2.1.lt , HE4.out.2.2.1.kept hb HE4.out.2.2.1.lt , HE4.out.2.2.2.kept hb HE4.out.2.2.2.lt⟩)
  have HB5 := Lib.hid (HB4.out.trans (hb.mono HB4.out.size))
  have HT5 := Lib.hid (HT4.out.kept hb)
  clear hb HE4 HB4 HT4
  have f0_0 := HE5.out.1.c0
  have f0_1 := HE5.out.1.c1
  have f0_2 := HE5.out.1.c2
  have fl0 := HE5.out.1.lt
  have f1_0 := HE5.out.2.1.c0
  have f1_1 := HE5.out.2.1.c1
  have f1_2 := HE5.out.2.1.c2
  have fl1 := HE5.out.2.1.lt
  have f2_0 := HE5.out.2.2.1.c0
  have f2_1 := HE5.out.2.2.1.c1
  have f2_2 := HE5.out.2.2.1.c2
  have fl2 := HE5.out.2.2.1.lt
  have f3_0 := HE5.out.2.2.2.c0
  have f3_1 := HE5.out.2.2.2.c1
  have f3_2 := HE5.out.2.2.2.c2
  have fl3 := HE5.out.2.2.2.lt
  go_wp2_with fail
  clear f0_0 f0_1 f0_2 fl0 f1_0 f1_1 f1_2 fl1 f2_0 f2_1 f2_2 fl2 f3_0 f3_1 f3_2 fl3
  refine (HPV.out _).mono ?_
  rintro e w6 ⟨rfl, hb⟩
  obtain ⟨W6, hW6⟩ : ∃ W, W = ((w6.setCell ⟨gx, 0, none⟩ (.bool vp)).setCell ⟨gx, 1, none⟩ (.int .u64 xp)).setCell ⟨gx, 2, none⟩ (.int .u64 zp) := ⟨_, rfl⟩
  have HE6 := Lib.hid (show AB W6 w.heap.size va xa za ∧ AB W6 (w.heap.size + 1) vb xb zb ∧ AB W6 gx vp xp zp ∧ AB W6 gy vn xn zn from by rw [hW6]; exact ⟨(((HE5.out.1.kept hb HE5.out.1.lt).far (Nat.ne_of_lt HLT_gx.out.1) _).far (Nat.ne_of_lt HLT_gx.out.1) _).far (Nat.ne_of_lt HLT_gx.out.1) _ , (((HE5.out.2.1.kept hb HE5.out.2.1.lt).far (Nat.ne_of_lt HLT_gx.out.2.1) _).far (Nat.ne_of_lt HLT_gx.out.2.1) _).far (Nat.ne_of_lt HLT_gx.out.2.1) _ , (HE5.out.2.2.1.kept hb HE5.out.2.2.1.lt).set vp xp zp , (((HE5.out.2.2.2.kept hb HE5.out.2.2.2.lt).far (Nat.ne_of_gt HLT_gy.out.2.2.1) _).far (Nat.ne_of_gt HLT_gy.out.2.2.1) _).far (Nat.ne_of_gt HLT_gy.out.2.2.1) _⟩)
  have HB6 := Lib.hid (show Below w.heap.size w W6 by rw [hW6]; exact aset_below (HB5.out.trans (hb.mono HB5.out.size)) HLT_gx.out.2.2 vp xp zp)
  have HT6 := Lib.hid (HTw.out.kept HB6.out)
  have hx := (HE5.out.1.kept hb HE5.out.1.lt)
  have f0_0 := hx.c0
  have f0_1 := hx.c1
  have f0_2 := hx.c2
  have fl0 := hx.lt
  clear hx
  have hx := (HE5.out.2.1.kept hb HE5.out.2.1.lt)
  have f1_0 := hx.c0
  have f1_1 := hx.c1
  have f1_2 := hx.c2
  have fl1 := hx.lt
  clear hx
  have hx := (HE5.out.2.2.1.kept hb HE5.out.2.2.1.lt)
  have f2_0 := hx.c0
  have qf2_0 := hx.f 0
  have f2_1 := hx.c1
  have qf2_1 := hx.f 1
  have f2_2 := hx.c2
  have qf2_2 := hx.f 2
  have fl2 := hx.lt
  clear hx
  have hx := (HE5.out.2.2.2.kept hb HE5.out.2.2.2.lt)
  have f3_0 := hx.c0
  have f3_1 := hx.c1
  have f3_2 := hx.c2
  have fl3 := hx.lt
  clear hx
  have g0_0 := HE6.out.1.c0
  rw [hW6] at g0_0
  have g0_1 := HE6.out.1.c1
  rw [hW6] at g0_1
  have g0_2 := HE6.out.1.c2
  rw [hW6] at g0_2
  have g1_0 := HE6.out.2.1.c0
  rw [hW6] at g1_0
  have g1_1 := HE6.out.2.1.c1
  rw [hW6] at g1_1
  have g1_2 := HE6.out.2.1.c2
  rw [hW6] at g1_2
  have g2_0 := HE6.out.2.2.1.c0
  rw [hW6] at g2_0
  have g2_1 := HE6.out.2.2.1.c1
  rw [hW6] at g2_1
  have g2_2 := HE6.out.2.2.1.c2
  rw [hW6] at g2_2
  have g3_0 := HE6.out.2.2.2.c0
  rw [hW6] at g3_0
  have g3_1 := HE6.out.2.2.2.c1
  rw [hW6] at g3_1
  have g3_2 := HE6.out.2.2.2.c2
  rw [hW6] at g3_2
  clear hb HE5 HB5 HT5
  go_wp2_with fail
  rw [← hW6]
  clear hW6
  clear f0_0 f0_1 f0_2 fl0 f1_0 f1_1 f1_2 fl1 f2_0 qf2_0 f2_1 qf2_1 f2_2 qf2_2 fl2 f3_0 f3_1 f3_2 fl3 g0_0 g0_1 g0_2 g1_0 g1_1 g1_2 g2_0 g2_1 g2_2 g3_0 g3_1 g3_2
  refine (HRP.out _).mono ?_
  rintro e w7 ⟨rfl, hb⟩
  obtain ⟨W7, hW7⟩ : ∃ W, W = ((w7.setCell ⟨gy, 0, none⟩ (.bool vp)).setCell ⟨gy, 1, none⟩ (.int .u64 xp)).setCell ⟨gy, 2, none⟩ (.int .u64 zp) := ⟨_, rfl⟩
  have HE7 := Lib.hid (show AB W7 w.heap.size va xa za ∧ AB W7 (w.heap.size + 1) vb xb zb ∧ AB W7 gx vp xp zp ∧ AB W7 gy vp xp zp from by rw [hW7]; exact ⟨(((HE6.out.1.kept hb HE6.out.1.lt).far (Nat.ne_of_lt HLT_gy.out.1) _).far (Nat.ne_of_lt HLT_gy.out.1) _).far (Nat.ne_of_lt HLT_gy.out.1) _ , (((HE6.out.2.1.kept hb HE6.out.2.1.lt).far (Nat.ne_of_lt HLT_gy.out.2.1) _).far (Nat.ne_of_lt HLT_gy.out.2.1) _).far (Nat.ne_of_lt HLT_gy.out.2.1) _ , (((HE6.out.2.2.1.kept hb HE6.out.2.2.1.lt).far (Nat.ne_of_lt HLT_gy.out.2.2.1) _).far (Nat.ne_of_lt HLT_gy.out.2.2.1) _).far (Nat.ne_of_lt HLT_gy.out.2.2.1) _ , (HE6.out.2.2.2.kept hb HE6.out.2.2.2.lt).set vp xp zp⟩)
  have HB7 := Lib.hid (show Below w.heap.size w W7 by rw [hW7]; exact aset_below (HB6.out.trans (hb.mono HB6.out.size)) HLT_gy.out.2.2.2 vp xp zp)
  have HT7 := Lib.hid (HTw.out.kept HB7.out)
  have hx := (HE6.out.1.kept hb HE6.out.1.lt)
  have f0_0 := hx.c0
  have f0_1 := hx.c1
  have f0_2 := hx.c2
  have fl0 := hx.lt
  clear hx
  have hx := (HE6.out.2.1.kept hb HE6.out.2.1.lt)
  have f1_0 := hx.c0
  have f1_1 := hx.c1
  have f1_2 := hx.c2
  have fl1 := hx.lt
  clear hx
  have hx := (HE6.out.2.2.1.kept hb HE6.out.2.2.1.lt)
  have f2_0 := hx.c0
  have f2_1 := hx.c1
  have f2_2 := hx.c2
  have fl2 := hx.lt
  clear hx
  have hx := (HE6.out.2.2.2.kept hb HE6.out.2.2.2.lt)
  have f3_0 := hx.c0
  have qf3_0 := hx.f 0
  have f3_1 := hx.c1
  have qf3_1 := hx.f 1
  have f3_2 := hx.c2
  have qf3_2 := hx.f 2
  have fl3 := hx.lt
  clear hx
  have g0_0 := HE7.out.1.c0
  rw [hW7] at g0_0
  have g0_1 := HE7.out.1.c1
  rw [hW7] at g0_1
  have g0_2 := HE7.out.1.c2
  rw [hW7] at g0_2
  have g1_0 := HE7.out.2.1.c0
  rw [hW7] at g1_0
  have g1_1 := HE7.out.2.1.c1
  rw [hW7] at g1_1
  have g1_2 := HE7.out.2.1.c2
  rw [hW7] at g1_2
  have g2_0 := HE7.out.2.2.1.c0
  rw [hW7] at g2_0
  have g2_1 := HE7.out.2.2.1.c1
  rw [hW7] at g2_1
  have g2_2 := HE7.out.2.2.1.c2
  rw [hW7] at g2_2
  have g3_0 := HE7.out.2.2.2.c0
  rw [hW7] at g3_0
  have g3_1 := HE7.out.2.2.2.c1
  rw [hW7] at g3_1
  have g3_2 := HE7.out.2.2.2.c2
  rw [hW7] at g3_2
  clear hb HE6 HB6 HT6
  go_wp2_with fail
  rw [← hW7]
  clear hW7
  clear f0_0 f0_1 f0_2 fl0 f1_0 f1_1 f1_2 fl1 f2_0 f2_1 f2_2 fl2 f3_0 qf3_0 f3_1 qf3_1 f3_2 qf3_2 fl3 g0_0 g0_1 g0_2 g1_0 g1_1 g1_2 g2_0 g2_1 g2_2 g3_0 g3_1 g3_2
  refine (HM.out _).mono ?_
  rintro e w8 ⟨rfl, hb⟩
  obtain ⟨gp, hgp⟩ : ∃ g, g = w8.heap.size := ⟨_, rfl⟩
  obtain ⟨W8, hW8⟩ : ∃ W, W = w8.alloc (.cells #[.bool false, .int .u64 0, .int .u64 0, .int .i64 0] 30) := ⟨_, rfl⟩
  have HE8 := Lib.hid (show AB W8 w.heap.size va xa za ∧ AB W8 (w.heap.size + 1) vb xb zb ∧ AB W8 gx vp xp zp ∧ AB W8 gy vp xp zp ∧ PB W8 gp false 0 0 0 from by rw [hW8, hgp]; exact ⟨(HE7.out.1.kept hb HE7.out.1.lt).al _ , (HE7.out.2.1.kept hb HE7.out.2.1.lt).al _ , (HE7.out.2.2.1.kept hb HE7.out.2.2.1.lt).al _ , (HE7.out.2.2.2.kept hb HE7.out.2.2.2.lt).al _ , pb_new w8 false 0 0 0⟩)
  have HB8 := Lib.hid (show Below w.heap.size w W8 by rw [hW8]; exact (HB7.out.trans (hb.mono HB7.out.size)).trans ((below_alloc6 w8 _).mono (HB7.out.trans (hb.mono HB7.out.size)).size))
  have HT8 := Lib.hid (show TW W8 by rw [hW8]; exact (HT7.out.kept hb).al _)
  have HLT_gp := Lib.hid (show w.heap.size < gp ∧ (w.heap.size + 1) < gp ∧ gx < gp ∧ gy < gp ∧ w.heap.size ≤ gp from by rw [hgp]; exact ⟨(HE7.out.1.kept hb HE7.out.1.lt).lt , (HE7.out.2.1.kept hb HE7.out.2.1.lt).lt , (HE7.out.2.2.1.kept hb HE7.out.2.2.1.lt).lt , (HE7.out.2.2.2.kept hb HE7.out.2.2.2.lt).lt , (HB7.out.trans (hb.mono HB7.out.size)).size⟩)
  have hx := HE7.out.1.kept hb HE7.out.1.lt
  have f0_0 := hx.c0
  have f0_1 := hx.c1
  have f0_2 := hx.c2
  have fl0 := hx.lt
  clear hx
  have hx := HE7.out.2.1.kept hb HE7.out.2.1.lt
  have f1_0 := hx.c0
  have f1_1 := hx.c1
  have f1_2 := hx.c2
  have fl1 := hx.lt
  clear hx
  have hx := HE7.out.2.2.1.kept hb HE7.out.2.2.1.lt
  have f2_0 := hx.c0
  have f2_1 := hx.c1
  have f2_2 := hx.c2
  have fl2 := hx.lt
  clear hx
  have hx := HE7.out.2.2.2.kept hb HE7.out.2.2.2.lt
  have f3_0 := hx.c0
  have f3_1 := hx.c1
  have f3_2 := hx.c2
  have fl3 := hx.lt
  clear hx
  clear hb HE7 HB7 HT7
  go_wp2_with fail
  first | rw [← hW8, ← hgp] | rw [← hW8] | skip
  clear hW8 hgp
  clear f0_0 f0_1 f0_2 fl0 f1_0 f1_1 f1_2 fl1 f2_0 f2_1 f2_2 fl2 f3_0 f3_1 f3_2 fl3
  refine wp_region_pick (fun w' => Below W8.heap.size W8 w') (by kernel_rfl) (by kernel_rfl) (Below.refl _ _) ⟨rfl, rfl, rfl, Nat.le_refl _, fun _ _ => rfl⟩ (fun p hp hq => ?_)
  have p0_0 : ∀ u, (p u).cell? ⟨w.heap.size, 0, none⟩ = some (.bool va) := fun u => (HE8.out.1.kept (hp u) HE8.out.1.lt).c0
  have p0_1 : ∀ u, (p u).cell? ⟨w.heap.size, 1, none⟩ = some (.int .u64 xa) := fun u => (HE8.out.1.kept (hp u) HE8.out.1.lt).c1
  have p0_2 : ∀ u, (p u).cell? ⟨w.heap.size, 2, none⟩ = some (.int .u64 za) := fun u => (HE8.out.1.kept (hp u) HE8.out.1.lt).c2
  have p1_0 : ∀ u, (p u).cell? ⟨(w.heap.size + 1), 0, none⟩ = some (.bool vb) := fun u => (HE8.out.2.1.kept (hp u) HE8.out.2.1.lt).c0
  have p1_1 : ∀ u, (p u).cell? ⟨(w.heap.size + 1), 1, none⟩ = some (.int .u64 xb) := fun u => (HE8.out.2.1.kept (hp u) HE8.out.2.1.lt).c1
  have p1_2 : ∀ u, (p u).cell? ⟨(w.heap.size + 1), 2, none⟩ = some (.int .u64 zb) := fun u => (HE8.out.2.1.kept (hp u) HE8.out.2.1.lt).c2
  have p2_0 : ∀ u, (p u).cell? ⟨gx, 0, none⟩ = some (.bool vp) := fun u => (HE8.out.2.2.1.kept (hp u) HE8.out.2.2.1.lt).c0
  have p2_1 : ∀ u, (p u).cell? ⟨gx, 1, none⟩ = some (.int .u64 xp) := fun u => (HE8.out.2.2.1.kept (hp u) HE8.out.2.2.1.lt).c1
  have p2_2 : ∀ u, (p u).cell? ⟨gx, 2, none⟩ = some (.int .u64 zp) := fun u => (HE8.out.2.2.1.kept (hp u) HE8.out.2.2.1.lt).c2
  have p3_0 : ∀ u, (p u).cell? ⟨gy, 0, none⟩ = some (.bool vp) := fun u => (HE8.out.2.2.2.1.kept (hp u) HE8.out.2.2.2.1.lt).c0
  have p3_1 : ∀ u, (p u).cell? ⟨gy, 1, none⟩ = some (.int .u64 xp) := fun u => (HE8.out.2.2.2.1.kept (hp u) HE8.out.2.2.2.1.lt).c1
  have p3_2 : ∀ u, (p u).cell? ⟨gy, 2, none⟩ = some (.int .u64 zp) := fun u => (HE8.out.2.2.2.1.kept (hp u) HE8.out.2.2.2.1.lt).c2
  have p4_0 : ∀ u, (p u).cell? ⟨gp, 0, none⟩ = some (.bool false) := fun u => (HE8.out.2.2.2.2.kept (hp u) HE8.out.2.2.2.2.lt).c0
  have p4_1 : ∀ u, (p u).cell? ⟨gp, 1, none⟩ = some (.int .u64 0) := fun u => (HE8.out.2.2.2.2.kept (hp u) HE8.out.2.2.2.2.lt).c1
  have p4_2 : ∀ u, (p u).cell? ⟨gp, 2, none⟩ = some (.int .u64 0) := fun u => (HE8.out.2.2.2.2.kept (hp u) HE8.out.2.2.2.2.lt).c2
  have p4_3 : ∀ u, (p u).cell? ⟨gp, 3, none⟩ = some (.int .i64 0) := fun u => (HE8.out.2.2.2.2.kept (hp u) HE8.out.2.2.2.2.lt).c3
  have HP := Lib.hid hp
  have HQ := Lib.hid hq
  clear hp hq
  repeat (go_big_quiet_step ((first | with_reducible exact Calls.pick_of HQ.out (fun W' hb => (HP.out _).trans (hb.mono (HP.out _).size)) (HL.out _ (HTw.out.kept (HB8.out.trans ((HP.out _).mono HB8.out.size)))))))
  refine wpQuiet_nil ?_
  rintro _ ⟨u, rfl⟩
  have hb := HP.out u
  generalize p u = w9 at *
  clear HP HQ p0_0 p0_1 p0_2 p1_0 p1_1 p1_2 p2_0 p2_1 p2_2 p3_0 p3_1 p3_2 p4_0 p4_1 p4_2 p4_3
  have HE9 := Lib.hid (show AB w9 w.heap.size va xa za ∧ AB w9 (w.heap.size + 1) vb xb zb ∧ AB w9 gx vp xp zp ∧ AB w9 gy vp xp zp ∧ PB w9 gp false 0 0 0 from ⟨HE8.out.1.kept hb HE8.out.1.lt , HE8.out.2.1.kept hb HE8.out.2.1.lt , HE8.out.2.2.1.kept hb HE8.out.2.2.1.lt , HE8.out.2.2.2.1.kept hb HE8.out.2.2.2.1.lt , HE8.out.2.2.2.2.kept hb HE8.out.2.2.2.2.lt⟩)
  have HB9 := Lib.hid (HB8.out.trans (hb.mono HB8.out.size))
  have HT9 := Lib.hid (HT8.out.kept hb)
  clear hb HE8 HB8 HT8
  have f0_0 := HE9.out.1.c0
  have f0_1 := HE9.out.1.c1
  have f0_2 := HE9.out.1.c2
  have fl0 := HE9.out.1.lt
  have f1_0 := HE9.out.2.1.c0
  have f1_1 := HE9.out.2.1.c1
  have f1_2 := HE9.out.2.1.c2
  have fl1 := HE9.out.2.1.lt
  have f2_0 := HE9.out.2.2.1.c0
  have f2_1 := HE9.out.2.2.1.c1
  have f2_2 := HE9.out.2.2.1.c2
  have fl2 := HE9.out.2.2.1.lt
  have f3_0 := HE9.out.2.2.2.1.c0
  have f3_1 := HE9.out.2.2.2.1.c1
  have f3_2 := HE9.out.2.2.2.1.c2
  have fl3 := HE9.out.2.2.2.1.lt
  have f4_0 := HE9.out.2.2.2.2.c0
  have f4_1 := HE9.out.2.2.2.2.c1
  have f4_2 := HE9.out.2.2.2.2.c2
  have f4_3 := HE9.out.2.2.2.2.c3
  have fl4 := HE9.out.2.2.2.2.lt
  go_wp2_with fail
  go_ret
  exact ⟨rfl, HB9.out⟩
set_option maxHeartbeats 16000000 in
set_option maxRecDepth 20000 in
theorem good (va : Bool) (xa za : Nat) (vb : Bool) (xb zb : Nat) (k : Nat) (w : World) (ht : TW w) (hxa : xa < 18446744073709551616) (hza : za < 18446744073709551616) (hxb : xb < 18446744073709551616) (hzb : zb < 18446744073709551616) (v0 : vldA va xa za = true) (v1 : vldA vb xb zb = true) (hk : k ≤ width vb) :
    Calls Tryd.prog 6 #[.agg #[.bool va, .int .u64 xa, .int .u64 za], .agg #[.bool vb, .int .u64 xb, .int .u64 zb], .int .i64 k] w fun e w' => e = .returned (.bool true) ∧ Below w.heap.size w w' := by
  have hm := addr_guard
  have hm2 := pfx_guard
  have HL := Lib.hid (fun W t => lives_any W t)
  have HTw := Lib.hid ht
  have HV0 := Lib.hid (fun W => rvalid6_any va xa za W)
  have HV1 := Lib.hid (fun W => rvalid6_any vb xb zb W)
  obtain ⟨W0, hW0⟩ : ∃ W, W = (w.alloc (.cells #[.bool va, .int .u64 xa, .int .u64 za] 25)).alloc (.cells #[.bool vb, .int .u64 xb, .int .u64 zb] 25) := ⟨_, rfl⟩
  have HB0 := Lib.hid (show Below w.heap.size w W0 by rw [hW0]; exact below2 w _ _)
  have HT0 := Lib.hid (show TW W0 by rw [hW0]; exact ht.kept (below2 w _ _))
  have HE0 := Lib.hid (show AB W0 w.heap.size va xa za ∧ AB W0 (w.heap.size + 1) vb xb zb from by rw [hW0]; exact ⟨(ab_new w va xa za).al _, ab2 w _ vb xb zb⟩)
  rw [v0] at HV0
  rw [v1] at HV1
  have HN := Lib.hid (fun W => qnext_any va xa za W hxa hza v0)
  have HRN := Lib.hid (fun W => rnext6_any va xa za W hxa hza)
  obtain ⟨vn, xn, zn, on, en⟩ := aRes_parts (nxtA va xa za)
  rw [en] at HN HRN
  have HPV := Lib.hid (fun W => qprev_any va xa za W hxa hza)
  have HRP := Lib.hid (fun W => rprev6_any va xa za W hxa hza)
  obtain ⟨vp, xp, zp, op, ep⟩ := aRes_parts (prvA va xa za)
  rw [ep] at HPV HRP
  have HC := Lib.hid (fun W => qcmp_any va xa za vb xb zb W)
  have HRC := Lib.hid (fun W => rcmp6_any va xa za vb xb zb W)
  generalize cmpA va xa za vb xb zb = c at *
  have qn := fun W => addr_neq vn vn xn xn zn zn W
  have qp := fun W => addr_eql vp vp xp xp zp zp W
  simp only [beq_self_eq_true, Bool.and_self, Bool.not_true] at qn qp
  have e1 : (on != on) = false := by simp
  have e2 : (op == op) = true := by simp
  have e3 : (c != c) = false := by simp
  clear en ep
  have HM := Lib.hid (fun W => rmake_any vb xb zb k W hxb hzb hk)
  have hml : mkH vb k xb < 18446744073709551616 ∧ mkL vb k zb < 18446744073709551616 := ⟨Nat.lt_of_le_of_lt (lowZ_le _ _) hxb, Nat.lt_of_le_of_lt (lowZ_le _ _) hzb⟩
  have HCO := Lib.hid (fun W => qcont_any vb (mkH vb k xb) (mkL vb k zb) (k : Int) va xa za W hxa hza)
  have HRCO := Lib.hid (fun W => rcont_any vb (mkH vb k xb) (mkL vb k zb) k va xa za W hml.1 hml.2 hxa hza (fun h => by rw [← h]; exact hk))
  generalize cntB vb (mkH vb k xb) (mkL vb k zb) (k : Int) va xa za = bb at *
  have e4 : (bb == bb) = true := by simp
  generalize mkH vb k xb = xm at *
  generalize mkL vb k zb = zm at *
  clear hml hk v0 v1 hxa hza hxb hzb ht
  have f0_0 := HE0.out.1.c0
  have f0_1 := HE0.out.1.c1
  have f0_2 := HE0.out.1.c2
  go_enter Tryd.func6, Tryd.ntmps6
  go_wp2_with fail
  rw [← hW0]
  clear hW0
  clear f0_0 f0_1 f0_2
  refine (HV0.out _).mono ?_
  rintro e w1 ⟨rfl, hb⟩
  have HE1 := Lib.hid (show AB w1 w.heap.size va xa za ∧ AB w1 (w.heap.size + 1) vb xb zb from ⟨HE0.out.1.kept hb HE0.out.1.lt , HE0.out.2.kept hb HE0.out.2.lt⟩)
  have HB1 := Lib.hid (HB0.out.trans (hb.mono HB0.out.size))
  have HT1 := Lib.hid (HT0.out.kept hb)
  clear hb HE0 HB0 HT0
  have f0_0 := HE1.out.1.c0
  have f0_1 := HE1.out.1.c1
  have f0_2 := HE1.out.1.c2
  have fl0 := HE1.out.1.lt
  have f1_0 := HE1.out.2.c0
  have f1_1 := HE1.out.2.c1
  have f1_2 := HE1.out.2.c2
  have fl1 := HE1.out.2.lt
  go_wp2_with fail
  clear f0_0 f0_1 f0_2 fl0 f1_0 f1_1 f1_2 fl1
  refine (HV1.out _).mono ?_
  rintro e w2 ⟨rfl, hb⟩
  have HE2 := Lib.hid (show AB w2 w.heap.size va xa za ∧ AB w2 (w.heap.size + 1) vb xb zb from ⟨HE1.out.1.kept hb HE1.out.1.lt , HE1.out.2.kept hb HE1.out.2.lt⟩)
  have HB2 := Lib.hid (HB1.out.trans (hb.mono HB1.out.size))
  have HT2 := Lib.hid (HT1.out.kept hb)
  clear hb HE1 HB1 HT1
  have f0_0 := HE2.out.1.c0
  have f0_1 := HE2.out.1.c1
  have f0_2 := HE2.out.1.c2
  have fl0 := HE2.out.1.lt
  have f1_0 := HE2.out.2.c0
  have f1_1 := HE2.out.2.c1
  have f1_2 := HE2.out.2.c2
  have fl1 := HE2.out.2.lt
  go_wp2_with fail
  clear f0_0 f0_1 f0_2 fl0 f1_0 f1_1 f1_2 fl1
  refine (HN.out _).mono ?_
  rintro e w3 ⟨rfl, hb⟩
  obtain ⟨gx, hgx⟩ : ∃ g, g = w3.heap.size := ⟨_, rfl⟩
  obtain ⟨W3, hW3⟩ : ∃ W, W = w3.alloc (.cells #[.bool vn, .int .u64 xn, .int .u64 zn] 25) := ⟨_, rfl⟩
  have HE3 := Lib.hid (show AB W3 w.heap.size va xa za ∧ AB W3 (w.heap.size + 1) vb xb zb ∧ AB W3 gx vn xn zn from by rw [hW3, hgx]; exact ⟨(HE2.out.1.kept hb HE2.out.1.lt).al _ , (HE2.out.2.kept hb HE2.out.2.lt).al _ , ab_new w3 vn xn zn⟩)
  have HB3 := Lib.hid (show Below w.heap.size w W3 by rw [hW3]; exact (HB2.out.trans (hb.mono HB2.out.size)).trans ((below_alloc6 w3 _).mono (HB2.out.trans (hb.mono HB2.out.size)).size))
  have HT3 := Lib.hid (show TW W3 by rw [hW3]; exact (HT2.out.kept hb).al _)
  have HLT_gx := Lib.hid (show w.heap.size < gx ∧ (w.heap.size + 1) < gx ∧ w.heap.size ≤ gx from by rw [hgx]; exact ⟨(HE2.out.1.kept hb HE2.out.1.lt).lt , (HE2.out.2.kept hb HE2.out.2.lt).lt , (HB2.out.trans (hb.mono HB2.out.size)).size⟩)
  have hx := HE2.out.1.kept hb HE2.out.1.lt
  have f0_0 := hx.c0
  have f0_1 := hx.c1
  have f0_2 := hx.c2
  have fl0 := hx.lt
  clear hx
  have hx := HE2.out.2.kept hb HE2.out.2.lt
  have f1_0 := hx.c0
  have f1_1 := hx.c1
  have f1_2 := hx.c2
  have fl1 := hx.lt
  clear hx
  clear hb HE2 HB2 HT2
  go_wp2_with fail
  first | rw [← hW3, ← hgx] | rw [← hW3] | skip
  clear hW3 hgx
  clear f0_0 f0_1 f0_2 fl0 f1_0 f1_1 f1_2 fl1
  refine (HRN.out _).mono ?_
  rintro e w4 ⟨rfl, hb⟩
  obtain ⟨gy, hgy⟩ : ∃ g, g = w4.heap.size := ⟨_, rfl⟩
  obtain ⟨W4, hW4⟩ : ∃ W, W = w4.alloc (.cells #[.bool vn, .int .u64 xn, .int .u64 zn] 25) := ⟨_, rfl⟩
  have HE4 := Lib.hid (show AB W4 w.heap.size va xa za ∧ AB W4 (w.heap.size + 1) vb xb zb ∧ AB W4 gx vn xn zn ∧ AB W4 gy vn xn zn from by rw [hW4, hgy]; exact ⟨(HE3.out.1.kept hb HE3.out.1.lt).al _ , (HE3.out.2.1.kept hb HE3.out.2.1.lt).al _ , (HE3.out.2.2.kept hb HE3.out.2.2.lt).al _ , ab_new w4 vn xn zn⟩)
  have HB4 := Lib.hid (show Below w.heap.size w W4 by rw [hW4]; exact (HB3.out.trans (hb.mono HB3.out.size)).trans ((below_alloc6 w4 _).mono (HB3.out.trans (hb.mono HB3.out.size)).size))
  have HT4 := Lib.hid (show TW W4 by rw [hW4]; exact (HT3.out.kept hb).al _)
  have HLT_gy := Lib.hid (show w.heap.size < gy ∧ (w.heap.size + 1) < gy ∧ gx < gy ∧ w.heap.size ≤ gy from by rw [hgy]; exact ⟨(HE3.out.1.kept hb HE3.out.1.lt).lt , (HE3.out.2.1.kept hb HE3.out.2.1.lt).lt , (HE3.out.2.2.kept hb HE3.out.2.2.lt).lt , (HB3.out.trans (hb.mono HB3.out.size)).size⟩)
  have hx := HE3.out.1.kept hb HE3.out.1.lt
  have f0_0 := hx.c0
  have f0_1 := hx.c1
  have f0_2 := hx.c2
  have fl0 := hx.lt
  clear hx
  have hx := HE3.out.2.1.kept hb HE3.out.2.1.lt
  have f1_0 := hx.c0
  have f1_1 := hx.c1
  have f1_2 := hx.c2
  have fl1 := hx.lt
  clear hx
  have hx := HE3.out.2.2.kept hb HE3.out.2.2.lt
  have f2_0 := hx.c0
  have f2_1 := hx.c1
  have f2_2 := hx.c2
  have fl2 := hx.lt
  clear hx
  clear hb HE3 HB3 HT3
  go_wp2_with fail
  first | rw [← hW4, ← hgy] | rw [← hW4] | skip
  clear hW4 hgy
  clear f0_0 f0_1 f0_2 fl0 f1_0 f1_1 f1_2 fl1 f2_0 f2_1 f2_2 fl2
  refine wp_region_pick (fun w' => Below W4.heap.size W4 w') (by kernel_rfl) (by kernel_rfl) (Below.refl _ _) ⟨rfl, rfl, rfl, Nat.le_refl _, fun _ _ => rfl⟩ (fun p hp hq => ?_)
  have p0_0 : ∀ u, (p u).cell? ⟨w.heap.size, 0, none⟩ = some (.bool va) := fun u => (HE4.out.1.kept (hp u) HE4.out.1.lt).c0
  have p0_1 : ∀ u, (p u).cell? ⟨w.heap.size, 1, none⟩ = some (.int .u64 xa) := fun u => (HE4.out.1.kept (hp u) HE4.out.1.lt).c1
  have p0_2 : ∀ u, (p u).cell? ⟨w.heap.size, 2, none⟩ = some (.int .u64 za) := fun u => (HE4.out.1.kept (hp u) HE4.out.1.lt).c2
  have p1_0 : ∀ u, (p u).cell? ⟨(w.heap.size + 1), 0, none⟩ = some (.bool vb) := fun u => (HE4.out.2.1.kept (hp u) HE4.out.2.1.lt).c0
  have p1_1 : ∀ u, (p u).cell? ⟨(w.heap.size + 1), 1, none⟩ = some (.int .u64 xb) := fun u => (HE4.out.2.1.kept (hp u) HE4.out.2.1.lt).c1
  have p1_2 : ∀ u, (p u).cell? ⟨(w.heap.size + 1), 2, none⟩ = some (.int .u64 zb) := fun u => (HE4.out.2.1.kept (hp u) HE4.out.2.1.lt).c2
  have p2_0 : ∀ u, (p u).cell? ⟨gx, 0, none⟩ = some (.bool vn) := fun u => (HE4.out.2.2.1.kept (hp u) HE4.out.2.2.1.lt).c0
  have p2_1 : ∀ u, (p u).cell? ⟨gx, 1, none⟩ = some (.int .u64 xn) := fun u => (HE4.out.2.2.1.kept (hp u) HE4.out.2.2.1.lt).c1
  have p2_2 : ∀ u, (p u).cell? ⟨gx, 2, none⟩ = some (.int .u64 zn) := fun u => (HE4.out.2.2.1.kept (hp u) HE4.out.2.2.1.lt).c2
  have p3_0 : ∀ u, (p u).cell? ⟨gy, 0, none⟩ = some (.bool vn) := fun u => (HE4.out.2.2.2.kept (hp u) HE4.out.2.2.2.lt).c0
  have p3_1 : ∀ u, (p u).cell? ⟨gy, 1, none⟩ = some (.int .u64 xn) := fun u => (HE4.out.2.2.2.kept (hp u) HE4.out.2.2.2.lt).c1
  have p3_2 : ∀ u, (p u).cell? ⟨gy, 2, none⟩ = some (.int .u64 zn) := fun u => (HE4.out.2.2.2.kept (hp u) HE4.out.2.2.2.lt).c2
  have HP := Lib.hid hp
  have HQ := Lib.hid hq
  clear hp hq
  repeat (go_big_quiet_step ((first | with_reducible exact Calls.pick_of HQ.out (fun W' hb => (HP.out _).trans (hb.mono (HP.out _).size)) (HC.out _) | with_reducible exact Calls.pick_of HQ.out (fun W' hb => (HP.out _).trans (hb.mono (HP.out _).size)) (HRC.out _))))
  refine wpQuiet_nil ?_
  rintro _ ⟨u, rfl⟩
  have hb := HP.out u
  generalize p u = w5 at *
  clear HP HQ p0_0 p0_1 p0_2 p1_0 p1_1 p1_2 p2_0 p2_1 p2_2 p3_0 p3_1 p3_2
  have HE5 := Lib.hid (show AB w5 w.heap.size va xa za ∧ AB w5 (w.heap.size + 1) vb xb zb ∧ AB w5 gx vn xn zn ∧ AB w5 gy vn xn zn from ⟨HE4.out.1.kept hb HE4.out.1.lt , HE4.out.2.1.kept hb HE4.out.2.1.lt , HE4.out.2.2.1.kept hb HE4.out.2.2.1.lt , HE4.out.2.2.2.kept hb HE4.out.2.2.2.lt⟩)
  have HB5 := Lib.hid (HB4.out.trans (hb.mono HB4.out.size))
  have HT5 := Lib.hid (HT4.out.kept hb)
  clear hb HE4 HB4 HT4
  have f0_0 := HE5.out.1.c0
  have f0_1 := HE5.out.1.c1
  have f0_2 := HE5.out.1.c2
  have fl0 := HE5.out.1.lt
  have f1_0 := HE5.out.2.1.c0
  have f1_1 := HE5.out.2.1.c1
  have f1_2 := HE5.out.2.1.c2
  have fl1 := HE5.out.2.1.lt
  have f2_0 := HE5.out.2.2.1.c0
  have f2_1 := HE5.out.2.2.1.c1
  have f2_2 := HE5.out.2.2.1.c2
  have fl2 := HE5.out.2.2.1.lt
  have f3_0 := HE5.out.2.2.2.c0
  have f3_1 := HE5.out.2.2.2.c1
  have f3_2 := HE5.out.2.2.2.c2
  have fl3 := HE5.out.2.2.2.lt
  go_wp2_with fail
  clear f0_0 f0_1 f0_2 fl0 f1_0 f1_1 f1_2 fl1 f2_0 f2_1 f2_2 fl2 f3_0 f3_1 f3_2 fl3
  refine (HPV.out _).mono ?_
  rintro e w6 ⟨rfl, hb⟩
  obtain ⟨W6, hW6⟩ : ∃ W, W = ((w6.setCell ⟨gx, 0, none⟩ (.bool vp)).setCell ⟨gx, 1, none⟩ (.int .u64 xp)).setCell ⟨gx, 2, none⟩ (.int .u64 zp) := ⟨_, rfl⟩
  have HE6 := Lib.hid (show AB W6 w.heap.size va xa za ∧ AB W6 (w.heap.size + 1) vb xb zb ∧ AB W6 gx vp xp zp ∧ AB W6 gy vn xn zn from by rw [hW6]; exact ⟨(((HE5.out.1.kept hb HE5.out.1.lt).far (Nat.ne_of_lt HLT_gx.out.1) _).far (Nat.ne_of_lt HLT_gx.out.1) _).far (Nat.ne_of_lt HLT_gx.out.1) _ , (((HE5.out.2.1.kept hb HE5.out.2.1.lt).far (Nat.ne_of_lt HLT_gx.out.2.1) _).far (Nat.ne_of_lt HLT_gx.out.2.1) _).far (Nat.ne_of_lt HLT_gx.out.2.1) _ , (HE5.out.2.2.1.kept hb HE5.out.2.2.1.lt).set vp xp zp , (((HE5.out.2.2.2.kept hb HE5.out.2.2.2.lt).far (Nat.ne_of_gt HLT_gy.out.2.2.1) _).far (Nat.ne_of_gt HLT_gy.out.2.2.1) _).far (Nat.ne_of_gt HLT_gy.out.2.2.1) _⟩)
  have HB6 := Lib.hid (show Below w.heap.size w W6 by rw [hW6]; exact aset_below (HB5.out.trans (hb.mono HB5.out.size)) HLT_gx.out.2.2 vp xp zp)
  have HT6 := Lib.hid (HTw.out.kept HB6.out)
  have hx := (HE5.out.1.kept hb HE5.out.1.lt)
  have f0_0 := hx.c0
  have f0_1 := hx.c1
  have f0_2 := hx.c2
  have fl0 := hx.lt
  clear hx
  have hx := (HE5.out.2.1.kept hb HE5.out.2.1.lt)
  have f1_0 := hx.c0
  have f1_1 := hx.c1
  have f1_2 := hx.c2
  have fl1 := hx.lt
  clear hx
  have hx := (HE5.out.2.2.1.kept hb HE5.out.2.2.1.lt)
  have f2_0 := hx.c0
  have qf2_0 := hx.f 0
  have f2_1 := hx.c1
  have qf2_1 := hx.f 1
  have f2_2 := hx.c2
  have qf2_2 := hx.f 2
  have fl2 := hx.lt
  clear hx
  have hx := (HE5.out.2.2.2.kept hb HE5.out.2.2.2.lt)
  have f3_0 := hx.c0
  have f3_1 := hx.c1
  have f3_2 := hx.c2
  have fl3 := hx.lt
  clear hx
  have g0_0 := HE6.out.1.c0
  rw [hW6] at g0_0
  have g0_1 := HE6.out.1.c1
  rw [hW6] at g0_1
  have g0_2 := HE6.out.1.c2
  rw [hW6] at g0_2
  have g1_0 := HE6.out.2.1.c0
  rw [hW6] at g1_0
  have g1_1 := HE6.out.2.1.c1
  rw [hW6] at g1_1
  have g1_2 := HE6.out.2.1.c2
  rw [hW6] at g1_2
  have g2_0 := HE6.out.2.2.1.c0
  rw [hW6] at g2_0
  have g2_1 := HE6.out.2.2.1.c1
  rw [hW6] at g2_1
  have g2_2 := HE6.out.2.2.1.c2
  rw [hW6] at g2_2
  have g3_0 := HE6.out.2.2.2.c0
  rw [hW6] at g3_0
  have g3_1 := HE6.out.2.2.2.c1
  rw [hW6] at g3_1
  have g3_2 := HE6.out.2.2.2.c2
  rw [hW6] at g3_2
  clear hb HE5 HB5 HT5
  go_wp2_with fail
  rw [← hW6]
  clear hW6
  clear f0_0 f0_1 f0_2 fl0 f1_0 f1_1 f1_2 fl1 f2_0 qf2_0 f2_1 qf2_1 f2_2 qf2_2 fl2 f3_0 f3_1 f3_2 fl3 g0_0 g0_1 g0_2 g1_0 g1_1 g1_2 g2_0 g2_1 g2_2 g3_0 g3_1 g3_2
  refine (HRP.out _).mono ?_
  rintro e w7 ⟨rfl, hb⟩
  obtain ⟨W7, hW7⟩ : ∃ W, W = ((w7.setCell ⟨gy, 0, none⟩ (.bool vp)).setCell ⟨gy, 1, none⟩ (.int .u64 xp)).setCell ⟨gy, 2, none⟩ (.int .u64 zp) := ⟨_, rfl⟩
  have HE7 := Lib.hid (show AB W7 w.heap.size va xa za ∧ AB W7 (w.heap.size + 1) vb xb zb ∧ AB W7 gx vp xp zp ∧ AB W7 gy vp xp zp from by rw [hW7]; exact ⟨(((HE6.out.1.kept hb HE6.out.1.lt).far (Nat.ne_of_lt HLT_gy.out.1) _).far (Nat.ne_of_lt HLT_gy.out.1) _).far (Nat.ne_of_lt HLT_gy.out.1) _ , (((HE6.out.2.1.kept hb HE6.out.2.1.lt).far (Nat.ne_of_lt HLT_gy.out.2.1) _).far (Nat.ne_of_lt HLT_gy.out.2.1) _).far (Nat.ne_of_lt HLT_gy.out.2.1) _ , (((HE6.out.2.2.1.kept hb HE6.out.2.2.1.lt).far (Nat.ne_of_lt HLT_gy.out.2.2.1) _).far (Nat.ne_of_lt HLT_gy.out.2.2.1) _).far (Nat.ne_of_lt HLT_gy.out.2.2.1) _ , (HE6.out.2.2.2.kept hb HE6.out.2.2.2.lt).set vp xp zp⟩)
  have HB7 := Lib.hid (show Below w.heap.size w W7 by rw [hW7]; exact aset_below (HB6.out.trans (hb.mono HB6.out.size)) HLT_gy.out.2.2.2 vp xp zp)
  have HT7 := Lib.hid (HTw.out.kept HB7.out)
  have hx := (HE6.out.1.kept hb HE6.out.1.lt)
  have f0_0 := hx.c0
  have f0_1 := hx.c1
  have f0_2 := hx.c2
  have fl0 := hx.lt
  clear hx
  have hx := (HE6.out.2.1.kept hb HE6.out.2.1.lt)
  have f1_0 := hx.c0
  have f1_1 := hx.c1
  have f1_2 := hx.c2
  have fl1 := hx.lt
  clear hx
  have hx := (HE6.out.2.2.1.kept hb HE6.out.2.2.1.lt)
  have f2_0 := hx.c0
  have f2_1 := hx.c1
  have f2_2 := hx.c2
  have fl2 := hx.lt
  clear hx
  have hx := (HE6.out.2.2.2.kept hb HE6.out.2.2.2.lt)
  have f3_0 := hx.c0
  have qf3_0 := hx.f 0
  have f3_1 := hx.c1
  have qf3_1 := hx.f 1
  have f3_2 := hx.c2
  have qf3_2 := hx.f 2
  have fl3 := hx.lt
  clear hx
  have g0_0 := HE7.out.1.c0
  rw [hW7] at g0_0
  have g0_1 := HE7.out.1.c1
  rw [hW7] at g0_1
  have g0_2 := HE7.out.1.c2
  rw [hW7] at g0_2
  have g1_0 := HE7.out.2.1.c0
  rw [hW7] at g1_0
  have g1_1 := HE7.out.2.1.c1
  rw [hW7] at g1_1
  have g1_2 := HE7.out.2.1.c2
  rw [hW7] at g1_2
  have g2_0 := HE7.out.2.2.1.c0
  rw [hW7] at g2_0
  have g2_1 := HE7.out.2.2.1.c1
  rw [hW7] at g2_1
  have g2_2 := HE7.out.2.2.1.c2
  rw [hW7] at g2_2
  have g3_0 := HE7.out.2.2.2.c0
  rw [hW7] at g3_0
  have g3_1 := HE7.out.2.2.2.c1
  rw [hW7] at g3_1
  have g3_2 := HE7.out.2.2.2.c2
  rw [hW7] at g3_2
  clear hb HE6 HB6 HT6
  go_wp2_with fail
  rw [← hW7]
  clear hW7
  clear f0_0 f0_1 f0_2 fl0 f1_0 f1_1 f1_2 fl1 f2_0 f2_1 f2_2 fl2 f3_0 qf3_0 f3_1 qf3_1 f3_2 qf3_2 fl3 g0_0 g0_1 g0_2 g1_0 g1_1 g1_2 g2_0 g2_1 g2_2 g3_0 g3_1 g3_2
  refine (HM.out _).mono ?_
  rintro e w8 ⟨rfl, hb⟩
  obtain ⟨gp, hgp⟩ : ∃ g, g = w8.heap.size := ⟨_, rfl⟩
  obtain ⟨W8, hW8⟩ : ∃ W, W = w8.alloc (.cells #[.bool vb, .int .u64 xm, .int .u64 zm, .int .i64 k] 30) := ⟨_, rfl⟩
  have HE8 := Lib.hid (show AB W8 w.heap.size va xa za ∧ AB W8 (w.heap.size + 1) vb xb zb ∧ AB W8 gx vp xp zp ∧ AB W8 gy vp xp zp ∧ PB W8 gp vb xm zm k from by rw [hW8, hgp]; exact ⟨(HE7.out.1.kept hb HE7.out.1.lt).al _ , (HE7.out.2.1.kept hb HE7.out.2.1.lt).al _ , (HE7.out.2.2.1.kept hb HE7.out.2.2.1.lt).al _ , (HE7.out.2.2.2.kept hb HE7.out.2.2.2.lt).al _ , pb_new w8 vb xm zm k⟩)
  have HB8 := Lib.hid (show Below w.heap.size w W8 by rw [hW8]; exact (HB7.out.trans (hb.mono HB7.out.size)).trans ((below_alloc6 w8 _).mono (HB7.out.trans (hb.mono HB7.out.size)).size))
  have HT8 := Lib.hid (show TW W8 by rw [hW8]; exact (HT7.out.kept hb).al _)
  have HLT_gp := Lib.hid (show w.heap.size < gp ∧ (w.heap.size + 1) < gp ∧ gx < gp ∧ gy < gp ∧ w.heap.size ≤ gp from by rw [hgp]; exact ⟨(HE7.out.1.kept hb HE7.out.1.lt).lt , (HE7.out.2.1.kept hb HE7.out.2.1.lt).lt , (HE7.out.2.2.1.kept hb HE7.out.2.2.1.lt).lt , (HE7.out.2.2.2.kept hb HE7.out.2.2.2.lt).lt , (HB7.out.trans (hb.mono HB7.out.size)).size⟩)
  have hx := HE7.out.1.kept hb HE7.out.1.lt
  have f0_0 := hx.c0
  have f0_1 := hx.c1
  have f0_2 := hx.c2
  have fl0 := hx.lt
  clear hx
  have hx := HE7.out.2.1.kept hb HE7.out.2.1.lt
  have f1_0 := hx.c0
  have f1_1 := hx.c1
  have f1_2 := hx.c2
  have fl1 := hx.lt
  clear hx
  have hx := HE7.out.2.2.1.kept hb HE7.out.2.2.1.lt
  have f2_0 := hx.c0
  have f2_1 := hx.c1
  have f2_2 := hx.c2
  have fl2 := hx.lt
  clear hx
  have hx := HE7.out.2.2.2.kept hb HE7.out.2.2.2.lt
  have f3_0 := hx.c0
  have f3_1 := hx.c1
  have f3_2 := hx.c2
  have fl3 := hx.lt
  clear hx
  clear hb HE7 HB7 HT7
  go_wp2_with fail
  first | rw [← hW8, ← hgp] | rw [← hW8] | skip
  clear hW8 hgp
  clear f0_0 f0_1 f0_2 fl0 f1_0 f1_1 f1_2 fl1 f2_0 f2_1 f2_2 fl2 f3_0 f3_1 f3_2 fl3
  refine wp_region_pick (fun w' => Below W8.heap.size W8 w') (by kernel_rfl) (by kernel_rfl) (Below.refl _ _) ⟨rfl, rfl, rfl, Nat.le_refl _, fun _ _ => rfl⟩ (fun p hp hq => ?_)
  have p0_0 : ∀ u, (p u).cell? ⟨w.heap.size, 0, none⟩ = some (.bool va) := fun u => (HE8.out.1.kept (hp u) HE8.out.1.lt).c0
  have p0_1 : ∀ u, (p u).cell? ⟨w.heap.size, 1, none⟩ = some (.int .u64 xa) := fun u => (HE8.out.1.kept (hp u) HE8.out.1.lt).c1
  have p0_2 : ∀ u, (p u).cell? ⟨w.heap.size, 2, none⟩ = some (.int .u64 za) := fun u => (HE8.out.1.kept (hp u) HE8.out.1.lt).c2
  have p1_0 : ∀ u, (p u).cell? ⟨(w.heap.size + 1), 0, none⟩ = some (.bool vb) := fun u => (HE8.out.2.1.kept (hp u) HE8.out.2.1.lt).c0
  have p1_1 : ∀ u, (p u).cell? ⟨(w.heap.size + 1), 1, none⟩ = some (.int .u64 xb) := fun u => (HE8.out.2.1.kept (hp u) HE8.out.2.1.lt).c1
  have p1_2 : ∀ u, (p u).cell? ⟨(w.heap.size + 1), 2, none⟩ = some (.int .u64 zb) := fun u => (HE8.out.2.1.kept (hp u) HE8.out.2.1.lt).c2
  have p2_0 : ∀ u, (p u).cell? ⟨gx, 0, none⟩ = some (.bool vp) := fun u => (HE8.out.2.2.1.kept (hp u) HE8.out.2.2.1.lt).c0
  have p2_1 : ∀ u, (p u).cell? ⟨gx, 1, none⟩ = some (.int .u64 xp) := fun u => (HE8.out.2.2.1.kept (hp u) HE8.out.2.2.1.lt).c1
  have p2_2 : ∀ u, (p u).cell? ⟨gx, 2, none⟩ = some (.int .u64 zp) := fun u => (HE8.out.2.2.1.kept (hp u) HE8.out.2.2.1.lt).c2
  have p3_0 : ∀ u, (p u).cell? ⟨gy, 0, none⟩ = some (.bool vp) := fun u => (HE8.out.2.2.2.1.kept (hp u) HE8.out.2.2.2.1.lt).c0
  have p3_1 : ∀ u, (p u).cell? ⟨gy, 1, none⟩ = some (.int .u64 xp) := fun u => (HE8.out.2.2.2.1.kept (hp u) HE8.out.2.2.2.1.lt).c1
  have p3_2 : ∀ u, (p u).cell? ⟨gy, 2, none⟩ = some (.int .u64 zp) := fun u => (HE8.out.2.2.2.1.kept (hp u) HE8.out.2.2.2.1.lt).c2
  have p4_0 : ∀ u, (p u).cell? ⟨gp, 0, none⟩ = some (.bool vb) := fun u => (HE8.out.2.2.2.2.kept (hp u) HE8.out.2.2.2.2.lt).c0
  have p4_1 : ∀ u, (p u).cell? ⟨gp, 1, none⟩ = some (.int .u64 xm) := fun u => (HE8.out.2.2.2.2.kept (hp u) HE8.out.2.2.2.2.lt).c1
  have p4_2 : ∀ u, (p u).cell? ⟨gp, 2, none⟩ = some (.int .u64 zm) := fun u => (HE8.out.2.2.2.2.kept (hp u) HE8.out.2.2.2.2.lt).c2
  have p4_3 : ∀ u, (p u).cell? ⟨gp, 3, none⟩ = some (.int .i64 k) := fun u => (HE8.out.2.2.2.2.kept (hp u) HE8.out.2.2.2.2.lt).c3
  have HP := Lib.hid hp
  have HQ := Lib.hid hq
  clear hp hq
  repeat (go_big_quiet_step ((first | with_reducible exact Calls.pick_of HQ.out (fun W' hb => (HP.out _).trans (hb.mono (HP.out _).size)) (HCO.out _) | with_reducible exact Calls.pick_of HQ.out (fun W' hb => (HP.out _).trans (hb.mono (HP.out _).size)) (HRCO.out _) | with_reducible exact Calls.pick_of HQ.out (fun W' hb => (HP.out _).trans (hb.mono (HP.out _).size)) (HL.out _ (HTw.out.kept (HB8.out.trans ((HP.out _).mono HB8.out.size)))))))
  refine wpQuiet_nil ?_
  rintro _ ⟨u, rfl⟩
  have hb := HP.out u
  generalize p u = w9 at *
  clear HP HQ p0_0 p0_1 p0_2 p1_0 p1_1 p1_2 p2_0 p2_1 p2_2 p3_0 p3_1 p3_2 p4_0 p4_1 p4_2 p4_3
  have HE9 := Lib.hid (show AB w9 w.heap.size va xa za ∧ AB w9 (w.heap.size + 1) vb xb zb ∧ AB w9 gx vp xp zp ∧ AB w9 gy vp xp zp ∧ PB w9 gp vb xm zm k from ⟨HE8.out.1.kept hb HE8.out.1.lt , HE8.out.2.1.kept hb HE8.out.2.1.lt , HE8.out.2.2.1.kept hb HE8.out.2.2.1.lt , HE8.out.2.2.2.1.kept hb HE8.out.2.2.2.1.lt , HE8.out.2.2.2.2.kept hb HE8.out.2.2.2.2.lt⟩)
  have HB9 := Lib.hid (HB8.out.trans (hb.mono HB8.out.size))
  have HT9 := Lib.hid (HT8.out.kept hb)
  clear hb HE8 HB8 HT8
  have f0_0 := HE9.out.1.c0
  have f0_1 := HE9.out.1.c1
  have f0_2 := HE9.out.1.c2
  have fl0 := HE9.out.1.lt
  have f1_0 := HE9.out.2.1.c0
  have f1_1 := HE9.out.2.1.c1
  have f1_2 := HE9.out.2.1.c2
  have fl1 := HE9.out.2.1.lt
  have f2_0 := HE9.out.2.2.1.c0
  have f2_1 := HE9.out.2.2.1.c1
  have f2_2 := HE9.out.2.2.1.c2
  have fl2 := HE9.out.2.2.1.lt
  have f3_0 := HE9.out.2.2.2.1.c0
  have f3_1 := HE9.out.2.2.2.1.c1
  have f3_2 := HE9.out.2.2.2.1.c2
  have fl3 := HE9.out.2.2.2.1.lt
  have f4_0 := HE9.out.2.2.2.2.c0
  have f4_1 := HE9.out.2.2.2.2.c1
  have f4_2 := HE9.out.2.2.2.2.c2
  have f4_3 := HE9.out.2.2.2.2.c3
  have fl4 := HE9.out.2.2.2.2.lt
  go_wp2_with fail
  go_ret
  exact ⟨rfl, HB9.out⟩
theorem walk (va : Bool) (xa za : Nat) (vb : Bool) (xb zb : Nat) (n : Int) (w : World) (ht : TW w) (hxa : xa < 18446744073709551616) (hza : za < 18446744073709551616) (hxb : xb < 18446744073709551616) (hzb : zb < 18446744073709551616) (hn : (Lit.int .i64 n).wf = true) :
    Calls Tryd.prog 6 #[.agg #[.bool va, .int .u64 xa, .int .u64 za], .agg #[.bool vb, .int .u64 xb, .int .u64 zb], .int .i64 n] w fun e w' => e = .returned (.bool true) ∧ Below w.heap.size w w' := by
  cases v0 : vldA va xa za with
  | false => exact inv0 va xa za vb xb zb n w ht hxa hza hxb hzb v0
  | true =>
    cases v1 : vldA vb xb zb with
    | false => exact inv1 va xa za vb xb zb n w ht hxa hza hxb hzb v0 v1
    | true =>
      by_cases hb : n < 0 ∨ (width vb : Int) < n
      · exact bad va xa za vb xb zb n w ht hxa hza hxb hzb v0 v1 hb
      · obtain ⟨k, rfl⟩ := Int.eq_ofNat_of_zero_le (a := n) (by omega)
        exact good va xa za vb xb zb k w ht hxa hza hxb hzb v0 v1 (by omega)

set_option maxRecDepth 100000 in
theorem lifted (os : Os) (started : os.Started) (H : Type) (enc : TypeId × Value → H) :
    ReturnsInHanded {} Tryd.checked os 6 .any (fun w args => (Rows.addressOrdersSpec.pre enc Tryd.prog Tryd.f6 [] false w args ∧ laidMetH Tryd.prog laidL w) ∧ sizedMet enc Tryd.prog Tryd.f6 (OpenSpec.ofChange Rows.addressOrdersSpec) false w args) (Rows.addressOrdersSpec.post enc Tryd.prog Tryd.f6 false true false false) := by
  refine wrap6 (C := Tryd.checked) (X := fun w _ => laidMetH Tryd.prog laidL w) (fun _ _ _ hh h => h.of_heap hh) own started (by kernel_rfl) Tryd.func6
    (ChangeSpec.witness_shaped (enc := enc) (C := Tryd.checked) (os := os) (X := fun w _ => laidMetH Tryd.prog laidL w) false (World.laidAll Tryd.prog os laidL) #[(.agg #[.bool false, .int .u64 0, .int .u64 0]), (.agg #[.bool false, .int .u64 0, .int .u64 0]), .int .i64 0] 8 (World.laidAll_os _ _ _) (World.shaped_of_ZipB (by kernel_rfl) (by kernel_rfl)) (by kernel_rfl) (by kernel_rfl) (by kernel_rfl) (door_met os _)) ?_
  intro W base args ds gs before hval0 hW hL hsh
  have hval : ∀ (j : Nat) t v, Tryd.f6.params[j]? = some t → args[j]? = some v → Value.okWide Tryd.prog W .any base t v := hval0
  have hW' := hW
  obtain ⟨p, q, hA0, hV, rfl, hfz, hnd⟩ := hW
  have hA : DataW.TrodAll enc Tryd.prog W 0 (fun _ => true) true Tryd.f6.params.toList args.toList ds p := hA0
  rw [Tryd.params6] at hA hval
  obtain ⟨v0, vs0, d0, ds0, p0, q0, hargs, rfl, rfl, h0, r0⟩ := trodAll_cons hA
  obtain ⟨v1, vs1, d1, ds1, p1, q1, rfl, rfl, rfl, h1, r1⟩ := trodAll_cons r0
  obtain ⟨v2, vs2, d2, ds2, p2, q2, rfl, rfl, rfl, h2, r2⟩ := trodAll_cons r1
  obtain ⟨rfl, rfl, rfl⟩ := trodAll_nil r2
  obtain rfl : args = #[v0, v1, v2] := by cases args; simp_all
  obtain ⟨rfl, rfl⟩ := trodVars_none hV
  have k0 := h0
  have lt0 : ∀ x ∈ p0, x.block < W.heap.size := by obtain ⟨m, hm⟩ := k0; exact DataW.trod_lt m _ _ _ hm
  obtain ⟨c00, c01, c02, y00, y01, y02, m0, rfl, rfl, rfl, hy00, hy01, hy02⟩ := open_agg3 Tryd.underlying25 (by kernel_rfl) cellsAddr6 (hval 0 25 v0 rfl rfl) h0
  obtain ⟨b0, e00, rfl⟩ := DataW.trod_bool Tryd.underlying4 hy00
  obtain ⟨x0, e01, rfl, wx0⟩ := DataW.trod_int Tryd.underlying23 hy01
  obtain ⟨z0, e02, rfl, wz0⟩ := DataW.trod_int Tryd.underlying23 hy02
  simp at e00 e01 e02
  subst e00 e01 e02
  obtain ⟨X0, rfl, hX0⟩ := nat_of_wf6 wx0
  obtain ⟨Z0, rfl, hZ0⟩ := nat_of_wf6 wz0
  have k1 := h1
  have lt1 : ∀ x ∈ p1, x.block < W.heap.size := by obtain ⟨m, hm⟩ := k1; exact DataW.trod_lt m _ _ _ hm
  obtain ⟨c10, c11, c12, y10, y11, y12, m1, rfl, rfl, rfl, hy10, hy11, hy12⟩ := open_agg3 Tryd.underlying25 (by kernel_rfl) cellsAddr6 (hval 1 25 v1 rfl rfl) h1
  obtain ⟨b1, e10, rfl⟩ := DataW.trod_bool Tryd.underlying4 hy10
  obtain ⟨x1, e11, rfl, wx1⟩ := DataW.trod_int Tryd.underlying23 hy11
  obtain ⟨z1, e12, rfl, wz1⟩ := DataW.trod_int Tryd.underlying23 hy12
  simp at e10 e11 e12
  subst e10 e11 e12
  obtain ⟨X1, rfl, hX1⟩ := nat_of_wf6 wx1
  obtain ⟨Z1, rfl, hZ1⟩ := nat_of_wf6 wz1
  obtain ⟨a2, rfl, rfl, rfl, w2⟩ := open_int Tryd.underlying3 (hval 2 3 v2 rfl rfl) h2
  clear hA0 hval0
  refine (walk b0 X0 Z0 b1 X1 Z1 a2 W (tied_of_laid hL hsh) hX0 hZ0 hX1 hZ1 w2).mono fun e W' ⟨he, bel⟩ => ?_
  subst he
  exact ⟨_, rfl, _, _, _, [], _, [], hW', trodAll_mk1 (shut_bool Tryd.underlying4 _), (trodAll_cons_mk (Below.trod laidOut (by kernel_rfl) (of_decide_eq_true (by kernel_rfl)) k0 bel lt0) (trodAll_cons_mk (Below.trod laidOut (by kernel_rfl) (of_decide_eq_true (by kernel_rfl)) k1 bel lt1) (trodAll_cons_mk (shut_int Tryd.underlying3 w2) trodAll_mk0))), rfl, bel.frame _, fun h => by cases h⟩

theorem over : Rows.addressOrdersRow.holds Tryd.pinned (OpenSpec.ofChange Rows.addressOrdersSpec) :=
  OpenClaim.holds_of_wide 6 Tryd.f6 rfl rfl rfl rfl rfl rfl rfl ⟨rfl, rfl, rfl, rfl, rfl⟩ rfl rfl rfl rfl rfl (by kernel_rfl) Tryd.func6 (by kernel_rfl)
    (of_decide_eq_true (by kernel_rfl)) (by unfold Func.isWrapper; first | (rw [if_pos (by decide +kernel)]; kernel_rfl) | (rw [if_neg (by decide +kernel)]; exact ⟨rfl, rfl⟩))
    (fun os started H enc _ => lifted os started H enc)

theorem bare : Rows.AddressOrdersSaid := over

/-- The tied card. -/
theorem proved : Rows.AddressOrdersCardSaid :=
  Claim7.holds_tied_plain_at .later [] _ true _ false
    bare (fun _ h => by cases h) (by kernel_rfl) (fun _ h => by cases h) addressOrders_row_tie rfl ⟨rfl, rfl⟩ (by kernel_rfl) rfl
    (fun f fn hf hfn => by
      obtain rfl : f = 6 := Option.some.inj ((show Tryd.prog.funcNamed "intrusion/intrusionlaw06.AddressOrders" = some 6 by kernel_rfl).symm.trans hf) |>.symm
      obtain rfl : fn = Tryd.f6 := (Option.some.inj (Tryd.func6.symm.trans hfn)).symm
      exact ⟨by kernel_rfl, fun j t ht => by
        rw [Tryd.params6] at ht
        have hm : t ∈ [25, 25, 3] := by simpa using Array.mem_of_getElem? ht
        have hall : ([25, 25, 3].all fun u => !Tryd.prog.wantsStandIn u) = true := by kernel_rfl
        exact (show Tryd.prog.wantsStandIn t = false by simpa using List.all_eq_true.1 hall t hm)⟩)
    (by kernel_rfl)
#print axioms proved


end Go.Proofs.YtcblgbonijloiaaDoor.addressOrders
