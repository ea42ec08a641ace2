/- AddressFormats holds: for every prefix and every number of bits the law about Valid, ValidPrefix, MakePrefix, Format, Bytes, FormatPrefix and Bounds beside the reference returns true and leaves memory as it was; the library's tables are tied to the program's text. No other condition. -/
import Derived.Test.YtcblgbonijloiaaDoorCards
import Derived.Test.YtcblgbonijloiaaDoorFo2
import Derived.Test.YtcblgbonijloiaaDoorFo6
namespace Go.Proofs.YtcblgbonijloiaaDoor.addressFormats
open Go.ChangeShapes Go.WideShapes Go.ChangeAt Go.RowKit
open Go.Joins
set_option linter.unusedVariables false

theorem own : ownKnob Tryd.prog.godebug = none := by kernel_rfl
theorem laidOut : laidOutB Tryd.prog = true := by kernel_rfl
theorem rng_guard : Tryd.prog.eqGuardType Tryd.prog.depth 40 = false := by kernel_rfl
theorem pfx_nself (b : Bool) (h l k : Int) (W : World) :
    (binOp .neq 30 (.agg #[.bool b, .int .u64 h, .int .u64 l, .int .i64 k]) (.agg #[.bool b, .int .u64 h, .int .u64 l, .int .i64 k])).run Tryd.prog W = .ok (.bool false) W := by
  have u3 := Tryd.underlying23
  have a3 := Tryd.isAgg23
  have z3 := Tryd.sizeOf23
  have u2 := Tryd.underlying3
  have a2 := Tryd.isAgg3
  have z2 := Tryd.sizeOf3
  have u9 := Tryd.underlying4
  have a9 := Tryd.isAgg4
  have z9 := Tryd.sizeOf4
  have u8 := Tryd.underlying25
  have a8 := Tryd.isAgg25
  have z8 := Tryd.sizeOf25
  have hS : Tryd.prog.underlying 30 = some (.struct (Tryd.prog.fieldsOf 30)) := by kernel_rfl
  have hp : Tryd.prog.stoodInHeld 30 = false := by kernel_rfl
  have hS2 : Tryd.prog.underlying 25 = some (.struct (Tryd.prog.fieldsOf 25)) := by kernel_rfl
  have hp2 : Tryd.prog.stoodInHeld 25 = false := by kernel_rfl
  rw [run_neq_struct, show (10000 : Nat) = 9999 + 1 from rfl, run_equalIn_agg W 9999 30 _ _ hS hp]
  simp only [Program.fieldsOf, Tryd.underlying30]
  go_simp
theorem rng_nself (b c : Bool) (h l h2 l2 : Int) (W : World) :
    (binOp .neq 40 (.agg #[.bool b, .int .u64 h, .int .u64 l, .bool c, .int .u64 h2, .int .u64 l2]) (.agg #[.bool b, .int .u64 h, .int .u64 l, .bool c, .int .u64 h2, .int .u64 l2])).run Tryd.prog W = .ok (.bool false) W := by
  have u3 := Tryd.underlying23
  have a3 := Tryd.isAgg23
  have z3 := Tryd.sizeOf23
  have u2 := Tryd.underlying3
  have a2 := Tryd.isAgg3
  have z2 := Tryd.sizeOf3
  have u9 := Tryd.underlying4
  have a9 := Tryd.isAgg4
  have z9 := Tryd.sizeOf4
  have u8 := Tryd.underlying25
  have a8 := Tryd.isAgg25
  have z8 := Tryd.sizeOf25
  have hS : Tryd.prog.underlying 40 = some (.struct (Tryd.prog.fieldsOf 40)) := by kernel_rfl
  have hp : Tryd.prog.stoodInHeld 40 = false := by kernel_rfl
  have hS2 : Tryd.prog.underlying 25 = some (.struct (Tryd.prog.fieldsOf 25)) := by kernel_rfl
  have hp2 : Tryd.prog.stoodInHeld 25 = false := by kernel_rfl
  rw [run_neq_struct, show (10000 : Nat) = 9999 + 1 from rfl, run_equalIn_agg W 9999 40 _ _ hS hp]
  simp only [Program.fieldsOf, Tryd.underlying40]
  go_simp
set_option maxHeartbeats 8000000 in
set_option maxRecDepth 20000 in
theorem inv (v : Bool) (x z : Nat) (kp : Int) (n : Int) (w : World) (ht : TW w) (hx : x < 18446744073709551616) (hz : z < 18446744073709551616) (v0 : vldA v x z = false) :
    Calls Tryd.prog 4 #[.agg #[.bool v, .int .u64 x, .int .u64 z, .int .i64 kp], .int .i64 n] w fun e w' => e = .returned (.bool true) ∧ Below w.heap.size w w' := by
  have hm := addr_guard
  have hm2 := pfx_guard
  have hm3 := rng_guard
  have HL := Lib.hid (fun W t => lives_any W t)
  have HTw := Lib.hid ht
  have HV := Lib.hid (fun W => qvalid_any v x z W)
  have HRV := Lib.hid (fun W => rvalid6_any v x z W)
  have HVP := Lib.hid (fun W => qvalidp_any v x z kp W hx hz)
  have HRVP := Lib.hid (fun W => rvalidp_any v x z kp W hx hz)
  generalize vldP v x z kp = bp at *
  have ebp : (bp != bp) = false := by simp
  obtain ⟨W0, hW0⟩ : ∃ W, W = (w.alloc (.cells #[.bool v, .int .u64 x, .int .u64 z, .int .i64 kp] 30)).alloc (.cells #[.bool v, .int .u64 x, .int .u64 z] 25) := ⟨_, rfl⟩
  have HB0 := Lib.hid (show Below w.heap.size w W0 by rw [hW0]; exact below2 w _ _)
  have HT0 := Lib.hid (show TW W0 by rw [hW0]; exact ht.kept (below2 w _ _))
  have HE0 := Lib.hid (show PB W0 w.heap.size v x z kp ∧ AB W0 (w.heap.size + 1) v x z from by rw [hW0]; exact ⟨(pb_new w v x z kp).al _, ab2 w _ v x z⟩)
  rw [v0] at HV HRV
  clear v0 hx hz ht
  go_enter Tryd.func4, Tryd.ntmps4
  go_wp2_with fail
  rw [← hW0]
  clear hW0
  refine wp_region_pick (fun w' => Below W0.heap.size W0 w') (by kernel_rfl) (by kernel_rfl) (Below.refl _ _) ⟨rfl, rfl, rfl, Nat.le_refl _, fun _ _ => rfl⟩ (fun p hp hq => ?_)
  have p0_0 : ∀ u, (p u).cell? ⟨w.heap.size, 0, none⟩ = some (.bool v) := fun u => (HE0.out.1.kept (hp u) HE0.out.1.lt).c0
  have p0_1 : ∀ u, (p u).cell? ⟨w.heap.size, 1, none⟩ = some (.int .u64 x) := fun u => (HE0.out.1.kept (hp u) HE0.out.1.lt).c1
  have p0_2 : ∀ u, (p u).cell? ⟨w.heap.size, 2, none⟩ = some (.int .u64 z) := fun u => (HE0.out.1.kept (hp u) HE0.out.1.lt).c2
  have p0_3 : ∀ u, (p u).cell? ⟨w.heap.size, 3, none⟩ = some (.int .i64 kp) := fun u => (HE0.out.1.kept (hp u) HE0.out.1.lt).c3
  have p1_0 : ∀ u, (p u).cell? ⟨(w.heap.size + 1), 0, none⟩ = some (.bool v) := fun u => (HE0.out.2.kept (hp u) HE0.out.2.lt).c0
  have p1_1 : ∀ u, (p u).cell? ⟨(w.heap.size + 1), 1, none⟩ = some (.int .u64 x) := fun u => (HE0.out.2.kept (hp u) HE0.out.2.lt).c1
  have p1_2 : ∀ u, (p u).cell? ⟨(w.heap.size + 1), 2, none⟩ = some (.int .u64 z) := fun u => (HE0.out.2.kept (hp u) HE0.out.2.lt).c2
  have HP := Lib.hid hp
  have HQ := Lib.hid hq
  clear hp hq
  repeat (go_big_quiet_step ((first | with_reducible exact Calls.pick_of HQ.out (fun W' hb => (HP.out _).trans (hb.mono (HP.out _).size)) (HV.out _) | with_reducible exact Calls.pick_of HQ.out (fun W' hb => (HP.out _).trans (hb.mono (HP.out _).size)) (HRV.out _) | with_reducible exact Calls.pick_of HQ.out (fun W' hb => (HP.out _).trans (hb.mono (HP.out _).size)) (HVP.out _) | with_reducible exact Calls.pick_of HQ.out (fun W' hb => (HP.out _).trans (hb.mono (HP.out _).size)) (HRVP.out _))))
  refine wpQuiet_nil ?_
  rintro _ ⟨u, rfl⟩
  have hb := HP.out u
  generalize p u = w1 at *
  clear HP HQ p0_0 p0_1 p0_2 p0_3 p1_0 p1_1 p1_2
  have HE1 := Lib.hid (show PB w1 w.heap.size v x z kp ∧ AB w1 (w.heap.size + 1) v x z from ⟨HE0.out.1.kept hb HE0.out.1.lt , HE0.out.2.kept hb HE0.out.2.lt⟩)
  have HB1 := Lib.hid (HB0.out.trans (hb.mono HB0.out.size))
  have HT1 := Lib.hid (HT0.out.kept hb)
  clear hb HE0 HB0 HT0
  have f0_0 := HE1.out.1.c0
  have f0_1 := HE1.out.1.c1
  have f0_2 := HE1.out.1.c2
  have f0_3 := HE1.out.1.c3
  have fl0 := HE1.out.1.lt
  have f1_0 := HE1.out.2.c0
  have f1_1 := HE1.out.2.c1
  have f1_2 := HE1.out.2.c2
  have fl1 := HE1.out.2.lt
  go_wp2_with fail
  clear f0_0 f0_1 f0_2 f0_3 fl0 f1_0 f1_1 f1_2 fl1
  refine (HRV.out _).mono ?_
  rintro e w2 ⟨rfl, hb⟩
  have HE2 := Lib.hid (show PB w2 w.heap.size v x z kp ∧ AB w2 (w.heap.size + 1) v x z from ⟨HE1.out.1.kept hb HE1.out.1.lt , HE1.out.2.kept hb HE1.out.2.lt⟩)
  have HB2 := Lib.hid (HB1.out.trans (hb.mono HB1.out.size))
  have HT2 := Lib.hid (HT1.out.kept hb)
  clear hb HE1 HB1 HT1
  have f0_0 := HE2.out.1.c0
  have f0_1 := HE2.out.1.c1
  have f0_2 := HE2.out.1.c2
  have f0_3 := HE2.out.1.c3
  have fl0 := HE2.out.1.lt
  have f1_0 := HE2.out.2.c0
  have f1_1 := HE2.out.2.c1
  have f1_2 := HE2.out.2.c2
  have fl1 := HE2.out.2.lt
  go_wp2_with fail
  clear f0_0 f0_1 f0_2 f0_3 fl0 f1_0 f1_1 f1_2 fl1
  refine (HL.out _ HT2.out).mono ?_
  rintro e w3 ⟨rfl, hb⟩
  have HE3 := Lib.hid (show PB w3 w.heap.size v x z kp ∧ AB w3 (w.heap.size + 1) v x z from ⟨HE2.out.1.kept hb HE2.out.1.lt , HE2.out.2.kept hb HE2.out.2.lt⟩)
  have HB3 := Lib.hid (HB2.out.trans (hb.mono HB2.out.size))
  have HT3 := Lib.hid (HT2.out.kept hb)
  clear hb HE2 HB2 HT2
  have f0_0 := HE3.out.1.c0
  have f0_1 := HE3.out.1.c1
  have f0_2 := HE3.out.1.c2
  have f0_3 := HE3.out.1.c3
  have fl0 := HE3.out.1.lt
  have f1_0 := HE3.out.2.c0
  have f1_1 := HE3.out.2.c1
  have f1_2 := HE3.out.2.c2
  have fl1 := HE3.out.2.lt
  go_wp2_with fail
  go_ret
  exact ⟨rfl, HB3.out⟩
set_option maxHeartbeats 8000000 in
set_option maxRecDepth 20000 in
theorem bad (v : Bool) (x z : Nat) (kp : Int) (n : Int) (w : World) (ht : TW w) (hx : x < 18446744073709551616) (hz : z < 18446744073709551616) (v0 : vldA v x z = true) (hn : n < 0 ∨ (width v : Int) < n) :
    Calls Tryd.prog 4 #[.agg #[.bool v, .int .u64 x, .int .u64 z, .int .i64 kp], .int .i64 n] w fun e w' => e = .returned (.bool true) ∧ Below w.heap.size w w' := by
  have hm := addr_guard
  have hm2 := pfx_guard
  have hm3 := rng_guard
  have HL := Lib.hid (fun W t => lives_any W t)
  have HTw := Lib.hid ht
  have HV := Lib.hid (fun W => qvalid_any v x z W)
  have HRV := Lib.hid (fun W => rvalid6_any v x z W)
  have HVP := Lib.hid (fun W => qvalidp_any v x z kp W hx hz)
  have HRVP := Lib.hid (fun W => rvalidp_any v x z kp W hx hz)
  generalize vldP v x z kp = bp at *
  have ebp : (bp != bp) = false := by simp
  obtain ⟨W0, hW0⟩ : ∃ W, W = (w.alloc (.cells #[.bool v, .int .u64 x, .int .u64 z, .int .i64 kp] 30)).alloc (.cells #[.bool v, .int .u64 x, .int .u64 z] 25) := ⟨_, rfl⟩
  have HB0 := Lib.hid (show Below w.heap.size w W0 by rw [hW0]; exact below2 w _ _)
  have HT0 := Lib.hid (show TW W0 by rw [hW0]; exact ht.kept (below2 w _ _))
  have HE0 := Lib.hid (show PB W0 w.heap.size v x z kp ∧ AB W0 (w.heap.size + 1) v x z from by rw [hW0]; exact ⟨(pb_new w v x z kp).al _, ab2 w _ v x z⟩)
  have HF := Lib.hid (fun W t => qfmt_any v x z W hx hz v0 t)
  have HRF := Lib.hid (fun W => rfmt_any v x z W hx hz)
  have HY := Lib.hid (fun W => qbytes_any v x z W hx hz)
  have HRY := Lib.hid (fun W => rbytes_any v x z W hx hz)
  generalize str (fmtA v x z) = SF at *
  generalize str (adrB v x z) = SY at *
  have nF : (SF.toList != SF.toList) = false := by simp
  have nY : (SY.toList != SY.toList) = false := by simp
  have eF : (SF.toList == SF.toList) = true := by simp
  have eY : (SY.toList == SY.toList) = true := by simp
  rw [v0] at HV HRV
  have HM := Lib.hid (fun W => qmake_bad v x z n W hn)
  have HRM := Lib.hid (fun W => rmake6_bad v x z n W hx hz hn)
  have qn := fun W => pfx_nself false 0 0 0 W
  clear hn v0 hx hz ht
  go_enter Tryd.func4, Tryd.ntmps4
  go_wp2_with fail
  rw [← hW0]
  clear hW0
  refine wp_region_pick (fun w' => Below W0.heap.size W0 w') (by kernel_rfl) (by kernel_rfl) (Below.refl _ _) ⟨rfl, rfl, rfl, Nat.le_refl _, fun _ _ => rfl⟩ (fun p hp hq => ?_)
  have p0_0 : ∀ u, (p u).cell? ⟨w.heap.size, 0, none⟩ = some (.bool v) := fun u => (HE0.out.1.kept (hp u) HE0.out.1.lt).c0
  have p0_1 : ∀ u, (p u).cell? ⟨w.heap.size, 1, none⟩ = some (.int .u64 x) := fun u => (HE0.out.1.kept (hp u) HE0.out.1.lt).c1
  have p0_2 : ∀ u, (p u).cell? ⟨w.heap.size, 2, none⟩ = some (.int .u64 z) := fun u => (HE0.out.1.kept (hp u) HE0.out.1.lt).c2
  have p0_3 : ∀ u, (p u).cell? ⟨w.heap.size, 3, none⟩ = some (.int .i64 kp) := fun u => (HE0.out.1.kept (hp u) HE0.out.1.lt).c3
  have p1_0 : ∀ u, (p u).cell? ⟨(w.heap.size + 1), 0, none⟩ = some (.bool v) := fun u => (HE0.out.2.kept (hp u) HE0.out.2.lt).c0
  have p1_1 : ∀ u, (p u).cell? ⟨(w.heap.size + 1), 1, none⟩ = some (.int .u64 x) := fun u => (HE0.out.2.kept (hp u) HE0.out.2.lt).c1
  have p1_2 : ∀ u, (p u).cell? ⟨(w.heap.size + 1), 2, none⟩ = some (.int .u64 z) := fun u => (HE0.out.2.kept (hp u) HE0.out.2.lt).c2
  have HP := Lib.hid hp
  have HQ := Lib.hid hq
  clear hp hq
  repeat (go_big_quiet_step ((first | with_reducible exact Calls.pick_of HQ.out (fun W' hb => (HP.out _).trans (hb.mono (HP.out _).size)) (HV.out _) | with_reducible exact Calls.pick_of HQ.out (fun W' hb => (HP.out _).trans (hb.mono (HP.out _).size)) (HRV.out _) | with_reducible exact Calls.pick_of HQ.out (fun W' hb => (HP.out _).trans (hb.mono (HP.out _).size)) (HVP.out _) | with_reducible exact Calls.pick_of HQ.out (fun W' hb => (HP.out _).trans (hb.mono (HP.out _).size)) (HRVP.out _))))
  refine wpQuiet_nil ?_
  rintro _ ⟨u, rfl⟩
  have hb := HP.out u
  generalize p u = w1 at *
  clear HP HQ p0_0 p0_1 p0_2 p0_3 p1_0 p1_1 p1_2
  have HE1 := Lib.hid (show PB w1 w.heap.size v x z kp ∧ AB w1 (w.heap.size + 1) v x z from ⟨HE0.out.1.kept hb HE0.out.1.lt , HE0.out.2.kept hb HE0.out.2.lt⟩)
  have HB1 := Lib.hid (HB0.out.trans (hb.mono HB0.out.size))
  have HT1 := Lib.hid (HT0.out.kept hb)
  clear hb HE0 HB0 HT0
  have f0_0 := HE1.out.1.c0
  have f0_1 := HE1.out.1.c1
  have f0_2 := HE1.out.1.c2
  have f0_3 := HE1.out.1.c3
  have fl0 := HE1.out.1.lt
  have f1_0 := HE1.out.2.c0
  have f1_1 := HE1.out.2.c1
  have f1_2 := HE1.out.2.c2
  have fl1 := HE1.out.2.lt
  go_wp2_with fail
  clear f0_0 f0_1 f0_2 f0_3 fl0 f1_0 f1_1 f1_2 fl1
  refine (HRV.out _).mono ?_
  rintro e w2 ⟨rfl, hb⟩
  have HE2 := Lib.hid (show PB w2 w.heap.size v x z kp ∧ AB w2 (w.heap.size + 1) v x z from ⟨HE1.out.1.kept hb HE1.out.1.lt , HE1.out.2.kept hb HE1.out.2.lt⟩)
  have HB2 := Lib.hid (HB1.out.trans (hb.mono HB1.out.size))
  have HT2 := Lib.hid (HT1.out.kept hb)
  clear hb HE1 HB1 HT1
  have f0_0 := HE2.out.1.c0
  have f0_1 := HE2.out.1.c1
  have f0_2 := HE2.out.1.c2
  have f0_3 := HE2.out.1.c3
  have fl0 := HE2.out.1.lt
  have f1_0 := HE2.out.2.c0
  have f1_1 := HE2.out.2.c1
  have f1_2 := HE2.out.2.c2
  have fl1 := HE2.out.2.lt
  go_wp2_with fail
  clear f0_0 f0_1 f0_2 f0_3 fl0 f1_0 f1_1 f1_2 fl1
  refine (HM.out _).mono ?_
  rintro e w3 ⟨rfl, hb⟩
  obtain ⟨g1, hg1⟩ : ∃ g, g = w3.heap.size := ⟨_, rfl⟩
  obtain ⟨W3, hW3⟩ : ∃ W, W = w3.alloc (.cells #[.bool false, .int .u64 0, .int .u64 0, .int .i64 0] 30) := ⟨_, rfl⟩
  have HE3 := Lib.hid (show PB W3 w.heap.size v x z kp ∧ AB W3 (w.heap.size + 1) v x z ∧ PB W3 g1 false 0 0 0 from by rw [hW3, hg1]; exact ⟨(HE2.out.1.kept hb HE2.out.1.lt).al _ , (HE2.out.2.kept hb HE2.out.2.lt).al _ , pb_new w3 false 0 0 0⟩)
  have HB3 := Lib.hid (show Below w.heap.size w W3 by rw [hW3]; exact (HB2.out.trans (hb.mono HB2.out.size)).trans ((below_alloc6 w3 _).mono (HB2.out.trans (hb.mono HB2.out.size)).size))
  have HT3 := Lib.hid (show TW W3 by rw [hW3]; exact (HT2.out.kept hb).al _)
  have HLT_g1 := Lib.hid (show w.heap.size < g1 ∧ (w.heap.size + 1) < g1 ∧ w.heap.size ≤ g1 from by rw [hg1]; exact ⟨(HE2.out.1.kept hb HE2.out.1.lt).lt , (HE2.out.2.kept hb HE2.out.2.lt).lt , (HB2.out.trans (hb.mono HB2.out.size)).size⟩)
  have hx := HE2.out.1.kept hb HE2.out.1.lt
  have f0_0 := hx.c0
  have f0_1 := hx.c1
  have f0_2 := hx.c2
  have f0_3 := hx.c3
  have fl0 := hx.lt
  clear hx
  have hx := HE2.out.2.kept hb HE2.out.2.lt
  have f1_0 := hx.c0
  have f1_1 := hx.c1
  have f1_2 := hx.c2
  have fl1 := hx.lt
  clear hx
  clear hb HE2 HB2 HT2
  go_wp2_with fail
  first | rw [← hW3, ← hg1] | rw [← hW3] | skip
  clear hW3 hg1
  clear f0_0 f0_1 f0_2 f0_3 fl0 f1_0 f1_1 f1_2 fl1
  refine (HRM.out _).mono ?_
  rintro e w4 ⟨rfl, hb⟩
  obtain ⟨g2, hg2⟩ : ∃ g, g = w4.heap.size := ⟨_, rfl⟩
  obtain ⟨W4, hW4⟩ : ∃ W, W = w4.alloc (.cells #[.bool false, .int .u64 0, .int .u64 0, .int .i64 0] 30) := ⟨_, rfl⟩
  have HE4 := Lib.hid (show PB W4 w.heap.size v x z kp ∧ AB W4 (w.heap.size + 1) v x z ∧ PB W4 g1 false 0 0 0 ∧ PB W4 g2 false 0 0 0 from by rw [hW4, hg2]; exact ⟨(HE3.out.1.kept hb HE3.out.1.lt).al _ , (HE3.out.2.1.kept hb HE3.out.2.1.lt).al _ , (HE3.out.2.2.kept hb HE3.out.2.2.lt).al _ , pb_new w4 false 0 0 0⟩)
  have HB4 := Lib.hid (show Below w.heap.size w W4 by rw [hW4]; exact (HB3.out.trans (hb.mono HB3.out.size)).trans ((below_alloc6 w4 _).mono (HB3.out.trans (hb.mono HB3.out.size)).size))
  have HT4 := Lib.hid (show TW W4 by rw [hW4]; exact (HT3.out.kept hb).al _)
  have HLT_g2 := Lib.hid (show w.heap.size < g2 ∧ (w.heap.size + 1) < g2 ∧ g1 < g2 ∧ w.heap.size ≤ g2 from by rw [hg2]; exact ⟨(HE3.out.1.kept hb HE3.out.1.lt).lt , (HE3.out.2.1.kept hb HE3.out.2.1.lt).lt , (HE3.out.2.2.kept hb HE3.out.2.2.lt).lt , (HB3.out.trans (hb.mono HB3.out.size)).size⟩)
  have hx := HE3.out.1.kept hb HE3.out.1.lt
  have f0_0 := hx.c0
  have f0_1 := hx.c1
  have f0_2 := hx.c2
  have f0_3 := hx.c3
  have fl0 := hx.lt
  clear hx
  have hx := HE3.out.2.1.kept hb HE3.out.2.1.lt
  have f1_0 := hx.c0
  have f1_1 := hx.c1
  have f1_2 := hx.c2
  have fl1 := hx.lt
  clear hx
  have hx := HE3.out.2.2.kept hb HE3.out.2.2.lt
  have f2_0 := hx.c0
  have f2_1 := hx.c1
  have f2_2 := hx.c2
  have f2_3 := hx.c3
  have fl2 := hx.lt
  clear hx
  clear hb HE3 HB3 HT3
  go_wp2_with fail
  first | rw [← hW4, ← hg2] | rw [← hW4] | skip
  clear hW4 hg2
  clear f0_0 f0_1 f0_2 f0_3 fl0 f1_0 f1_1 f1_2 fl1 f2_0 f2_1 f2_2 f2_3 fl2
  refine wp_region_pick (fun w' => Below W4.heap.size W4 w') (by kernel_rfl) (by kernel_rfl) (Below.refl _ _) ⟨rfl, rfl, rfl, Nat.le_refl _, fun _ _ => rfl⟩ (fun p hp hq => ?_)
  have p0_0 : ∀ u, (p u).cell? ⟨w.heap.size, 0, none⟩ = some (.bool v) := fun u => (HE4.out.1.kept (hp u) HE4.out.1.lt).c0
  have p0_1 : ∀ u, (p u).cell? ⟨w.heap.size, 1, none⟩ = some (.int .u64 x) := fun u => (HE4.out.1.kept (hp u) HE4.out.1.lt).c1
  have p0_2 : ∀ u, (p u).cell? ⟨w.heap.size, 2, none⟩ = some (.int .u64 z) := fun u => (HE4.out.1.kept (hp u) HE4.out.1.lt).c2
  have p0_3 : ∀ u, (p u).cell? ⟨w.heap.size, 3, none⟩ = some (.int .i64 kp) := fun u => (HE4.out.1.kept (hp u) HE4.out.1.lt).c3
  have p1_0 : ∀ u, (p u).cell? ⟨(w.heap.size + 1), 0, none⟩ = some (.bool v) := fun u => (HE4.out.2.1.kept (hp u) HE4.out.2.1.lt).c0
  have p1_1 : ∀ u, (p u).cell? ⟨(w.heap.size + 1), 1, none⟩ = some (.int .u64 x) := fun u => (HE4.out.2.1.kept (hp u) HE4.out.2.1.lt).c1
  have p1_2 : ∀ u, (p u).cell? ⟨(w.heap.size + 1), 2, none⟩ = some (.int .u64 z) := fun u => (HE4.out.2.1.kept (hp u) HE4.out.2.1.lt).c2
  have p2_0 : ∀ u, (p u).cell? ⟨g1, 0, none⟩ = some (.bool false) := fun u => (HE4.out.2.2.1.kept (hp u) HE4.out.2.2.1.lt).c0
  have p2_1 : ∀ u, (p u).cell? ⟨g1, 1, none⟩ = some (.int .u64 0) := fun u => (HE4.out.2.2.1.kept (hp u) HE4.out.2.2.1.lt).c1
  have p2_2 : ∀ u, (p u).cell? ⟨g1, 2, none⟩ = some (.int .u64 0) := fun u => (HE4.out.2.2.1.kept (hp u) HE4.out.2.2.1.lt).c2
  have p2_3 : ∀ u, (p u).cell? ⟨g1, 3, none⟩ = some (.int .i64 0) := fun u => (HE4.out.2.2.1.kept (hp u) HE4.out.2.2.1.lt).c3
  have p3_0 : ∀ u, (p u).cell? ⟨g2, 0, none⟩ = some (.bool false) := fun u => (HE4.out.2.2.2.kept (hp u) HE4.out.2.2.2.lt).c0
  have p3_1 : ∀ u, (p u).cell? ⟨g2, 1, none⟩ = some (.int .u64 0) := fun u => (HE4.out.2.2.2.kept (hp u) HE4.out.2.2.2.lt).c1
  have p3_2 : ∀ u, (p u).cell? ⟨g2, 2, none⟩ = some (.int .u64 0) := fun u => (HE4.out.2.2.2.kept (hp u) HE4.out.2.2.2.lt).c2
  have p3_3 : ∀ u, (p u).cell? ⟨g2, 3, none⟩ = some (.int .i64 0) := fun u => (HE4.out.2.2.2.kept (hp u) HE4.out.2.2.2.lt).c3
  have HP := Lib.hid hp
  have HQ := Lib.hid hq
  clear hp hq
  repeat (go_big_quiet_step ((first | with_reducible exact Calls.pick_of HQ.out (fun W' hb => (HP.out _).trans (hb.mono (HP.out _).size)) (HF.out _ (HTw.out.kept (HB4.out.trans ((HP.out _).mono HB4.out.size)))) | with_reducible exact Calls.pick_of HQ.out (fun W' hb => (HP.out _).trans (hb.mono (HP.out _).size)) (HRF.out _) | with_reducible exact Calls.pick_of HQ.out (fun W' hb => (HP.out _).trans (hb.mono (HP.out _).size)) (HY.out _) | with_reducible exact Calls.pick_of HQ.out (fun W' hb => (HP.out _).trans (hb.mono (HP.out _).size)) (HRY.out _))))
  refine wpQuiet_nil ?_
  rintro _ ⟨u, rfl⟩
  have hb := HP.out u
  generalize p u = w5 at *
  clear HP HQ p0_0 p0_1 p0_2 p0_3 p1_0 p1_1 p1_2 p2_0 p2_1 p2_2 p2_3 p3_0 p3_1 p3_2 p3_3
  have HE5 := Lib.hid (show PB w5 w.heap.size v x z kp ∧ AB w5 (w.heap.size + 1) v x z ∧ PB w5 g1 false 0 0 0 ∧ PB w5 g2 false 0 0 0 from ⟨HE4.out.1.kept hb HE4.out.1.lt , HE4.out.2.1.kept hb HE4.out.2.1.lt , HE4.out.2.2.1.kept hb HE4.out.2.2.1.lt , HE4.out.2.2.2.kept hb HE4.out.2.2.2.lt⟩)
  have HB5 := Lib.hid (HB4.out.trans (hb.mono HB4.out.size))
  have HT5 := Lib.hid (HT4.out.kept hb)
  clear hb HE4 HB4 HT4
  have f0_0 := HE5.out.1.c0
  have f0_1 := HE5.out.1.c1
  have f0_2 := HE5.out.1.c2
  have f0_3 := HE5.out.1.c3
  have fl0 := HE5.out.1.lt
  have f1_0 := HE5.out.2.1.c0
  have f1_1 := HE5.out.2.1.c1
  have f1_2 := HE5.out.2.1.c2
  have fl1 := HE5.out.2.1.lt
  have f2_0 := HE5.out.2.2.1.c0
  have f2_1 := HE5.out.2.2.1.c1
  have f2_2 := HE5.out.2.2.1.c2
  have f2_3 := HE5.out.2.2.1.c3
  have fl2 := HE5.out.2.2.1.lt
  have f3_0 := HE5.out.2.2.2.c0
  have f3_1 := HE5.out.2.2.2.c1
  have f3_2 := HE5.out.2.2.2.c2
  have f3_3 := HE5.out.2.2.2.c3
  have fl3 := HE5.out.2.2.2.lt
  go_wp2_with fail
  clear f0_0 f0_1 f0_2 f0_3 fl0 f1_0 f1_1 f1_2 fl1 f2_0 f2_1 f2_2 f2_3 fl2 f3_0 f3_1 f3_2 f3_3 fl3
  refine wp_region_pick (fun w' => Below w5.heap.size w5 w') (by kernel_rfl) (by kernel_rfl) (Below.refl _ _) ⟨rfl, rfl, rfl, Nat.le_refl _, fun _ _ => rfl⟩ (fun p hp hq => ?_)
  have p0_0 : ∀ u, (p u).cell? ⟨w.heap.size, 0, none⟩ = some (.bool v) := fun u => (HE5.out.1.kept (hp u) HE5.out.1.lt).c0
  have p0_1 : ∀ u, (p u).cell? ⟨w.heap.size, 1, none⟩ = some (.int .u64 x) := fun u => (HE5.out.1.kept (hp u) HE5.out.1.lt).c1
  have p0_2 : ∀ u, (p u).cell? ⟨w.heap.size, 2, none⟩ = some (.int .u64 z) := fun u => (HE5.out.1.kept (hp u) HE5.out.1.lt).c2
  have p0_3 : ∀ u, (p u).cell? ⟨w.heap.size, 3, none⟩ = some (.int .i64 kp) := fun u => (HE5.out.1.kept (hp u) HE5.out.1.lt).c3
  have p1_0 : ∀ u, (p u).cell? ⟨(w.heap.size + 1), 0, none⟩ = some (.bool v) := fun u => (HE5.out.2.1.kept (hp u) HE5.out.2.1.lt).c0
  have p1_1 : ∀ u, (p u).cell? ⟨(w.heap.size + 1), 1, none⟩ = some (.int .u64 x) := fun u => (HE5.out.2.1.kept (hp u) HE5.out.2.1.lt).c1
  have p1_2 : ∀ u, (p u).cell? ⟨(w.heap.size + 1), 2, none⟩ = some (.int .u64 z) := fun u => (HE5.out.2.1.kept (hp u) HE5.out.2.1.lt).c2
  have p2_0 : ∀ u, (p u).cell? ⟨g1, 0, none⟩ = some (.bool false) := fun u => (HE5.out.2.2.1.kept (hp u) HE5.out.2.2.1.lt).c0
  have p2_1 : ∀ u, (p u).cell? ⟨g1, 1, none⟩ = some (.int .u64 0) := fun u => (HE5.out.2.2.1.kept (hp u) HE5.out.2.2.1.lt).c1
  have p2_2 : ∀ u, (p u).cell? ⟨g1, 2, none⟩ = some (.int .u64 0) := fun u => (HE5.out.2.2.1.kept (hp u) HE5.out.2.2.1.lt).c2
  have p2_3 : ∀ u, (p u).cell? ⟨g1, 3, none⟩ = some (.int .i64 0) := fun u => (HE5.out.2.2.1.kept (hp u) HE5.out.2.2.1.lt).c3
  have p3_0 : ∀ u, (p u).cell? ⟨g2, 0, none⟩ = some (.bool false) := fun u => (HE5.out.2.2.2.kept (hp u) HE5.out.2.2.2.lt).c0
  have p3_1 : ∀ u, (p u).cell? ⟨g2, 1, none⟩ = some (.int .u64 0) := fun u => (HE5.out.2.2.2.kept (hp u) HE5.out.2.2.2.lt).c1
  have p3_2 : ∀ u, (p u).cell? ⟨g2, 2, none⟩ = some (.int .u64 0) := fun u => (HE5.out.2.2.2.kept (hp u) HE5.out.2.2.2.lt).c2
  have p3_3 : ∀ u, (p u).cell? ⟨g2, 3, none⟩ = some (.int .i64 0) := fun u => (HE5.out.2.2.2.kept (hp u) HE5.out.2.2.2.lt).c3
  have HP := Lib.hid hp
  have HQ := Lib.hid hq
  clear hp hq
  repeat (go_big_quiet_step (fail))
  refine wpQuiet_nil ?_
  rintro _ ⟨u, rfl⟩
  have hb := HP.out u
  generalize p u = w6 at *
  clear HP HQ p0_0 p0_1 p0_2 p0_3 p1_0 p1_1 p1_2 p2_0 p2_1 p2_2 p2_3 p3_0 p3_1 p3_2 p3_3
  have HE6 := Lib.hid (show PB w6 w.heap.size v x z kp ∧ AB w6 (w.heap.size + 1) v x z ∧ PB w6 g1 false 0 0 0 ∧ PB w6 g2 false 0 0 0 from ⟨HE5.out.1.kept hb HE5.out.1.lt , HE5.out.2.1.kept hb HE5.out.2.1.lt , HE5.out.2.2.1.kept hb HE5.out.2.2.1.lt , HE5.out.2.2.2.kept hb HE5.out.2.2.2.lt⟩)
  have HB6 := Lib.hid (HB5.out.trans (hb.mono HB5.out.size))
  have HT6 := Lib.hid (HT5.out.kept hb)
  clear hb HE5 HB5 HT5
  have f0_0 := HE6.out.1.c0
  have f0_1 := HE6.out.1.c1
  have f0_2 := HE6.out.1.c2
  have f0_3 := HE6.out.1.c3
  have fl0 := HE6.out.1.lt
  have f1_0 := HE6.out.2.1.c0
  have f1_1 := HE6.out.2.1.c1
  have f1_2 := HE6.out.2.1.c2
  have fl1 := HE6.out.2.1.lt
  have f2_0 := HE6.out.2.2.1.c0
  have f2_1 := HE6.out.2.2.1.c1
  have f2_2 := HE6.out.2.2.1.c2
  have f2_3 := HE6.out.2.2.1.c3
  have fl2 := HE6.out.2.2.1.lt
  have f3_0 := HE6.out.2.2.2.c0
  have f3_1 := HE6.out.2.2.2.c1
  have f3_2 := HE6.out.2.2.2.c2
  have f3_3 := HE6.out.2.2.2.c3
  have fl3 := HE6.out.2.2.2.lt
  go_wp2_with fail
  clear f0_0 f0_1 f0_2 f0_3 fl0 f1_0 f1_1 f1_2 fl1 f2_0 f2_1 f2_2 f2_3 fl2 f3_0 f3_1 f3_2 f3_3 fl3
  refine (HL.out _ HT6.out).mono ?_
  rintro e w7 ⟨rfl, hb⟩
  have HE7 := Lib.hid (show PB w7 w.heap.size v x z kp ∧ AB w7 (w.heap.size + 1) v x z ∧ PB w7 g1 false 0 0 0 ∧ PB w7 g2 false 0 0 0 from ⟨HE6.out.1.kept hb HE6.out.1.lt , HE6.out.2.1.kept hb HE6.out.2.1.lt , HE6.out.2.2.1.kept hb HE6.out.2.2.1.lt , HE6.out.2.2.2.kept hb HE6.out.2.2.2.lt⟩)
  have HB7 := Lib.hid (HB6.out.trans (hb.mono HB6.out.size))
  have HT7 := Lib.hid (HT6.out.kept hb)
  clear hb HE6 HB6 HT6
  have f0_0 := HE7.out.1.c0
  have f0_1 := HE7.out.1.c1
  have f0_2 := HE7.out.1.c2
  have f0_3 := HE7.out.1.c3
  have fl0 := HE7.out.1.lt
  have f1_0 := HE7.out.2.1.c0
  have f1_1 := HE7.out.2.1.c1
  have f1_2 := HE7.out.2.1.c2
  have fl1 := HE7.out.2.1.lt
  have f2_0 := HE7.out.2.2.1.c0
  have f2_1 := HE7.out.2.2.1.c1
  have f2_2 := HE7.out.2.2.1.c2
  have f2_3 := HE7.out.2.2.1.c3
  have fl2 := HE7.out.2.2.1.lt
  have f3_0 := HE7.out.2.2.2.c0
  have f3_1 := HE7.out.2.2.2.c1
  have f3_2 := HE7.out.2.2.2.c2
  have f3_3 := HE7.out.2.2.2.c3
  have fl3 := HE7.out.2.2.2.lt
  go_wp2_with fail
  go_ret
  exact ⟨rfl, HB7.out⟩
set_option maxHeartbeats 8000000 in
set_option maxRecDepth 20000 in
theorem good (v : Bool) (x z : Nat) (kp : Int) (k : Nat) (w : World) (ht : TW w) (hx : x < 18446744073709551616) (hz : z < 18446744073709551616) (v0 : vldA v x z = true) (hk : k ≤ width v) :
    Calls Tryd.prog 4 #[.agg #[.bool v, .int .u64 x, .int .u64 z, .int .i64 kp], .int .i64 k] w fun e w' => e = .returned (.bool true) ∧ Below w.heap.size w w' := by
  have hm := addr_guard
  have hm2 := pfx_guard
  have hm3 := rng_guard
  have HL := Lib.hid (fun W t => lives_any W t)
  have HTw := Lib.hid ht
  have HV := Lib.hid (fun W => qvalid_any v x z W)
  have HRV := Lib.hid (fun W => rvalid6_any v x z W)
  have HVP := Lib.hid (fun W => qvalidp_any v x z kp W hx hz)
  have HRVP := Lib.hid (fun W => rvalidp_any v x z kp W hx hz)
  generalize vldP v x z kp = bp at *
  have ebp : (bp != bp) = false := by simp
  obtain ⟨W0, hW0⟩ : ∃ W, W = (w.alloc (.cells #[.bool v, .int .u64 x, .int .u64 z, .int .i64 kp] 30)).alloc (.cells #[.bool v, .int .u64 x, .int .u64 z] 25) := ⟨_, rfl⟩
  have HB0 := Lib.hid (show Below w.heap.size w W0 by rw [hW0]; exact below2 w _ _)
  have HT0 := Lib.hid (show TW W0 by rw [hW0]; exact ht.kept (below2 w _ _))
  have HE0 := Lib.hid (show PB W0 w.heap.size v x z kp ∧ AB W0 (w.heap.size + 1) v x z from by rw [hW0]; exact ⟨(pb_new w v x z kp).al _, ab2 w _ v x z⟩)
  have HF := Lib.hid (fun W t => qfmt_any v x z W hx hz v0 t)
  have HRF := Lib.hid (fun W => rfmt_any v x z W hx hz)
  have HY := Lib.hid (fun W => qbytes_any v x z W hx hz)
  have HRY := Lib.hid (fun W => rbytes_any v x z W hx hz)
  generalize str (fmtA v x z) = SF at *
  generalize str (adrB v x z) = SY at *
  have nF : (SF.toList != SF.toList) = false := by simp
  have nY : (SY.toList != SY.toList) = false := by simp
  have eF : (SF.toList == SF.toList) = true := by simp
  have eY : (SY.toList == SY.toList) = true := by simp
  rw [v0] at HV HRV
  have HM := Lib.hid (fun W => qmake_ok v x z k W hx hz hk)
  have HRM := Lib.hid (fun W => rmake_any v x z k W hx hz hk)
  have hml := mk_lt (v := v) (k := k) hx hz
  have hvp := mk_vldP hk v0
  have hva := mk_valid (k := k) v0
  have hk128 : k ≤ 128 := by have h128 : width v ≤ 128 := by { cases v <;> simp [width] }; omega
  have HFP := Lib.hid (fun W t => qfmtp_any v (mkH v k x) (mkL v k z) k W hml.1 hml.2 hva hk128 t)
  have HRFP := Lib.hid (fun W => rfmtp_any v (mkH v k x) (mkL v k z) k W hml.1 hml.2 hva hk128)
  have HBD := Lib.hid (fun W => qbounds_any v (mkH v k x) (mkL v k z) k W hml.1 hml.2 hvp)
  have HRBD := Lib.hid (fun W => rbounds_any v (mkH v k x) (mkL v k z) k W hml.1 hml.2 hk)
  generalize str (fmtPA v (mkH v k x) (mkL v k z) k) = SP at *
  have nP : (SP.toList != SP.toList) = false := by simp
  have eP : (SP.toList == SP.toList) = true := by simp
  generalize lowO (frH v k) (mkH v k x) = xl at *
  generalize lowO (frL v k) (mkL v k z) = zl at *
  clear hml hvp hva hk128
  generalize mkH v k x = xp at *
  generalize mkL v k z = zp at *
  have qn := fun W => pfx_nself v xp zp k W
  have qr := fun W => rng_nself v v xp zp xl zl W
  clear hk v0 hx hz ht
  go_enter Tryd.func4, Tryd.ntmps4
  go_wp2_with fail
  rw [← hW0]
  clear hW0
  refine wp_region_pick (fun w' => Below W0.heap.size W0 w') (by kernel_rfl) (by kernel_rfl) (Below.refl _ _) ⟨rfl, rfl, rfl, Nat.le_refl _, fun _ _ => rfl⟩ (fun p hp hq => ?_)
  have p0_0 : ∀ u, (p u).cell? ⟨w.heap.size, 0, none⟩ = some (.bool v) := fun u => (HE0.out.1.kept (hp u) HE0.out.1.lt).c0
  have p0_1 : ∀ u, (p u).cell? ⟨w.heap.size, 1, none⟩ = some (.int .u64 x) := fun u => (HE0.out.1.kept (hp u) HE0.out.1.lt).c1
  have p0_2 : ∀ u, (p u).cell? ⟨w.heap.size, 2, none⟩ = some (.int .u64 z) := fun u => (HE0.out.1.kept (hp u) HE0.out.1.lt).c2
  have p0_3 : ∀ u, (p u).cell? ⟨w.heap.size, 3, none⟩ = some (.int .i64 kp) := fun u => (HE0.out.1.kept (hp u) HE0.out.1.lt).c3
  have p1_0 : ∀ u, (p u).cell? ⟨(w.heap.size + 1), 0, none⟩ = some (.bool v) := fun u => (HE0.out.2.kept (hp u) HE0.out.2.lt).c0
  have p1_1 : ∀ u, (p u).cell? ⟨(w.heap.size + 1), 1, none⟩ = some (.int .u64 x) := fun u => (HE0.out.2.kept (hp u) HE0.out.2.lt).c1
  have p1_2 : ∀ u, (p u).cell? ⟨(w.heap.size + 1), 2, none⟩ = some (.int .u64 z) := fun u => (HE0.out.2.kept (hp u) HE0.out.2.lt).c2
  have HP := Lib.hid hp
  have HQ := Lib.hid hq
  clear hp hq
  repeat (go_big_quiet_step ((first | with_reducible exact Calls.pick_of HQ.out (fun W' hb => (HP.out _).trans (hb.mono (HP.out _).size)) (HV.out _) | with_reducible exact Calls.pick_of HQ.out (fun W' hb => (HP.out _).trans (hb.mono (HP.out _).size)) (HRV.out _) | with_reducible exact Calls.pick_of HQ.out (fun W' hb => (HP.out _).trans (hb.mono (HP.out _).size)) (HVP.out _) | with_reducible exact Calls.pick_of HQ.out (fun W' hb => (HP.out _).trans (hb.mono (HP.out _).size)) (HRVP.out _))))
  refine wpQuiet_nil ?_
  rintro _ ⟨u, rfl⟩
  have hb := HP.out u
  generalize p u = w1 at *
  clear HP HQ p0_0 p0_1 p0_2 p0_3 p1_0 p1_1 p1_2
  have HE1 := Lib.hid (show PB w1 w.heap.size v x z kp ∧ AB w1 (w.heap.size + 1) v x z from ⟨HE0.out.1.kept hb HE0.out.1.lt , HE0.out.2.kept hb HE0.out.2.lt⟩)
  have HB1 := Lib.hid (HB0.out.trans (hb.mono HB0.out.size))
  have HT1 := Lib.hid (HT0.out.kept hb)
  clear hb HE0 HB0 HT0
  have f0_0 := HE1.out.1.c0
  have f0_1 := HE1.out.1.c1
  have f0_2 := HE1.out.1.c2
  have f0_3 := HE1.out.1.c3
  have fl0 := HE1.out.1.lt
  have f1_0 := HE1.out.2.c0
  have f1_1 := HE1.out.2.c1
  have f1_2 := HE1.out.2.c2
  have fl1 := HE1.out.2.lt
  go_wp2_with fail
  clear f0_0 f0_1 f0_2 f0_3 fl0 f1_0 f1_1 f1_2 fl1
  refine (HRV.out _).mono ?_
  rintro e w2 ⟨rfl, hb⟩
  have HE2 := Lib.hid (show PB w2 w.heap.size v x z kp ∧ AB w2 (w.heap.size + 1) v x z from ⟨HE1.out.1.kept hb HE1.out.1.lt , HE1.out.2.kept hb HE1.out.2.lt⟩)
  have HB2 := Lib.hid (HB1.out.trans (hb.mono HB1.out.size))
  have HT2 := Lib.hid (HT1.out.kept hb)
  clear hb HE1 HB1 HT1
  have f0_0 := HE2.out.1.c0
  have f0_1 := HE2.out.1.c1
  have f0_2 := HE2.out.1.c2
  have f0_3 := HE2.out.1.c3
  have fl0 := HE2.out.1.lt
  have f1_0 := HE2.out.2.c0
  have f1_1 := HE2.out.2.c1
  have f1_2 := HE2.out.2.c2
  have fl1 := HE2.out.2.lt
  go_wp2_with fail
  clear f0_0 f0_1 f0_2 f0_3 fl0 f1_0 f1_1 f1_2 fl1
  refine (HM.out _).mono ?_
  rintro e w3 ⟨rfl, hb⟩
  obtain ⟨g1, hg1⟩ : ∃ g, g = w3.heap.size := ⟨_, rfl⟩
  obtain ⟨W3, hW3⟩ : ∃ W, W = w3.alloc (.cells #[.bool v, .int .u64 xp, .int .u64 zp, .int .i64 k] 30) := ⟨_, rfl⟩
  have HE3 := Lib.hid (show PB W3 w.heap.size v x z kp ∧ AB W3 (w.heap.size + 1) v x z ∧ PB W3 g1 v xp zp k from by rw [hW3, hg1]; exact ⟨(HE2.out.1.kept hb HE2.out.1.lt).al _ , (HE2.out.2.kept hb HE2.out.2.lt).al _ , pb_new w3 v xp zp k⟩)
  have HB3 := Lib.hid (show Below w.heap.size w W3 by rw [hW3]; exact (HB2.out.trans (hb.mono HB2.out.size)).trans ((below_alloc6 w3 _).mono (HB2.out.trans (hb.mono HB2.out.size)).size))
  have HT3 := Lib.hid (show TW W3 by rw [hW3]; exact (HT2.out.kept hb).al _)
  have HLT_g1 := Lib.hid (show w.heap.size < g1 ∧ (w.heap.size + 1) < g1 ∧ w.heap.size ≤ g1 from by rw [hg1]; exact ⟨(HE2.out.1.kept hb HE2.out.1.lt).lt , (HE2.out.2.kept hb HE2.out.2.lt).lt , (HB2.out.trans (hb.mono HB2.out.size)).size⟩)
  have hx := HE2.out.1.kept hb HE2.out.1.lt
  have f0_0 := hx.c0
  have f0_1 := hx.c1
  have f0_2 := hx.c2
  have f0_3 := hx.c3
  have fl0 := hx.lt
  clear hx
  have hx := HE2.out.2.kept hb HE2.out.2.lt
  have f1_0 := hx.c0
  have f1_1 := hx.c1
  have f1_2 := hx.c2
  have fl1 := hx.lt
  clear hx
  clear hb HE2 HB2 HT2
  go_wp2_with fail
  first | rw [← hW3, ← hg1] | rw [← hW3] | skip
  clear hW3 hg1
  clear f0_0 f0_1 f0_2 f0_3 fl0 f1_0 f1_1 f1_2 fl1
  refine (HRM.out _).mono ?_
  rintro e w4 ⟨rfl, hb⟩
  obtain ⟨g2, hg2⟩ : ∃ g, g = w4.heap.size := ⟨_, rfl⟩
  obtain ⟨W4, hW4⟩ : ∃ W, W = w4.alloc (.cells #[.bool v, .int .u64 xp, .int .u64 zp, .int .i64 k] 30) := ⟨_, rfl⟩
  have HE4 := Lib.hid (show PB W4 w.heap.size v x z kp ∧ AB W4 (w.heap.size + 1) v x z ∧ PB W4 g1 v xp zp k ∧ PB W4 g2 v xp zp k from by rw [hW4, hg2]; exact ⟨(HE3.out.1.kept hb HE3.out.1.lt).al _ , (HE3.out.2.1.kept hb HE3.out.2.1.lt).al _ , (HE3.out.2.2.kept hb HE3.out.2.2.lt).al _ , pb_new w4 v xp zp k⟩)
  have HB4 := Lib.hid (show Below w.heap.size w W4 by rw [hW4]; exact (HB3.out.trans (hb.mono HB3.out.size)).trans ((below_alloc6 w4 _).mono (HB3.out.trans (hb.mono HB3.out.size)).size))
  have HT4 := Lib.hid (show TW W4 by rw [hW4]; exact (HT3.out.kept hb).al _)
  have HLT_g2 := Lib.hid (show w.heap.size < g2 ∧ (w.heap.size + 1) < g2 ∧ g1 < g2 ∧ w.heap.size ≤ g2 from by rw [hg2]; exact ⟨(HE3.out.1.kept hb HE3.out.1.lt).lt , (HE3.out.2.1.kept hb HE3.out.2.1.lt).lt , (HE3.out.2.2.kept hb HE3.out.2.2.lt).lt , (HB3.out.trans (hb.mono HB3.out.size)).size⟩)
  have hx := HE3.out.1.kept hb HE3.out.1.lt
  have f0_0 := hx.c0
  have f0_1 := hx.c1
  have f0_2 := hx.c2
  have f0_3 := hx.c3
  have fl0 := hx.lt
  clear hx
  have hx := HE3.out.2.1.kept hb HE3.out.2.1.lt
  have f1_0 := hx.c0
  have f1_1 := hx.c1
  have f1_2 := hx.c2
  have fl1 := hx.lt
  clear hx
  have hx := HE3.out.2.2.kept hb HE3.out.2.2.lt
  have f2_0 := hx.c0
  have f2_1 := hx.c1
  have f2_2 := hx.c2
  have f2_3 := hx.c3
  have fl2 := hx.lt
  clear hx
  clear hb HE3 HB3 HT3
  go_wp2_with fail
  first | rw [← hW4, ← hg2] | rw [← hW4] | skip
  clear hW4 hg2
  clear f0_0 f0_1 f0_2 f0_3 fl0 f1_0 f1_1 f1_2 fl1 f2_0 f2_1 f2_2 f2_3 fl2
  refine wp_region_pick (fun w' => Below W4.heap.size W4 w') (by kernel_rfl) (by kernel_rfl) (Below.refl _ _) ⟨rfl, rfl, rfl, Nat.le_refl _, fun _ _ => rfl⟩ (fun p hp hq => ?_)
  have p0_0 : ∀ u, (p u).cell? ⟨w.heap.size, 0, none⟩ = some (.bool v) := fun u => (HE4.out.1.kept (hp u) HE4.out.1.lt).c0
  have p0_1 : ∀ u, (p u).cell? ⟨w.heap.size, 1, none⟩ = some (.int .u64 x) := fun u => (HE4.out.1.kept (hp u) HE4.out.1.lt).c1
  have p0_2 : ∀ u, (p u).cell? ⟨w.heap.size, 2, none⟩ = some (.int .u64 z) := fun u => (HE4.out.1.kept (hp u) HE4.out.1.lt).c2
  have p0_3 : ∀ u, (p u).cell? ⟨w.heap.size, 3, none⟩ = some (.int .i64 kp) := fun u => (HE4.out.1.kept (hp u) HE4.out.1.lt).c3
  have p1_0 : ∀ u, (p u).cell? ⟨(w.heap.size + 1), 0, none⟩ = some (.bool v) := fun u => (HE4.out.2.1.kept (hp u) HE4.out.2.1.lt).c0
  have p1_1 : ∀ u, (p u).cell? ⟨(w.heap.size + 1), 1, none⟩ = some (.int .u64 x) := fun u => (HE4.out.2.1.kept (hp u) HE4.out.2.1.lt).c1
  have p1_2 : ∀ u, (p u).cell? ⟨(w.heap.size + 1), 2, none⟩ = some (.int .u64 z) := fun u => (HE4.out.2.1.kept (hp u) HE4.out.2.1.lt).c2
  have p2_0 : ∀ u, (p u).cell? ⟨g1, 0, none⟩ = some (.bool v) := fun u => (HE4.out.2.2.1.kept (hp u) HE4.out.2.2.1.lt).c0
  have p2_1 : ∀ u, (p u).cell? ⟨g1, 1, none⟩ = some (.int .u64 xp) := fun u => (HE4.out.2.2.1.kept (hp u) HE4.out.2.2.1.lt).c1
  have p2_2 : ∀ u, (p u).cell? ⟨g1, 2, none⟩ = some (.int .u64 zp) := fun u => (HE4.out.2.2.1.kept (hp u) HE4.out.2.2.1.lt).c2
  have p2_3 : ∀ u, (p u).cell? ⟨g1, 3, none⟩ = some (.int .i64 k) := fun u => (HE4.out.2.2.1.kept (hp u) HE4.out.2.2.1.lt).c3
  have p3_0 : ∀ u, (p u).cell? ⟨g2, 0, none⟩ = some (.bool v) := fun u => (HE4.out.2.2.2.kept (hp u) HE4.out.2.2.2.lt).c0
  have p3_1 : ∀ u, (p u).cell? ⟨g2, 1, none⟩ = some (.int .u64 xp) := fun u => (HE4.out.2.2.2.kept (hp u) HE4.out.2.2.2.lt).c1
  have p3_2 : ∀ u, (p u).cell? ⟨g2, 2, none⟩ = some (.int .u64 zp) := fun u => (HE4.out.2.2.2.kept (hp u) HE4.out.2.2.2.lt).c2
  have p3_3 : ∀ u, (p u).cell? ⟨g2, 3, none⟩ = some (.int .i64 k) := fun u => (HE4.out.2.2.2.kept (hp u) HE4.out.2.2.2.lt).c3
  have HP := Lib.hid hp
  have HQ := Lib.hid hq
  clear hp hq
  repeat (go_big_quiet_step ((first | with_reducible exact Calls.pick_of HQ.out (fun W' hb => (HP.out _).trans (hb.mono (HP.out _).size)) (HF.out _ (HTw.out.kept (HB4.out.trans ((HP.out _).mono HB4.out.size)))) | with_reducible exact Calls.pick_of HQ.out (fun W' hb => (HP.out _).trans (hb.mono (HP.out _).size)) (HRF.out _) | with_reducible exact Calls.pick_of HQ.out (fun W' hb => (HP.out _).trans (hb.mono (HP.out _).size)) (HY.out _) | with_reducible exact Calls.pick_of HQ.out (fun W' hb => (HP.out _).trans (hb.mono (HP.out _).size)) (HRY.out _))))
  refine wpQuiet_nil ?_
  rintro _ ⟨u, rfl⟩
  have hb := HP.out u
  generalize p u = w5 at *
  clear HP HQ p0_0 p0_1 p0_2 p0_3 p1_0 p1_1 p1_2 p2_0 p2_1 p2_2 p2_3 p3_0 p3_1 p3_2 p3_3
  have HE5 := Lib.hid (show PB w5 w.heap.size v x z kp ∧ AB w5 (w.heap.size + 1) v x z ∧ PB w5 g1 v xp zp k ∧ PB w5 g2 v xp zp k from ⟨HE4.out.1.kept hb HE4.out.1.lt , HE4.out.2.1.kept hb HE4.out.2.1.lt , HE4.out.2.2.1.kept hb HE4.out.2.2.1.lt , HE4.out.2.2.2.kept hb HE4.out.2.2.2.lt⟩)
  have HB5 := Lib.hid (HB4.out.trans (hb.mono HB4.out.size))
  have HT5 := Lib.hid (HT4.out.kept hb)
  clear hb HE4 HB4 HT4
  have f0_0 := HE5.out.1.c0
  have f0_1 := HE5.out.1.c1
  have f0_2 := HE5.out.1.c2
  have f0_3 := HE5.out.1.c3
  have fl0 := HE5.out.1.lt
  have f1_0 := HE5.out.2.1.c0
  have f1_1 := HE5.out.2.1.c1
  have f1_2 := HE5.out.2.1.c2
  have fl1 := HE5.out.2.1.lt
  have f2_0 := HE5.out.2.2.1.c0
  have f2_1 := HE5.out.2.2.1.c1
  have f2_2 := HE5.out.2.2.1.c2
  have f2_3 := HE5.out.2.2.1.c3
  have fl2 := HE5.out.2.2.1.lt
  have f3_0 := HE5.out.2.2.2.c0
  have f3_1 := HE5.out.2.2.2.c1
  have f3_2 := HE5.out.2.2.2.c2
  have f3_3 := HE5.out.2.2.2.c3
  have fl3 := HE5.out.2.2.2.lt
  go_wp2_with fail
  clear f0_0 f0_1 f0_2 f0_3 fl0 f1_0 f1_1 f1_2 fl1 f2_0 f2_1 f2_2 f2_3 fl2 f3_0 f3_1 f3_2 f3_3 fl3
  refine wp_region_pick (fun w' => Below w5.heap.size w5 w') (by kernel_rfl) (by kernel_rfl) (Below.refl _ _) ⟨rfl, rfl, rfl, Nat.le_refl _, fun _ _ => rfl⟩ (fun p hp hq => ?_)
  have p0_0 : ∀ u, (p u).cell? ⟨w.heap.size, 0, none⟩ = some (.bool v) := fun u => (HE5.out.1.kept (hp u) HE5.out.1.lt).c0
  have p0_1 : ∀ u, (p u).cell? ⟨w.heap.size, 1, none⟩ = some (.int .u64 x) := fun u => (HE5.out.1.kept (hp u) HE5.out.1.lt).c1
  have p0_2 : ∀ u, (p u).cell? ⟨w.heap.size, 2, none⟩ = some (.int .u64 z) := fun u => (HE5.out.1.kept (hp u) HE5.out.1.lt).c2
  have p0_3 : ∀ u, (p u).cell? ⟨w.heap.size, 3, none⟩ = some (.int .i64 kp) := fun u => (HE5.out.1.kept (hp u) HE5.out.1.lt).c3
  have p1_0 : ∀ u, (p u).cell? ⟨(w.heap.size + 1), 0, none⟩ = some (.bool v) := fun u => (HE5.out.2.1.kept (hp u) HE5.out.2.1.lt).c0
  have p1_1 : ∀ u, (p u).cell? ⟨(w.heap.size + 1), 1, none⟩ = some (.int .u64 x) := fun u => (HE5.out.2.1.kept (hp u) HE5.out.2.1.lt).c1
  have p1_2 : ∀ u, (p u).cell? ⟨(w.heap.size + 1), 2, none⟩ = some (.int .u64 z) := fun u => (HE5.out.2.1.kept (hp u) HE5.out.2.1.lt).c2
  have p2_0 : ∀ u, (p u).cell? ⟨g1, 0, none⟩ = some (.bool v) := fun u => (HE5.out.2.2.1.kept (hp u) HE5.out.2.2.1.lt).c0
  have p2_1 : ∀ u, (p u).cell? ⟨g1, 1, none⟩ = some (.int .u64 xp) := fun u => (HE5.out.2.2.1.kept (hp u) HE5.out.2.2.1.lt).c1
  have p2_2 : ∀ u, (p u).cell? ⟨g1, 2, none⟩ = some (.int .u64 zp) := fun u => (HE5.out.2.2.1.kept (hp u) HE5.out.2.2.1.lt).c2
  have p2_3 : ∀ u, (p u).cell? ⟨g1, 3, none⟩ = some (.int .i64 k) := fun u => (HE5.out.2.2.1.kept (hp u) HE5.out.2.2.1.lt).c3
  have p3_0 : ∀ u, (p u).cell? ⟨g2, 0, none⟩ = some (.bool v) := fun u => (HE5.out.2.2.2.kept (hp u) HE5.out.2.2.2.lt).c0
  have p3_1 : ∀ u, (p u).cell? ⟨g2, 1, none⟩ = some (.int .u64 xp) := fun u => (HE5.out.2.2.2.kept (hp u) HE5.out.2.2.2.lt).c1
  have p3_2 : ∀ u, (p u).cell? ⟨g2, 2, none⟩ = some (.int .u64 zp) := fun u => (HE5.out.2.2.2.kept (hp u) HE5.out.2.2.2.lt).c2
  have p3_3 : ∀ u, (p u).cell? ⟨g2, 3, none⟩ = some (.int .i64 k) := fun u => (HE5.out.2.2.2.kept (hp u) HE5.out.2.2.2.lt).c3
  have HP := Lib.hid hp
  have HQ := Lib.hid hq
  clear hp hq
  repeat (go_big_quiet_step ((first | with_reducible exact Calls.pick_of HQ.out (fun W' hb => (HP.out _).trans (hb.mono (HP.out _).size)) (HFP.out _ (HTw.out.kept (HB5.out.trans ((HP.out _).mono HB5.out.size)))) | with_reducible exact Calls.pick_of HQ.out (fun W' hb => (HP.out _).trans (hb.mono (HP.out _).size)) (HRFP.out _) | with_reducible exact Calls.pick_of HQ.out (fun W' hb => (HP.out _).trans (hb.mono (HP.out _).size)) (HBD.out _) | with_reducible exact Calls.pick_of HQ.out (fun W' hb => (HP.out _).trans (hb.mono (HP.out _).size)) (HRBD.out _))))
  refine wpQuiet_nil ?_
  rintro _ ⟨u, rfl⟩
  have hb := HP.out u
  generalize p u = w6 at *
  clear HP HQ p0_0 p0_1 p0_2 p0_3 p1_0 p1_1 p1_2 p2_0 p2_1 p2_2 p2_3 p3_0 p3_1 p3_2 p3_3
  have HE6 := Lib.hid (show PB w6 w.heap.size v x z kp ∧ AB w6 (w.heap.size + 1) v x z ∧ PB w6 g1 v xp zp k ∧ PB w6 g2 v xp zp k from ⟨HE5.out.1.kept hb HE5.out.1.lt , HE5.out.2.1.kept hb HE5.out.2.1.lt , HE5.out.2.2.1.kept hb HE5.out.2.2.1.lt , HE5.out.2.2.2.kept hb HE5.out.2.2.2.lt⟩)
  have HB6 := Lib.hid (HB5.out.trans (hb.mono HB5.out.size))
  have HT6 := Lib.hid (HT5.out.kept hb)
  clear hb HE5 HB5 HT5
  have f0_0 := HE6.out.1.c0
  have f0_1 := HE6.out.1.c1
  have f0_2 := HE6.out.1.c2
  have f0_3 := HE6.out.1.c3
  have fl0 := HE6.out.1.lt
  have f1_0 := HE6.out.2.1.c0
  have f1_1 := HE6.out.2.1.c1
  have f1_2 := HE6.out.2.1.c2
  have fl1 := HE6.out.2.1.lt
  have f2_0 := HE6.out.2.2.1.c0
  have f2_1 := HE6.out.2.2.1.c1
  have f2_2 := HE6.out.2.2.1.c2
  have f2_3 := HE6.out.2.2.1.c3
  have fl2 := HE6.out.2.2.1.lt
  have f3_0 := HE6.out.2.2.2.c0
  have f3_1 := HE6.out.2.2.2.c1
  have f3_2 := HE6.out.2.2.2.c2
  have f3_3 := HE6.out.2.2.2.c3
  have fl3 := HE6.out.2.2.2.lt
  go_wp2_with fail
  clear f0_0 f0_1 f0_2 f0_3 fl0 f1_0 f1_1 f1_2 fl1 f2_0 f2_1 f2_2 f2_3 fl2 f3_0 f3_1 f3_2 f3_3 fl3
  refine (HL.out _ HT6.out).mono ?_
  rintro e w7 ⟨rfl, hb⟩
  have HE7 := Lib.hid (show PB w7 w.heap.size v x z kp ∧ AB w7 (w.heap.size + 1) v x z ∧ PB w7 g1 v xp zp k ∧ PB w7 g2 v xp zp k from ⟨HE6.out.1.kept hb HE6.out.1.lt , HE6.out.2.1.kept hb HE6.out.2.1.lt , HE6.out.2.2.1.kept hb HE6.out.2.2.1.lt , HE6.out.2.2.2.kept hb HE6.out.2.2.2.lt⟩)
  have HB7 := Lib.hid (HB6.out.trans (hb.mono HB6.out.size))
  have HT7 := Lib.hid (HT6.out.kept hb)
  clear hb HE6 HB6 HT6
  have f0_0 := HE7.out.1.c0
  have f0_1 := HE7.out.1.c1
  have f0_2 := HE7.out.1.c2
  have f0_3 := HE7.out.1.c3
  have fl0 := HE7.out.1.lt
  have f1_0 := HE7.out.2.1.c0
  have f1_1 := HE7.out.2.1.c1
  have f1_2 := HE7.out.2.1.c2
  have fl1 := HE7.out.2.1.lt
  have f2_0 := HE7.out.2.2.1.c0
  have f2_1 := HE7.out.2.2.1.c1
  have f2_2 := HE7.out.2.2.1.c2
  have f2_3 := HE7.out.2.2.1.c3
  have fl2 := HE7.out.2.2.1.lt
  have f3_0 := HE7.out.2.2.2.c0
  have f3_1 := HE7.out.2.2.2.c1
  have f3_2 := HE7.out.2.2.2.c2
  have f3_3 := HE7.out.2.2.2.c3
  have fl3 := HE7.out.2.2.2.lt
  go_wp2_with fail
  go_ret
  exact ⟨rfl, HB7.out⟩
theorem walk (v : Bool) (x z : Nat) (kp n : Int) (w : World) (ht : TW w) (hx : x < 18446744073709551616) (hz : z < 18446744073709551616) (hkp : (Lit.int .i64 kp).wf = true) (hn : (Lit.int .i64 n).wf = true) :
    Calls Tryd.prog 4 #[.agg #[.bool v, .int .u64 x, .int .u64 z, .int .i64 kp], .int .i64 n] w fun e w' => e = .returned (.bool true) ∧ Below w.heap.size w w' := by
  cases v0 : vldA v x z with
  | false => exact inv v x z kp n w ht hx hz v0
  | true =>
    by_cases hb : n < 0 ∨ (width v : Int) < n
    · exact bad v x z kp n w ht hx hz v0 hb
    · obtain ⟨k, rfl⟩ := Int.eq_ofNat_of_zero_le (a := n) (by omega)
      exact good v x z kp k w ht hx hz v0 (by omega)

set_option maxRecDepth 100000 in
theorem lifted (os : Os) (started : os.Started) (H : Type) (enc : TypeId × Value → H) :
    ReturnsInHanded {} Tryd.checked os 4 .any (fun w args => (Rows.addressFormatsSpec.pre enc Tryd.prog Tryd.f4 [] false w args ∧ laidMetH Tryd.prog laidL w) ∧ sizedMet enc Tryd.prog Tryd.f4 (OpenSpec.ofChange Rows.addressFormatsSpec) false w args) (Rows.addressFormatsSpec.post enc Tryd.prog Tryd.f4 false true false false) := by
  refine wrap6 (C := Tryd.checked) (X := fun w _ => laidMetH Tryd.prog laidL w) (fun _ _ _ hh h => h.of_heap hh) own started (by kernel_rfl) Tryd.func4
    (ChangeSpec.witness_shaped (enc := enc) (C := Tryd.checked) (os := os) (X := fun w _ => laidMetH Tryd.prog laidL w) false (World.laidAll Tryd.prog os laidL) #[(.agg #[.bool false, .int .u64 0, .int .u64 0, .int .i64 0]), .int .i64 0] 8 (World.laidAll_os _ _ _) (World.shaped_of_ZipB (by kernel_rfl) (by kernel_rfl)) (by kernel_rfl) (by kernel_rfl) (by kernel_rfl) (door_met os _)) ?_
  intro W base args ds gs before hval0 hW hL hsh
  have hval : ∀ (j : Nat) t v, Tryd.f4.params[j]? = some t → args[j]? = some v → Value.okWide Tryd.prog W .any base t v := hval0
  have hW' := hW
  obtain ⟨p, q, hA0, hV, rfl, hfz, hnd⟩ := hW
  have hA : DataW.TrodAll enc Tryd.prog W 0 (fun _ => true) true Tryd.f4.params.toList args.toList ds p := hA0
  rw [Tryd.params4] at hA hval
  obtain ⟨v0, vs0, d0, ds0, p0, q0, hargs, rfl, rfl, h0, r0⟩ := trodAll_cons hA
  obtain ⟨v1, vs1, d1, ds1, p1, q1, rfl, rfl, rfl, h1, r1⟩ := trodAll_cons r0
  obtain ⟨rfl, rfl, rfl⟩ := trodAll_nil r1
  obtain rfl : args = #[v0, v1] := by cases args; simp_all
  obtain ⟨rfl, rfl⟩ := trodVars_none hV
  have k0 := h0
  have lt0 : ∀ x ∈ p0, x.block < W.heap.size := by obtain ⟨m, hm⟩ := k0; exact DataW.trod_lt m _ _ _ hm
  obtain ⟨bz0, xz0, zz0, kz0, rfl, rfl, rfl, wx0, wz0, w0⟩ := open_pfx6 (hval 0 30 v0 rfl rfl) h0
  obtain ⟨X0, rfl, hX0⟩ := nat_of_wf6 wx0
  obtain ⟨Z0, rfl, hZ0⟩ := nat_of_wf6 wz0
  obtain ⟨a1, rfl, rfl, rfl, w1⟩ := open_int Tryd.underlying3 (hval 1 3 v1 rfl rfl) h1
  clear hA0 hval0
  refine (walk bz0 X0 Z0 kz0 a1 W (tied_of_laid hL hsh) hX0 hZ0 w0 w1).mono fun e W' ⟨he, bel⟩ => ?_
  subst he
  exact ⟨_, rfl, _, _, _, [], _, [], hW', trodAll_mk1 (shut_bool Tryd.underlying4 _), (trodAll_cons_mk (Below.trod laidOut (by kernel_rfl) (of_decide_eq_true (by kernel_rfl)) k0 bel lt0) (trodAll_cons_mk (shut_int Tryd.underlying3 w1) trodAll_mk0)), rfl, bel.frame _, fun h => by cases h⟩

theorem over : Rows.addressFormatsRow.holds Tryd.pinned (OpenSpec.ofChange Rows.addressFormatsSpec) :=
  OpenClaim.holds_of_wide 4 Tryd.f4 rfl rfl rfl rfl rfl rfl rfl ⟨rfl, rfl, rfl, rfl, rfl⟩ rfl rfl rfl rfl rfl (by kernel_rfl) Tryd.func4 (by kernel_rfl)
    (of_decide_eq_true (by kernel_rfl)) (by unfold Func.isWrapper; first | (rw [if_pos (by decide +kernel)]; kernel_rfl) | (rw [if_neg (by decide +kernel)]; exact ⟨rfl, rfl⟩))
    (fun os started H enc _ => lifted os started H enc)

theorem bare : Rows.AddressFormatsSaid := over

/-- The tied card. -/
theorem proved : Rows.AddressFormatsCardSaid :=
  Claim7.holds_tied_plain_at .later [] _ true _ false
    bare (fun _ h => by cases h) (by kernel_rfl) (fun _ h => by cases h) addressFormats_row_tie rfl ⟨rfl, rfl⟩ (by kernel_rfl) rfl
    (fun f fn hf hfn => by
      obtain rfl : f = 4 := Option.some.inj ((show Tryd.prog.funcNamed "intrusion/intrusionlaw06.AddressFormats" = some 4 by kernel_rfl).symm.trans hf) |>.symm
      obtain rfl : fn = Tryd.f4 := (Option.some.inj (Tryd.func4.symm.trans hfn)).symm
      exact ⟨by kernel_rfl, fun j t ht => by
        rw [Tryd.params4] at ht
        have hm : t ∈ [30, 3] := by simpa using Array.mem_of_getElem? ht
        have hall : ([30, 3].all fun u => !Tryd.prog.wantsStandIn u) = true := by kernel_rfl
        exact (show Tryd.prog.wantsStandIn t = false by simpa using List.all_eq_true.1 hall t hm)⟩)
    (by kernel_rfl)
#print axioms proved


end Go.Proofs.YtcblgbonijloiaaDoor.addressFormats
