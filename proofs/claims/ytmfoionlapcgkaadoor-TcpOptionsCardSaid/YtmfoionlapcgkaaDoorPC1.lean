/- Contracts of the functions, further part 1: TOpts. -/
import Derived.Deep.Cut
import Derived.Deep.WholeRow
import Derived.Test.YtmfoionlapcgkaaDoorPA27
import Derived.Test.YtmfoionlapcgkaaDoorPA6
/- TcpOptions: the walk, over the bundle P14. -/
namespace Go.Proofs.YtmfoionlapcgkaaDoor
open Go.ChangeShapes Go.WideShapes Go.ChangeAt Go.RowKit
set_option linter.unusedVariables false
set_option maxRecDepth 100000

set_option maxHeartbeats 8000000 in
set_option maxRecDepth 100000 in
theorem walkO14 {T : World → Prop} (H : P14 T) (src dst : Int) (sq ak : Nat) (fl win urg : Int) (l : List OpR) (pay : List UInt8) (A : Option Addr) (c : Nat) (w : World) (hT : T w) (hw : tcpWf ⟨src, dst, sq, ak, fl, win, urg, l, pay⟩) (hr : RowL EOpt w A l) (hA : A = none → c = 0) :
    Calls Tryd.prog 5 #[.agg (tcC ⟨src, dst, sq, ak, fl, win, urg, l, pay⟩ A c (str pay))] w fun e w' => e = .returned (.bool true) ∧ Below w.heap.size w w' := by
  unfold tcC
  dsimp only
  obtain ⟨D, hD⟩ : ∃ Y, Y = str pay := ⟨_, rfl⟩
  obtain ⟨n, hn⟩ : ∃ n, n = l.length := ⟨_, rfl⟩
  rw [← hD, ← hn]
  obtain ⟨W0, hW0⟩ : ∃ W, W = w.alloc (.cells #[.int .i64 src, .int .i64 dst, .int .u32 (sq : Int), .int .u32 (ak : Int), .int .i64 fl, .int .i64 win, .int .i64 urg, .slice A n c, .string D] 31) := ⟨_, rfl⟩
  obtain ⟨gt, hgt⟩ : ∃ g, g = w.heap.size := ⟨_, rfl⟩
  have bt : Below w.heap.size w W0 := by rw [hW0]; exact below_alloc6 w _
  have pt : Cells W0 gt 31 #[.int .i64 src, .int .i64 dst, .int .u32 (sq : Int), .int .u32 (ak : Int), .int .i64 fl, .int .i64 win, .int .i64 urg, .slice A n c, .string D] := by rw [hW0, hgt]; exact heap_alloc_new w _
  have B0 := Lib.hid (show Below w.heap.size w W0 from bt)
  have Pt0 := Lib.hid (show Cells W0 gt 31 #[.int .i64 src, .int .i64 dst, .int .u32 (sq : Int), .int .u32 (ak : Int), .int .i64 fl, .int .i64 win, .int .i64 urg, .slice A n c, .string D] from pt)
  have HK := Lib.hid H.keep
  have HL := Lib.hid (fun (W : World) (hW : T W) => awk14 H W hW)
  have K0 := Lib.hid (H.keep w W0 hT B0.out)
  have Rt0 := Lib.hid (hr.kept B0.out)
  by_cases hl : 60 < n
  · have d0 : decide ((60 : Int) < (n : Int)) = true := by simp; omega
    have nd : (60 : Int) < (n : Int) := by omega
    clear hl hr hw hA hD hn
    have et : gt = w.heap.size := by exact hgt
    have HW0 := Lib.hid hW0
    have Et := Lib.hid et
    clear hW0 hgt et bt pt
    go_enter Tryd.func5, Tryd.ntmps5
    go_upto_region 1 with fail
    rw [← HW0.out, ← Et.out]
    clear HW0 Et
    have xt0 := (Cells.cell Pt0.out 0).trans (show _ = some (Value.int .i64 src) from rfl)
    have xt1 := (Cells.cell Pt0.out 1).trans (show _ = some (Value.int .i64 dst) from rfl)
    have xt2 := (Cells.cell Pt0.out 2).trans (show _ = some (Value.int .u32 (sq : Int)) from rfl)
    have xt3 := (Cells.cell Pt0.out 3).trans (show _ = some (Value.int .u32 (ak : Int)) from rfl)
    have xt4 := (Cells.cell Pt0.out 4).trans (show _ = some (Value.int .i64 fl) from rfl)
    have xt5 := (Cells.cell Pt0.out 5).trans (show _ = some (Value.int .i64 win) from rfl)
    have xt6 := (Cells.cell Pt0.out 6).trans (show _ = some (Value.int .i64 urg) from rfl)
    have xt7 := (Cells.cell Pt0.out 7).trans (show _ = some (Value.slice A n c) from rfl)
    have xt8 := (Cells.cell Pt0.out 8).trans (show _ = some (Value.string D) from rfl)
    go_wp2_with fail
    refine (HL.out _ K0.out).mono ?_
    rintro e w99 ⟨rfl, hb⟩
    have BZ := Lib.hid (B0.out.trans (hb.mono B0.out.size))
    clear hb
    go_wp2_with fail
    go_ret
    exact ⟨rfl, BZ.out⟩
  have d0 : decide ((60 : Int) < (n : Int)) = false := by simp; omega
  have nd : ¬ (60 : Int) < (n : Int) := by omega
  obtain ⟨sc, hsc⟩ : ∃ x, x = scaT ⟨src, dst, sq, ak, fl, win, urg, l, pay⟩ := ⟨_, rfl⟩
  obtain ⟨st, hst⟩ : ∃ x, x = staT ⟨src, dst, sq, ak, fl, win, urg, l, pay⟩ := ⟨_, rfl⟩
  obtain ⟨ln, hln⟩ : ∃ x, x = lenT ⟨src, dst, sq, ak, fl, win, urg, l, pay⟩ := ⟨_, rfl⟩
  have hnl : l.length ≤ 1000 := by omega
  have H1 := Lib.hid (fun (W : World) (hW : T W) (h : RowL EOpt W A l) => show Calls Tryd.prog 16 #[.agg #[.int .i64 src, .int .i64 dst, .int .u32 (sq : Int), .int .u32 (ak : Int), .int .i64 fl, .int .i64 win, .int .i64 urg, .slice A n c, .string D]] W fun e w' => e = .returned (Value.tuple #[.int .i64 (sc.1 : Int), .bool sc.2]) ∧ Below W.heap.size W w' from by
    rw [hn, hsc, hD]
    exact H.sca ⟨src, dst, sq, ak, fl, win, urg, l, pay⟩ A c W hW ⟨hw, h, hnl, hA⟩)
  have H2 := Lib.hid (fun (W : World) (h : RowL EOpt W A l) => show Calls Tryd.prog 17 #[.agg #[.int .i64 src, .int .i64 dst, .int .u32 (sq : Int), .int .u32 (ak : Int), .int .i64 fl, .int .i64 win, .int .i64 urg, .slice A n c, .string D]] W fun e w' => e = .returned (Value.tuple #[.int .i64 (sc.1 : Int), .bool sc.2]) ∧ Below W.heap.size W w' from by
    rw [hn, hsc, hD]
    exact rscale14_any ⟨src, dst, sq, ak, fl, win, urg, l, pay⟩ A c (str pay) W h (by show l.length ≤ 1000000000; omega))
  have H3 := Lib.hid (fun (W : World) (hW : T W) (h : RowL EOpt W A l) => show Calls Tryd.prog 18 #[.agg #[.int .i64 src, .int .i64 dst, .int .u32 (sq : Int), .int .u32 (ak : Int), .int .i64 fl, .int .i64 win, .int .i64 urg, .slice A n c, .string D]] W fun e w' => e = .returned (Value.tuple #[.int .u32 (st.1 : Int), .int .u32 (st.2.1 : Int), .bool st.2.2]) ∧ Below W.heap.size W w' from by
    rw [hn, hst, hD]
    exact H.sta ⟨src, dst, sq, ak, fl, win, urg, l, pay⟩ A c W hW ⟨hw, h, hnl, hA⟩)
  have H4 := Lib.hid (fun (W : World) (h : RowL EOpt W A l) => show Calls Tryd.prog 19 #[.agg #[.int .i64 src, .int .i64 dst, .int .u32 (sq : Int), .int .u32 (ak : Int), .int .i64 fl, .int .i64 win, .int .i64 urg, .slice A n c, .string D]] W fun e w' => e = .returned (Value.tuple #[.int .u32 (st.1 : Int), .int .u32 (st.2.1 : Int), .bool st.2.2]) ∧ Below W.heap.size W w' from by
    rw [hn, hst, hD]
    exact rstamps14_any ⟨src, dst, sq, ak, fl, win, urg, l, pay⟩ A c (str pay) W h (by show l.length ≤ 1000000000; omega))
  have H5 := Lib.hid (fun (W : World) (hW : T W) (h : RowL EOpt W A l) => show Calls Tryd.prog 20 #[.agg #[.int .i64 src, .int .i64 dst, .int .u32 (sq : Int), .int .u32 (ak : Int), .int .i64 fl, .int .i64 win, .int .i64 urg, .slice A n c, .string D]] W fun e w' => e = .returned (Value.int .i64 (ln : Int)) ∧ Below W.heap.size W w' from by
    rw [hn, hln, hD]
    exact H.len ⟨src, dst, sq, ak, fl, win, urg, l, pay⟩ A c W hW ⟨hw, h, hnl, hA⟩)
  have H6 := Lib.hid (fun (W : World) (h : RowL EOpt W A l) => show Calls Tryd.prog 21 #[.agg #[.int .i64 src, .int .i64 dst, .int .u32 (sq : Int), .int .u32 (ak : Int), .int .i64 fl, .int .i64 win, .int .i64 urg, .slice A n c, .string D]] W fun e w' => e = .returned (Value.int .i64 (ln : Int)) ∧ Below W.heap.size W w' from by
    rw [hn, hln, hD]
    exact rlen14_any ⟨src, dst, sq, ak, fl, win, urg, l, pay⟩ A c (str pay) W rfl (Nat.le_trans hw.2.2.1 (by decide)))
  clear hsc hst hln hnl hl hr hw hA hD hn hT
  obtain ⟨s1, s2⟩ := sc
  obtain ⟨t1, t2, t3⟩ := st
  dsimp only at H1 H2 H3 H4
  have e1 : ((s1 : Int) == (s1 : Int)) = true := beq_self_eq_true _
  have e2 : ((t1 : Int) == (t1 : Int)) = true := beq_self_eq_true _
  have e3 : ((t2 : Int) == (t2 : Int)) = true := beq_self_eq_true _
  have e4 : ((ln : Int) == (ln : Int)) = true := beq_self_eq_true _
  have e5 : (s2 == s2) = true := beq_self_eq_true _
  have e6 : (t3 == t3) = true := beq_self_eq_true _
  have et : gt = w.heap.size := by exact hgt
  have HW0 := Lib.hid hW0
  have Et := Lib.hid et
  clear hW0 hgt et bt pt
  go_enter Tryd.func5, Tryd.ntmps5
  go_upto_region 1 with fail
  rw [← HW0.out, ← Et.out]
  clear HW0 Et
  have xt0 := (Cells.cell Pt0.out 0).trans (show _ = some (Value.int .i64 src) from rfl)
  have xt1 := (Cells.cell Pt0.out 1).trans (show _ = some (Value.int .i64 dst) from rfl)
  have xt2 := (Cells.cell Pt0.out 2).trans (show _ = some (Value.int .u32 (sq : Int)) from rfl)
  have xt3 := (Cells.cell Pt0.out 3).trans (show _ = some (Value.int .u32 (ak : Int)) from rfl)
  have xt4 := (Cells.cell Pt0.out 4).trans (show _ = some (Value.int .i64 fl) from rfl)
  have xt5 := (Cells.cell Pt0.out 5).trans (show _ = some (Value.int .i64 win) from rfl)
  have xt6 := (Cells.cell Pt0.out 6).trans (show _ = some (Value.int .i64 urg) from rfl)
  have xt7 := (Cells.cell Pt0.out 7).trans (show _ = some (Value.slice A n c) from rfl)
  have xt8 := (Cells.cell Pt0.out 8).trans (show _ = some (Value.string D) from rfl)
  go_wp2_with fail
  refine (H1.out _ K0.out Rt0.out).mono ?_
  rintro e w1 ⟨rfl, hb⟩
  clear H1 xt0 xt1 xt2 xt3 xt4 xt5 xt6 xt7 xt8
  have Pt1 := Lib.hid (Cells.kept Pt0.out hb Pt0.out.lt)
  have Rt1 := Lib.hid (Rt0.out.kept hb)
  have K1 := Lib.hid (HK.out _ _ K0.out hb)
  have B1 := Lib.hid (B0.out.trans (hb.mono B0.out.size))
  clear hb Pt0 Rt0 K0 B0
  have xt0 := (Cells.cell Pt1.out 0).trans (show _ = some (Value.int .i64 src) from rfl)
  have xt1 := (Cells.cell Pt1.out 1).trans (show _ = some (Value.int .i64 dst) from rfl)
  have xt2 := (Cells.cell Pt1.out 2).trans (show _ = some (Value.int .u32 (sq : Int)) from rfl)
  have xt3 := (Cells.cell Pt1.out 3).trans (show _ = some (Value.int .u32 (ak : Int)) from rfl)
  have xt4 := (Cells.cell Pt1.out 4).trans (show _ = some (Value.int .i64 fl) from rfl)
  have xt5 := (Cells.cell Pt1.out 5).trans (show _ = some (Value.int .i64 win) from rfl)
  have xt6 := (Cells.cell Pt1.out 6).trans (show _ = some (Value.int .i64 urg) from rfl)
  have xt7 := (Cells.cell Pt1.out 7).trans (show _ = some (Value.slice A n c) from rfl)
  have xt8 := (Cells.cell Pt1.out 8).trans (show _ = some (Value.string D) from rfl)
  go_wp2_with fail
  refine (H2.out _ Rt1.out).mono ?_
  rintro e w2 ⟨rfl, hb⟩
  clear H2 xt0 xt1 xt2 xt3 xt4 xt5 xt6 xt7 xt8
  have Pt2 := Lib.hid (Cells.kept Pt1.out hb Pt1.out.lt)
  have Rt2 := Lib.hid (Rt1.out.kept hb)
  have K2 := Lib.hid (HK.out _ _ K1.out hb)
  have B2 := Lib.hid (B1.out.trans (hb.mono B1.out.size))
  clear hb Pt1 Rt1 K1 B1
  have xt0 := (Cells.cell Pt2.out 0).trans (show _ = some (Value.int .i64 src) from rfl)
  have xt1 := (Cells.cell Pt2.out 1).trans (show _ = some (Value.int .i64 dst) from rfl)
  have xt2 := (Cells.cell Pt2.out 2).trans (show _ = some (Value.int .u32 (sq : Int)) from rfl)
  have xt3 := (Cells.cell Pt2.out 3).trans (show _ = some (Value.int .u32 (ak : Int)) from rfl)
  have xt4 := (Cells.cell Pt2.out 4).trans (show _ = some (Value.int .i64 fl) from rfl)
  have xt5 := (Cells.cell Pt2.out 5).trans (show _ = some (Value.int .i64 win) from rfl)
  have xt6 := (Cells.cell Pt2.out 6).trans (show _ = some (Value.int .i64 urg) from rfl)
  have xt7 := (Cells.cell Pt2.out 7).trans (show _ = some (Value.slice A n c) from rfl)
  have xt8 := (Cells.cell Pt2.out 8).trans (show _ = some (Value.string D) from rfl)
  go_wp2_with fail
  refine (H3.out _ K2.out Rt2.out).mono ?_
  rintro e w3 ⟨rfl, hb⟩
  clear H3 xt0 xt1 xt2 xt3 xt4 xt5 xt6 xt7 xt8
  have Pt3 := Lib.hid (Cells.kept Pt2.out hb Pt2.out.lt)
  have Rt3 := Lib.hid (Rt2.out.kept hb)
  have K3 := Lib.hid (HK.out _ _ K2.out hb)
  have B3 := Lib.hid (B2.out.trans (hb.mono B2.out.size))
  clear hb Pt2 Rt2 K2 B2
  have xt0 := (Cells.cell Pt3.out 0).trans (show _ = some (Value.int .i64 src) from rfl)
  have xt1 := (Cells.cell Pt3.out 1).trans (show _ = some (Value.int .i64 dst) from rfl)
  have xt2 := (Cells.cell Pt3.out 2).trans (show _ = some (Value.int .u32 (sq : Int)) from rfl)
  have xt3 := (Cells.cell Pt3.out 3).trans (show _ = some (Value.int .u32 (ak : Int)) from rfl)
  have xt4 := (Cells.cell Pt3.out 4).trans (show _ = some (Value.int .i64 fl) from rfl)
  have xt5 := (Cells.cell Pt3.out 5).trans (show _ = some (Value.int .i64 win) from rfl)
  have xt6 := (Cells.cell Pt3.out 6).trans (show _ = some (Value.int .i64 urg) from rfl)
  have xt7 := (Cells.cell Pt3.out 7).trans (show _ = some (Value.slice A n c) from rfl)
  have xt8 := (Cells.cell Pt3.out 8).trans (show _ = some (Value.string D) from rfl)
  go_wp2_with fail
  refine (H4.out _ Rt3.out).mono ?_
  rintro e w4 ⟨rfl, hb⟩
  clear H4 xt0 xt1 xt2 xt3 xt4 xt5 xt6 xt7 xt8
  have Pt4 := Lib.hid (Cells.kept Pt3.out hb Pt3.out.lt)
  have Rt4 := Lib.hid (Rt3.out.kept hb)
  have K4 := Lib.hid (HK.out _ _ K3.out hb)
  have B4 := Lib.hid (B3.out.trans (hb.mono B3.out.size))
  clear hb Pt3 Rt3 K3 B3
  go_upto_region 7 with fail
  refine wp_region_pick (fun w' => Below w4.heap.size w4 w') (by kernel_rfl) (by kernel_rfl) (Below.refl _ _) ⟨rfl, rfl, rfl, Nat.le_refl _, fun _ _ => rfl⟩ (fun pw hp hq => ?_)
  have y0 := fun u => ((Cells.kept Pt4.out (hp u) Pt4.out.lt).cell 0).trans (show _ = some (Value.int .i64 src) from rfl)
  have y1 := fun u => ((Cells.kept Pt4.out (hp u) Pt4.out.lt).cell 1).trans (show _ = some (Value.int .i64 dst) from rfl)
  have y2 := fun u => ((Cells.kept Pt4.out (hp u) Pt4.out.lt).cell 2).trans (show _ = some (Value.int .u32 (sq : Int)) from rfl)
  have y3 := fun u => ((Cells.kept Pt4.out (hp u) Pt4.out.lt).cell 3).trans (show _ = some (Value.int .u32 (ak : Int)) from rfl)
  have y4 := fun u => ((Cells.kept Pt4.out (hp u) Pt4.out.lt).cell 4).trans (show _ = some (Value.int .i64 fl) from rfl)
  have y5 := fun u => ((Cells.kept Pt4.out (hp u) Pt4.out.lt).cell 5).trans (show _ = some (Value.int .i64 win) from rfl)
  have y6 := fun u => ((Cells.kept Pt4.out (hp u) Pt4.out.lt).cell 6).trans (show _ = some (Value.int .i64 urg) from rfl)
  have y7 := fun u => ((Cells.kept Pt4.out (hp u) Pt4.out.lt).cell 7).trans (show _ = some (Value.slice A n c) from rfl)
  have y8 := fun u => ((Cells.kept Pt4.out (hp u) Pt4.out.lt).cell 8).trans (show _ = some (Value.string D) from rfl)
  have HKP := Lib.hid (fun u => HK.out _ _ K4.out (hp u))
  have HRP := Lib.hid (fun u => Rt4.out.kept (hp u))
  have HP := Lib.hid hp
  have HQ := Lib.hid hq
  clear hp hq
  repeat (go_big_quiet_step ((first | with_reducible exact Calls.pick_of HQ.out (fun W' hb => (HP.out _).trans (hb.mono (HP.out _).size)) (H5.out _ (HKP.out _) (HRP.out _)) | with_reducible exact Calls.pick_of HQ.out (fun W' hb => (HP.out _).trans (hb.mono (HP.out _).size)) (H6.out _ (HRP.out _)) | with_reducible exact Calls.pick_of HQ.out (fun W' hb => (HP.out _).trans (hb.mono (HP.out _).size)) (HL.out _ (HKP.out _)))))
  refine wpQuiet_nil ?_
  rintro _ ⟨u, rfl⟩
  have BZ := Lib.hid (B4.out.trans ((HP.out u).mono B4.out.size))
  generalize pw u = w6 at *
  clear HP HQ HKP HRP y0 y1 y2 y3 y4 y5 y6 y7 y8
  go_wp2_with fail
  go_ret
  exact ⟨rfl, BZ.out⟩
end Go.Proofs.YtmfoionlapcgkaaDoor
