/- Contracts of the functions, further part 1: TTrip. -/
import Derived.Deep.Cut
import Derived.Deep.WholeRow
import Derived.Test.YtmfoionlapcgkaaDoorPA27
import Derived.Test.YtmfoionlapcgkaaDoorPA6
/- TcpRoundTrip: the walk, over the bundle P14. -/
namespace Go.Proofs.YtmfoionlapcgkaaDoor
open Go.ChangeShapes Go.WideShapes Go.ChangeAt Go.RowKit
set_option linter.unusedVariables false
set_option maxRecDepth 100000

set_option maxHeartbeats 8000000 in
set_option maxRecDepth 100000 in
theorem walkR14 {T : World → Prop} (H : P14 T) (v1 v2 : Bool) (h1 l1 h2 l2 : Nat) (src dst : Int) (sq ak : Nat) (fl win urg : Int) (l : List OpR) (pay : List UInt8) (A : Option Addr) (c : Nat) (w : World) (hT : T w) (ha : fits13 ⟨v1, h1, l1⟩) (hb : fits13 ⟨v2, h2, l2⟩) (hw : tcpWf ⟨src, dst, sq, ak, fl, win, urg, l, pay⟩) (hr : RowL EOpt w A l) (hA : A = none → c = 0) :
    Calls Tryd.prog 6 #[.agg #[.bool v1, .int .u64 (h1 : Int), .int .u64 (l1 : Int), .bool v2, .int .u64 (h2 : Int), .int .u64 (l2 : Int)], .agg (tcC ⟨src, dst, sq, ak, fl, win, urg, l, pay⟩ A c (str pay))] w fun e w' => e = .returned (.bool true) ∧ Below w.heap.size w w' := by
  unfold tcC
  dsimp only
  obtain ⟨D, hD⟩ : ∃ Y, Y = str pay := ⟨_, rfl⟩
  obtain ⟨n, hn⟩ : ∃ n, n = l.length := ⟨_, rfl⟩
  have hDs : D.size = pay.length := by rw [hD, str_size]
  rw [← hD, ← hn]
  obtain ⟨V0, hV0⟩ : ∃ W, W = w.alloc (.cells #[.bool v1, .int .u64 (h1 : Int), .int .u64 (l1 : Int), .bool v2, .int .u64 (h2 : Int), .int .u64 (l2 : Int)] 26) := ⟨_, rfl⟩
  obtain ⟨gx, hgx⟩ : ∃ g, g = w.heap.size := ⟨_, rfl⟩
  have bx : Below w.heap.size w V0 := by rw [hV0]; exact below_alloc6 w _
  have px : Cells V0 gx 26 #[.bool v1, .int .u64 (h1 : Int), .int .u64 (l1 : Int), .bool v2, .int .u64 (h2 : Int), .int .u64 (l2 : Int)] := by rw [hV0, hgx]; exact heap_alloc_new w _
  obtain ⟨W0, hW0⟩ : ∃ W, W = V0.alloc (.cells #[.int .i64 src, .int .i64 dst, .int .u32 (sq : Int), .int .u32 (ak : Int), .int .i64 fl, .int .i64 win, .int .i64 urg, .slice A n c, .string D] 31) := ⟨_, rfl⟩
  obtain ⟨gt, hgt⟩ : ∃ g, g = V0.heap.size := ⟨_, rfl⟩
  have bt : Below V0.heap.size V0 W0 := by rw [hW0]; exact below_alloc6 V0 _
  have pt : Cells W0 gt 31 #[.int .i64 src, .int .i64 dst, .int .u32 (sq : Int), .int .u32 (ak : Int), .int .i64 fl, .int .i64 win, .int .i64 urg, .slice A n c, .string D] := by rw [hW0, hgt]; exact heap_alloc_new V0 _
  have B0 := Lib.hid (show Below w.heap.size w W0 from (bx.trans (bt.mono bx.size)))
  have Px0 := Lib.hid (show Cells W0 gx 26 #[.bool v1, .int .u64 (h1 : Int), .int .u64 (l1 : Int), .bool v2, .int .u64 (h2 : Int), .int .u64 (l2 : Int)] from (Cells.kept px bt px.lt))
  have Pt0 := Lib.hid (show Cells W0 gt 31 #[.int .i64 src, .int .i64 dst, .int .u32 (sq : Int), .int .u32 (ak : Int), .int .i64 fl, .int .i64 win, .int .i64 urg, .slice A n c, .string D] from pt)
  have HK := Lib.hid H.keep
  have HL := Lib.hid (fun (W : World) (hW : T W) => awk14 H W hW)
  have K0 := Lib.hid (H.keep w W0 hT B0.out)
  have Rt0 := Lib.hid (hr.kept B0.out)
  have HLG := Lib.hid (fun (W : World) => show Calls Tryd.prog 13 #[.agg #[.int .i64 src, .int .i64 dst, .int .u32 (sq : Int), .int .u32 (ak : Int), .int .i64 fl, .int .i64 win, .int .i64 urg, .slice A n c, .string D]] W fun e w' => e = .returned (.bool (decide (largeT ⟨src, dst, sq, ak, fl, win, urg, l, pay⟩))) ∧ Below W.heap.size W w' from by rw [hn]; exact large14_any ⟨src, dst, sq, ak, fl, win, urg, l, pay⟩ A c D W hD)
  by_cases hl : largeT ⟨src, dst, sq, ak, fl, win, urg, l, pay⟩
  · rw [decide_eq_true hl] at HLG
    clear hl hr hw hA hD hn hDs
    have ex : gx = w.heap.size := by exact hgx
    have et : gt = w.heap.size + 1 := by rw [hgt, hV0]; simp
    have HV0 := Lib.hid hV0
    have HW0 := Lib.hid hW0
    have Ex := Lib.hid ex
    have Et := Lib.hid et
    clear hV0 hW0 hgx ex bx px hgt et bt pt
    go_enter Tryd.func6, Tryd.ntmps6
    go_upto_region 1 with fail
    rw [← HV0.out, ← HW0.out, ← Et.out, ← Ex.out]
    clear HV0 HW0 Ex Et
    have xt0 := (Cells.cell Pt0.out 0).trans (show _ = some (Value.int .i64 src) from rfl)
    have xt1 := (Cells.cell Pt0.out 1).trans (show _ = some (Value.int .i64 dst) from rfl)
    have xt2 := (Cells.cell Pt0.out 2).trans (show _ = some (Value.int .u32 (sq : Int)) from rfl)
    have xt3 := (Cells.cell Pt0.out 3).trans (show _ = some (Value.int .u32 (ak : Int)) from rfl)
    have xt4 := (Cells.cell Pt0.out 4).trans (show _ = some (Value.int .i64 fl) from rfl)
    have xt5 := (Cells.cell Pt0.out 5).trans (show _ = some (Value.int .i64 win) from rfl)
    have xt6 := (Cells.cell Pt0.out 6).trans (show _ = some (Value.int .i64 urg) from rfl)
    have xt7 := (Cells.cell Pt0.out 7).trans (show _ = some (Value.slice A n c) from rfl)
    have xt8 := (Cells.cell Pt0.out 8).trans (show _ = some (Value.string D) from rfl)
    go_wp2_with fail
    refine (HLG.out _).mono ?_
    rintro e w1 ⟨rfl, hb⟩
    clear HLG xt0 xt1 xt2 xt3 xt4 xt5 xt6 xt7 xt8
    have Px1 := Lib.hid (Cells.kept Px0.out hb Px0.out.lt)
    have Pt1 := Lib.hid (Cells.kept Pt0.out hb Pt0.out.lt)
    have Rt1 := Lib.hid (Rt0.out.kept hb)
    have K1 := Lib.hid (HK.out _ _ K0.out hb)
    have B1 := Lib.hid (B0.out.trans (hb.mono B0.out.size))
    clear hb Px0 Pt0 Rt0 K0 B0
    go_wp2_with fail
    refine (HL.out _ K1.out).mono ?_
    rintro e w99 ⟨rfl, hb⟩
    have BZ := Lib.hid (B1.out.trans (hb.mono B1.out.size))
    clear hb
    go_wp2_with fail
    go_ret
    exact ⟨rfl, BZ.out⟩
  rw [decide_eq_false hl] at HLG
  have hpl : pay.length ≤ 61000 := by unfold largeT at hl; dsimp only at hl; omega
  have hol : l.length ≤ 60 := by unfold largeT at hl; dsimp only at hl; omega
  obtain ⟨R, hR⟩ : ∃ R, R = encT ⟨v1, h1, l1⟩ ⟨v2, h2, l2⟩ ⟨src, dst, sq, ak, fl, win, urg, l, pay⟩ := ⟨_, rfl⟩
  obtain ⟨q, hq⟩ : ∃ q, q = str R.1 := ⟨_, rfl⟩
  obtain ⟨er, her0⟩ : ∃ e, e = R.2 := ⟨_, rfl⟩
  have H1 := Lib.hid (fun (W : World) (hW : T W) (h : RowL EOpt W A l) => show Calls Tryd.prog 14 #[.agg #[.bool v1, .int .u64 (h1 : Int), .int .u64 (l1 : Int)], .agg #[.bool v2, .int .u64 (h2 : Int), .int .u64 (l2 : Int)], .agg #[.int .i64 src, .int .i64 dst, .int .u32 (sq : Int), .int .u32 (ak : Int), .int .i64 fl, .int .i64 win, .int .i64 urg, .slice A n c, .string D]] W fun e w' => e = .returned (.tuple #[.string q, .int .i64 (er : Int)]) ∧ Below W.heap.size W w' from by
    rw [hq, her0, hR, hn, hD]
    exact H.enc v1 v2 h1 l1 h2 l2 ⟨src, dst, sq, ak, fl, win, urg, l, pay⟩ A c W hW ha hb ⟨hw, h, by show l.length ≤ 1000; omega, hA⟩ (by show pay.length ≤ 1000000; omega))
  by_cases he : er ≠ 0
  · have hemp : q.toList.isEmpty = true := by
      rw [hq, hR, encT_bad (by rw [← hR, ← her0]; exact he), str_isEmpty]
      rfl
    have dne : ((er : Int) != 0) = true := by simp; omega
    clear hR hq her0 hl hr hw hA hD hn hDs hT ha hb hpl hol he
    have ex : gx = w.heap.size := by exact hgx
    have et : gt = w.heap.size + 1 := by rw [hgt, hV0]; simp
    have HV0 := Lib.hid hV0
    have HW0 := Lib.hid hW0
    have Ex := Lib.hid ex
    have Et := Lib.hid et
    clear hV0 hW0 hgx ex bx px hgt et bt pt
    go_enter Tryd.func6, Tryd.ntmps6
    go_upto_region 1 with fail
    rw [← HV0.out, ← HW0.out, ← Et.out, ← Ex.out]
    clear HV0 HW0 Ex Et
    have xt0 := (Cells.cell Pt0.out 0).trans (show _ = some (Value.int .i64 src) from rfl)
    have xt1 := (Cells.cell Pt0.out 1).trans (show _ = some (Value.int .i64 dst) from rfl)
    have xt2 := (Cells.cell Pt0.out 2).trans (show _ = some (Value.int .u32 (sq : Int)) from rfl)
    have xt3 := (Cells.cell Pt0.out 3).trans (show _ = some (Value.int .u32 (ak : Int)) from rfl)
    have xt4 := (Cells.cell Pt0.out 4).trans (show _ = some (Value.int .i64 fl) from rfl)
    have xt5 := (Cells.cell Pt0.out 5).trans (show _ = some (Value.int .i64 win) from rfl)
    have xt6 := (Cells.cell Pt0.out 6).trans (show _ = some (Value.int .i64 urg) from rfl)
    have xt7 := (Cells.cell Pt0.out 7).trans (show _ = some (Value.slice A n c) from rfl)
    have xt8 := (Cells.cell Pt0.out 8).trans (show _ = some (Value.string D) from rfl)
    go_wp2_with fail
    refine (HLG.out _).mono ?_
    rintro e w1 ⟨rfl, hb⟩
    clear HLG xt0 xt1 xt2 xt3 xt4 xt5 xt6 xt7 xt8
    have Px1 := Lib.hid (Cells.kept Px0.out hb Px0.out.lt)
    have Pt1 := Lib.hid (Cells.kept Pt0.out hb Pt0.out.lt)
    have Rt1 := Lib.hid (Rt0.out.kept hb)
    have K1 := Lib.hid (HK.out _ _ K0.out hb)
    have B1 := Lib.hid (B0.out.trans (hb.mono B0.out.size))
    clear hb Px0 Pt0 Rt0 K0 B0
    have xx0 := (Cells.cell Px1.out 0).trans (show _ = some (Value.bool v1) from rfl)
    have xx1 := (Cells.cell Px1.out 1).trans (show _ = some (Value.int .u64 (h1 : Int)) from rfl)
    have xx2 := (Cells.cell Px1.out 2).trans (show _ = some (Value.int .u64 (l1 : Int)) from rfl)
    have xx3 := (Cells.cell Px1.out 3).trans (show _ = some (Value.bool v2) from rfl)
    have xx4 := (Cells.cell Px1.out 4).trans (show _ = some (Value.int .u64 (h2 : Int)) from rfl)
    have xx5 := (Cells.cell Px1.out 5).trans (show _ = some (Value.int .u64 (l2 : Int)) from rfl)
    have xt0 := (Cells.cell Pt1.out 0).trans (show _ = some (Value.int .i64 src) from rfl)
    have xt1 := (Cells.cell Pt1.out 1).trans (show _ = some (Value.int .i64 dst) from rfl)
    have xt2 := (Cells.cell Pt1.out 2).trans (show _ = some (Value.int .u32 (sq : Int)) from rfl)
    have xt3 := (Cells.cell Pt1.out 3).trans (show _ = some (Value.int .u32 (ak : Int)) from rfl)
    have xt4 := (Cells.cell Pt1.out 4).trans (show _ = some (Value.int .i64 fl) from rfl)
    have xt5 := (Cells.cell Pt1.out 5).trans (show _ = some (Value.int .i64 win) from rfl)
    have xt6 := (Cells.cell Pt1.out 6).trans (show _ = some (Value.int .i64 urg) from rfl)
    have xt7 := (Cells.cell Pt1.out 7).trans (show _ = some (Value.slice A n c) from rfl)
    have xt8 := (Cells.cell Pt1.out 8).trans (show _ = some (Value.string D) from rfl)
    go_wp2_with fail
    refine (H1.out _ K1.out Rt1.out).mono ?_
    rintro e w2 ⟨rfl, hb⟩
    clear H1 xx0 xx1 xx2 xx3 xx4 xx5 xt0 xt1 xt2 xt3 xt4 xt5 xt6 xt7 xt8
    have Px2 := Lib.hid (Cells.kept Px1.out hb Px1.out.lt)
    have Pt2 := Lib.hid (Cells.kept Pt1.out hb Pt1.out.lt)
    have Rt2 := Lib.hid (Rt1.out.kept hb)
    have K2 := Lib.hid (HK.out _ _ K1.out hb)
    have B2 := Lib.hid (B1.out.trans (hb.mono B1.out.size))
    clear hb Px1 Pt1 Rt1 K1 B1
    go_wp2_with fail
    refine (HL.out _ K2.out).mono ?_
    rintro e w99 ⟨rfl, hb⟩
    have BZ := Lib.hid (B2.out.trans (hb.mono B2.out.size))
    clear hb
    go_wp2_with fail
    go_ret
    exact ⟨rfl, BZ.out⟩
  have he0 : er = 0 := Classical.not_not.1 he
  have hE : encT ⟨v1, h1, l1⟩ ⟨v2, h2, l2⟩ ⟨src, dst, sq, ak, fl, win, urg, l, pay⟩ = (R.1, 0) := by rw [← hR]; exact Prod.ext rfl (by rw [← her0]; exact he0)
  obtain ⟨hdec, hlen, hp60⟩ := dec_encT hw.2.1 hE
  have htt : 20 + pay.length ≤ R.1.length ∧ R.1.length ≤ 1000000 := by
    have h1 : totT ⟨src, dst, sq, ak, fl, win, urg, l, pay⟩ = 20 + (wrP l).length + pay.length := rfl
    obtain ⟨-, -, h40, -, -⟩ := encT_ok hE
    have h2 := (wrP_len l).1
    have h3 := need_pad (n := (wrOs l).length) h40
    omega
  have hqs : q.size = R.1.length := by rw [hq, str_size]
  have H2 := Lib.hid (fun (W : World) (hW : T W) => show Calls Tryd.prog 10 #[.agg #[.bool v1, .int .u64 (h1 : Int), .int .u64 (l1 : Int)], .agg #[.bool v2, .int .u64 (h2 : Int), .int .u64 (l2 : Int)], .string q] W fun e w' => ∃ A2 c2, e = .returned (.tuple #[.agg #[.int .i64 src, .int .i64 dst, .int .u32 (sq : Int), .int .u32 (ak : Int), .int .i64 fl, .int .i64 win, .int .i64 urg, .slice A2 n c2, .string D], .int .i64 0]) ∧ RowL EOpt w' A2 l ∧ Below W.heap.size W w' from by
    have := H.dec v1 v2 h1 l1 h2 l2 R.1 W hW ha hb htt.2
    rw [hdec, ← hq] at this
    refine this.mono ?_
    rintro e w' ⟨A2, c2, h1, h2, -, h4⟩
    refine ⟨A2, c2, ?_, h2, h4⟩
    rw [h1, hn, hD]
    rfl)
  have hnl : l.length ≤ 1000000 := by omega
  have HSM := Lib.hid (fun (A1 A2 : Option Addr) (c1 c2 : Nat) (W : World) (h1 : RowL EOpt W A1 l) (h2 : RowL EOpt W A2 l) => show Calls Tryd.prog 12 #[.agg #[.int .i64 src, .int .i64 dst, .int .u32 (sq : Int), .int .u32 (ak : Int), .int .i64 fl, .int .i64 win, .int .i64 urg, .slice A1 n c1, .string D], .agg #[.int .i64 src, .int .i64 dst, .int .u32 (sq : Int), .int .u32 (ak : Int), .int .i64 fl, .int .i64 win, .int .i64 urg, .slice A2 n c2, .string D]] W fun e w' => e = .returned (.bool true) ∧ Below W.heap.size W w' from by rw [hn]; exact same14_any ⟨src, dst, sq, ak, fl, win, urg, l, pay⟩ A1 A2 c1 c2 D W h1 h2 hnl)
  obtain ⟨p20, hp20⟩ : ∃ p, p = 20 + D.size := ⟨_, rfl⟩
  have k20 : (20 : Int) + (D.size : Int) = (p20 : Int) := by omega
  have kge : (p20 : Int) ≤ (q.size : Int) := by omega
  have dge : decide ((p20 : Int) ≤ (q.size : Int)) = true := by simp; omega
  have dne : ((er : Int) != 0) = false := by simp; omega
  have hDl : D.size ≤ 61000 := by omega
  clear hR hq her0 hl hr hw hA hD hn hDs hT ha hb hpl hol he he0 hE hdec hlen hp60 htt hqs hnl hp20
  have ex : gx = w.heap.size := by exact hgx
  have et : gt = w.heap.size + 1 := by rw [hgt, hV0]; simp
  have HV0 := Lib.hid hV0
  have HW0 := Lib.hid hW0
  have Ex := Lib.hid ex
  have Et := Lib.hid et
  clear hV0 hW0 hgx ex bx px hgt et bt pt
  go_enter Tryd.func6, Tryd.ntmps6
  go_upto_region 1 with fail
  rw [← HV0.out, ← HW0.out, ← Et.out, ← Ex.out]
  clear HV0 HW0 Ex Et
  have xt0 := (Cells.cell Pt0.out 0).trans (show _ = some (Value.int .i64 src) from rfl)
  have xt1 := (Cells.cell Pt0.out 1).trans (show _ = some (Value.int .i64 dst) from rfl)
  have xt2 := (Cells.cell Pt0.out 2).trans (show _ = some (Value.int .u32 (sq : Int)) from rfl)
  have xt3 := (Cells.cell Pt0.out 3).trans (show _ = some (Value.int .u32 (ak : Int)) from rfl)
  have xt4 := (Cells.cell Pt0.out 4).trans (show _ = some (Value.int .i64 fl) from rfl)
  have xt5 := (Cells.cell Pt0.out 5).trans (show _ = some (Value.int .i64 win) from rfl)
  have xt6 := (Cells.cell Pt0.out 6).trans (show _ = some (Value.int .i64 urg) from rfl)
  have xt7 := (Cells.cell Pt0.out 7).trans (show _ = some (Value.slice A n c) from rfl)
  have xt8 := (Cells.cell Pt0.out 8).trans (show _ = some (Value.string D) from rfl)
  go_wp2_with fail
  refine (HLG.out _).mono ?_
  rintro e w1 ⟨rfl, hb⟩
  clear HLG xt0 xt1 xt2 xt3 xt4 xt5 xt6 xt7 xt8
  have Px1 := Lib.hid (Cells.kept Px0.out hb Px0.out.lt)
  have Pt1 := Lib.hid (Cells.kept Pt0.out hb Pt0.out.lt)
  have Rt1 := Lib.hid (Rt0.out.kept hb)
  have K1 := Lib.hid (HK.out _ _ K0.out hb)
  have B1 := Lib.hid (B0.out.trans (hb.mono B0.out.size))
  clear hb Px0 Pt0 Rt0 K0 B0
  have xx0 := (Cells.cell Px1.out 0).trans (show _ = some (Value.bool v1) from rfl)
  have xx1 := (Cells.cell Px1.out 1).trans (show _ = some (Value.int .u64 (h1 : Int)) from rfl)
  have xx2 := (Cells.cell Px1.out 2).trans (show _ = some (Value.int .u64 (l1 : Int)) from rfl)
  have xx3 := (Cells.cell Px1.out 3).trans (show _ = some (Value.bool v2) from rfl)
  have xx4 := (Cells.cell Px1.out 4).trans (show _ = some (Value.int .u64 (h2 : Int)) from rfl)
  have xx5 := (Cells.cell Px1.out 5).trans (show _ = some (Value.int .u64 (l2 : Int)) from rfl)
  have xt0 := (Cells.cell Pt1.out 0).trans (show _ = some (Value.int .i64 src) from rfl)
  have xt1 := (Cells.cell Pt1.out 1).trans (show _ = some (Value.int .i64 dst) from rfl)
  have xt2 := (Cells.cell Pt1.out 2).trans (show _ = some (Value.int .u32 (sq : Int)) from rfl)
  have xt3 := (Cells.cell Pt1.out 3).trans (show _ = some (Value.int .u32 (ak : Int)) from rfl)
  have xt4 := (Cells.cell Pt1.out 4).trans (show _ = some (Value.int .i64 fl) from rfl)
  have xt5 := (Cells.cell Pt1.out 5).trans (show _ = some (Value.int .i64 win) from rfl)
  have xt6 := (Cells.cell Pt1.out 6).trans (show _ = some (Value.int .i64 urg) from rfl)
  have xt7 := (Cells.cell Pt1.out 7).trans (show _ = some (Value.slice A n c) from rfl)
  have xt8 := (Cells.cell Pt1.out 8).trans (show _ = some (Value.string D) from rfl)
  go_wp2_with fail
  refine (H1.out _ K1.out Rt1.out).mono ?_
  rintro e w2 ⟨rfl, hb⟩
  clear H1 xx0 xx1 xx2 xx3 xx4 xx5 xt0 xt1 xt2 xt3 xt4 xt5 xt6 xt7 xt8
  have Px2 := Lib.hid (Cells.kept Px1.out hb Px1.out.lt)
  have Pt2 := Lib.hid (Cells.kept Pt1.out hb Pt1.out.lt)
  have Rt2 := Lib.hid (Rt1.out.kept hb)
  have K2 := Lib.hid (HK.out _ _ K1.out hb)
  have B2 := Lib.hid (B1.out.trans (hb.mono B1.out.size))
  clear hb Px1 Pt1 Rt1 K1 B1
  have xx0 := (Cells.cell Px2.out 0).trans (show _ = some (Value.bool v1) from rfl)
  have xx1 := (Cells.cell Px2.out 1).trans (show _ = some (Value.int .u64 (h1 : Int)) from rfl)
  have xx2 := (Cells.cell Px2.out 2).trans (show _ = some (Value.int .u64 (l1 : Int)) from rfl)
  have xx3 := (Cells.cell Px2.out 3).trans (show _ = some (Value.bool v2) from rfl)
  have xx4 := (Cells.cell Px2.out 4).trans (show _ = some (Value.int .u64 (h2 : Int)) from rfl)
  have xx5 := (Cells.cell Px2.out 5).trans (show _ = some (Value.int .u64 (l2 : Int)) from rfl)
  go_wp2_with fail
  refine (H2.out _ K2.out).mono ?_
  rintro e w3 ⟨A2, c2, rfl, hr2, hb⟩
  have Ru3n := Lib.hid hr2
  clear H2 xx0 xx1 xx2 xx3 xx4 xx5
  have Px3 := Lib.hid (Cells.kept Px2.out hb Px2.out.lt)
  have Pt3 := Lib.hid (Cells.kept Pt2.out hb Pt2.out.lt)
  have Rt3 := Lib.hid (Rt2.out.kept hb)
  have K3 := Lib.hid (HK.out _ _ K2.out hb)
  have B3 := Lib.hid (B2.out.trans (hb.mono B2.out.size))
  clear hb Px2 Pt2 Rt2 K2 B2
  have Ru3 := Ru3n
  clear Ru3n hr2
  go_upto_region 7 with fail
  obtain ⟨W4, hW⟩ : ∃ W, W = w3.alloc (.cells #[.int .i64 src, .int .i64 dst, .int .u32 (sq : Int), .int .u32 (ak : Int), .int .i64 fl, .int .i64 win, .int .i64 urg, .slice A2 n c2, .string D] 31) := ⟨_, rfl⟩
  obtain ⟨gu, hg⟩ : ∃ g, g = w3.heap.size := ⟨_, rfl⟩
  have Nu := Lib.hid (show Cells W4 gu 31 #[.int .i64 src, .int .i64 dst, .int .u32 (sq : Int), .int .u32 (ak : Int), .int .i64 fl, .int .i64 win, .int .i64 urg, .slice A2 n c2, .string D] by rw [hW, hg]; exact heap_alloc_new w3 _)
  have hb : Below w3.heap.size w3 W4 := by rw [hW]; exact below_alloc6 w3 _
  rw [← hW, ← hg]
  clear hW hg
  have Px4 := Lib.hid (Cells.kept Px3.out hb Px3.out.lt)
  have Pt4 := Lib.hid (Cells.kept Pt3.out hb Pt3.out.lt)
  have Rt4 := Lib.hid (Rt3.out.kept hb)
  have Ru4 := Lib.hid (Ru3.out.kept hb)
  have K4 := Lib.hid (HK.out _ _ K3.out hb)
  have B4 := Lib.hid (B3.out.trans (hb.mono B3.out.size))
  clear hb Px3 Pt3 Rt3 Ru3 K3 B3
  have Pu4 := Nu
  clear Nu
  have xt0 := (Cells.cell Pt4.out 0).trans (show _ = some (Value.int .i64 src) from rfl)
  have xt1 := (Cells.cell Pt4.out 1).trans (show _ = some (Value.int .i64 dst) from rfl)
  have xt2 := (Cells.cell Pt4.out 2).trans (show _ = some (Value.int .u32 (sq : Int)) from rfl)
  have xt3 := (Cells.cell Pt4.out 3).trans (show _ = some (Value.int .u32 (ak : Int)) from rfl)
  have xt4 := (Cells.cell Pt4.out 4).trans (show _ = some (Value.int .i64 fl) from rfl)
  have xt5 := (Cells.cell Pt4.out 5).trans (show _ = some (Value.int .i64 win) from rfl)
  have xt6 := (Cells.cell Pt4.out 6).trans (show _ = some (Value.int .i64 urg) from rfl)
  have xt7 := (Cells.cell Pt4.out 7).trans (show _ = some (Value.slice A n c) from rfl)
  have xt8 := (Cells.cell Pt4.out 8).trans (show _ = some (Value.string D) from rfl)
  have xu0 := (Cells.cell Pu4.out 0).trans (show _ = some (Value.int .i64 src) from rfl)
  have xu1 := (Cells.cell Pu4.out 1).trans (show _ = some (Value.int .i64 dst) from rfl)
  have xu2 := (Cells.cell Pu4.out 2).trans (show _ = some (Value.int .u32 (sq : Int)) from rfl)
  have xu3 := (Cells.cell Pu4.out 3).trans (show _ = some (Value.int .u32 (ak : Int)) from rfl)
  have xu4 := (Cells.cell Pu4.out 4).trans (show _ = some (Value.int .i64 fl) from rfl)
  have xu5 := (Cells.cell Pu4.out 5).trans (show _ = some (Value.int .i64 win) from rfl)
  have xu6 := (Cells.cell Pu4.out 6).trans (show _ = some (Value.int .i64 urg) from rfl)
  have xu7 := (Cells.cell Pu4.out 7).trans (show _ = some (Value.slice A2 n c2) from rfl)
  have xu8 := (Cells.cell Pu4.out 8).trans (show _ = some (Value.string D) from rfl)
  go_wp2_with fail
  refine (HSM.out _ _ _ _ _ Rt4.out Ru4.out).mono ?_
  rintro e w5 ⟨rfl, hb⟩
  clear HSM xt0 xt1 xt2 xt3 xt4 xt5 xt6 xt7 xt8 xu0 xu1 xu2 xu3 xu4 xu5 xu6 xu7 xu8
  have Px5 := Lib.hid (Cells.kept Px4.out hb Px4.out.lt)
  have Pt5 := Lib.hid (Cells.kept Pt4.out hb Pt4.out.lt)
  have Pu5 := Lib.hid (Cells.kept Pu4.out hb Pu4.out.lt)
  have Rt5 := Lib.hid (Rt4.out.kept hb)
  have Ru5 := Lib.hid (Ru4.out.kept hb)
  have K5 := Lib.hid (HK.out _ _ K4.out hb)
  have B5 := Lib.hid (B4.out.trans (hb.mono B4.out.size))
  clear hb Px4 Pt4 Pu4 Rt4 Ru4 K4 B4
  have xt0 := (Cells.cell Pt5.out 0).trans (show _ = some (Value.int .i64 src) from rfl)
  have xt1 := (Cells.cell Pt5.out 1).trans (show _ = some (Value.int .i64 dst) from rfl)
  have xt2 := (Cells.cell Pt5.out 2).trans (show _ = some (Value.int .u32 (sq : Int)) from rfl)
  have xt3 := (Cells.cell Pt5.out 3).trans (show _ = some (Value.int .u32 (ak : Int)) from rfl)
  have xt4 := (Cells.cell Pt5.out 4).trans (show _ = some (Value.int .i64 fl) from rfl)
  have xt5 := (Cells.cell Pt5.out 5).trans (show _ = some (Value.int .i64 win) from rfl)
  have xt6 := (Cells.cell Pt5.out 6).trans (show _ = some (Value.int .i64 urg) from rfl)
  have xt7 := (Cells.cell Pt5.out 7).trans (show _ = some (Value.slice A n c) from rfl)
  have xt8 := (Cells.cell Pt5.out 8).trans (show _ = some (Value.string D) from rfl)
  go_wp2_with fail
  refine (HL.out _ K5.out).mono ?_
  rintro e w99 ⟨rfl, hb⟩
  have BZ := Lib.hid (B5.out.trans (hb.mono B5.out.size))
  clear hb
  go_wp2_with fail
  go_ret
  exact ⟨rfl, BZ.out⟩
end Go.Proofs.YtmfoionlapcgkaaDoor
