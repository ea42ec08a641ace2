/- Contracts of the functions, further part 1: TAcc. -/
import Derived.Deep.Cut
import Derived.Deep.WholeRow
import Derived.Test.YtmfoionlapcgkaaDoorPA18
import Derived.Test.YtmfoionlapcgkaaDoorPA20
import Derived.Test.YtmfoionlapcgkaaDoorPA27
import Derived.Test.YtmfoionlapcgkaaDoorPA28
import Derived.Test.YtmfoionlapcgkaaDoorPA6
/- TcpAccepts: the walk, over the bundle P14. -/
namespace Go.Proofs.YtmfoionlapcgkaaDoor
open Go.ChangeShapes Go.WideShapes Go.ChangeAt Go.RowKit
set_option linter.unusedVariables false
set_option maxRecDepth 100000

theorem int_wf14 (x : Int) (h0 : 0 ≤ x) (h : x ≤ 9223372036854775807) : (Lit.int .i64 x).wf = true := by
  have : IntKind.i64.min ≤ x ∧ x ≤ IntKind.i64.max := ⟨Int.le_trans (by decide) h0, by show x ≤ 9223372036854775807; omega⟩
  simpa [Lit.wf] using this
theorem decT_in {a b : AdR} {S : List UInt8} {t : TcpR} (h : decT a b S = (t, 0)) : tcpWf t := by
  obtain ⟨l, hl, rfl, hf, hle, h20, hhs, -⟩ := decT_ok h
  obtain ⟨g1, g2, g3⟩ := opts_ok _ _ l (Nat.le_refl _) hl
  have b0 := nm2_lt S 0
  have b2 := nm2_lt S 2
  have b14 := nm2_lt S 14
  have b18 := nm2_lt S 18
  have hm : byt S 13 % 64 < 64 := Nat.mod_lt _ (by decide)
  have hw := wrOs_ge l
  rw [List.length_drop, List.length_take] at g2
  refine ⟨⟨int_wf14 _ (by show (0 : Int) ≤ (nm2 S 0 : Int); omega) (by show (nm2 S 0 : Int) ≤ _; omega), int_wf14 _ (by show (0 : Int) ≤ (nm2 S 2 : Int); omega) (by show (nm2 S 2 : Int) ≤ _; omega), int_wf14 _ (by show (0 : Int) ≤ ((byt S 13 % 64 : Nat) : Int); omega) (by show ((byt S 13 % 64 : Nat) : Int) ≤ _; omega), int_wf14 _ (by show (0 : Int) ≤ (nm2 S 14 : Int); omega) (by show (nm2 S 14 : Int) ≤ _; omega), int_wf14 _ (by show (0 : Int) ≤ (nm2 S 18 : Int); omega) (by show (nm2 S 18 : Int) ≤ _; omega)⟩, ⟨nm4_lt S 4, nm4_lt S 8⟩, ?_, ?_, fun y hy => ?_⟩
  · show (S.drop (hdT S)).length ≤ _
    rw [List.length_drop]; omega
  · show l.length ≤ maxLen
    unfold maxLen; omega
  · have h1 := g1 y hy
    have h2 := g3 y hy
    exact ⟨int_wf14 _ (by omega) (by omega), by omega⟩
set_option maxHeartbeats 8000000 in
set_option maxRecDepth 100000 in
theorem walkA14 {T : World → Prop} (H : P14 T) (HSH : ∀ W, T W → Sh W) (v1 v2 : Bool) (h1 l1 h2 l2 : Nat) (s : ByteArray) (w : World) (hT : T w) (ha : fits13 ⟨v1, h1, l1⟩) (hb : fits13 ⟨v2, h2, l2⟩) :
    Calls Tryd.prog 7 #[.agg #[.bool v1, .int .u64 (h1 : Int), .int .u64 (l1 : Int), .bool v2, .int .u64 (h2 : Int), .int .u64 (l2 : Int)], .string s] w fun e w' => e = .returned (.bool true) ∧ Below w.heap.size w w' := by
  obtain ⟨W0, hW0⟩ : ∃ W, W = w.alloc (.cells #[.bool v1, .int .u64 (h1 : Int), .int .u64 (l1 : Int), .bool v2, .int .u64 (h2 : Int), .int .u64 (l2 : Int)] 26) := ⟨_, rfl⟩
  obtain ⟨gx, hgx⟩ : ∃ g, g = w.heap.size := ⟨_, rfl⟩
  have bx : Below w.heap.size w W0 := by rw [hW0]; exact below_alloc6 w _
  have px : Cells W0 gx 26 #[.bool v1, .int .u64 (h1 : Int), .int .u64 (l1 : Int), .bool v2, .int .u64 (h2 : Int), .int .u64 (l2 : Int)] := by rw [hW0, hgx]; exact heap_alloc_new w _
  have B0 := Lib.hid (show Below w.heap.size w W0 from bx)
  have Px0 := Lib.hid (show Cells W0 gx 26 #[.bool v1, .int .u64 (h1 : Int), .int .u64 (l1 : Int), .bool v2, .int .u64 (h2 : Int), .int .u64 (l2 : Int)] from px)
  have HK := Lib.hid H.keep
  have HL := Lib.hid (fun (W : World) (hW : T W) => awk14 H W hW)
  have K0 := Lib.hid (H.keep w W0 hT B0.out)
  by_cases hl : 60000 < s.size
  · have d0 : decide ((60000 : Int) < (s.size : Int)) = true := by simp; omega
    have nd : (60000 : Int) < (s.size : Int) := by omega
    clear hl
    have ex : gx = w.heap.size := by exact hgx
    have HW0 := Lib.hid hW0
    have Ex := Lib.hid ex
    clear hW0 hgx ex bx px
    go_enter Tryd.func7, Tryd.ntmps7
    go_upto_region 1 with fail
    rw [← HW0.out, ← Ex.out]
    clear HW0 Ex
    go_wp2_with fail
    refine (HL.out _ K0.out).mono ?_
    rintro e w99 ⟨rfl, hb⟩
    have BZ := Lib.hid (B0.out.trans (hb.mono B0.out.size))
    clear hb
    go_wp2_with fail
    go_ret
    exact ⟨rfl, BZ.out⟩
  have d0 : decide ((60000 : Int) < (s.size : Int)) = false := by simp; omega
  have nd : ¬ (60000 : Int) < (s.size : Int) := by omega
  obtain ⟨S, hS⟩ : ∃ L, L = s.data.toList := ⟨_, rfl⟩
  have hlen : S.length = s.size := by rw [hS]; show s.data.toList.length = s.data.size; simp only [Array.length_toList]
  have hsL : s = str S := by rw [hS]; exact (str_of s).symm
  obtain ⟨R, hR⟩ : ∃ R, R = decT ⟨v1, h1, l1⟩ ⟨v2, h2, l2⟩ S := ⟨_, rfl⟩
  have f1 := fun (W : World) (hW : T W) => show Calls Tryd.prog 10 #[.agg #[.bool v1, .int .u64 (h1 : Int), .int .u64 (l1 : Int)], .agg #[.bool v2, .int .u64 (h2 : Int), .int .u64 (l2 : Int)], .string s] W (DecTP W R) from by rw [hsL, hR]; exact H.dec v1 v2 h1 l1 h2 l2 S W hW ha hb (by omega)
  by_cases he : R.2 ≠ 0
  · have hz : R = (zeroT, R.2) := by
      have hb2 := decT_bad (a := ⟨v1, h1, l1⟩) (b := ⟨v2, h2, l2⟩) (S := S) (by rw [← hR]; exact he)
      rw [← hR] at hb2
      exact Prod.ext hb2 rfl
    obtain ⟨er, her⟩ : ∃ e, e = R.2 := ⟨_, rfl⟩
    rw [← her] at he hz
    have e1 : ((er : Int) != 0) = true := by simp; omega
    have H1 := Lib.hid (fun (W : World) (hW : T W) => show Calls Tryd.prog 10 #[.agg #[.bool v1, .int .u64 (h1 : Int), .int .u64 (l1 : Int)], .agg #[.bool v2, .int .u64 (h2 : Int), .int .u64 (l2 : Int)], .string s] W fun e w' => ∃ A1 c1, e = .returned (.tuple #[.agg #[.int .i64 0, .int .i64 0, .int .u32 0, .int .u32 0, .int .i64 0, .int .i64 0, .int .i64 0, .slice A1 0 c1, .string ⟨#[]⟩], .int .i64 (er : Int)]) ∧ Below W.heap.size W w' from by
      have := f1 W hW
      rw [hz] at this
      refine this.mono ?_
      rintro e w' ⟨A1, c1, h1, -, -, h4⟩
      exact ⟨A1, c1, h1, h4⟩)
    have HSM := Lib.hid (fun (A1 : Option Addr) (c1 : Nat) (W : World) => show Calls Tryd.prog 12 #[.agg #[.int .i64 0, .int .i64 0, .int .u32 0, .int .u32 0, .int .i64 0, .int .i64 0, .int .i64 0, .slice A1 0 c1, .string ⟨#[]⟩], .agg #[.int .i64 0, .int .i64 0, .int .u32 0, .int .u32 0, .int .i64 0, .int .i64 0, .int .i64 0, .slice none 0 0, .string ⟨#[]⟩]] W fun e w' => e = .returned (.bool true) ∧ Below W.heap.size W w' from same14_any zeroT A1 none c1 0 ⟨#[]⟩ W (RowL.nil _ _) (RowL.nil _ _) (by decide))
    clear hS hlen hsL hl hR hT f1 her hz he
    have ex : gx = w.heap.size := by exact hgx
    have HW0 := Lib.hid hW0
    have Ex := Lib.hid ex
    clear hW0 hgx ex bx px
    go_enter Tryd.func7, Tryd.ntmps7
    go_upto_region 1 with fail
    rw [← HW0.out, ← Ex.out]
    clear HW0 Ex
    have xx0 := (Cells.cell Px0.out 0).trans (show _ = some (Value.bool v1) from rfl)
    have xx1 := (Cells.cell Px0.out 1).trans (show _ = some (Value.int .u64 (h1 : Int)) from rfl)
    have xx2 := (Cells.cell Px0.out 2).trans (show _ = some (Value.int .u64 (l1 : Int)) from rfl)
    have xx3 := (Cells.cell Px0.out 3).trans (show _ = some (Value.bool v2) from rfl)
    have xx4 := (Cells.cell Px0.out 4).trans (show _ = some (Value.int .u64 (h2 : Int)) from rfl)
    have xx5 := (Cells.cell Px0.out 5).trans (show _ = some (Value.int .u64 (l2 : Int)) from rfl)
    go_wp2_with fail
    refine (H1.out _ K0.out).mono ?_
    rintro e w1 ⟨A1, c1, rfl, hb⟩
    clear H1 xx0 xx1 xx2 xx3 xx4 xx5
    have Px1 := Lib.hid (Cells.kept Px0.out hb Px0.out.lt)
    have K1 := Lib.hid (HK.out _ _ K0.out hb)
    have B1 := Lib.hid (B0.out.trans (hb.mono B0.out.size))
    clear hb Px0 K0 B0
    go_upto_region 4 with fail
    obtain ⟨W2, hW⟩ : ∃ W, W = w1.alloc (.cells #[.int .i64 0, .int .i64 0, .int .u32 0, .int .u32 0, .int .i64 0, .int .i64 0, .int .i64 0, .slice A1 0 c1, .string ⟨#[]⟩] 31) := ⟨_, rfl⟩
    obtain ⟨ga, hg⟩ : ∃ g, g = w1.heap.size := ⟨_, rfl⟩
    have Na := Lib.hid (show Cells W2 ga 31 #[.int .i64 0, .int .i64 0, .int .u32 0, .int .u32 0, .int .i64 0, .int .i64 0, .int .i64 0, .slice A1 0 c1, .string ⟨#[]⟩] by rw [hW, hg]; exact heap_alloc_new w1 _)
    have hb : Below w1.heap.size w1 W2 := by rw [hW]; exact below_alloc6 w1 _
    rw [← hW, ← hg]
    clear hW hg
    have Px2 := Lib.hid (Cells.kept Px1.out hb Px1.out.lt)
    have K2 := Lib.hid (HK.out _ _ K1.out hb)
    have B2 := Lib.hid (B1.out.trans (hb.mono B1.out.size))
    clear hb Px1 K1 B1
    have Pa2 := Na
    clear Na
    have xa0 := (Cells.cell Pa2.out 0).trans (show _ = some (Value.int .i64 0) from rfl)
    have xa1 := (Cells.cell Pa2.out 1).trans (show _ = some (Value.int .i64 0) from rfl)
    have xa2 := (Cells.cell Pa2.out 2).trans (show _ = some (Value.int .u32 0) from rfl)
    have xa3 := (Cells.cell Pa2.out 3).trans (show _ = some (Value.int .u32 0) from rfl)
    have xa4 := (Cells.cell Pa2.out 4).trans (show _ = some (Value.int .i64 0) from rfl)
    have xa5 := (Cells.cell Pa2.out 5).trans (show _ = some (Value.int .i64 0) from rfl)
    have xa6 := (Cells.cell Pa2.out 6).trans (show _ = some (Value.int .i64 0) from rfl)
    have xa7 := (Cells.cell Pa2.out 7).trans (show _ = some (Value.slice A1 0 c1) from rfl)
    have xa8 := (Cells.cell Pa2.out 8).trans (show _ = some (Value.string ⟨#[]⟩) from rfl)
    go_wp2_with fail
    refine (HSM.out _ _ _).mono ?_
    rintro e w3 ⟨rfl, hb⟩
    clear HSM xa0 xa1 xa2 xa3 xa4 xa5 xa6 xa7 xa8
    have Px3 := Lib.hid (Cells.kept Px2.out hb Px2.out.lt)
    have Pa3 := Lib.hid (Cells.kept Pa2.out hb Pa2.out.lt)
    have K3 := Lib.hid (HK.out _ _ K2.out hb)
    have B3 := Lib.hid (B2.out.trans (hb.mono B2.out.size))
    clear hb Px2 Pa2 K2 B2
    go_wp2_with fail
    refine (HL.out _ K3.out).mono ?_
    rintro e w99 ⟨rfl, hb⟩
    have BZ := Lib.hid (B3.out.trans (hb.mono B3.out.size))
    clear hb
    go_wp2_with fail
    go_ret
    exact ⟨rfl, BZ.out⟩
  have he0 : R.2 = 0 := Classical.not_not.1 he
  obtain ⟨t, ht⟩ : ∃ t, t = R.1 := ⟨_, rfl⟩
  have hdt : decT ⟨v1, h1, l1⟩ ⟨v2, h2, l2⟩ S = (t, 0) := by rw [← hR, ht]; exact Prod.ext rfl he0
  have hin := decT_in hdt
  have hpay := hd_pay hdt
  obtain ⟨U, henc, hft, hUl⟩ := enc_decT hdt (by omega)
  have hU0 := dec_encT hft henc
  have hsum := encT_sum henc
  have hnl : t.ops.length ≤ 20 := by have := decT_ops ⟨v1, h1, l1⟩ ⟨v2, h2, l2⟩ S; rw [← hR, ← ht] at this; exact this
  obtain ⟨q, hq⟩ : ∃ q, q = str U := ⟨_, rfl⟩
  have hqs : q.size = U.length := by rw [hq, str_size]
  obtain ⟨src, dst, sq, ak, fl, win, urg, l, pay⟩ := t
  obtain ⟨D, hD⟩ : ∃ Y, Y = str pay := ⟨_, rfl⟩
  obtain ⟨n, hn⟩ : ∃ n, n = l.length := ⟨_, rfl⟩
  have hz : R = (⟨src, dst, sq, ak, fl, win, urg, l, pay⟩, 0) := by rw [ht]; exact Prod.ext rfl he0
  have H1 := Lib.hid (fun (W : World) (hW : T W) => show Calls Tryd.prog 10 #[.agg #[.bool v1, .int .u64 (h1 : Int), .int .u64 (l1 : Int)], .agg #[.bool v2, .int .u64 (h2 : Int), .int .u64 (l2 : Int)], .string s] W fun e w' => ∃ A1 c1, e = .returned (.tuple #[.agg #[.int .i64 src, .int .i64 dst, .int .u32 (sq : Int), .int .u32 (ak : Int), .int .i64 fl, .int .i64 win, .int .i64 urg, .slice A1 n c1, .string D], .int .i64 0]) ∧ RowL EOpt w' A1 l ∧ (A1 = none → c1 = 0) ∧ Below W.heap.size W w' from by
    have := f1 W hW
    rw [hz] at this
    refine this.mono ?_
    rintro e w' ⟨A1, c1, h1, h2, h3, h4⟩
    refine ⟨A1, c1, ?_, h2, h3, h4⟩
    rw [h1, hn, hD]
    rfl)
  have H2 := Lib.hid (fun (A1 : Option Addr) (c1 : Nat) (W : World) (hW : T W) (h : RowL EOpt W A1 l) (hA : A1 = none → c1 = 0) => show Calls Tryd.prog 14 #[.agg #[.bool v1, .int .u64 (h1 : Int), .int .u64 (l1 : Int)], .agg #[.bool v2, .int .u64 (h2 : Int), .int .u64 (l2 : Int)], .agg #[.int .i64 src, .int .i64 dst, .int .u32 (sq : Int), .int .u32 (ak : Int), .int .i64 fl, .int .i64 win, .int .i64 urg, .slice A1 n c1, .string D]] W fun e w' => e = .returned (.tuple #[.string q, .int .i64 0]) ∧ Below W.heap.size W w' from by
    have := H.enc v1 v2 h1 l1 h2 l2 ⟨src, dst, sq, ak, fl, win, urg, l, pay⟩ A1 c1 W hW ha hb ⟨hin, h, Nat.le_trans hnl (by decide), hA⟩ (Nat.le_trans (Nat.le_of_lt_succ (by show pay.length < 60001; dsimp only at hpay; omega)) (by decide : 60000 ≤ 1000000))
    rw [henc] at this
    rw [hn, hD, hq]
    exact this)
  have H3 := Lib.hid (fun (W : World) (hW : T W) => show Calls Tryd.prog 10 #[.agg #[.bool v1, .int .u64 (h1 : Int), .int .u64 (l1 : Int)], .agg #[.bool v2, .int .u64 (h2 : Int), .int .u64 (l2 : Int)], .string q] W fun e w' => ∃ A2 c2, e = .returned (.tuple #[.agg #[.int .i64 src, .int .i64 dst, .int .u32 (sq : Int), .int .u32 (ak : Int), .int .i64 fl, .int .i64 win, .int .i64 urg, .slice A2 n c2, .string D], .int .i64 0]) ∧ RowL EOpt w' A2 l ∧ Below W.heap.size W w' from by
    have := H.dec v1 v2 h1 l1 h2 l2 U W hW ha hb (by omega)
    rw [hU0.1, ← hq] at this
    refine this.mono ?_
    rintro e w' ⟨A2, c2, h1, h2, -, h4⟩
    refine ⟨A2, c2, ?_, h2, h4⟩
    rw [h1, hn, hD]
    rfl)
  replace hnl : l.length ≤ 1000000 := Nat.le_trans hnl (by decide)
  have HSM := Lib.hid (fun (A1 A2 : Option Addr) (c1 c2 : Nat) (W : World) (h1 : RowL EOpt W A1 l) (h2 : RowL EOpt W A2 l) => show Calls Tryd.prog 12 #[.agg #[.int .i64 src, .int .i64 dst, .int .u32 (sq : Int), .int .u32 (ak : Int), .int .i64 fl, .int .i64 win, .int .i64 urg, .slice A1 n c1, .string D], .agg #[.int .i64 src, .int .i64 dst, .int .u32 (sq : Int), .int .u32 (ak : Int), .int .i64 fl, .int .i64 win, .int .i64 urg, .slice A2 n c2, .string D]] W fun e w' => e = .returned (.bool true) ∧ Below W.heap.size W w' from by rw [hn]; exact same14_any ⟨src, dst, sq, ak, fl, win, urg, l, pay⟩ A1 A2 c1 c2 D W h1 h2 hnl)
  have hfit : fitU ⟨v1, h1, l1⟩ ⟨v2, h2, l2⟩ := (encT_ok henc).1
  obtain ⟨E, hE⟩ : ∃ E, E = str (psU ⟨v1, h1, l1⟩ ⟨v2, h2, l2⟩ 6 U.length) := ⟨_, rfl⟩
  have hEs : E.size ≤ 40 := by rw [hE, str_size]; exact psU_size _ _ _ _
  have hPS := fun (W : World) (h : Sh W) => ppseudoT ⟨v1, h1, l1⟩ ⟨v2, h2, l2⟩ U.length hfit ha hb (by omega) W h
  rw [← hE, ← hqs] at hPS
  have HPS := Lib.hid (fun (W : World) (hW : T W) => show Calls Tryd.prog 23 #[.agg #[.bool v1, .int .u64 (h1 : Int), .int .u64 (l1 : Int)], .agg #[.bool v2, .int .u64 (h2 : Int), .int .u64 (l2 : Int)], .int .i64 6, .int .i64 (q.size : Int)] W fun e w' => e = .returned (.string E) ∧ Below W.heap.size W w' from hPS W (HSH W hW))
  have HSU := Lib.hid (fun (W : World) => show Calls Tryd.prog 22 #[.string (E ++ q)] W fun e w' => e = .returned (.int .i64 0) ∧ W = w' from by
    have := sum_any (E ++ q) W (by rw [ByteArray.size_append]; omega)
    rw [show ((E ++ q).data.toList) = psU ⟨v1, h1, l1⟩ ⟨v2, h2, l2⟩ 6 U.length ++ U by rw [hE, hq, str_append]; exact str_toList _, hsum] at this
    exact this)
  have hq6 : q.size ≤ 60000 := by omega
  have ra0 : (9223372036854775807 < E.size + q.size) = False := by simp only [eq_iff_iff, iff_false]; omega
  clear hS hlen hsL hl hR hT f1 he he0 ht hdt hin hpay henc hft hUl hU0 hsum hnl hq hqs hD hn hz hfit hE hEs hPS ha hb
  have ex : gx = w.heap.size := by exact hgx
  have HW0 := Lib.hid hW0
  have Ex := Lib.hid ex
  clear hW0 hgx ex bx px
  go_enter Tryd.func7, Tryd.ntmps7
  go_upto_region 1 with fail
  rw [← HW0.out, ← Ex.out]
  clear HW0 Ex
  have xx0 := (Cells.cell Px0.out 0).trans (show _ = some (Value.bool v1) from rfl)
  have xx1 := (Cells.cell Px0.out 1).trans (show _ = some (Value.int .u64 (h1 : Int)) from rfl)
  have xx2 := (Cells.cell Px0.out 2).trans (show _ = some (Value.int .u64 (l1 : Int)) from rfl)
  have xx3 := (Cells.cell Px0.out 3).trans (show _ = some (Value.bool v2) from rfl)
  have xx4 := (Cells.cell Px0.out 4).trans (show _ = some (Value.int .u64 (h2 : Int)) from rfl)
  have xx5 := (Cells.cell Px0.out 5).trans (show _ = some (Value.int .u64 (l2 : Int)) from rfl)
  go_wp2_with fail
  refine (H1.out _ K0.out).mono ?_
  rintro e w1 ⟨A1, c1, rfl, hr1, hA1, hb⟩
  have Ra1n := Lib.hid hr1
  clear H1 xx0 xx1 xx2 xx3 xx4 xx5
  have Px1 := Lib.hid (Cells.kept Px0.out hb Px0.out.lt)
  have K1 := Lib.hid (HK.out _ _ K0.out hb)
  have B1 := Lib.hid (B0.out.trans (hb.mono B0.out.size))
  clear hb Px0 K0 B0
  have Ra1 := Ra1n
  clear Ra1n hr1
  have HA1 := Lib.hid hA1
  clear hA1
  go_upto_region 4 with fail
  obtain ⟨W2, hW⟩ : ∃ W, W = w1.alloc (.cells #[.int .i64 src, .int .i64 dst, .int .u32 (sq : Int), .int .u32 (ak : Int), .int .i64 fl, .int .i64 win, .int .i64 urg, .slice A1 n c1, .string D] 31) := ⟨_, rfl⟩
  obtain ⟨ga, hg⟩ : ∃ g, g = w1.heap.size := ⟨_, rfl⟩
  have Na := Lib.hid (show Cells W2 ga 31 #[.int .i64 src, .int .i64 dst, .int .u32 (sq : Int), .int .u32 (ak : Int), .int .i64 fl, .int .i64 win, .int .i64 urg, .slice A1 n c1, .string D] by rw [hW, hg]; exact heap_alloc_new w1 _)
  have hb : Below w1.heap.size w1 W2 := by rw [hW]; exact below_alloc6 w1 _
  rw [← hW, ← hg]
  clear hW hg
  have Px2 := Lib.hid (Cells.kept Px1.out hb Px1.out.lt)
  have Ra2 := Lib.hid (Ra1.out.kept hb)
  have K2 := Lib.hid (HK.out _ _ K1.out hb)
  have B2 := Lib.hid (B1.out.trans (hb.mono B1.out.size))
  clear hb Px1 Ra1 K1 B1
  have Pa2 := Na
  clear Na
  have xx0 := (Cells.cell Px2.out 0).trans (show _ = some (Value.bool v1) from rfl)
  have xx1 := (Cells.cell Px2.out 1).trans (show _ = some (Value.int .u64 (h1 : Int)) from rfl)
  have xx2 := (Cells.cell Px2.out 2).trans (show _ = some (Value.int .u64 (l1 : Int)) from rfl)
  have xx3 := (Cells.cell Px2.out 3).trans (show _ = some (Value.bool v2) from rfl)
  have xx4 := (Cells.cell Px2.out 4).trans (show _ = some (Value.int .u64 (h2 : Int)) from rfl)
  have xx5 := (Cells.cell Px2.out 5).trans (show _ = some (Value.int .u64 (l2 : Int)) from rfl)
  have xa0 := (Cells.cell Pa2.out 0).trans (show _ = some (Value.int .i64 src) from rfl)
  have xa1 := (Cells.cell Pa2.out 1).trans (show _ = some (Value.int .i64 dst) from rfl)
  have xa2 := (Cells.cell Pa2.out 2).trans (show _ = some (Value.int .u32 (sq : Int)) from rfl)
  have xa3 := (Cells.cell Pa2.out 3).trans (show _ = some (Value.int .u32 (ak : Int)) from rfl)
  have xa4 := (Cells.cell Pa2.out 4).trans (show _ = some (Value.int .i64 fl) from rfl)
  have xa5 := (Cells.cell Pa2.out 5).trans (show _ = some (Value.int .i64 win) from rfl)
  have xa6 := (Cells.cell Pa2.out 6).trans (show _ = some (Value.int .i64 urg) from rfl)
  have xa7 := (Cells.cell Pa2.out 7).trans (show _ = some (Value.slice A1 n c1) from rfl)
  have xa8 := (Cells.cell Pa2.out 8).trans (show _ = some (Value.string D) from rfl)
  go_wp2_with fail
  refine (H2.out _ _ _ K2.out Ra2.out HA1.out).mono ?_
  rintro e w3 ⟨rfl, hb⟩
  clear H2 HA1 xx0 xx1 xx2 xx3 xx4 xx5 xa0 xa1 xa2 xa3 xa4 xa5 xa6 xa7 xa8
  have Px3 := Lib.hid (Cells.kept Px2.out hb Px2.out.lt)
  have Pa3 := Lib.hid (Cells.kept Pa2.out hb Pa2.out.lt)
  have Ra3 := Lib.hid (Ra2.out.kept hb)
  have K3 := Lib.hid (HK.out _ _ K2.out hb)
  have B3 := Lib.hid (B2.out.trans (hb.mono B2.out.size))
  clear hb Px2 Pa2 Ra2 K2 B2
  have xx0 := (Cells.cell Px3.out 0).trans (show _ = some (Value.bool v1) from rfl)
  have xx1 := (Cells.cell Px3.out 1).trans (show _ = some (Value.int .u64 (h1 : Int)) from rfl)
  have xx2 := (Cells.cell Px3.out 2).trans (show _ = some (Value.int .u64 (l1 : Int)) from rfl)
  have xx3 := (Cells.cell Px3.out 3).trans (show _ = some (Value.bool v2) from rfl)
  have xx4 := (Cells.cell Px3.out 4).trans (show _ = some (Value.int .u64 (h2 : Int)) from rfl)
  have xx5 := (Cells.cell Px3.out 5).trans (show _ = some (Value.int .u64 (l2 : Int)) from rfl)
  go_wp2_with fail
  refine (H3.out _ K3.out).mono ?_
  rintro e w4 ⟨A2, c2, rfl, hr2, hb⟩
  have Rb4n := Lib.hid hr2
  clear H3 xx0 xx1 xx2 xx3 xx4 xx5
  have Px4 := Lib.hid (Cells.kept Px3.out hb Px3.out.lt)
  have Pa4 := Lib.hid (Cells.kept Pa3.out hb Pa3.out.lt)
  have Ra4 := Lib.hid (Ra3.out.kept hb)
  have K4 := Lib.hid (HK.out _ _ K3.out hb)
  have B4 := Lib.hid (B3.out.trans (hb.mono B3.out.size))
  clear hb Px3 Pa3 Ra3 K3 B3
  have Rb4 := Rb4n
  clear Rb4n hr2
  go_upto_region 8 with fail
  obtain ⟨W5, hW⟩ : ∃ W, W = w4.alloc (.cells #[.int .i64 src, .int .i64 dst, .int .u32 (sq : Int), .int .u32 (ak : Int), .int .i64 fl, .int .i64 win, .int .i64 urg, .slice A2 n c2, .string D] 31) := ⟨_, rfl⟩
  obtain ⟨gb, hg⟩ : ∃ g, g = w4.heap.size := ⟨_, rfl⟩
  have Nb := Lib.hid (show Cells W5 gb 31 #[.int .i64 src, .int .i64 dst, .int .u32 (sq : Int), .int .u32 (ak : Int), .int .i64 fl, .int .i64 win, .int .i64 urg, .slice A2 n c2, .string D] by rw [hW, hg]; exact heap_alloc_new w4 _)
  have hb : Below w4.heap.size w4 W5 := by rw [hW]; exact below_alloc6 w4 _
  rw [← hW, ← hg]
  clear hW hg
  have Px5 := Lib.hid (Cells.kept Px4.out hb Px4.out.lt)
  have Pa5 := Lib.hid (Cells.kept Pa4.out hb Pa4.out.lt)
  have Ra5 := Lib.hid (Ra4.out.kept hb)
  have Rb5 := Lib.hid (Rb4.out.kept hb)
  have K5 := Lib.hid (HK.out _ _ K4.out hb)
  have B5 := Lib.hid (B4.out.trans (hb.mono B4.out.size))
  clear hb Px4 Pa4 Ra4 Rb4 K4 B4
  have Pb5 := Nb
  clear Nb
  have xa0 := (Cells.cell Pa5.out 0).trans (show _ = some (Value.int .i64 src) from rfl)
  have xa1 := (Cells.cell Pa5.out 1).trans (show _ = some (Value.int .i64 dst) from rfl)
  have xa2 := (Cells.cell Pa5.out 2).trans (show _ = some (Value.int .u32 (sq : Int)) from rfl)
  have xa3 := (Cells.cell Pa5.out 3).trans (show _ = some (Value.int .u32 (ak : Int)) from rfl)
  have xa4 := (Cells.cell Pa5.out 4).trans (show _ = some (Value.int .i64 fl) from rfl)
  have xa5 := (Cells.cell Pa5.out 5).trans (show _ = some (Value.int .i64 win) from rfl)
  have xa6 := (Cells.cell Pa5.out 6).trans (show _ = some (Value.int .i64 urg) from rfl)
  have xa7 := (Cells.cell Pa5.out 7).trans (show _ = some (Value.slice A1 n c1) from rfl)
  have xa8 := (Cells.cell Pa5.out 8).trans (show _ = some (Value.string D) from rfl)
  have xb0 := (Cells.cell Pb5.out 0).trans (show _ = some (Value.int .i64 src) from rfl)
  have xb1 := (Cells.cell Pb5.out 1).trans (show _ = some (Value.int .i64 dst) from rfl)
  have xb2 := (Cells.cell Pb5.out 2).trans (show _ = some (Value.int .u32 (sq : Int)) from rfl)
  have xb3 := (Cells.cell Pb5.out 3).trans (show _ = some (Value.int .u32 (ak : Int)) from rfl)
  have xb4 := (Cells.cell Pb5.out 4).trans (show _ = some (Value.int .i64 fl) from rfl)
  have xb5 := (Cells.cell Pb5.out 5).trans (show _ = some (Value.int .i64 win) from rfl)
  have xb6 := (Cells.cell Pb5.out 6).trans (show _ = some (Value.int .i64 urg) from rfl)
  have xb7 := (Cells.cell Pb5.out 7).trans (show _ = some (Value.slice A2 n c2) from rfl)
  have xb8 := (Cells.cell Pb5.out 8).trans (show _ = some (Value.string D) from rfl)
  go_wp2_with fail
  refine (HSM.out _ _ _ _ _ Ra5.out Rb5.out).mono ?_
  rintro e w6 ⟨rfl, hb⟩
  clear HSM xa0 xa1 xa2 xa3 xa4 xa5 xa6 xa7 xa8 xb0 xb1 xb2 xb3 xb4 xb5 xb6 xb7 xb8
  have Px6 := Lib.hid (Cells.kept Px5.out hb Px5.out.lt)
  have Pa6 := Lib.hid (Cells.kept Pa5.out hb Pa5.out.lt)
  have Pb6 := Lib.hid (Cells.kept Pb5.out hb Pb5.out.lt)
  have Ra6 := Lib.hid (Ra5.out.kept hb)
  have Rb6 := Lib.hid (Rb5.out.kept hb)
  have K6 := Lib.hid (HK.out _ _ K5.out hb)
  have B6 := Lib.hid (B5.out.trans (hb.mono B5.out.size))
  clear hb Px5 Pa5 Pb5 Ra5 Rb5 K5 B5
  have xx0 := (Cells.cell Px6.out 0).trans (show _ = some (Value.bool v1) from rfl)
  have xx1 := (Cells.cell Px6.out 1).trans (show _ = some (Value.int .u64 (h1 : Int)) from rfl)
  have xx2 := (Cells.cell Px6.out 2).trans (show _ = some (Value.int .u64 (l1 : Int)) from rfl)
  have xx3 := (Cells.cell Px6.out 3).trans (show _ = some (Value.bool v2) from rfl)
  have xx4 := (Cells.cell Px6.out 4).trans (show _ = some (Value.int .u64 (h2 : Int)) from rfl)
  have xx5 := (Cells.cell Px6.out 5).trans (show _ = some (Value.int .u64 (l2 : Int)) from rfl)
  go_wp2_with fail
  refine (HPS.out _ K6.out).mono ?_
  rintro e w7 ⟨rfl, hb⟩
  clear HPS xx0 xx1 xx2 xx3 xx4 xx5
  have Px7 := Lib.hid (Cells.kept Px6.out hb Px6.out.lt)
  have Pa7 := Lib.hid (Cells.kept Pa6.out hb Pa6.out.lt)
  have Pb7 := Lib.hid (Cells.kept Pb6.out hb Pb6.out.lt)
  have Ra7 := Lib.hid (Ra6.out.kept hb)
  have Rb7 := Lib.hid (Rb6.out.kept hb)
  have K7 := Lib.hid (HK.out _ _ K6.out hb)
  have B7 := Lib.hid (B6.out.trans (hb.mono B6.out.size))
  clear hb Px6 Pa6 Pb6 Ra6 Rb6 K6 B6
  go_wp2_with fail
  refine (HSU.out _).mono ?_
  rintro e w7x ⟨rfl, rfl⟩
  go_wp2_with fail
  refine (HL.out _ K7.out).mono ?_
  rintro e w99 ⟨rfl, hb⟩
  have BZ := Lib.hid (B7.out.trans (hb.mono B7.out.size))
  clear hb
  go_wp2_with fail
  go_ret
  exact ⟨rfl, BZ.out⟩
end Go.Proofs.YtmfoionlapcgkaaDoor
