/- Ipv6RoundTrip holds: for every packet and every string behind it the law about Decode of Encode returns true and leaves memory as it was; no conditions. -/
import Derived.Test.YtjjldolafnfpoaaRows
import Derived.Test.YtjjldolafnfpoaaChecked
import Derived.Deep.Cut
import Derived.Deep.WholeRow
import Derived.BigQuiet
import Derived.Test.YtjjldolafnfpoaaPE44
namespace Go.Proofs.Ytjjldolafnfpoaa.ipv6RoundTrip
open Go.ChangeShapes Go.WideShapes Go.ChangeAt Go.RowKit
open Go.ChangeMaps (open_string shut_string)
set_option linter.unusedVariables false

theorem own : ownKnob Try.prog.godebug = none := by kernel_rfl
theorem laidOut : laidOutB Try.prog = true := by kernel_rfl
set_option maxHeartbeats 8000000 in
set_option maxRecDepth 20000 in
theorem walk (x : Ip6R) (A : Option Addr) (c : Nat) (s : ByteArray) (w : World) (hw : ip6Wf x) (h : RowL EOpt w A x.exts) (hc : A = none → c = 0) (hs : s.size ≤ maxLen) :
    Calls Try.prog 7 #[.agg (ip6C x x.exts.length A c (str x.pay)), .string s] w fun e w' => e = .returned (.bool true) ∧ Below w.heap.size w w' := by
  obtain ⟨p, hp⟩ : ∃ q, q = x := ⟨_, rfl⟩
  have HPX := Lib.hid hp
  have HWF := Lib.hid (show ip6Wf p by rw [hp]; exact hw)
  have HOP := Lib.hid (show RowL EOpt w A p.exts by rw [hp]; exact h)
  have HC0 := Lib.hid hc
  obtain ⟨cls, lab, hops, nxt, ⟨sv, sh, sl⟩, ⟨dv, dh, dl⟩, l, frg, id, off, more, pay⟩ := x
  unfold ip6C
  dsimp only
  obtain ⟨n, hn⟩ : ∃ n, n = l.length := ⟨_, rfl⟩
  obtain ⟨P, hP⟩ : ∃ P, P = str pay := ⟨_, rfl⟩
  have hPs : P.size = pay.length := by rw [hP, str_size]
  have HPA := Lib.hid (show #[.int .i64 cls, .int .i64 lab, .int .i64 hops, .int .i64 nxt, .bool sv, .int .u64 (sh : Int), .int .u64 (sl : Int), .bool dv, .int .u64 (dh : Int), .int .u64 (dl : Int), .slice A n c, .bool frg, .int .i64 id, .int .i64 off, .bool more, .string P] = ip6C p p.exts.length A c (str p.pay) by rw [hn, hP, hp]; rfl)
  have HPL := Lib.hid (show p.pay.length = P.size ∧ p.exts.length = n ∧ P.size ≤ maxLen ∧ n ≤ maxLen by rw [hp]; exact ⟨hPs.symm, hn.symm, by rw [hPs]; exact hw.2.2.2.1, by rw [hn]; exact hw.2.2.2.2.1⟩)
  obtain ⟨lg, hlg⟩ : ∃ b : Bool, b = longB l P.size 3000 := ⟨_, rfl⟩
  have HLG := Lib.hid (fun (W : World) (hb : Below w.heap.size w W) => show Calls Try.prog 14 #[.agg #[.int .i64 cls, .int .i64 lab, .int .i64 hops, .int .i64 nxt, .bool sv, .int .u64 (sh : Int), .int .u64 (sl : Int), .bool dv, .int .u64 (dh : Int), .int .u64 (dl : Int), .slice A n c, .bool frg, .int .i64 id, .int .i64 off, .bool more, .string P], .int .i64 3000] W fun e w' => e = .returned (.bool lg) ∧ Below W.heap.size W w' from by
    rw [hlg, hn]
    exact rlong12_any cls lab hops nxt id off sv dv frg more sh sl dh dl l A c P 3000 3000 rfl W (h.kept hb) (Nat.le_trans hw.2.2.2.2.1 (by decide)) (fun y hy => Nat.le_trans (hw.2.2.2.2.2 y hy).2 (by decide)) (by rw [hPs]; exact Nat.le_trans hw.2.2.2.1 (by decide)))
  have HLB := Lib.hid (show lg = false → P.size ≤ 3000 ∧ n ≤ 10 by
    intro e
    rw [hlg] at e
    unfold longB at e
    rw [Bool.or_eq_false_iff] at e
    have h2 := of_decide_eq_false e.2
    omega)
  rw [← hn, ← hP]
  have HNP := Lib.hid (And.intro hn hP)
  clear hp hw h hc hn hP hPs hlg
  have B0 := Lib.hid (Below.refl w.heap.size w)
  cases lg
  rotate_left
  · go_enter Try.func7, Try.ntmps7
    go_upto_region 1 with fail
    obtain ⟨W1, hW1⟩ : ∃ W, W = w.alloc (.cells #[.int .i64 cls, .int .i64 lab, .int .i64 hops, .int .i64 nxt, .bool sv, .int .u64 (sh : Int), .int .u64 (sl : Int), .bool dv, .int .u64 (dh : Int), .int .u64 (dl : Int), .slice A n c, .bool frg, .int .i64 id, .int .i64 off, .bool more, .string P] 28) := ⟨_, rfl⟩
    obtain ⟨g0, hg0⟩ : ∃ g, g = w.heap.size := ⟨_, rfl⟩
    have X1 := Lib.hid (show Cells W1 g0 28 #[.int .i64 cls, .int .i64 lab, .int .i64 hops, .int .i64 nxt, .bool sv, .int .u64 (sh : Int), .int .u64 (sl : Int), .bool dv, .int .u64 (dh : Int), .int .u64 (dl : Int), .slice A n c, .bool frg, .int .i64 id, .int .i64 off, .bool more, .string P] by rw [hW1, hg0]; exact heap_alloc_new w _)
    have kW1 : Below w.heap.size w W1 := by rw [hW1]; exact below_alloc6 w _
    have B1 := Lib.hid (B0.out.trans (kW1.mono B0.out.size))
    rw [← hW1, ← hg0]
    clear hW1 hg0
    go_wp2_with fail
    refine (lv12 _).mono ?_
    rintro e w8 ⟨rfl, b8⟩
    have X8 := Lib.hid (X1.out.kept b8 X1.out.lt)
    have B8 := Lib.hid (B1.out.trans (b8.mono B1.out.size))
    clear b8
    clear X1 kW1
    go_wp2_with (refine wpList_load_row (by rfl) 28 _ (by rfl) g0 (by rfl) 28 #[.int .i64 cls, .int .i64 lab, .int .i64 hops, .int .i64 nxt, .bool sv, .int .u64 (sh : Int), .int .u64 (sl : Int), .bool dv, .int .u64 (dh : Int), .int .u64 (dl : Int), .slice A n c, .bool frg, .int .i64 id, .int .i64 off, .bool more, .string P] (0, 0) _ X8.out Try.underlying28 (by rfl) (by kernel_rfl) ?_)
    refine (HLG.out _ B8.out).mono ?_
    rintro e w2 ⟨rfl, b2⟩
    have X2 := Lib.hid (X8.out.kept b2 X8.out.lt)
    have B2 := Lib.hid (B8.out.trans (b2.mono B8.out.size))
    clear b2
    clear X8 HLG
    go_wp2_with fail
    go_ret
    exact ⟨rfl, B2.out⟩
  by_cases ha : 100 < s.size
  · have d0 : decide ((100 : Int) < (s.size : Int)) = true := by simp; omega
    have nd : (100 : Int) < (s.size : Int) := by omega
    clear ha
    go_enter Try.func7, Try.ntmps7
    go_upto_region 1 with fail
    obtain ⟨W1, hW1⟩ : ∃ W, W = w.alloc (.cells #[.int .i64 cls, .int .i64 lab, .int .i64 hops, .int .i64 nxt, .bool sv, .int .u64 (sh : Int), .int .u64 (sl : Int), .bool dv, .int .u64 (dh : Int), .int .u64 (dl : Int), .slice A n c, .bool frg, .int .i64 id, .int .i64 off, .bool more, .string P] 28) := ⟨_, rfl⟩
    obtain ⟨g0, hg0⟩ : ∃ g, g = w.heap.size := ⟨_, rfl⟩
    have X1 := Lib.hid (show Cells W1 g0 28 #[.int .i64 cls, .int .i64 lab, .int .i64 hops, .int .i64 nxt, .bool sv, .int .u64 (sh : Int), .int .u64 (sl : Int), .bool dv, .int .u64 (dh : Int), .int .u64 (dl : Int), .slice A n c, .bool frg, .int .i64 id, .int .i64 off, .bool more, .string P] by rw [hW1, hg0]; exact heap_alloc_new w _)
    have kW1 : Below w.heap.size w W1 := by rw [hW1]; exact below_alloc6 w _
    have B1 := Lib.hid (B0.out.trans (kW1.mono B0.out.size))
    rw [← hW1, ← hg0]
    clear hW1 hg0
    go_wp2_with fail
    refine (lv12 _).mono ?_
    rintro e w8 ⟨rfl, b8⟩
    have X8 := Lib.hid (X1.out.kept b8 X1.out.lt)
    have B8 := Lib.hid (B1.out.trans (b8.mono B1.out.size))
    clear b8
    clear X1 kW1
    go_wp2_with (refine wpList_load_row (by rfl) 28 _ (by rfl) g0 (by rfl) 28 #[.int .i64 cls, .int .i64 lab, .int .i64 hops, .int .i64 nxt, .bool sv, .int .u64 (sh : Int), .int .u64 (sl : Int), .bool dv, .int .u64 (dh : Int), .int .u64 (dl : Int), .slice A n c, .bool frg, .int .i64 id, .int .i64 off, .bool more, .string P] (0, 0) _ X8.out Try.underlying28 (by rfl) (by kernel_rfl) ?_)
    refine (HLG.out _ B8.out).mono ?_
    rintro e w2 ⟨rfl, b2⟩
    have X2 := Lib.hid (X8.out.kept b2 X8.out.lt)
    have B2 := Lib.hid (B8.out.trans (b2.mono B8.out.size))
    clear b2
    clear X8 HLG
    go_wp2_with fail
    go_ret
    exact ⟨rfl, B2.out⟩
  have d0 : decide ((100 : Int) < (s.size : Int)) = false := by simp; omega
  have nd : ¬ (100 : Int) < (s.size : Int) := by omega
  have hs1 : s.size ≤ 100 := by omega
  clear ha
  obtain ⟨hPm, hnm⟩ := HLB.out rfl
  have HOK := Lib.hid (fun (W : World) (hb : Below w.heap.size w W) => show ip6Ok W p A c from ⟨HWF.out, HOP.out.kept hb, HC0.out, by have h1 := HPL.out.2.1; omega, by have h1 := HPL.out.1; omega⟩)
  obtain ⟨er, her⟩ : ∃ e, e = (encX p).2 := ⟨_, rfl⟩
  obtain ⟨ES, hES⟩ : ∃ e, e = str (encX p).1 := ⟨_, rfl⟩
  have H1 := Lib.hid (fun (W : World) (hb : Below w.heap.size w W) => show Calls Try.prog 15 #[.agg #[.int .i64 cls, .int .i64 lab, .int .i64 hops, .int .i64 nxt, .bool sv, .int .u64 (sh : Int), .int .u64 (sl : Int), .bool dv, .int .u64 (dh : Int), .int .u64 (dl : Int), .slice A n c, .bool frg, .int .i64 id, .int .i64 off, .bool more, .string P]] W fun e w' => e = .returned (.tuple #[.string ES, .int .i64 (er : Int)]) ∧ Below W.heap.size W w' from by
    rw [HPA.out, her, hES]
    exact prog12.enc p A c W trivial (HOK.out W hb))
  by_cases he : er ≠ 0
  · have HES := Lib.hid (show ES = ⟨#[]⟩ by rw [hES, encX_bad (by rw [← her]; exact he)]; rfl)
    have z1 : ((er : Int) != 0) = true := by rw [bne_iff_ne]; omega
    rw [HES.out] at H1
    clear he her hES HOK HPA HPL HWF HOP HPX HNP HLB HC0
    go_enter Try.func7, Try.ntmps7
    go_upto_region 1 with fail
    obtain ⟨W1, hW1⟩ : ∃ W, W = w.alloc (.cells #[.int .i64 cls, .int .i64 lab, .int .i64 hops, .int .i64 nxt, .bool sv, .int .u64 (sh : Int), .int .u64 (sl : Int), .bool dv, .int .u64 (dh : Int), .int .u64 (dl : Int), .slice A n c, .bool frg, .int .i64 id, .int .i64 off, .bool more, .string P] 28) := ⟨_, rfl⟩
    obtain ⟨g0, hg0⟩ : ∃ g, g = w.heap.size := ⟨_, rfl⟩
    have X1 := Lib.hid (show Cells W1 g0 28 #[.int .i64 cls, .int .i64 lab, .int .i64 hops, .int .i64 nxt, .bool sv, .int .u64 (sh : Int), .int .u64 (sl : Int), .bool dv, .int .u64 (dh : Int), .int .u64 (dl : Int), .slice A n c, .bool frg, .int .i64 id, .int .i64 off, .bool more, .string P] by rw [hW1, hg0]; exact heap_alloc_new w _)
    have kW1 : Below w.heap.size w W1 := by rw [hW1]; exact below_alloc6 w _
    have B1 := Lib.hid (B0.out.trans (kW1.mono B0.out.size))
    rw [← hW1, ← hg0]
    clear hW1 hg0
    go_wp2_with fail
    refine (lv12 _).mono ?_
    rintro e w8 ⟨rfl, b8⟩
    have X8 := Lib.hid (X1.out.kept b8 X1.out.lt)
    have B8 := Lib.hid (B1.out.trans (b8.mono B1.out.size))
    clear b8
    clear X1 kW1
    go_wp2_with (refine wpList_load_row (by rfl) 28 _ (by rfl) g0 (by rfl) 28 #[.int .i64 cls, .int .i64 lab, .int .i64 hops, .int .i64 nxt, .bool sv, .int .u64 (sh : Int), .int .u64 (sl : Int), .bool dv, .int .u64 (dh : Int), .int .u64 (dl : Int), .slice A n c, .bool frg, .int .i64 id, .int .i64 off, .bool more, .string P] (0, 0) _ X8.out Try.underlying28 (by rfl) (by kernel_rfl) ?_)
    refine (HLG.out _ B8.out).mono ?_
    rintro e w2 ⟨rfl, b2⟩
    have X2 := Lib.hid (X8.out.kept b2 X8.out.lt)
    have B2 := Lib.hid (B8.out.trans (b2.mono B8.out.size))
    clear b2
    clear X8 HLG
    go_wp2_with (refine wpList_load_row (by rfl) 28 _ (by rfl) g0 (by rfl) 28 #[.int .i64 cls, .int .i64 lab, .int .i64 hops, .int .i64 nxt, .bool sv, .int .u64 (sh : Int), .int .u64 (sl : Int), .bool dv, .int .u64 (dh : Int), .int .u64 (dl : Int), .slice A n c, .bool frg, .int .i64 id, .int .i64 off, .bool more, .string P] (0, 0) _ X2.out Try.underlying28 (by rfl) (by kernel_rfl) ?_)
    refine (H1.out _ B2.out).mono ?_
    rintro e w3 ⟨rfl, b3⟩
    have B3 := Lib.hid (B2.out.trans (b3.mono B2.out.size))
    clear b3
    clear X2 H1
    go_wp2_with fail
    go_ret
    exact ⟨rfl, B3.out⟩
  have he0 : er = 0 := by omega
  have henc : encX p = ((encX p).1, 0) := by rw [show (0 : Nat) = (encX p).2 by rw [← her]; omega]
  have hft : fit6 p := ⟨HWF.out.2.1.1, HWF.out.2.1.2, HWF.out.2.2.1.1, HWF.out.2.2.1.2⟩
  obtain ⟨L, hL⟩ : ∃ L, L = s.data.toList := ⟨_, rfl⟩
  have hsL : s = str L := by rw [hL]; exact (str_of s).symm
  have hlen : L.length = s.size := by rw [hL]; show s.data.toList.length = s.data.size; simp only [Array.length_toList]
  obtain ⟨hd1, hd2, hd3⟩ := dec_enc6 henc hft L
  have hd4 := dec_cut6 henc hft
  have hsz : ES.size = (encX p).1.length := by rw [hES, str_size]
  have hE40 : 40 ≤ ES.size := by omega
  have hE6 : ES.size ≤ 66000 := by omega
  have HSS := Lib.hid (show ES ++ s = str ((encX p).1 ++ L) by rw [hES, hsL, str_append])
  have H2 := Lib.hid (fun (W : World) => show Calls Try.prog 11 #[.string (ES ++ s)] W (Dec6P W (p, 0)) from by
    rw [HSS.out, ← hd1]
    exact prog12.dec _ W trivial (by rw [List.length_append]; omega))
  obtain ⟨k1, hk1⟩ : ∃ k, k = ES.size - 1 := ⟨_, rfl⟩
  have kk : (ES.size : Int) - 1 = (k1 : Int) := by omega
  obtain ⟨E1, hE1⟩ : ∃ e, e = ES.extract 0 k1 := ⟨_, rfl⟩
  have hE1s : E1 = str ((encX p).1.take ((encX p).1.length - 1)) := by rw [hE1, extract_str11 ES _ hES, List.drop_zero, Nat.sub_zero, hk1, hsz]
  have hz5 : decX ((encX p).1.take ((encX p).1.length - 1)) = (zeroX, 1) := Prod.ext (decX_bad (by rw [hd4]; decide)) hd4
  have H3 := Lib.hid (fun (W : World) => show Calls Try.prog 11 #[.string E1] W (Dec6P W (zeroX, 1)) from by
    rw [hE1s, ← hz5]
    exact prog12.dec _ W trivial (by rw [List.length_take]; omega))
  have kk1 : (k1 : Int) ≤ (ES.size : Int) := by omega
  have kk2 : (0 : Int) ≤ (k1 : Int) := by omega
  have hE1' := hE1.symm
  have d40 : decide ((ES.size : Int) < 40) = false := by simp; omega
  have n40 : ¬ (ES.size : Int) < 40 := by omega
  have hss : (9223372036854775807 < ES.size + s.size) = False := by simp only [eq_iff_iff, iff_false]; omega
  have HSM := Lib.hid (fun (A1 A2 : Option Addr) (c1 c2 : Nat) (W : World) (h1 : RowL EOpt W A1 l) (h2 : RowL EOpt W A2 l) => rsame12_any cls lab hops nxt id off sv dv frg more sh sl dh dl l A1 A2 c1 c2 (str pay) W h1 h2 (by rw [← HNP.out.1]; omega))
  rw [← HNP.out.1, ← HNP.out.2] at HSM
  rw [HPX.out] at H2
  unfold Dec6P zeroX at H3
  unfold Dec6P at H2
  dsimp only at H2 H3
  rw [← HNP.out.1, ← HNP.out.2] at H2
  have HOP2 := Lib.hid (show RowL EOpt w A l by have := HOP.out; rwa [HPX.out] at this)
  subst he0
  have her0 := her
  clear her0 henc hft hL hsL hlen hd1 hd2 hd3 hd4 hsz hk1 hE1 hE1s hz5 her hES he HSS HOK HPA HPL HWF HOP HPX HNP HLB HC0
  go_enter Try.func7, Try.ntmps7
  go_upto_region 1 with fail
  obtain ⟨W1, hW1⟩ : ∃ W, W = w.alloc (.cells #[.int .i64 cls, .int .i64 lab, .int .i64 hops, .int .i64 nxt, .bool sv, .int .u64 (sh : Int), .int .u64 (sl : Int), .bool dv, .int .u64 (dh : Int), .int .u64 (dl : Int), .slice A n c, .bool frg, .int .i64 id, .int .i64 off, .bool more, .string P] 28) := ⟨_, rfl⟩
  obtain ⟨g0, hg0⟩ : ∃ g, g = w.heap.size := ⟨_, rfl⟩
  have X1 := Lib.hid (show Cells W1 g0 28 #[.int .i64 cls, .int .i64 lab, .int .i64 hops, .int .i64 nxt, .bool sv, .int .u64 (sh : Int), .int .u64 (sl : Int), .bool dv, .int .u64 (dh : Int), .int .u64 (dl : Int), .slice A n c, .bool frg, .int .i64 id, .int .i64 off, .bool more, .string P] by rw [hW1, hg0]; exact heap_alloc_new w _)
  have kW1 : Below w.heap.size w W1 := by rw [hW1]; exact below_alloc6 w _
  have B1 := Lib.hid (B0.out.trans (kW1.mono B0.out.size))
  rw [← hW1, ← hg0]
  clear hW1 hg0
  go_wp2_with fail
  refine (lv12 _).mono ?_
  rintro e w8 ⟨rfl, b8⟩
  have X8 := Lib.hid (X1.out.kept b8 X1.out.lt)
  have B8 := Lib.hid (B1.out.trans (b8.mono B1.out.size))
  clear b8
  clear X1 kW1
  go_wp2_with (refine wpList_load_row (by rfl) 28 _ (by rfl) g0 (by rfl) 28 #[.int .i64 cls, .int .i64 lab, .int .i64 hops, .int .i64 nxt, .bool sv, .int .u64 (sh : Int), .int .u64 (sl : Int), .bool dv, .int .u64 (dh : Int), .int .u64 (dl : Int), .slice A n c, .bool frg, .int .i64 id, .int .i64 off, .bool more, .string P] (0, 0) _ X8.out Try.underlying28 (by rfl) (by kernel_rfl) ?_)
  refine (HLG.out _ B8.out).mono ?_
  rintro e w2 ⟨rfl, b2⟩
  have X2 := Lib.hid (X8.out.kept b2 X8.out.lt)
  have B2 := Lib.hid (B8.out.trans (b2.mono B8.out.size))
  clear b2
  clear X8 HLG
  go_wp2_with (refine wpList_load_row (by rfl) 28 _ (by rfl) g0 (by rfl) 28 #[.int .i64 cls, .int .i64 lab, .int .i64 hops, .int .i64 nxt, .bool sv, .int .u64 (sh : Int), .int .u64 (sl : Int), .bool dv, .int .u64 (dh : Int), .int .u64 (dl : Int), .slice A n c, .bool frg, .int .i64 id, .int .i64 off, .bool more, .string P] (0, 0) _ X2.out Try.underlying28 (by rfl) (by kernel_rfl) ?_)
  refine (H1.out _ B2.out).mono ?_
  rintro e w3 ⟨rfl, b3⟩
  have X3 := Lib.hid (X2.out.kept b3 X2.out.lt)
  have B3 := Lib.hid (B2.out.trans (b3.mono B2.out.size))
  clear b3
  clear X2 H1
  go_wp2_with fail
  refine (H2.out _).mono ?_
  rintro e w4 ⟨A2, c2, rfl, r4, n4, b4⟩
  have R4 := Lib.hid (show RowL EOpt w4 A2 l from r4)
  have X4 := Lib.hid (X3.out.kept b4 X3.out.lt)
  clear r4 n4 X3 H2
  have B4 := Lib.hid (B3.out.trans (b4.mono B3.out.size))
  clear b4
  go_upto_region 9 with (refine wpList_store_row (by rfl) 28 _ _ (by rfl) w4.heap.size #[.int .i64 cls, .int .i64 lab, .int .i64 hops, .int .i64 nxt, .bool sv, .int .u64 (sh : Int), .int .u64 (sl : Int), .bool dv, .int .u64 (dh : Int), .int .u64 (dl : Int), .slice A2 n c2, .bool frg, .int .i64 id, .int .i64 off, .bool more, .string P] (by rfl) (by rfl) 28 #[.int .i64 0, .int .i64 0, .int .i64 0, .int .i64 0, .bool false, .int .u64 0, .int .u64 0, .bool false, .int .u64 0, .int .u64 0, .slice none 0 0, .bool false, .int .i64 0, .int .i64 0, .bool false, .string ⟨#[]⟩] (heap_alloc_new _ _) (by kernel_rfl) (by rfl) (by simp [Value.oneCell']) ?_; rw [World.setRow_alloc_new])
  obtain ⟨W5, hW5⟩ : ∃ W, W = w4.alloc (.cells #[.int .i64 cls, .int .i64 lab, .int .i64 hops, .int .i64 nxt, .bool sv, .int .u64 (sh : Int), .int .u64 (sl : Int), .bool dv, .int .u64 (dh : Int), .int .u64 (dl : Int), .slice A2 n c2, .bool frg, .int .i64 id, .int .i64 off, .bool more, .string P] 28) := ⟨_, rfl⟩
  obtain ⟨g5, hg5⟩ : ∃ g, g = w4.heap.size := ⟨_, rfl⟩
  have Y5 := Lib.hid (show Cells W5 g5 28 #[.int .i64 cls, .int .i64 lab, .int .i64 hops, .int .i64 nxt, .bool sv, .int .u64 (sh : Int), .int .u64 (sl : Int), .bool dv, .int .u64 (dh : Int), .int .u64 (dl : Int), .slice A2 n c2, .bool frg, .int .i64 id, .int .i64 off, .bool more, .string P] by rw [hW5, hg5]; exact heap_alloc_new w4 _)
  have kW5 : Below w4.heap.size w4 W5 := by rw [hW5]; exact below_alloc6 w4 _
  have B5 := Lib.hid (B4.out.trans (kW5.mono B4.out.size))
  rw [← hW5, ← hg5]
  have R5 := Lib.hid (R4.out.kept kW5)
  have X5 := Lib.hid (X4.out.kept kW5 X4.out.lt)
  clear hW5 hg5 kW5 R4 X4 B4
  go_wp2_with fail
  refine (H3.out _).mono ?_
  rintro e w6 ⟨A3, c3, rfl, r6, n6, b6⟩
  have R6 := Lib.hid (R5.out.kept b6)
  have X6 := Lib.hid (X5.out.kept b6 X5.out.lt)
  have Y6 := Lib.hid (Y5.out.kept b6 Y5.out.lt)
  clear r6 n6 R5 X5 Y5 H3
  have B6 := Lib.hid (B5.out.trans (b6.mono B5.out.size))
  clear b6
  go_upto_region 10 with (refine wpList_store_row (by rfl) 28 _ _ (by rfl) w6.heap.size #[.int .i64 0, .int .i64 0, .int .i64 0, .int .i64 0, .bool false, .int .u64 0, .int .u64 0, .bool false, .int .u64 0, .int .u64 0, .slice A3 0 c3, .bool false, .int .i64 0, .int .i64 0, .bool false, .string ⟨#[]⟩] (by rfl) (by rfl) 28 #[.int .i64 0, .int .i64 0, .int .i64 0, .int .i64 0, .bool false, .int .u64 0, .int .u64 0, .bool false, .int .u64 0, .int .u64 0, .slice none 0 0, .bool false, .int .i64 0, .int .i64 0, .bool false, .string ⟨#[]⟩] (heap_alloc_new _ _) (by kernel_rfl) (by rfl) (by simp [Value.oneCell']) ?_; rw [World.setRow_alloc_new])
  obtain ⟨W7, hW7⟩ : ∃ W, W = w6.alloc (.cells #[.int .i64 0, .int .i64 0, .int .i64 0, .int .i64 0, .bool false, .int .u64 0, .int .u64 0, .bool false, .int .u64 0, .int .u64 0, .slice A3 0 c3, .bool false, .int .i64 0, .int .i64 0, .bool false, .string ⟨#[]⟩] 28) := ⟨_, rfl⟩
  obtain ⟨g7, hg7⟩ : ∃ g, g = w6.heap.size := ⟨_, rfl⟩
  have Z7 := Lib.hid (show Cells W7 g7 28 #[.int .i64 0, .int .i64 0, .int .i64 0, .int .i64 0, .bool false, .int .u64 0, .int .u64 0, .bool false, .int .u64 0, .int .u64 0, .slice A3 0 c3, .bool false, .int .i64 0, .int .i64 0, .bool false, .string ⟨#[]⟩] by rw [hW7, hg7]; exact heap_alloc_new w6 _)
  have kW7 : Below w6.heap.size w6 W7 := by rw [hW7]; exact below_alloc6 w6 _
  have B7 := Lib.hid (B6.out.trans (kW7.mono B6.out.size))
  rw [← hW7, ← hg7]
  have R7 := Lib.hid (R6.out.kept kW7)
  have X7 := Lib.hid (X6.out.kept kW7 X6.out.lt)
  have Y7 := Lib.hid (Y6.out.kept kW7 Y6.out.lt)
  have Q7 := Lib.hid (HOP2.out.kept B7.out)
  clear hW7 hg7 kW7 R6 X6 Y6 B6 Z7
  go_wp2_with (first | (refine wpList_load_row (by rfl) 28 _ (by rfl) g0 (by rfl) 28 #[.int .i64 cls, .int .i64 lab, .int .i64 hops, .int .i64 nxt, .bool sv, .int .u64 (sh : Int), .int .u64 (sl : Int), .bool dv, .int .u64 (dh : Int), .int .u64 (dl : Int), .slice A n c, .bool frg, .int .i64 id, .int .i64 off, .bool more, .string P] (0, 0) _ X7.out Try.underlying28 (by rfl) (by kernel_rfl) ?_) | (refine wpList_load_row (by rfl) 28 _ (by rfl) g5 (by rfl) 28 #[.int .i64 cls, .int .i64 lab, .int .i64 hops, .int .i64 nxt, .bool sv, .int .u64 (sh : Int), .int .u64 (sl : Int), .bool dv, .int .u64 (dh : Int), .int .u64 (dl : Int), .slice A2 n c2, .bool frg, .int .i64 id, .int .i64 off, .bool more, .string P] (0, 0) _ Y7.out Try.underlying28 (by rfl) (by kernel_rfl) ?_))
  refine (HSM.out _ _ _ _ _ Q7.out R7.out).mono ?_
  rintro e w9 ⟨rfl, b9⟩
  have B9 := Lib.hid (B7.out.trans (b9.mono B7.out.size))
  clear b9
  clear X7 Y7 R7 Q7 HSM
  go_wp2_with fail
  go_ret
  exact ⟨rfl, B9.out⟩

set_option maxRecDepth 100000 in
theorem lifted (os : Os) (started : os.Started) (H : Type) (enc : TypeId × Value → H) :
    ReturnsInHanded {} Try.checked os 7 .any (Rows.ipv6RoundTripSpec.pre6 enc Try.prog Try.f7 Rows.ipv6RoundTripRow.domain false) (Rows.ipv6RoundTripSpec.post enc Try.prog Try.f7 false true false false) := by
  refine returnsInHanded_of_change_sized (C := Try.checked) own started (by kernel_rfl) Try.func7
    (ChangeSpec.witness6 (enc := enc) (C := Try.checked) false ⟨#[], #[(.agg #[.int .i64 0, .int .i64 0, .int .i64 0, .int .i64 0, .bool false, .int .u64 0, .int .u64 0, .bool false, .int .u64 0, .int .u64 0, .slice none 0 0, .bool false, .int .i64 0, .int .i64 0, .bool false, .string ⟨#[]⟩]), .string ⟨#[]⟩], []⟩ 8 (by kernel_rfl) (by kernel_rfl) (by kernel_rfl) (by kernel_rfl)) ?_
  intro W base args ds gs before hval0 hW hcnd hsz _
  have hval : ∀ (j : Nat) t v, Try.f7.params[j]? = some t → args[j]? = some v → Value.okWide Try.prog W .any base t v := hval0
  have hW' := hW
  obtain ⟨p, q, hA0, hV, rfl, hfz, hnd⟩ := hW
  have hA : DataW.TrodAll enc Try.prog W 0 (fun _ => true) true Try.f7.params.toList args.toList ds p := hA0
  rw [Try.params7] at hA hval hsz
  obtain ⟨v0, vs0, d0, ds0, p0, q0, hargs, rfl, rfl, h0, r0⟩ := trodAll_cons hA
  obtain ⟨v1, vs1, d1, ds1, p1, q1, rfl, rfl, rfl, h1, r1⟩ := trodAll_cons r0
  obtain ⟨rfl, rfl, rfl⟩ := trodAll_nil r1
  obtain rfl : args = #[v0, v1] := by cases args; simp_all
  obtain ⟨rfl, rfl⟩ := trodVars_none hV
  have k0 := h0
  have lt0 : ∀ x ∈ p0, x.block < W.heap.size := by obtain ⟨m, hm⟩ := k0; exact DataW.trod_lt m _ _ _ hm
  obtain ⟨x0, a0, c0, fx0, rfl, s0, n0⟩ := in_ip6 (hval 0 28 v0 rfl rfl) h0 (fun k hk => of_decide_eq_true (List.all_eq_true.1 hsz _ (DataW.weights_mem_each (j := 0) (t := 28) (d := d0) rfl rfl k hk)))
  obtain ⟨a1, rfl, rfl, rfl, w1⟩ := open_string Try.underlying9 (hval 1 9 v1 rfl rfl) h1
  clear hA0 hval0
  refine (walk x0 a0 c0 a1 W fx0 s0 n0 w1).mono fun e W' ⟨he, bel⟩ => ?_
  subst he
  exact ⟨_, rfl, _, _, _, [], _, [], hW', trodAll_mk1 (shut_bool Try.underlying4 _), (trodAll_cons_mk (Below.trod laidOut (by kernel_rfl) (of_decide_eq_true (by kernel_rfl)) k0 bel lt0) (trodAll_cons_mk (shut_string Try.underlying9 w1) trodAll_mk0)), rfl, bel.frame _, fun h => by cases h⟩

theorem over : Rows.ipv6RoundTripRow.holds Try.pinned (OpenSpec.ofChange Rows.ipv6RoundTripSpec) :=
  OpenClaim.holds_of_wide 7 Try.f7 rfl rfl rfl rfl rfl rfl rfl ⟨rfl, rfl, rfl, rfl, rfl⟩ rfl rfl rfl rfl rfl (by kernel_rfl) Try.func7 (by kernel_rfl)
    (of_decide_eq_true (by kernel_rfl)) (by unfold Func.isWrapper; first | (rw [if_pos (by decide +kernel)]; kernel_rfl) | (rw [if_neg (by decide +kernel)]; exact ⟨rfl, rfl⟩))
    (fun os started H enc _ => lifted os started H enc)

theorem proved : Rows.Ipv6RoundTripSaid := over
#print axioms proved
end Go.Proofs.Ytjjldolafnfpoaa.ipv6RoundTrip
