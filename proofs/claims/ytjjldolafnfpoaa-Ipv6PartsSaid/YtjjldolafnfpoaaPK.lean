/- Ipv6Parts holds: for every packet, size and identification the parts that Split makes can be encoded, follow one another and are the payload together, and the law returns true and leaves memory as it was; no conditions. -/
import Derived.Test.YtjjldolafnfpoaaRows
import Derived.Test.YtjjldolafnfpoaaChecked
import Derived.Deep.Cut
import Derived.Deep.WholeRow
import Derived.BigQuiet
import Derived.Test.YtjjldolafnfpoaaPE44
namespace Go.Proofs.Ytjjldolafnfpoaa.ipv6Parts
open Go.ChangeShapes Go.WideShapes Go.ChangeAt Go.RowKit
open Go.ChangeMaps (open_string shut_string)
set_option linter.unusedVariables false

theorem own : ownKnob Try.prog.godebug = none := by kernel_rfl
theorem laidOut : laidOutB Try.prog = true := by kernel_rfl
set_option maxHeartbeats 8000000 in
set_option maxRecDepth 20000 in
theorem walk (x : Ip6R) (A : Option Addr) (c : Nat) (size id2 : Int) (w : World) (hw : ip6Wf x) (h : RowL EOpt w A x.exts) (hc : A = none → c = 0) (hz : (Lit.int .i64 size).wf = true) (hz2 : (Lit.int .i64 id2).wf = true) :
    Calls Try.prog 9 #[.agg (ip6C x x.exts.length A c (str x.pay)), .int .i64 size, .int .i64 id2] w fun e w' => e = .returned (.bool true) ∧ Below w.heap.size w w' := by
  obtain ⟨p, hp⟩ : ∃ q, q = x := ⟨_, rfl⟩
  have HPX := Lib.hid hp
  have HWF := Lib.hid (show ip6Wf p by rw [hp]; exact hw)
  have HOP := Lib.hid (show RowL EOpt w A p.exts by rw [hp]; exact h)
  have HC0 := Lib.hid hc
  obtain ⟨cls, lab, hops, nxt, ⟨sv, sh, sl⟩, ⟨dv, dh, dl⟩, l, frg, id, off, more, pay⟩ := x
  unfold ip6C
  dsimp only
  obtain ⟨n, hn⟩ : ∃ n, n = l.length := ⟨_, rfl⟩
  obtain ⟨P, hP⟩ : ∃ P, P = str pay := ⟨_, rfl⟩
  have hPs : P.size = pay.length := by rw [hP, str_size]
  have HPA := Lib.hid (show #[.int .i64 cls, .int .i64 lab, .int .i64 hops, .int .i64 nxt, .bool sv, .int .u64 (sh : Int), .int .u64 (sl : Int), .bool dv, .int .u64 (dh : Int), .int .u64 (dl : Int), .slice A n c, .bool frg, .int .i64 id, .int .i64 off, .bool more, .string P] = ip6C p p.exts.length A c (str p.pay) by rw [hn, hP, hp]; rfl)
  have HPL := Lib.hid (show p.pay.length = P.size ∧ p.exts.length = n ∧ P.size ≤ maxLen ∧ n ≤ maxLen by rw [hp]; exact ⟨hPs.symm, hn.symm, by rw [hPs]; exact hw.2.2.2.1, by rw [hn]; exact hw.2.2.2.2.1⟩)
  obtain ⟨lg, hlg⟩ : ∃ b : Bool, b = longB l P.size 2000 := ⟨_, rfl⟩
  have HLG := Lib.hid (fun (W : World) (hb : Below w.heap.size w W) => show Calls Try.prog 14 #[.agg #[.int .i64 cls, .int .i64 lab, .int .i64 hops, .int .i64 nxt, .bool sv, .int .u64 (sh : Int), .int .u64 (sl : Int), .bool dv, .int .u64 (dh : Int), .int .u64 (dl : Int), .slice A n c, .bool frg, .int .i64 id, .int .i64 off, .bool more, .string P], .int .i64 2000] W fun e w' => e = .returned (.bool lg) ∧ Below W.heap.size W w' from by
    rw [hlg, hn]
    exact rlong12_any cls lab hops nxt id off sv dv frg more sh sl dh dl l A c P 2000 2000 rfl W (h.kept hb) (Nat.le_trans hw.2.2.2.2.1 (by decide)) (fun y hy => Nat.le_trans (hw.2.2.2.2.2 y hy).2 (by decide)) (by rw [hPs]; exact Nat.le_trans hw.2.2.2.1 (by decide)))
  have HLB := Lib.hid (show lg = false → P.size ≤ 2000 ∧ n ≤ 10 by
    intro e
    rw [hlg] at e
    unfold longB at e
    rw [Bool.or_eq_false_iff] at e
    have h2 := of_decide_eq_false e.2
    omega)
  rw [← hn, ← hP]
  have HNP := Lib.hid (And.intro hn hP)
  clear hp hw h hc hn hP hPs hlg
  have B0 := Lib.hid (Below.refl w.heap.size w)
  cases lg
  rotate_left
  · go_enter Try.func9, Try.ntmps9
    go_upto_region 1 with fail
    obtain ⟨W1, hW1⟩ : ∃ W, W = w.alloc (.cells #[.int .i64 cls, .int .i64 lab, .int .i64 hops, .int .i64 nxt, .bool sv, .int .u64 (sh : Int), .int .u64 (sl : Int), .bool dv, .int .u64 (dh : Int), .int .u64 (dl : Int), .slice A n c, .bool frg, .int .i64 id, .int .i64 off, .bool more, .string P] 28) := ⟨_, rfl⟩
    obtain ⟨g0, hg0⟩ : ∃ g, g = w.heap.size := ⟨_, rfl⟩
    have X1 := Lib.hid (show Cells W1 g0 28 #[.int .i64 cls, .int .i64 lab, .int .i64 hops, .int .i64 nxt, .bool sv, .int .u64 (sh : Int), .int .u64 (sl : Int), .bool dv, .int .u64 (dh : Int), .int .u64 (dl : Int), .slice A n c, .bool frg, .int .i64 id, .int .i64 off, .bool more, .string P] by rw [hW1, hg0]; exact heap_alloc_new w _)
    have kW1 : Below w.heap.size w W1 := by rw [hW1]; exact below_alloc6 w _
    have B1 := Lib.hid (B0.out.trans (kW1.mono B0.out.size))
    rw [← hW1, ← hg0]
    clear hW1 hg0
    go_wp2_with fail
    refine (lv12 _).mono ?_
    rintro e w8 ⟨rfl, b8⟩
    have X8 := Lib.hid (X1.out.kept b8 X1.out.lt)
    have B8 := Lib.hid (B1.out.trans (b8.mono B1.out.size))
    clear b8
    clear X1 kW1
    go_wp2_with (refine wpList_load_row (by rfl) 28 _ (by rfl) g0 (by rfl) 28 #[.int .i64 cls, .int .i64 lab, .int .i64 hops, .int .i64 nxt, .bool sv, .int .u64 (sh : Int), .int .u64 (sl : Int), .bool dv, .int .u64 (dh : Int), .int .u64 (dl : Int), .slice A n c, .bool frg, .int .i64 id, .int .i64 off, .bool more, .string P] (0, 0) _ X8.out Try.underlying28 (by rfl) (by kernel_rfl) ?_)
    refine (HLG.out _ B8.out).mono ?_
    rintro e w2 ⟨rfl, b2⟩
    have X2 := Lib.hid (X8.out.kept b2 X8.out.lt)
    have B2 := Lib.hid (B8.out.trans (b2.mono B8.out.size))
    clear b2
    clear X8 HLG
    go_wp2_with fail
    go_ret
    exact ⟨rfl, B2.out⟩
  obtain ⟨hPm, hnm⟩ := HLB.out rfl
  have HOK := Lib.hid (fun (W : World) (hb : Below w.heap.size w W) => show ip6Ok W p A c from ⟨HWF.out, HOP.out.kept hb, HC0.out, by have h1 := HPL.out.2.1; omega, by have h1 := HPL.out.1; omega⟩)
  obtain ⟨R, hR⟩ : ∃ R, R = splitX p size id2 := ⟨_, rfl⟩
  have H1 := Lib.hid (fun (W : World) (hb : Below w.heap.size w W) => show Calls Try.prog 17 #[.agg #[.int .i64 cls, .int .i64 lab, .int .i64 hops, .int .i64 nxt, .bool sv, .int .u64 (sh : Int), .int .u64 (sl : Int), .bool dv, .int .u64 (dh : Int), .int .u64 (dl : Int), .slice A n c, .bool frg, .int .i64 id, .int .i64 off, .bool more, .string P], .int .i64 size, .int .i64 id2] W (SplP6 W R) from by
    rw [HPA.out, hR]
    exact prog12.spl p size id2 A c W trivial (HOK.out W hb) hz hz2)
  obtain ⟨hlen, -⟩ := split6_len p size id2
  rw [← hR] at hlen
  obtain ⟨nn, hnn⟩ : ∃ k, k = R.1.length := ⟨_, rfl⟩
  obtain ⟨er, her⟩ : ∃ k, k = R.2 := ⟨_, rfl⟩
  have hnn6 : nn ≤ 2001 := by rw [hnn]; have := HPL.out.1; omega
  have HNN := Lib.hid hnn
  unfold SplP6 at H1
  rw [← hnn, ← her] at H1
  have HRR := Lib.hid hR
  have HER := Lib.hid her
  clear hR hlen hnn her
  by_cases he : er ≠ 0
  · have hn0 : nn = 0 := by
      have := split6_bad (p := p) (size := size) (id := id2) (by rw [← HRR.out, ← HER.out]; exact he)
      rw [HNN.out, HRR.out, this]
      rfl
    have z1 : ((er : Int) != 0) = true := by rw [bne_iff_ne]; omega
    rw [hn0] at H1
    clear he hn0 HNN HRR HER hz hz2 hnn6 HOK HPA HPL HWF HOP HPX HNP HLB HC0
    go_enter Try.func9, Try.ntmps9
    go_upto_region 1 with fail
    obtain ⟨W1, hW1⟩ : ∃ W, W = w.alloc (.cells #[.int .i64 cls, .int .i64 lab, .int .i64 hops, .int .i64 nxt, .bool sv, .int .u64 (sh : Int), .int .u64 (sl : Int), .bool dv, .int .u64 (dh : Int), .int .u64 (dl : Int), .slice A n c, .bool frg, .int .i64 id, .int .i64 off, .bool more, .string P] 28) := ⟨_, rfl⟩
    obtain ⟨g0, hg0⟩ : ∃ g, g = w.heap.size := ⟨_, rfl⟩
    have X1 := Lib.hid (show Cells W1 g0 28 #[.int .i64 cls, .int .i64 lab, .int .i64 hops, .int .i64 nxt, .bool sv, .int .u64 (sh : Int), .int .u64 (sl : Int), .bool dv, .int .u64 (dh : Int), .int .u64 (dl : Int), .slice A n c, .bool frg, .int .i64 id, .int .i64 off, .bool more, .string P] by rw [hW1, hg0]; exact heap_alloc_new w _)
    have kW1 : Below w.heap.size w W1 := by rw [hW1]; exact below_alloc6 w _
    have B1 := Lib.hid (B0.out.trans (kW1.mono B0.out.size))
    rw [← hW1, ← hg0]
    clear hW1 hg0
    go_wp2_with fail
    refine (lv12 _).mono ?_
    rintro e w8 ⟨rfl, b8⟩
    have X8 := Lib.hid (X1.out.kept b8 X1.out.lt)
    have B8 := Lib.hid (B1.out.trans (b8.mono B1.out.size))
    clear b8
    clear X1 kW1
    go_wp2_with (refine wpList_load_row (by rfl) 28 _ (by rfl) g0 (by rfl) 28 #[.int .i64 cls, .int .i64 lab, .int .i64 hops, .int .i64 nxt, .bool sv, .int .u64 (sh : Int), .int .u64 (sl : Int), .bool dv, .int .u64 (dh : Int), .int .u64 (dl : Int), .slice A n c, .bool frg, .int .i64 id, .int .i64 off, .bool more, .string P] (0, 0) _ X8.out Try.underlying28 (by rfl) (by kernel_rfl) ?_)
    refine (HLG.out _ B8.out).mono ?_
    rintro e w2 ⟨rfl, b2⟩
    have X2 := Lib.hid (X8.out.kept b2 X8.out.lt)
    have B2 := Lib.hid (B8.out.trans (b2.mono B8.out.size))
    clear b2
    clear X8 HLG
    go_wp2_with (refine wpList_load_row (by rfl) 28 _ (by rfl) g0 (by rfl) 28 #[.int .i64 cls, .int .i64 lab, .int .i64 hops, .int .i64 nxt, .bool sv, .int .u64 (sh : Int), .int .u64 (sl : Int), .bool dv, .int .u64 (dh : Int), .int .u64 (dl : Int), .slice A n c, .bool frg, .int .i64 id, .int .i64 off, .bool more, .string P] (0, 0) _ X2.out Try.underlying28 (by rfl) (by kernel_rfl) ?_)
    refine (H1.out _ B2.out).mono ?_
    rintro e w3 ⟨A1, c1, es1, rfl, hm1, hr1, ho1, hn1, b3⟩
    clear hm1 hr1 ho1 hn1 H1 X2
    have B3 := Lib.hid (B2.out.trans (b3.mono B2.out.size))
    clear b3
    go_wp2_with fail
    go_ret
    exact ⟨rfl, B3.out⟩
  have he0 : er = 0 := by omega
  subst he0
  clear he
  have hspl : splitX p size id2 = (R.1, 0) := by rw [← HRR.out, HER.out]
  obtain ⟨henc, ⟨hs1, hs8, hid0, hid1⟩, hfrg, hflat, hne, hall⟩ := split6_ok hspl
  obtain ⟨N, rfl⟩ : ∃ N : Nat, size = (N : Int) := ⟨size.toNat, by omega⟩
  rw [Int.toNat_natCast] at hall
  rw [List.drop_zero] at hflat
  have hnpos : 0 < nn := by rw [HNN.out]; exact List.length_pos_iff.2 hne
  have HFLAT := Lib.hid (show R.1.flatMap (·.pay) = pay by rw [hflat, HPX.out])
  have HALL := Lib.hid (fun (i : Nat) (x : Ip6R) (hx : R.1[i]? = some x) => show (encX x).2 = 0 ∧ x.frg = true ∧ x.id = id2 ∧ x.off = (((R.1.take i).flatMap (·.pay)).length : Nat) ∧ x.more = decide (i + 1 < nn) ∧ x.pay.length ≤ N ∧ (i + 1 < nn → x.pay.length = N) ∧ x.exts.length = n ∧ fit6 x from by
    obtain ⟨h1, h2, h3, h4, h5, h6, h7, h8, h9, h10⟩ := hall i x hx
    rw [Nat.zero_add] at h4
    refine ⟨h1, h2, h3, h4, by rw [HNN.out]; exact h5, h6, fun e => h7 (by rw [← HNN.out]; exact e), by rw [h8]; exact HPL.out.2.1, ?_⟩
    unfold fit6
    rw [h9, h10]
    exact ⟨HWF.out.2.1.1, HWF.out.2.1.2, HWF.out.2.2.1.1, HWF.out.2.2.1.2⟩)
  have HPS := Lib.hid (show P.size = pay.length by rw [HNP.out.2, str_size])
  have HPY := Lib.hid (show ∀ i, ((R.1.take i).flatMap (·.pay)).length ≤ P.size ∧ ∀ y ∈ R.1, y.pay.length ≤ P.size from fun i => by
    have h1 : P.size = pay.length := HPS.out
    have h2 := HFLAT.out
    refine ⟨?_, fun y hy => ?_⟩
    · have h3 : R.1.flatMap (·.pay) = (R.1.take i).flatMap (·.pay) ++ (R.1.drop i).flatMap (·.pay) := by rw [← List.flatMap_append, List.take_append_drop]
      rw [h1, ← h2, h3, List.length_append]
      omega
    · obtain ⟨a, b, hab⟩ := List.append_of_mem hy
      rw [h1, ← h2, hab, List.flatMap_append, List.flatMap_cons, List.length_append, List.length_append]
      omega)
  have HFP := Lib.hid (show str (R.1.flatMap (·.pay)) = P by rw [HFLAT.out, HNP.out.2])
  have hidd : (id2 != id2) = false := by simp
  have hNl := (wf_i64_12 hz).2
  have dnn : decide ((0 : Int) < (nn : Int)) = true := by simp; omega
  have HSZ := Lib.hid (And.intro hs1 (And.intro hNl (And.intro hid0 hid1)))
  clear hspl henc hs8 hfrg hflat hne hall HRR HER hz hz2 HFLAT hs1 hid0 hid1 HOK HPA HPL HWF HOP HPX HNP HLB HC0
  go_enter Try.func9, Try.ntmps9
  go_upto_region 1 with fail
  obtain ⟨W1, hW1⟩ : ∃ W, W = w.alloc (.cells #[.int .i64 cls, .int .i64 lab, .int .i64 hops, .int .i64 nxt, .bool sv, .int .u64 (sh : Int), .int .u64 (sl : Int), .bool dv, .int .u64 (dh : Int), .int .u64 (dl : Int), .slice A n c, .bool frg, .int .i64 id, .int .i64 off, .bool more, .string P] 28) := ⟨_, rfl⟩
  obtain ⟨g0, hg0⟩ : ∃ g, g = w.heap.size := ⟨_, rfl⟩
  have X1 := Lib.hid (show Cells W1 g0 28 #[.int .i64 cls, .int .i64 lab, .int .i64 hops, .int .i64 nxt, .bool sv, .int .u64 (sh : Int), .int .u64 (sl : Int), .bool dv, .int .u64 (dh : Int), .int .u64 (dl : Int), .slice A n c, .bool frg, .int .i64 id, .int .i64 off, .bool more, .string P] by rw [hW1, hg0]; exact heap_alloc_new w _)
  have kW1 : Below w.heap.size w W1 := by rw [hW1]; exact below_alloc6 w _
  have B1 := Lib.hid (B0.out.trans (kW1.mono B0.out.size))
  rw [← hW1, ← hg0]
  clear hW1 hg0
  go_wp2_with fail
  refine (lv12 _).mono ?_
  rintro e w8 ⟨rfl, b8⟩
  have X8 := Lib.hid (X1.out.kept b8 X1.out.lt)
  have B8 := Lib.hid (B1.out.trans (b8.mono B1.out.size))
  clear b8
  clear X1 kW1
  go_wp2_with (refine wpList_load_row (by rfl) 28 _ (by rfl) g0 (by rfl) 28 #[.int .i64 cls, .int .i64 lab, .int .i64 hops, .int .i64 nxt, .bool sv, .int .u64 (sh : Int), .int .u64 (sl : Int), .bool dv, .int .u64 (dh : Int), .int .u64 (dl : Int), .slice A n c, .bool frg, .int .i64 id, .int .i64 off, .bool more, .string P] (0, 0) _ X8.out Try.underlying28 (by rfl) (by kernel_rfl) ?_)
  refine (HLG.out _ B8.out).mono ?_
  rintro e w2 ⟨rfl, b2⟩
  have X2 := Lib.hid (X8.out.kept b2 X8.out.lt)
  have B2 := Lib.hid (B8.out.trans (b2.mono B8.out.size))
  clear b2
  clear X8 HLG
  go_wp2_with (refine wpList_load_row (by rfl) 28 _ (by rfl) g0 (by rfl) 28 #[.int .i64 cls, .int .i64 lab, .int .i64 hops, .int .i64 nxt, .bool sv, .int .u64 (sh : Int), .int .u64 (sl : Int), .bool dv, .int .u64 (dh : Int), .int .u64 (dl : Int), .slice A n c, .bool frg, .int .i64 id, .int .i64 off, .bool more, .string P] (0, 0) _ X2.out Try.underlying28 (by rfl) (by kernel_rfl) ?_)
  refine (H1.out _ B2.out).mono ?_
  rintro e w3 ⟨A1, c1, es1, rfl, hm1, hr1, ho1, hn1, b3⟩
  have X3 := Lib.hid (X2.out.kept b3 X2.out.lt)
  have B3 := Lib.hid (B2.out.trans (b3.mono B2.out.size))
  clear b3
  clear X2 H1 hn1
  have HM1 := Lib.hid hm1
  have HR1 := Lib.hid hr1
  have HO1 := Lib.hid ho1
  clear hm1 hr1 ho1
  go_wp2_with fail
  go_loopw [9, 10] (fun t i wr => ∃ (k : Nat) (T : ByteArray), i = .int .i64 (k : Int) ∧ t = .string T ∧ k ≤ nn ∧ T.size ≤ 2000 ∧ Hid (T = str ((R.1.take k).flatMap (·.pay))) ∧ Hid (Below w3.heap.size w3 wr)) (fun _ i _ => nn - (intOf i).toNat)
  case atStart => exact ⟨0, ⟨#[]⟩, rfl, rfl, Nat.zero_le _, by decide, Lib.hid rfl, Lib.hid (Below.refl _ _)⟩
  case round =>
    obtain ⟨k, T, rfl, rfl, hk, hT3, HT, HB⟩ := hrel
    by_cases hlt : k < nn
    · have hki : (k : Int) < (nn : Int) := by omega
      have hki0 : (0 : Int) ≤ (k : Int) := by omega
      have dlt : decide ((k : Int) < (nn : Int)) = true := by simp; omega
      have hl1 : es1.length = nn := by rw [HNN.out, ← HM1.out, List.length_map]
      obtain ⟨x1, hx1⟩ : ∃ x, es1[k]? = some x := ⟨es1[k]'(by omega), List.getElem?_eq_getElem _⟩
      have hy1 : R.1[k]? = some x1.1 := by rw [← HM1.out, List.getElem?_map, hx1]; rfl
      obtain ⟨y, C1, d1⟩ := x1
      dsimp only at hy1
      have hmem := List.mem_of_getElem? hy1
      obtain ⟨f1, f2, f3, f4, f5, f6, f7, f8, f9⟩ := HALL.out k y hy1
      have hyl := (HPY.out 0).2 y hmem
      have hT1 := (HPY.out (k + 1)).1
      have hTs : T.size = ((R.1.take k).flatMap (·.pay)).length := by rw [HT.out, str_size]
      rw [← hTs] at f4
      have hTN : T ++ str y.pay = str ((R.1.take (k + 1)).flatMap (·.pay)) := by
        obtain ⟨hk', e⟩ := List.getElem?_eq_some_iff.1 hy1
        rw [List.take_succ_eq_append_getElem hk', e, List.flatMap_append, HT.out, str_append]
        simp
      have hTN3 : T.size + y.pay.length ≤ 2000 := by
        have h1 : (T ++ str y.pay).size = T.size + y.pay.length := by rw [ByteArray.size_append, str_size]
        rw [hTN, str_size] at h1
        omega
      obtain ⟨g1, o1, rfl, hg1⟩ := HR1.out.shapeA (by omega)
      have hec : encX y = ((encX y).1, 0) := by rw [← f1]
      have hwf := encX_in hec f9 (by unfold maxLen; omega)
      obtain ⟨hq0, hq1⟩ := HO1.out _ (List.mem_of_getElem? hx1)
      have HQ1 := Lib.hid hq1
      have HC0 := Lib.hid (fun (W : World) (hb : Below w3.heap.size w3 W) (j : Nat) (v : Value) (hv : (EIp6.c (y, C1, d1))[j]? = some v) => HR1.out.at_ hx1 hb j v hv)
      obtain ⟨ES, hES⟩ : ∃ e, e = str (encX y).1 := ⟨_, rfl⟩
      have HE0 := Lib.hid (fun (W : World) (hb : Below w3.heap.size w3 W) => by
        have := prog12.enc y C1 d1 W trivial ⟨hwf, HQ1.out.kept hb, hq0, by omega, by omega⟩
        rw [f1, ← hES] at this
        exact this)
      obtain ⟨yc, yl, yh, yx, ⟨a1, a2, a3⟩, ⟨b1, b2, b3⟩, yexts, yf, yi, yo, ym, ypay⟩ := y
      dsimp only at f2 f3 f4 f5 f6 f7 f8 hTN hTN3 hyl
      subst f2 f4
      have f3s := f3.symm
      clear f3
      subst f3s
      obtain ⟨Y, hY⟩ : ∃ Y, Y = str ypay := ⟨_, rfl⟩
      have hYs : Y.size = ypay.length := by rw [hY, str_size]
      have HC1 := Lib.hid (fun (W : World) (hb : Below w3.heap.size w3 W) (j : Nat) (v : Value) (hv : ([.int .i64 yc, .int .i64 yl, .int .i64 yh, .int .i64 yx, .bool a1, .int .u64 (a2 : Int), .int .u64 (a3 : Int), .bool b1, .int .u64 (b2 : Int), .int .u64 (b3 : Int), .slice C1 n d1, .bool true, .int .i64 id2, .int .i64 (T.size : Int), .bool ym, .string Y] : List Value)[j]? = some v) => HC0.out W hb j v (by subst f8 hY; exact hv))
      have HE1 := Lib.hid (fun (W : World) (hb : Below w3.heap.size w3 W) => show Calls Try.prog 15 #[.agg #[.int .i64 yc, .int .i64 yl, .int .i64 yh, .int .i64 yx, .bool a1, .int .u64 (a2 : Int), .int .u64 (a3 : Int), .bool b1, .int .u64 (b2 : Int), .int .u64 (b3 : Int), .slice C1 n d1, .bool true, .int .i64 id2, .int .i64 (T.size : Int), .bool ym, .string Y]] W fun e w' => e = .returned (.tuple #[.string ES, .int .i64 0]) ∧ Below W.heap.size W w' from by rw [← f8, hY]; exact HE0.out W hb)
      rw [← hY] at hTN
      have HTN := Lib.hid hTN
      have hT9 : (9223372036854775807 < T.size + Y.size) = False := by simp only [eq_iff_iff, iff_false]; omega
      have hTY : (T ++ Y).size ≤ 2000 := by rw [ByteArray.size_append]; omega
      have q1 : (((T.size : Nat) : Int) != (T.size : Int)) = false := by simp
      have q2 : decide ((N : Int) < (Y.size : Int)) = false := by simp; omega
      have q3 : ¬ (N : Int) < (Y.size : Int) := by omega
      have q6 : ((n : Int) != (n : Int)) = false := by simp
      obtain ⟨k1, hk1⟩ : ∃ m, m = k + 1 := ⟨_, rfl⟩
      have kk1 : (k : Int) + 1 = (k1 : Int) := by omega
      have hdm : (decide ((k1 : Int) < (nn : Int)) = true ∧ (k1 : Int) < (nn : Int) ∧ ym = true ∧ ((Y.size : Int) != (N : Int)) = false) ∨ (decide ((k1 : Int) < (nn : Int)) = false ∧ ¬ (k1 : Int) < (nn : Int) ∧ ym = false) := by
        by_cases hk2 : k + 1 < nn
        · left; exact ⟨by simp; omega, by omega, by rw [f5, decide_eq_true hk2], by rw [bne_eq_false_iff_eq]; have := f7 hk2; omega⟩
        · right; exact ⟨by simp; omega, by omega, by rw [f5, decide_eq_false hk2]⟩
      have HDM := Lib.hid hdm
      have HKK := Lib.hid hk1
      have hk1n : k1 ≤ nn := by omega
      clear hx1 hy1 hmem f1 f5 f6 f7 f8 f9 hyl hT1 hTs hTN hec hwf hES HC0 HE0 HQ1 hq0 hq1 hY hl1 hdm hk1 hYs
      have HLT := Lib.hid hlt
      have HQS := Lib.hid (And.intro q1 (And.intro q2 (And.intro q3 (And.intro q6 (And.intro hT9 (And.intro hTY kk1))))))
      clear hlt q1 q2 q3 q6 hT9 hTY kk1 hTN3
      have y0 : wr.cell? ⟨g1, o1 + k * 16, none⟩ = some (Value.int .i64 yc) := HC1.out _ HB.out 0 _ rfl
      have y1 : wr.cell? ⟨g1, o1 + k * 16 + 1, none⟩ = some (Value.int .i64 yl) := HC1.out _ HB.out 1 _ rfl
      have y2 : wr.cell? ⟨g1, o1 + k * 16 + 2, none⟩ = some (Value.int .i64 yh) := HC1.out _ HB.out 2 _ rfl
      have y3 : wr.cell? ⟨g1, o1 + k * 16 + 3, none⟩ = some (Value.int .i64 yx) := HC1.out _ HB.out 3 _ rfl
      have y4 : wr.cell? ⟨g1, o1 + k * 16 + 4, none⟩ = some (Value.bool a1) := HC1.out _ HB.out 4 _ rfl
      have y5 : wr.cell? ⟨g1, o1 + k * 16 + 5, none⟩ = some (Value.int .u64 (a2 : Int)) := HC1.out _ HB.out 5 _ rfl
      have y6 : wr.cell? ⟨g1, o1 + k * 16 + 6, none⟩ = some (Value.int .u64 (a3 : Int)) := HC1.out _ HB.out 6 _ rfl
      have y7 : wr.cell? ⟨g1, o1 + k * 16 + 7, none⟩ = some (Value.bool b1) := HC1.out _ HB.out 7 _ rfl
      have y8 : wr.cell? ⟨g1, o1 + k * 16 + 8, none⟩ = some (Value.int .u64 (b2 : Int)) := HC1.out _ HB.out 8 _ rfl
      have y9 : wr.cell? ⟨g1, o1 + k * 16 + 9, none⟩ = some (Value.int .u64 (b3 : Int)) := HC1.out _ HB.out 9 _ rfl
      have y10 : wr.cell? ⟨g1, o1 + k * 16 + 10, none⟩ = some (Value.slice C1 n d1) := HC1.out _ HB.out 10 _ rfl
      have y11 : wr.cell? ⟨g1, o1 + k * 16 + 11, none⟩ = some (Value.bool true) := HC1.out _ HB.out 11 _ rfl
      have y12 : wr.cell? ⟨g1, o1 + k * 16 + 12, none⟩ = some (Value.int .i64 id2) := HC1.out _ HB.out 12 _ rfl
      have y13 : wr.cell? ⟨g1, o1 + k * 16 + 13, none⟩ = some (Value.int .i64 (T.size : Int)) := HC1.out _ HB.out 13 _ rfl
      have y14 : wr.cell? ⟨g1, o1 + k * 16 + 14, none⟩ = some (Value.bool ym) := HC1.out _ HB.out 14 _ rfl
      have y15 : wr.cell? ⟨g1, o1 + k * 16 + 15, none⟩ = some (Value.string Y) := HC1.out _ HB.out 15 _ rfl
      go_upto_region 13 with (refine wpList_store_row (by rfl) 28 _ _ (by rfl) wr.heap.size #[.int .i64 yc, .int .i64 yl, .int .i64 yh, .int .i64 yx, .bool a1, .int .u64 (a2 : Int), .int .u64 (a3 : Int), .bool b1, .int .u64 (b2 : Int), .int .u64 (b3 : Int), .slice C1 n d1, .bool true, .int .i64 id2, .int .i64 (T.size : Int), .bool ym, .string Y] (by rfl) (by rfl) 28 #[.int .i64 0, .int .i64 0, .int .i64 0, .int .i64 0, .bool false, .int .u64 0, .int .u64 0, .bool false, .int .u64 0, .int .u64 0, .slice none 0 0, .bool false, .int .i64 0, .int .i64 0, .bool false, .string ⟨#[]⟩] (heap_alloc_new _ _) (by kernel_rfl) (by rfl) (by simp [Value.oneCell']) ?_; rw [World.setRow_alloc_new])
      clear y0 y1 y2 y3 y4 y5 y6 y7 y8 y9 y10 y11 y12 y13 y14 y15
      obtain ⟨W5, hW5⟩ : ∃ W, W = wr.alloc (.cells #[.int .i64 yc, .int .i64 yl, .int .i64 yh, .int .i64 yx, .bool a1, .int .u64 (a2 : Int), .int .u64 (a3 : Int), .bool b1, .int .u64 (b2 : Int), .int .u64 (b3 : Int), .slice C1 n d1, .bool true, .int .i64 id2, .int .i64 (T.size : Int), .bool ym, .string Y] 28) := ⟨_, rfl⟩
      obtain ⟨gx, hgx⟩ : ∃ g, g = wr.heap.size := ⟨_, rfl⟩
      have X5 := Lib.hid (show Cells W5 gx 28 #[.int .i64 yc, .int .i64 yl, .int .i64 yh, .int .i64 yx, .bool a1, .int .u64 (a2 : Int), .int .u64 (a3 : Int), .bool b1, .int .u64 (b2 : Int), .int .u64 (b3 : Int), .slice C1 n d1, .bool true, .int .i64 id2, .int .i64 (T.size : Int), .bool ym, .string Y] by rw [hW5, hgx]; exact heap_alloc_new wr _)
      have kW5 : Below wr.heap.size wr W5 := by rw [hW5]; exact below_alloc6 wr _
      have HB5 := Lib.hid (HB.out.trans (kW5.mono HB.out.size))
      rw [← hW5, ← hgx]
      clear hW5 hgx
      go_wp2_with (refine wpList_load_row (by rfl) 28 _ (by rfl) gx (by rfl) 28 #[.int .i64 yc, .int .i64 yl, .int .i64 yh, .int .i64 yx, .bool a1, .int .u64 (a2 : Int), .int .u64 (a3 : Int), .bool b1, .int .u64 (b2 : Int), .int .u64 (b3 : Int), .slice C1 n d1, .bool true, .int .i64 id2, .int .i64 (T.size : Int), .bool ym, .string Y] (0, 0) _ X5.out Try.underlying28 (by rfl) (by kernel_rfl) ?_)
      refine (HE1.out _ HB5.out).mono ?_
      rintro e w7 ⟨rfl, b7⟩
      have HB7 := Lib.hid (HB5.out.trans (b7.mono HB5.out.size))
      have X7 := Lib.hid (X5.out.kept b7 X5.out.lt)
      have Z7 := Lib.hid (X3.out.kept HB7.out X3.out.lt)
      clear b7 HE1 HB5 X5 kW5
      have x10 := (Cells.cell X7.out 10).trans (show _ = some (Value.slice C1 n d1) from rfl)
      have x11 := (Cells.cell X7.out 11).trans (show _ = some (Value.bool true) from rfl)
      have x12 := (Cells.cell X7.out 12).trans (show _ = some (Value.int .i64 id2) from rfl)
      have x13 := (Cells.cell X7.out 13).trans (show _ = some (Value.int .i64 (T.size : Int)) from rfl)
      have x14 := (Cells.cell X7.out 14).trans (show _ = some (Value.bool ym) from rfl)
      have x15 := (Cells.cell X7.out 15).trans (show _ = some (Value.string Y) from rfl)
      have p10 := (Cells.cell Z7.out 10).trans (show _ = some (Value.slice A n c) from rfl)
      have HTN2 := Lib.hid (show T ++ Y = str ((R.1.take k1).flatMap (·.pay)) by rw [HKK.out]; exact HTN.out)
      obtain ⟨q1, q2, q3, q6, hT9, hTY, kk1⟩ := HQS.out
      clear HQS
      rcases HDM.out with ⟨m1, m2, rfl, m3⟩ | ⟨m1, m2, rfl⟩
      all_goals
        go_wp2_with fail
        go_roundw
        case rel => exact ⟨k1, T ++ Y, by go_num, rfl, hk1n, hTY, HTN2, HB7⟩
        case measure => have := HKK.out; have := HLT.out; simp [intOf]; omega
    · obtain rfl : k = nn := by omega
      have dlt : decide ((k : Int) < (k : Int)) = false := by simp
      have nlt : ¬ (k : Int) < (k : Int) := by omega
      have hTP : T = P := by
        rw [HT.out, ← HFP.out, HNN.out, List.take_length]
      subst hTP
      have heq : (T.toList == T.toList) = true := beq_self_eq_true _
      have B5 := Lib.hid (B3.out.trans (HB.out.mono B3.out.size))
      have X7 := X3.out.kept HB.out X3.out.lt
      have x15 := (Cells.cell X7 15).trans (show _ = some (Value.string T) from rfl)
      clear X7
      go_wp2_with fail
      go_ret
      exact ⟨rfl, B5.out⟩

set_option maxRecDepth 100000 in
theorem lifted (os : Os) (started : os.Started) (H : Type) (enc : TypeId × Value → H) :
    ReturnsInHanded {} Try.checked os 9 .any (Rows.ipv6PartsSpec.pre6 enc Try.prog Try.f9 Rows.ipv6PartsRow.domain false) (Rows.ipv6PartsSpec.post enc Try.prog Try.f9 false true false false) := by
  refine returnsInHanded_of_change_sized (C := Try.checked) own started (by kernel_rfl) Try.func9
    (ChangeSpec.witness6 (enc := enc) (C := Try.checked) false ⟨#[], #[(.agg #[.int .i64 0, .int .i64 0, .int .i64 0, .int .i64 0, .bool false, .int .u64 0, .int .u64 0, .bool false, .int .u64 0, .int .u64 0, .slice none 0 0, .bool false, .int .i64 0, .int .i64 0, .bool false, .string ⟨#[]⟩]), .int .i64 0, .int .i64 0], []⟩ 8 (by kernel_rfl) (by kernel_rfl) (by kernel_rfl) (by kernel_rfl)) ?_
  intro W base args ds gs before hval0 hW hcnd hsz _
  have hval : ∀ (j : Nat) t v, Try.f9.params[j]? = some t → args[j]? = some v → Value.okWide Try.prog W .any base t v := hval0
  have hW' := hW
  obtain ⟨p, q, hA0, hV, rfl, hfz, hnd⟩ := hW
  have hA : DataW.TrodAll enc Try.prog W 0 (fun _ => true) true Try.f9.params.toList args.toList ds p := hA0
  rw [Try.params9] at hA hval hsz
  obtain ⟨v0, vs0, d0, ds0, p0, q0, hargs, rfl, rfl, h0, r0⟩ := trodAll_cons hA
  obtain ⟨v1, vs1, d1, ds1, p1, q1, rfl, rfl, rfl, h1, r1⟩ := trodAll_cons r0
  obtain ⟨v2, vs2, d2, ds2, p2, q2, rfl, rfl, rfl, h2, r2⟩ := trodAll_cons r1
  obtain ⟨rfl, rfl, rfl⟩ := trodAll_nil r2
  obtain rfl : args = #[v0, v1, v2] := by cases args; simp_all
  obtain ⟨rfl, rfl⟩ := trodVars_none hV
  have k0 := h0
  have lt0 : ∀ x ∈ p0, x.block < W.heap.size := by obtain ⟨m, hm⟩ := k0; exact DataW.trod_lt m _ _ _ hm
  obtain ⟨x0, a0, c0, fx0, rfl, s0, n0⟩ := in_ip6 (hval 0 28 v0 rfl rfl) h0 (fun k hk => of_decide_eq_true (List.all_eq_true.1 hsz _ (DataW.weights_mem_each (j := 0) (t := 28) (d := d0) rfl rfl k hk)))
  obtain ⟨a1, rfl, rfl, rfl, w1⟩ := open_int Try.underlying3 (hval 1 3 v1 rfl rfl) h1
  obtain ⟨a2, rfl, rfl, rfl, w2⟩ := open_int Try.underlying3 (hval 2 3 v2 rfl rfl) h2
  clear hA0 hval0
  refine (walk x0 a0 c0 a1 a2 W fx0 s0 n0 w1 w2).mono fun e W' ⟨he, bel⟩ => ?_
  subst he
  exact ⟨_, rfl, _, _, _, [], _, [], hW', trodAll_mk1 (shut_bool Try.underlying4 _), (trodAll_cons_mk (Below.trod laidOut (by kernel_rfl) (of_decide_eq_true (by kernel_rfl)) k0 bel lt0) (trodAll_cons_mk (shut_int Try.underlying3 w1) (trodAll_cons_mk (shut_int Try.underlying3 w2) trodAll_mk0))), rfl, bel.frame _, fun h => by cases h⟩

theorem over : Rows.ipv6PartsRow.holds Try.pinned (OpenSpec.ofChange Rows.ipv6PartsSpec) :=
  OpenClaim.holds_of_wide 9 Try.f9 rfl rfl rfl rfl rfl rfl rfl ⟨rfl, rfl, rfl, rfl, rfl⟩ rfl rfl rfl rfl rfl (by kernel_rfl) Try.func9 (by kernel_rfl)
    (of_decide_eq_true (by kernel_rfl)) (by unfold Func.isWrapper; first | (rw [if_pos (by decide +kernel)]; kernel_rfl) | (rw [if_neg (by decide +kernel)]; exact ⟨rfl, rfl⟩))
    (fun os started H enc _ => lifted os started H enc)

theorem proved : Rows.Ipv6PartsSaid := over
#print axioms proved
end Go.Proofs.Ytjjldolafnfpoaa.ipv6Parts
