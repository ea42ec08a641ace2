/- Ipv6Splits holds: for every packet, size and identification the law about Split beside the reference returns true and leaves memory as it was; no conditions. -/
import Derived.Test.YtjjldolafnfpoaaRows
import Derived.Test.YtjjldolafnfpoaaChecked
import Derived.Deep.Cut
import Derived.Deep.WholeRow
import Derived.BigQuiet
import Derived.Test.YtjjldolafnfpoaaPE44
namespace Go.Proofs.Ytjjldolafnfpoaa.ipv6Splits
open Go.ChangeShapes Go.WideShapes Go.ChangeAt Go.RowKit
open Go.ChangeMaps (open_string shut_string)
set_option linter.unusedVariables false

theorem own : ownKnob Try.prog.godebug = none := by kernel_rfl
theorem laidOut : laidOutB Try.prog = true := by kernel_rfl
set_option maxHeartbeats 8000000 in
set_option maxRecDepth 20000 in
theorem walk (x : Ip6R) (A : Option Addr) (c : Nat) (size id2 : Int) (w : World) (hw : ip6Wf x) (h : RowL EOpt w A x.exts) (hc : A = none → c = 0) (hz : (Lit.int .i64 size).wf = true) (hz2 : (Lit.int .i64 id2).wf = true) :
    Calls Try.prog 5 #[.agg (ip6C x x.exts.length A c (str x.pay)), .int .i64 size, .int .i64 id2] w fun e w' => e = .returned (.bool true) ∧ Below w.heap.size w w' := by
  obtain ⟨p, hp⟩ : ∃ q, q = x := ⟨_, rfl⟩
  have HPX := Lib.hid hp
  have HWF := Lib.hid (show ip6Wf p by rw [hp]; exact hw)
  have HOP := Lib.hid (show RowL EOpt w A p.exts by rw [hp]; exact h)
  have HC0 := Lib.hid hc
  obtain ⟨cls, lab, hops, nxt, ⟨sv, sh, sl⟩, ⟨dv, dh, dl⟩, l, frg, id, off, more, pay⟩ := x
  unfold ip6C
  dsimp only
  obtain ⟨n, hn⟩ : ∃ n, n = l.length := ⟨_, rfl⟩
  obtain ⟨P, hP⟩ : ∃ P, P = str pay := ⟨_, rfl⟩
  have hPs : P.size = pay.length := by rw [hP, str_size]
  have HPA := Lib.hid (show #[.int .i64 cls, .int .i64 lab, .int .i64 hops, .int .i64 nxt, .bool sv, .int .u64 (sh : Int), .int .u64 (sl : Int), .bool dv, .int .u64 (dh : Int), .int .u64 (dl : Int), .slice A n c, .bool frg, .int .i64 id, .int .i64 off, .bool more, .string P] = ip6C p p.exts.length A c (str p.pay) by rw [hn, hP, hp]; rfl)
  have HPL := Lib.hid (show p.pay.length = P.size ∧ p.exts.length = n ∧ P.size ≤ maxLen ∧ n ≤ maxLen by rw [hp]; exact ⟨hPs.symm, hn.symm, by rw [hPs]; exact hw.2.2.2.1, by rw [hn]; exact hw.2.2.2.2.1⟩)
  obtain ⟨lg, hlg⟩ : ∃ b : Bool, b = longB l P.size 66000 := ⟨_, rfl⟩
  have HLG := Lib.hid (fun (W : World) (hb : Below w.heap.size w W) => show Calls Try.prog 14 #[.agg #[.int .i64 cls, .int .i64 lab, .int .i64 hops, .int .i64 nxt, .bool sv, .int .u64 (sh : Int), .int .u64 (sl : Int), .bool dv, .int .u64 (dh : Int), .int .u64 (dl : Int), .slice A n c, .bool frg, .int .i64 id, .int .i64 off, .bool more, .string P], .int .i64 66000] W fun e w' => e = .returned (.bool lg) ∧ Below W.heap.size W w' from by
    rw [hlg, hn]
    exact rlong12_any cls lab hops nxt id off sv dv frg more sh sl dh dl l A c P 66000 66000 rfl W (h.kept hb) (Nat.le_trans hw.2.2.2.2.1 (by decide)) (fun y hy => Nat.le_trans (hw.2.2.2.2.2 y hy).2 (by decide)) (by rw [hPs]; exact Nat.le_trans hw.2.2.2.1 (by decide)))
  have HLB := Lib.hid (show lg = false → P.size ≤ 66000 ∧ n ≤ 10 by
    intro e
    rw [hlg] at e
    unfold longB at e
    rw [Bool.or_eq_false_iff] at e
    have h2 := of_decide_eq_false e.2
    omega)
  rw [← hn, ← hP]
  have HNP := Lib.hid (And.intro hn hP)
  clear hp hw h hc hn hP hPs hlg
  have B0 := Lib.hid (Below.refl w.heap.size w)
  cases lg
  · obtain ⟨hPm, hnm⟩ := HLB.out rfl
    have HOK := Lib.hid (fun (W : World) (hb : Below w.heap.size w W) => show ip6Ok W p A c from ⟨HWF.out, HOP.out.kept hb, HC0.out, by have h1 := HPL.out.2.1; omega, by have h1 := HPL.out.1; omega⟩)
    by_cases hlong : 2000 < P.size ∧ 0 < size ∧ size < 5000
    · obtain ⟨h1, h2, h3⟩ := hlong
      have d1 : decide ((2000 : Int) < (P.size : Int)) = true := by simp; omega
      have e1 : (2000 : Int) < (P.size : Int) := by omega
      have d2 : decide ((0 : Int) < size) = true := by simp; omega
      have d3 : decide (size < 5000) = true := by simp; omega
      clear h1 HOK HPA HPL HWF HOP HPX HNP HLB HC0
      go_enter Try.func5, Try.ntmps5
      go_upto_region 1 with fail
      obtain ⟨W1, hW1⟩ : ∃ W, W = w.alloc (.cells #[.int .i64 cls, .int .i64 lab, .int .i64 hops, .int .i64 nxt, .bool sv, .int .u64 (sh : Int), .int .u64 (sl : Int), .bool dv, .int .u64 (dh : Int), .int .u64 (dl : Int), .slice A n c, .bool frg, .int .i64 id, .int .i64 off, .bool more, .string P] 28) := ⟨_, rfl⟩
      obtain ⟨g0, hg0⟩ : ∃ g, g = w.heap.size := ⟨_, rfl⟩
      have X1 := Lib.hid (show Cells W1 g0 28 #[.int .i64 cls, .int .i64 lab, .int .i64 hops, .int .i64 nxt, .bool sv, .int .u64 (sh : Int), .int .u64 (sl : Int), .bool dv, .int .u64 (dh : Int), .int .u64 (dl : Int), .slice A n c, .bool frg, .int .i64 id, .int .i64 off, .bool more, .string P] by rw [hW1, hg0]; exact heap_alloc_new w _)
      have kW1 : Below w.heap.size w W1 := by rw [hW1]; exact below_alloc6 w _
      have B1 := Lib.hid (B0.out.trans (kW1.mono B0.out.size))
      rw [← hW1, ← hg0]
      clear hW1 hg0
      go_wp2_with (refine wpList_load_row (by rfl) 28 _ (by rfl) g0 (by rfl) 28 #[.int .i64 cls, .int .i64 lab, .int .i64 hops, .int .i64 nxt, .bool sv, .int .u64 (sh : Int), .int .u64 (sl : Int), .bool dv, .int .u64 (dh : Int), .int .u64 (dl : Int), .slice A n c, .bool frg, .int .i64 id, .int .i64 off, .bool more, .string P] (0, 0) _ X1.out Try.underlying28 (by rfl) (by kernel_rfl) ?_)
      refine (HLG.out _ B1.out).mono ?_
      rintro e w2 ⟨rfl, b2⟩
      have X2 := Lib.hid (X1.out.kept b2 X1.out.lt)
      have B2 := Lib.hid (B1.out.trans (b2.mono B1.out.size))
      clear b2
      clear X1 HLG kW1
      have x15 := (Cells.cell X2.out 15).trans (show _ = some (Value.string P) from rfl)
      go_wp2_with fail
      refine (lv12 _).mono ?_
      rintro e w99 ⟨rfl, b99⟩
      go_wp2_with fail
      go_ret
      exact ⟨rfl, B2.out.trans (b99.mono B2.out.size)⟩
    obtain ⟨R, hR⟩ : ∃ R, R = splitX p size id2 := ⟨_, rfl⟩
    have H1 := Lib.hid (fun (W : World) (hb : Below w.heap.size w W) => show Calls Try.prog 17 #[.agg #[.int .i64 cls, .int .i64 lab, .int .i64 hops, .int .i64 nxt, .bool sv, .int .u64 (sh : Int), .int .u64 (sl : Int), .bool dv, .int .u64 (dh : Int), .int .u64 (dl : Int), .slice A n c, .bool frg, .int .i64 id, .int .i64 off, .bool more, .string P], .int .i64 size, .int .i64 id2] W (SplP6 W R) from by
      rw [HPA.out, hR]
      exact prog12.spl p size id2 A c W trivial (HOK.out W hb) hz hz2)
    have H2 := Lib.hid (fun (W : World) (hb : Below w.heap.size w W) => show Calls Try.prog 18 #[.agg #[.int .i64 cls, .int .i64 lab, .int .i64 hops, .int .i64 nxt, .bool sv, .int .u64 (sh : Int), .int .u64 (sl : Int), .bool dv, .int .u64 (dh : Int), .int .u64 (dl : Int), .slice A n c, .bool frg, .int .i64 id, .int .i64 off, .bool more, .string P], .int .i64 size, .int .i64 id2] W (SplP6 W R) from by
      have hwf := HWF.out
      have hop := HOP.out.kept hb
      have h1 := HPL.out.1
      have h2 := HPL.out.2.1
      rw [HPX.out] at hwf hop h1 h2
      have := rsplit12_any cls lab hops nxt id off sv dv frg more sh sl dh dl l pay size id2 A c W hop HC0.out hwf.2.1.1 hwf.2.1.2 hwf.2.2.1.1 hwf.2.2.1.2 (by dsimp only at h2; omega) (fun y hy => Nat.le_trans (hwf.2.2.2.2.2 y hy).2 (by decide)) (by dsimp only at h1; omega) (wf_i64_12 hz).2
      rw [← HPX.out, ← HNP.out.1, ← HNP.out.2, ← hR] at this
      exact this)
    obtain ⟨hlen, hops⟩ := split6_len p size id2
    rw [← hR] at hlen hops
    obtain ⟨nn, hnn⟩ : ∃ k, k = R.1.length := ⟨_, rfl⟩
    obtain ⟨er, her⟩ : ∃ k, k = R.2 := ⟨_, rfl⟩
    have hnn6 : nn ≤ 66001 := by rw [hnn]; have := HPL.out.1; omega
    have HAL := Lib.hid (fun (es1 es2 : List Ip6E) (A1 A2 : Option Addr) (c1 c2 : Nat) (W : World) (hm1 : es1.map (·.1) = R.1) (hm2 : es2.map (·.1) = R.1) (hr1 : RowL EIp6 W A1 es1) (hr2 : RowL EIp6 W A2 es2) (ho1 : ∀ x ∈ es1, RowL EOpt W x.2.1 x.1.exts) (ho2 : ∀ x ∈ es2, RowL EOpt W x.2.1 x.1.exts) => show Calls Try.prog 19 #[.slice A1 nn c1, .slice A2 nn c2] W fun e w' => e = .returned (.bool true) ∧ Below W.heap.size W w' from by
      rw [hnn]
      exact rall12_any R.1 es1 es2 A1 A2 c1 c2 W hm1 hm2 hr1 hr2 ho1 ho2 (fun y hy => by have h1 := hops y hy; have h2 := HPL.out.2.1; omega) (by omega))
    have n2 : ((er : Int) == (er : Int)) = true := beq_self_eq_true _
    unfold SplP6 at H1 H2
    rw [← hnn, ← her] at H1 H2
    have hcs : (decide ((2000 : Int) < (P.size : Int)) = false ∧ ¬ (2000 : Int) < (P.size : Int)) ∨ (decide ((2000 : Int) < (P.size : Int)) = true ∧ (2000 : Int) < (P.size : Int) ∧ decide ((0 : Int) < size) = false ∧ ¬ (0 : Int) < size) ∨ (decide ((2000 : Int) < (P.size : Int)) = true ∧ (2000 : Int) < (P.size : Int) ∧ decide ((0 : Int) < size) = true ∧ (0 : Int) < size ∧ decide (size < 5000) = false ∧ ¬ size < 5000) := by
      simp only [decide_eq_true_eq, decide_eq_false_iff_not]
      omega
    have HCS := Lib.hid hcs
    clear hR hlen hops hnn her hlong hcs hz hz2 HOK HPA HPL HWF HOP HPX HNP HLB HC0
    go_enter Try.func5, Try.ntmps5
    go_upto_region 1 with fail
    obtain ⟨W1, hW1⟩ : ∃ W, W = w.alloc (.cells #[.int .i64 cls, .int .i64 lab, .int .i64 hops, .int .i64 nxt, .bool sv, .int .u64 (sh : Int), .int .u64 (sl : Int), .bool dv, .int .u64 (dh : Int), .int .u64 (dl : Int), .slice A n c, .bool frg, .int .i64 id, .int .i64 off, .bool more, .string P] 28) := ⟨_, rfl⟩
    obtain ⟨g0, hg0⟩ : ∃ g, g = w.heap.size := ⟨_, rfl⟩
    have X1 := Lib.hid (show Cells W1 g0 28 #[.int .i64 cls, .int .i64 lab, .int .i64 hops, .int .i64 nxt, .bool sv, .int .u64 (sh : Int), .int .u64 (sl : Int), .bool dv, .int .u64 (dh : Int), .int .u64 (dl : Int), .slice A n c, .bool frg, .int .i64 id, .int .i64 off, .bool more, .string P] by rw [hW1, hg0]; exact heap_alloc_new w _)
    have kW1 : Below w.heap.size w W1 := by rw [hW1]; exact below_alloc6 w _
    have B1 := Lib.hid (B0.out.trans (kW1.mono B0.out.size))
    rw [← hW1, ← hg0]
    clear hW1 hg0
    go_wp2_with (refine wpList_load_row (by rfl) 28 _ (by rfl) g0 (by rfl) 28 #[.int .i64 cls, .int .i64 lab, .int .i64 hops, .int .i64 nxt, .bool sv, .int .u64 (sh : Int), .int .u64 (sl : Int), .bool dv, .int .u64 (dh : Int), .int .u64 (dl : Int), .slice A n c, .bool frg, .int .i64 id, .int .i64 off, .bool more, .string P] (0, 0) _ X1.out Try.underlying28 (by rfl) (by kernel_rfl) ?_)
    refine (HLG.out _ B1.out).mono ?_
    rintro e w2 ⟨rfl, b2⟩
    have X2 := Lib.hid (X1.out.kept b2 X1.out.lt)
    have B2 := Lib.hid (B1.out.trans (b2.mono B1.out.size))
    clear b2
    clear X1 HLG kW1
    have x15 := (Cells.cell X2.out 15).trans (show _ = some (Value.string P) from rfl)
    rcases HCS.out with ⟨d1, e1⟩ | ⟨d1, e1, d2, e2⟩ | ⟨d1, e1, d2, e2, d3, e3⟩
    all_goals
      go_wp2_with (refine wpList_load_row (by rfl) 28 _ (by rfl) g0 (by rfl) 28 #[.int .i64 cls, .int .i64 lab, .int .i64 hops, .int .i64 nxt, .bool sv, .int .u64 (sh : Int), .int .u64 (sl : Int), .bool dv, .int .u64 (dh : Int), .int .u64 (dl : Int), .slice A n c, .bool frg, .int .i64 id, .int .i64 off, .bool more, .string P] (0, 0) _ X2.out Try.underlying28 (by rfl) (by kernel_rfl) ?_)
      refine (H1.out _ B2.out).mono ?_
      rintro e w3 ⟨A1, c1, es1, rfl, hm1, hr1, ho1, hn1, b3⟩
      have X3 := Lib.hid (X2.out.kept b3 X2.out.lt)
      have HM1 := Lib.hid hm1
      have HR1 := Lib.hid hr1
      have HO1 := Lib.hid ho1
      have B3 := Lib.hid (B2.out.trans (b3.mono B2.out.size))
      clear b3
      clear X2 x15 hn1 hm1 hr1 ho1
      go_wp2_with (refine wpList_load_row (by rfl) 28 _ (by rfl) g0 (by rfl) 28 #[.int .i64 cls, .int .i64 lab, .int .i64 hops, .int .i64 nxt, .bool sv, .int .u64 (sh : Int), .int .u64 (sl : Int), .bool dv, .int .u64 (dh : Int), .int .u64 (dl : Int), .slice A n c, .bool frg, .int .i64 id, .int .i64 off, .bool more, .string P] (0, 0) _ X3.out Try.underlying28 (by rfl) (by kernel_rfl) ?_)
      refine (H2.out _ B3.out).mono ?_
      rintro e w4 ⟨A2, c2, es2, rfl, hm2, hr2, ho2, hn2, b4⟩
      have HM2 := Lib.hid hm2
      have HR2 := Lib.hid hr2
      have HO2 := Lib.hid ho2
      have HR3 := Lib.hid (HR1.out.kept b4)
      have HO3 := Lib.hid (fun (x : Ip6E) (hx : x ∈ es1) => (HO1.out x hx).2.kept b4)
      have B4 := Lib.hid (B3.out.trans (b4.mono B3.out.size))
      clear b4
      clear X3 hm2 hr2 ho2 hn2 HR1 HO1
      go_wp2_with fail
      refine (HAL.out es1 es2 A1 A2 c1 c2 _ HM1.out HM2.out HR3.out HR2.out HO3.out (fun x hx => (HO2.out x hx).2)).mono ?_
      rintro e w5 ⟨rfl, b5⟩
      have B5 := Lib.hid (B4.out.trans (b5.mono B4.out.size))
      clear b5
      clear HM1 HM2 HR2 HR3 HO2 HO3
      go_wp2_with fail
      refine (lv12 _).mono ?_
      rintro e w99 ⟨rfl, b99⟩
      go_wp2_with fail
      go_ret
      exact ⟨rfl, B5.out.trans (b99.mono B5.out.size)⟩
  · go_enter Try.func5, Try.ntmps5
    go_upto_region 1 with fail
    obtain ⟨W1, hW1⟩ : ∃ W, W = w.alloc (.cells #[.int .i64 cls, .int .i64 lab, .int .i64 hops, .int .i64 nxt, .bool sv, .int .u64 (sh : Int), .int .u64 (sl : Int), .bool dv, .int .u64 (dh : Int), .int .u64 (dl : Int), .slice A n c, .bool frg, .int .i64 id, .int .i64 off, .bool more, .string P] 28) := ⟨_, rfl⟩
    obtain ⟨g0, hg0⟩ : ∃ g, g = w.heap.size := ⟨_, rfl⟩
    have X1 := Lib.hid (show Cells W1 g0 28 #[.int .i64 cls, .int .i64 lab, .int .i64 hops, .int .i64 nxt, .bool sv, .int .u64 (sh : Int), .int .u64 (sl : Int), .bool dv, .int .u64 (dh : Int), .int .u64 (dl : Int), .slice A n c, .bool frg, .int .i64 id, .int .i64 off, .bool more, .string P] by rw [hW1, hg0]; exact heap_alloc_new w _)
    have kW1 : Below w.heap.size w W1 := by rw [hW1]; exact below_alloc6 w _
    have B1 := Lib.hid (B0.out.trans (kW1.mono B0.out.size))
    rw [← hW1, ← hg0]
    clear hW1 hg0
    go_wp2_with (refine wpList_load_row (by rfl) 28 _ (by rfl) g0 (by rfl) 28 #[.int .i64 cls, .int .i64 lab, .int .i64 hops, .int .i64 nxt, .bool sv, .int .u64 (sh : Int), .int .u64 (sl : Int), .bool dv, .int .u64 (dh : Int), .int .u64 (dl : Int), .slice A n c, .bool frg, .int .i64 id, .int .i64 off, .bool more, .string P] (0, 0) _ X1.out Try.underlying28 (by rfl) (by kernel_rfl) ?_)
    refine (HLG.out _ B1.out).mono ?_
    rintro e w2 ⟨rfl, b2⟩
    have X2 := Lib.hid (X1.out.kept b2 X1.out.lt)
    have B2 := Lib.hid (B1.out.trans (b2.mono B1.out.size))
    clear b2
    clear X1 HLG kW1
    go_wp2_with fail
    refine (lv12 _).mono ?_
    rintro e w99 ⟨rfl, b99⟩
    go_wp2_with fail
    go_ret
    exact ⟨rfl, B2.out.trans (b99.mono B2.out.size)⟩

set_option maxRecDepth 100000 in
theorem lifted (os : Os) (started : os.Started) (H : Type) (enc : TypeId × Value → H) :
    ReturnsInHanded {} Try.checked os 5 .any (Rows.ipv6SplitsSpec.pre6 enc Try.prog Try.f5 Rows.ipv6SplitsRow.domain false) (Rows.ipv6SplitsSpec.post enc Try.prog Try.f5 false true false false) := by
  refine returnsInHanded_of_change_sized (C := Try.checked) own started (by kernel_rfl) Try.func5
    (ChangeSpec.witness6 (enc := enc) (C := Try.checked) false ⟨#[], #[(.agg #[.int .i64 0, .int .i64 0, .int .i64 0, .int .i64 0, .bool false, .int .u64 0, .int .u64 0, .bool false, .int .u64 0, .int .u64 0, .slice none 0 0, .bool false, .int .i64 0, .int .i64 0, .bool false, .string ⟨#[]⟩]), .int .i64 0, .int .i64 0], []⟩ 8 (by kernel_rfl) (by kernel_rfl) (by kernel_rfl) (by kernel_rfl)) ?_
  intro W base args ds gs before hval0 hW hcnd hsz _
  have hval : ∀ (j : Nat) t v, Try.f5.params[j]? = some t → args[j]? = some v → Value.okWide Try.prog W .any base t v := hval0
  have hW' := hW
  obtain ⟨p, q, hA0, hV, rfl, hfz, hnd⟩ := hW
  have hA : DataW.TrodAll enc Try.prog W 0 (fun _ => true) true Try.f5.params.toList args.toList ds p := hA0
  rw [Try.params5] at hA hval hsz
  obtain ⟨v0, vs0, d0, ds0, p0, q0, hargs, rfl, rfl, h0, r0⟩ := trodAll_cons hA
  obtain ⟨v1, vs1, d1, ds1, p1, q1, rfl, rfl, rfl, h1, r1⟩ := trodAll_cons r0
  obtain ⟨v2, vs2, d2, ds2, p2, q2, rfl, rfl, rfl, h2, r2⟩ := trodAll_cons r1
  obtain ⟨rfl, rfl, rfl⟩ := trodAll_nil r2
  obtain rfl : args = #[v0, v1, v2] := by cases args; simp_all
  obtain ⟨rfl, rfl⟩ := trodVars_none hV
  have k0 := h0
  have lt0 : ∀ x ∈ p0, x.block < W.heap.size := by obtain ⟨m, hm⟩ := k0; exact DataW.trod_lt m _ _ _ hm
  obtain ⟨x0, a0, c0, fx0, rfl, s0, n0⟩ := in_ip6 (hval 0 28 v0 rfl rfl) h0 (fun k hk => of_decide_eq_true (List.all_eq_true.1 hsz _ (DataW.weights_mem_each (j := 0) (t := 28) (d := d0) rfl rfl k hk)))
  obtain ⟨a1, rfl, rfl, rfl, w1⟩ := open_int Try.underlying3 (hval 1 3 v1 rfl rfl) h1
  obtain ⟨a2, rfl, rfl, rfl, w2⟩ := open_int Try.underlying3 (hval 2 3 v2 rfl rfl) h2
  clear hA0 hval0
  refine (walk x0 a0 c0 a1 a2 W fx0 s0 n0 w1 w2).mono fun e W' ⟨he, bel⟩ => ?_
  subst he
  exact ⟨_, rfl, _, _, _, [], _, [], hW', trodAll_mk1 (shut_bool Try.underlying4 _), (trodAll_cons_mk (Below.trod laidOut (by kernel_rfl) (of_decide_eq_true (by kernel_rfl)) k0 bel lt0) (trodAll_cons_mk (shut_int Try.underlying3 w1) (trodAll_cons_mk (shut_int Try.underlying3 w2) trodAll_mk0))), rfl, bel.frame _, fun h => by cases h⟩

theorem over : Rows.ipv6SplitsRow.holds Try.pinned (OpenSpec.ofChange Rows.ipv6SplitsSpec) :=
  OpenClaim.holds_of_wide 5 Try.f5 rfl rfl rfl rfl rfl rfl rfl ⟨rfl, rfl, rfl, rfl, rfl⟩ rfl rfl rfl rfl rfl (by kernel_rfl) Try.func5 (by kernel_rfl)
    (of_decide_eq_true (by kernel_rfl)) (by unfold Func.isWrapper; first | (rw [if_pos (by decide +kernel)]; kernel_rfl) | (rw [if_neg (by decide +kernel)]; exact ⟨rfl, rfl⟩))
    (fun os started H enc _ => lifted os started H enc)

theorem proved : Rows.Ipv6SplitsSaid := over
#print axioms proved
end Go.Proofs.Ytjjldolafnfpoaa.ipv6Splits
