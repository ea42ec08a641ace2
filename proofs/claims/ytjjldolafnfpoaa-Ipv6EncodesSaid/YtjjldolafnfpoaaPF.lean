/- Ipv6Encodes holds: for every packet the law about Encode beside the reference returns true and leaves memory as it was; no conditions. -/
import Derived.Test.YtjjldolafnfpoaaRows
import Derived.Test.YtjjldolafnfpoaaChecked
import Derived.Deep.Cut
import Derived.Deep.WholeRow
import Derived.BigQuiet
import Derived.Test.YtjjldolafnfpoaaPE44
namespace Go.Proofs.Ytjjldolafnfpoaa.ipv6Encodes
open Go.ChangeShapes Go.WideShapes Go.ChangeAt Go.RowKit
open Go.ChangeMaps (open_string shut_string)
set_option linter.unusedVariables false

theorem own : ownKnob Try.prog.godebug = none := by kernel_rfl
theorem laidOut : laidOutB Try.prog = true := by kernel_rfl
set_option maxHeartbeats 8000000 in
set_option maxRecDepth 20000 in
theorem walk (x : Ip6R) (A : Option Addr) (c : Nat) (w : World) (hw : ip6Wf x) (h : RowL EOpt w A x.exts) (hc : A = none → c = 0) :
    Calls Try.prog 4 #[.agg (ip6C x x.exts.length A c (str x.pay))] w fun e w' => e = .returned (.bool true) ∧ Below w.heap.size w w' := by
  obtain ⟨p, hp⟩ : ∃ q, q = x := ⟨_, rfl⟩
  have HPX := Lib.hid hp
  have HWF := Lib.hid (show ip6Wf p by rw [hp]; exact hw)
  have HOP := Lib.hid (show RowL EOpt w A p.exts by rw [hp]; exact h)
  have HC0 := Lib.hid hc
  obtain ⟨cls, lab, hops, nxt, ⟨sv, sh, sl⟩, ⟨dv, dh, dl⟩, l, frg, id, off, more, pay⟩ := x
  unfold ip6C
  dsimp only
  obtain ⟨n, hn⟩ : ∃ n, n = l.length := ⟨_, rfl⟩
  obtain ⟨P, hP⟩ : ∃ P, P = str pay := ⟨_, rfl⟩
  have hPs : P.size = pay.length := by rw [hP, str_size]
  have HPA := Lib.hid (show #[.int .i64 cls, .int .i64 lab, .int .i64 hops, .int .i64 nxt, .bool sv, .int .u64 (sh : Int), .int .u64 (sl : Int), .bool dv, .int .u64 (dh : Int), .int .u64 (dl : Int), .slice A n c, .bool frg, .int .i64 id, .int .i64 off, .bool more, .string P] = ip6C p p.exts.length A c (str p.pay) by rw [hn, hP, hp]; rfl)
  have HPL := Lib.hid (show p.pay.length = P.size ∧ p.exts.length = n ∧ P.size ≤ maxLen ∧ n ≤ maxLen by rw [hp]; exact ⟨hPs.symm, hn.symm, by rw [hPs]; exact hw.2.2.2.1, by rw [hn]; exact hw.2.2.2.2.1⟩)
  obtain ⟨lg, hlg⟩ : ∃ b : Bool, b = longB l P.size 66000 := ⟨_, rfl⟩
  have HLG := Lib.hid (fun (W : World) (hb : Below w.heap.size w W) => show Calls Try.prog 14 #[.agg #[.int .i64 cls, .int .i64 lab, .int .i64 hops, .int .i64 nxt, .bool sv, .int .u64 (sh : Int), .int .u64 (sl : Int), .bool dv, .int .u64 (dh : Int), .int .u64 (dl : Int), .slice A n c, .bool frg, .int .i64 id, .int .i64 off, .bool more, .string P], .int .i64 66000] W fun e w' => e = .returned (.bool lg) ∧ Below W.heap.size W w' from by
    rw [hlg, hn]
    exact rlong12_any cls lab hops nxt id off sv dv frg more sh sl dh dl l A c P 66000 66000 rfl W (h.kept hb) (Nat.le_trans hw.2.2.2.2.1 (by decide)) (fun y hy => Nat.le_trans (hw.2.2.2.2.2 y hy).2 (by decide)) (by rw [hPs]; exact Nat.le_trans hw.2.2.2.1 (by decide)))
  have HLB := Lib.hid (show lg = false → P.size ≤ 66000 ∧ n ≤ 10 by
    intro e
    rw [hlg] at e
    unfold longB at e
    rw [Bool.or_eq_false_iff] at e
    have h2 := of_decide_eq_false e.2
    omega)
  rw [← hn, ← hP]
  have HNP := Lib.hid (And.intro hn hP)
  clear hp hw h hc hn hP hPs hlg
  have B0 := Lib.hid (Below.refl w.heap.size w)
  cases lg
  · obtain ⟨hPm, hnm⟩ := HLB.out rfl
    have HOK := Lib.hid (fun (W : World) (hb : Below w.heap.size w W) => show ip6Ok W p A c from ⟨HWF.out, HOP.out.kept hb, HC0.out, by have h1 := HPL.out.2.1; omega, by have h1 := HPL.out.1; omega⟩)
    obtain ⟨er, her⟩ : ∃ e, e = (encX p).2 := ⟨_, rfl⟩
    obtain ⟨ES, hES⟩ : ∃ e, e = str (encX p).1 := ⟨_, rfl⟩
    have H1 := Lib.hid (fun (W : World) (hb : Below w.heap.size w W) => show Calls Try.prog 15 #[.agg #[.int .i64 cls, .int .i64 lab, .int .i64 hops, .int .i64 nxt, .bool sv, .int .u64 (sh : Int), .int .u64 (sl : Int), .bool dv, .int .u64 (dh : Int), .int .u64 (dl : Int), .slice A n c, .bool frg, .int .i64 id, .int .i64 off, .bool more, .string P]] W fun e w' => e = .returned (.tuple #[.string ES, .int .i64 (er : Int)]) ∧ Below W.heap.size W w' from by
      rw [HPA.out, her, hES]
      exact prog12.enc p A c W trivial (HOK.out W hb))
    have H2 := Lib.hid (fun (W : World) (hb : Below w.heap.size w W) => show Calls Try.prog 16 #[.agg #[.int .i64 cls, .int .i64 lab, .int .i64 hops, .int .i64 nxt, .bool sv, .int .u64 (sh : Int), .int .u64 (sl : Int), .bool dv, .int .u64 (dh : Int), .int .u64 (dl : Int), .slice A n c, .bool frg, .int .i64 id, .int .i64 off, .bool more, .string P]] W fun e w' => e = .returned (.tuple #[.string ES, .int .i64 (er : Int)]) ∧ Below W.heap.size W w' from by
      have hwf := HWF.out
      have hop := HOP.out.kept hb
      have h1 := HPL.out.1
      have h2 := HPL.out.2.1
      rw [HPX.out] at hwf hop h1 h2
      have := renc12_any cls lab hops nxt id off sv dv frg more sh sl dh dl l pay A c W hop hwf.2.1.1 hwf.2.1.2 hwf.2.2.1.1 hwf.2.2.1.2 (by dsimp only at h2; omega) (fun y hy => Nat.le_trans (hwf.2.2.2.2.2 y hy).2 (by decide)) (by dsimp only at h1; omega)
      rw [← HPX.out, ← her, ← hES, ← HNP.out.1, ← HNP.out.2] at this
      exact this)
    have heq : (ES.toList == ES.toList) = true := beq_self_eq_true _
    have her2 : ((er : Int) == (er : Int)) = true := beq_self_eq_true _
    clear her hES HOK HPA HPL HWF HOP HPX HNP HLB HC0
    go_enter Try.func4, Try.ntmps4
    go_upto_region 1 with fail
    obtain ⟨W1, hW1⟩ : ∃ W, W = w.alloc (.cells #[.int .i64 cls, .int .i64 lab, .int .i64 hops, .int .i64 nxt, .bool sv, .int .u64 (sh : Int), .int .u64 (sl : Int), .bool dv, .int .u64 (dh : Int), .int .u64 (dl : Int), .slice A n c, .bool frg, .int .i64 id, .int .i64 off, .bool more, .string P] 28) := ⟨_, rfl⟩
    obtain ⟨g0, hg0⟩ : ∃ g, g = w.heap.size := ⟨_, rfl⟩
    have X1 := Lib.hid (show Cells W1 g0 28 #[.int .i64 cls, .int .i64 lab, .int .i64 hops, .int .i64 nxt, .bool sv, .int .u64 (sh : Int), .int .u64 (sl : Int), .bool dv, .int .u64 (dh : Int), .int .u64 (dl : Int), .slice A n c, .bool frg, .int .i64 id, .int .i64 off, .bool more, .string P] by rw [hW1, hg0]; exact heap_alloc_new w _)
    have kW1 : Below w.heap.size w W1 := by rw [hW1]; exact below_alloc6 w _
    have B1 := Lib.hid (B0.out.trans (kW1.mono B0.out.size))
    rw [← hW1, ← hg0]
    clear hW1 hg0
    go_wp2_with (refine wpList_load_row (by rfl) 28 _ (by rfl) g0 (by rfl) 28 #[.int .i64 cls, .int .i64 lab, .int .i64 hops, .int .i64 nxt, .bool sv, .int .u64 (sh : Int), .int .u64 (sl : Int), .bool dv, .int .u64 (dh : Int), .int .u64 (dl : Int), .slice A n c, .bool frg, .int .i64 id, .int .i64 off, .bool more, .string P] (0, 0) _ X1.out Try.underlying28 (by rfl) (by kernel_rfl) ?_)
    refine (HLG.out _ B1.out).mono ?_
    rintro e w2 ⟨rfl, b2⟩
    have X2 := Lib.hid (X1.out.kept b2 X1.out.lt)
    have B2 := Lib.hid (B1.out.trans (b2.mono B1.out.size))
    clear b2
    clear X1 HLG kW1
    go_wp2_with (refine wpList_load_row (by rfl) 28 _ (by rfl) g0 (by rfl) 28 #[.int .i64 cls, .int .i64 lab, .int .i64 hops, .int .i64 nxt, .bool sv, .int .u64 (sh : Int), .int .u64 (sl : Int), .bool dv, .int .u64 (dh : Int), .int .u64 (dl : Int), .slice A n c, .bool frg, .int .i64 id, .int .i64 off, .bool more, .string P] (0, 0) _ X2.out Try.underlying28 (by rfl) (by kernel_rfl) ?_)
    refine (H1.out _ B2.out).mono ?_
    rintro e w3 ⟨rfl, b3⟩
    have X3 := Lib.hid (X2.out.kept b3 X2.out.lt)
    have B3 := Lib.hid (B2.out.trans (b3.mono B2.out.size))
    clear b3
    clear X2 H1
    go_wp2_with (refine wpList_load_row (by rfl) 28 _ (by rfl) g0 (by rfl) 28 #[.int .i64 cls, .int .i64 lab, .int .i64 hops, .int .i64 nxt, .bool sv, .int .u64 (sh : Int), .int .u64 (sl : Int), .bool dv, .int .u64 (dh : Int), .int .u64 (dl : Int), .slice A n c, .bool frg, .int .i64 id, .int .i64 off, .bool more, .string P] (0, 0) _ X3.out Try.underlying28 (by rfl) (by kernel_rfl) ?_)
    refine (H2.out _ B3.out).mono ?_
    rintro e w4 ⟨rfl, b4⟩
    have B4 := Lib.hid (B3.out.trans (b4.mono B3.out.size))
    clear b4
    clear X3 H2
    go_wp2_with fail
    refine (lv12 _).mono ?_
    rintro e w99 ⟨rfl, b99⟩
    go_wp2_with fail
    go_ret
    exact ⟨rfl, B4.out.trans (b99.mono B4.out.size)⟩
  · go_enter Try.func4, Try.ntmps4
    go_upto_region 1 with fail
    obtain ⟨W1, hW1⟩ : ∃ W, W = w.alloc (.cells #[.int .i64 cls, .int .i64 lab, .int .i64 hops, .int .i64 nxt, .bool sv, .int .u64 (sh : Int), .int .u64 (sl : Int), .bool dv, .int .u64 (dh : Int), .int .u64 (dl : Int), .slice A n c, .bool frg, .int .i64 id, .int .i64 off, .bool more, .string P] 28) := ⟨_, rfl⟩
    obtain ⟨g0, hg0⟩ : ∃ g, g = w.heap.size := ⟨_, rfl⟩
    have X1 := Lib.hid (show Cells W1 g0 28 #[.int .i64 cls, .int .i64 lab, .int .i64 hops, .int .i64 nxt, .bool sv, .int .u64 (sh : Int), .int .u64 (sl : Int), .bool dv, .int .u64 (dh : Int), .int .u64 (dl : Int), .slice A n c, .bool frg, .int .i64 id, .int .i64 off, .bool more, .string P] by rw [hW1, hg0]; exact heap_alloc_new w _)
    have kW1 : Below w.heap.size w W1 := by rw [hW1]; exact below_alloc6 w _
    have B1 := Lib.hid (B0.out.trans (kW1.mono B0.out.size))
    rw [← hW1, ← hg0]
    clear hW1 hg0
    go_wp2_with (refine wpList_load_row (by rfl) 28 _ (by rfl) g0 (by rfl) 28 #[.int .i64 cls, .int .i64 lab, .int .i64 hops, .int .i64 nxt, .bool sv, .int .u64 (sh : Int), .int .u64 (sl : Int), .bool dv, .int .u64 (dh : Int), .int .u64 (dl : Int), .slice A n c, .bool frg, .int .i64 id, .int .i64 off, .bool more, .string P] (0, 0) _ X1.out Try.underlying28 (by rfl) (by kernel_rfl) ?_)
    refine (HLG.out _ B1.out).mono ?_
    rintro e w2 ⟨rfl, b2⟩
    have X2 := Lib.hid (X1.out.kept b2 X1.out.lt)
    have B2 := Lib.hid (B1.out.trans (b2.mono B1.out.size))
    clear b2
    clear X1 HLG kW1
    go_wp2_with fail
    refine (lv12 _).mono ?_
    rintro e w99 ⟨rfl, b99⟩
    go_wp2_with fail
    go_ret
    exact ⟨rfl, B2.out.trans (b99.mono B2.out.size)⟩

set_option maxRecDepth 100000 in
theorem lifted (os : Os) (started : os.Started) (H : Type) (enc : TypeId × Value → H) :
    ReturnsInHanded {} Try.checked os 4 .any (Rows.ipv6EncodesSpec.pre6 enc Try.prog Try.f4 Rows.ipv6EncodesRow.domain false) (Rows.ipv6EncodesSpec.post enc Try.prog Try.f4 false true false false) := by
  refine returnsInHanded_of_change_sized (C := Try.checked) own started (by kernel_rfl) Try.func4
    (ChangeSpec.witness6 (enc := enc) (C := Try.checked) false ⟨#[], #[(.agg #[.int .i64 0, .int .i64 0, .int .i64 0, .int .i64 0, .bool false, .int .u64 0, .int .u64 0, .bool false, .int .u64 0, .int .u64 0, .slice none 0 0, .bool false, .int .i64 0, .int .i64 0, .bool false, .string ⟨#[]⟩])], []⟩ 8 (by kernel_rfl) (by kernel_rfl) (by kernel_rfl) (by kernel_rfl)) ?_
  intro W base args ds gs before hval0 hW hcnd hsz _
  have hval : ∀ (j : Nat) t v, Try.f4.params[j]? = some t → args[j]? = some v → Value.okWide Try.prog W .any base t v := hval0
  have hW' := hW
  obtain ⟨p, q, hA0, hV, rfl, hfz, hnd⟩ := hW
  have hA : DataW.TrodAll enc Try.prog W 0 (fun _ => true) true Try.f4.params.toList args.toList ds p := hA0
  rw [Try.params4] at hA hval hsz
  obtain ⟨v0, vs0, d0, ds0, p0, q0, hargs, rfl, rfl, h0, r0⟩ := trodAll_cons hA
  obtain ⟨rfl, rfl, rfl⟩ := trodAll_nil r0
  obtain rfl : args = #[v0] := by cases args; simp_all
  obtain ⟨rfl, rfl⟩ := trodVars_none hV
  have k0 := h0
  have lt0 : ∀ x ∈ p0, x.block < W.heap.size := by obtain ⟨m, hm⟩ := k0; exact DataW.trod_lt m _ _ _ hm
  obtain ⟨x0, a0, c0, fx0, rfl, s0, n0⟩ := in_ip6 (hval 0 28 v0 rfl rfl) h0 (fun k hk => of_decide_eq_true (List.all_eq_true.1 hsz _ (DataW.weights_mem_each (j := 0) (t := 28) (d := d0) rfl rfl k hk)))
  clear hA0 hval0
  refine (walk x0 a0 c0 W fx0 s0 n0).mono fun e W' ⟨he, bel⟩ => ?_
  subst he
  exact ⟨_, rfl, _, _, _, [], _, [], hW', trodAll_mk1 (shut_bool Try.underlying4 _), (trodAll_cons_mk (Below.trod laidOut (by kernel_rfl) (of_decide_eq_true (by kernel_rfl)) k0 bel lt0) trodAll_mk0), rfl, bel.frame _, fun h => by cases h⟩

theorem over : Rows.ipv6EncodesRow.holds Try.pinned (OpenSpec.ofChange Rows.ipv6EncodesSpec) :=
  OpenClaim.holds_of_wide 4 Try.f4 rfl rfl rfl rfl rfl rfl rfl ⟨rfl, rfl, rfl, rfl, rfl⟩ rfl rfl rfl rfl rfl (by kernel_rfl) Try.func4 (by kernel_rfl)
    (of_decide_eq_true (by kernel_rfl)) (by unfold Func.isWrapper; first | (rw [if_pos (by decide +kernel)]; kernel_rfl) | (rw [if_neg (by decide +kernel)]; exact ⟨rfl, rfl⟩))
    (fun os started H enc _ => lifted os started H enc)

theorem proved : Rows.Ipv6EncodesSaid := over
#print axioms proved
end Go.Proofs.Ytjjldolafnfpoaa.ipv6Encodes
