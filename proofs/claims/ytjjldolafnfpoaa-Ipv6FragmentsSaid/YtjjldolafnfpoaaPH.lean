/- Ipv6Fragments holds: for every packet the law about Fragment and Routed beside the reference returns true and leaves memory as it was; no conditions. -/
import Derived.Test.YtjjldolafnfpoaaRows
import Derived.Test.YtjjldolafnfpoaaChecked
import Derived.Deep.Cut
import Derived.Deep.WholeRow
import Derived.BigQuiet
import Derived.Test.YtjjldolafnfpoaaPE44
import Derived.Test.YtjjldolafnfpoaaPE6
import Derived.Test.YtjjldolafnfpoaaPH1
namespace Go.Proofs.Ytjjldolafnfpoaa.ipv6Fragments
open Go.ChangeShapes Go.WideShapes Go.ChangeAt Go.RowKit
open Go.ChangeMaps (open_string shut_string)
set_option linter.unusedVariables false

theorem own : ownKnob Try.prog.godebug = none := by kernel_rfl
theorem laidOut : laidOutB Try.prog = true := by kernel_rfl
set_option maxHeartbeats 8000000 in
set_option maxRecDepth 20000 in
theorem walk (x : Ip6R) (A : Option Addr) (c : Nat) (w : World) (hw : ip6Wf x) (h : RowL EOpt w A x.exts) (hc : A = none → c = 0) :
    Calls Try.prog 6 #[.agg (ip6C x x.exts.length A c (str x.pay))] w fun e w' => e = .returned (.bool true) ∧ Below w.heap.size w w' := by
  obtain ⟨p, hp⟩ : ∃ q, q = x := ⟨_, rfl⟩
  have HPX := Lib.hid hp
  have HWF := Lib.hid (show ip6Wf p by rw [hp]; exact hw)
  have HOP := Lib.hid (show RowL EOpt w A p.exts by rw [hp]; exact h)
  have HC0 := Lib.hid hc
  obtain ⟨cls, lab, hops, nxt, ⟨sv, sh, sl⟩, ⟨dv, dh, dl⟩, l, frg, id, off, more, pay⟩ := x
  unfold ip6C
  dsimp only
  obtain ⟨n, hn⟩ : ∃ n, n = l.length := ⟨_, rfl⟩
  obtain ⟨P, hP⟩ : ∃ P, P = str pay := ⟨_, rfl⟩
  have hPs : P.size = pay.length := by rw [hP, str_size]
  have HPA := Lib.hid (show #[.int .i64 cls, .int .i64 lab, .int .i64 hops, .int .i64 nxt, .bool sv, .int .u64 (sh : Int), .int .u64 (sl : Int), .bool dv, .int .u64 (dh : Int), .int .u64 (dl : Int), .slice A n c, .bool frg, .int .i64 id, .int .i64 off, .bool more, .string P] = ip6C p p.exts.length A c (str p.pay) by rw [hn, hP, hp]; rfl)
  have HPL := Lib.hid (show p.pay.length = P.size ∧ p.exts.length = n ∧ P.size ≤ maxLen ∧ n ≤ maxLen by rw [hp]; exact ⟨hPs.symm, hn.symm, by rw [hPs]; exact hw.2.2.2.1, by rw [hn]; exact hw.2.2.2.2.1⟩)
  obtain ⟨lg, hlg⟩ : ∃ b : Bool, b = longB l P.size 3000 := ⟨_, rfl⟩
  have HLG := Lib.hid (fun (W : World) (hb : Below w.heap.size w W) => show Calls Try.prog 14 #[.agg #[.int .i64 cls, .int .i64 lab, .int .i64 hops, .int .i64 nxt, .bool sv, .int .u64 (sh : Int), .int .u64 (sl : Int), .bool dv, .int .u64 (dh : Int), .int .u64 (dl : Int), .slice A n c, .bool frg, .int .i64 id, .int .i64 off, .bool more, .string P], .int .i64 3000] W fun e w' => e = .returned (.bool lg) ∧ Below W.heap.size W w' from by
    rw [hlg, hn]
    exact rlong12_any cls lab hops nxt id off sv dv frg more sh sl dh dl l A c P 3000 3000 rfl W (h.kept hb) (Nat.le_trans hw.2.2.2.2.1 (by decide)) (fun y hy => Nat.le_trans (hw.2.2.2.2.2 y hy).2 (by decide)) (by rw [hPs]; exact Nat.le_trans hw.2.2.2.1 (by decide)))
  have HLB := Lib.hid (show lg = false → P.size ≤ 3000 ∧ n ≤ 10 by
    intro e
    rw [hlg] at e
    unfold longB at e
    rw [Bool.or_eq_false_iff] at e
    have h2 := of_decide_eq_false e.2
    omega)
  rw [← hn, ← hP]
  have HNP := Lib.hid (And.intro hn hP)
  clear hp hw h hc hn hP hPs hlg
  have B0 := Lib.hid (Below.refl w.heap.size w)
  cases lg
  · obtain ⟨hPm, hnm⟩ := HLB.out rfl
    have HOK := Lib.hid (fun (W : World) (hb : Below w.heap.size w W) => show ip6Ok W p A c from ⟨HWF.out, HOP.out.kept hb, HC0.out, by have h1 := HPL.out.2.1; omega, by have h1 := HPL.out.1; omega⟩)
    have HF1 := Lib.hid (fun (W : World) (hb : Below w.heap.size w W) => show Calls Try.prog 20 #[.agg #[.int .i64 cls, .int .i64 lab, .int .i64 hops, .int .i64 nxt, .bool sv, .int .u64 (sh : Int), .int .u64 (sl : Int), .bool dv, .int .u64 (dh : Int), .int .u64 (dl : Int), .slice A n c, .bool frg, .int .i64 id, .int .i64 off, .bool more, .string P]] W fun e w' => e = .returned (.agg #[.bool sv, .int .u64 (sh : Int), .int .u64 (sl : Int), .bool dv, .int .u64 (dh : Int), .int .u64 (dl : Int), .int .i64 nxt, .int .i64 id, .int .i64 hops, .int .i64 off, .bool more, .string P]) ∧ Below W.heap.size W w' from by
      have := prog12.frg p A c W trivial (HOK.out W hb)
      rw [← HPA.out, HPX.out] at this
      dsimp only at this
      rw [← HNP.out.2] at this
      exact this)
    have HF2 := Lib.hid (fun (W : World) => show Calls Try.prog 21 #[.agg #[.int .i64 cls, .int .i64 lab, .int .i64 hops, .int .i64 nxt, .bool sv, .int .u64 (sh : Int), .int .u64 (sl : Int), .bool dv, .int .u64 (dh : Int), .int .u64 (dl : Int), .slice A n c, .bool frg, .int .i64 id, .int .i64 off, .bool more, .string P]] W fun e w' => e = .returned (.agg #[.bool sv, .int .u64 (sh : Int), .int .u64 (sl : Int), .bool dv, .int .u64 (dh : Int), .int .u64 (dl : Int), .int .i64 nxt, .int .i64 id, .int .i64 hops, .int .i64 off, .bool more, .string P]) ∧ Below W.heap.size W w' from rfragment12_any cls lab hops nxt id off sv dv frg more sh sl dh dl n A c P W)
    obtain ⟨rb, hrb⟩ : ∃ b, b = routedX p := ⟨_, rfl⟩
    have HR1 := Lib.hid (fun (W : World) (hb : Below w.heap.size w W) => show Calls Try.prog 22 #[.agg #[.int .i64 cls, .int .i64 lab, .int .i64 hops, .int .i64 nxt, .bool sv, .int .u64 (sh : Int), .int .u64 (sl : Int), .bool dv, .int .u64 (dh : Int), .int .u64 (dl : Int), .slice A n c, .bool frg, .int .i64 id, .int .i64 off, .bool more, .string P]] W fun e w' => e = .returned (.bool rb) ∧ Below W.heap.size W w' from by
      rw [HPA.out, hrb]
      exact prog12.rou p A c W trivial (HOK.out W hb))
    have HR2 := Lib.hid (fun (W : World) (hb : Below w.heap.size w W) => show Calls Try.prog 23 #[.agg #[.int .i64 cls, .int .i64 lab, .int .i64 hops, .int .i64 nxt, .bool sv, .int .u64 (sh : Int), .int .u64 (sl : Int), .bool dv, .int .u64 (dh : Int), .int .u64 (dl : Int), .slice A n c, .bool frg, .int .i64 id, .int .i64 off, .bool more, .string P]] W fun e w' => e = .returned (.bool rb) ∧ Below W.heap.size W w' from by
      have hop := HOP.out.kept hb
      have h2 := HPL.out.2.1
      rw [HPX.out] at hop h2
      have := rrouted12_any cls lab hops nxt id off sv dv frg more sh sl dh dl l A c P W hop (by dsimp only at h2; omega)
      rw [← HNP.out.1] at this
      rw [hrb, HPX.out]
      exact this)
    have hfe := fun (W : World) => frg_eql sv dv more (sh : Int) (sl : Int) (dh : Int) (dl : Int) nxt id hops off P W
    have hrr : (rb == rb) = true := beq_self_eq_true _
    clear hrb HOK HPA HPL HWF HOP HPX HNP HLB HC0
    go_enter Try.func6, Try.ntmps6
    go_upto_region 1 with fail
    obtain ⟨W1, hW1⟩ : ∃ W, W = w.alloc (.cells #[.int .i64 cls, .int .i64 lab, .int .i64 hops, .int .i64 nxt, .bool sv, .int .u64 (sh : Int), .int .u64 (sl : Int), .bool dv, .int .u64 (dh : Int), .int .u64 (dl : Int), .slice A n c, .bool frg, .int .i64 id, .int .i64 off, .bool more, .string P] 28) := ⟨_, rfl⟩
    obtain ⟨g0, hg0⟩ : ∃ g, g = w.heap.size := ⟨_, rfl⟩
    have X1 := Lib.hid (show Cells W1 g0 28 #[.int .i64 cls, .int .i64 lab, .int .i64 hops, .int .i64 nxt, .bool sv, .int .u64 (sh : Int), .int .u64 (sl : Int), .bool dv, .int .u64 (dh : Int), .int .u64 (dl : Int), .slice A n c, .bool frg, .int .i64 id, .int .i64 off, .bool more, .string P] by rw [hW1, hg0]; exact heap_alloc_new w _)
    have kW1 : Below w.heap.size w W1 := by rw [hW1]; exact below_alloc6 w _
    have B1 := Lib.hid (B0.out.trans (kW1.mono B0.out.size))
    rw [← hW1, ← hg0]
    clear hW1 hg0
    go_wp2_with (refine wpList_load_row (by rfl) 28 _ (by rfl) g0 (by rfl) 28 #[.int .i64 cls, .int .i64 lab, .int .i64 hops, .int .i64 nxt, .bool sv, .int .u64 (sh : Int), .int .u64 (sl : Int), .bool dv, .int .u64 (dh : Int), .int .u64 (dl : Int), .slice A n c, .bool frg, .int .i64 id, .int .i64 off, .bool more, .string P] (0, 0) _ X1.out Try.underlying28 (by rfl) (by kernel_rfl) ?_)
    refine (HLG.out _ B1.out).mono ?_
    rintro e w2 ⟨rfl, b2⟩
    have X2 := Lib.hid (X1.out.kept b2 X1.out.lt)
    have B2 := Lib.hid (B1.out.trans (b2.mono B1.out.size))
    clear b2
    clear X1 HLG kW1
    go_upto_region 3 with fail
    refine wp_region_pick (fun w' => Below w2.heap.size w2 w') (by kernel_rfl) (by kernel_rfl) (Below.refl _ _) ⟨rfl, rfl, rfl, Nat.le_refl _, fun _ _ => rfl⟩ (fun pw hp hq => ?_)
    have y0 : ∀ u, (pw u).cell? ⟨g0, 0, none⟩ = some (Value.int .i64 cls) := fun u => box_cell X2.out (hp u) 0 _ rfl
    have y1 : ∀ u, (pw u).cell? ⟨g0, 1, none⟩ = some (Value.int .i64 lab) := fun u => box_cell X2.out (hp u) 1 _ rfl
    have y2 : ∀ u, (pw u).cell? ⟨g0, 2, none⟩ = some (Value.int .i64 hops) := fun u => box_cell X2.out (hp u) 2 _ rfl
    have y3 : ∀ u, (pw u).cell? ⟨g0, 3, none⟩ = some (Value.int .i64 nxt) := fun u => box_cell X2.out (hp u) 3 _ rfl
    have y4 : ∀ u, (pw u).cell? ⟨g0, 4, none⟩ = some (Value.bool sv) := fun u => box_cell X2.out (hp u) 4 _ rfl
    have y5 : ∀ u, (pw u).cell? ⟨g0, 5, none⟩ = some (Value.int .u64 (sh : Int)) := fun u => box_cell X2.out (hp u) 5 _ rfl
    have y6 : ∀ u, (pw u).cell? ⟨g0, 6, none⟩ = some (Value.int .u64 (sl : Int)) := fun u => box_cell X2.out (hp u) 6 _ rfl
    have y7 : ∀ u, (pw u).cell? ⟨g0, 7, none⟩ = some (Value.bool dv) := fun u => box_cell X2.out (hp u) 7 _ rfl
    have y8 : ∀ u, (pw u).cell? ⟨g0, 8, none⟩ = some (Value.int .u64 (dh : Int)) := fun u => box_cell X2.out (hp u) 8 _ rfl
    have y9 : ∀ u, (pw u).cell? ⟨g0, 9, none⟩ = some (Value.int .u64 (dl : Int)) := fun u => box_cell X2.out (hp u) 9 _ rfl
    have y10 : ∀ u, (pw u).cell? ⟨g0, 10, none⟩ = some (Value.slice A n c) := fun u => box_cell X2.out (hp u) 10 _ rfl
    have y11 : ∀ u, (pw u).cell? ⟨g0, 11, none⟩ = some (Value.bool frg) := fun u => box_cell X2.out (hp u) 11 _ rfl
    have y12 : ∀ u, (pw u).cell? ⟨g0, 12, none⟩ = some (Value.int .i64 id) := fun u => box_cell X2.out (hp u) 12 _ rfl
    have y13 : ∀ u, (pw u).cell? ⟨g0, 13, none⟩ = some (Value.int .i64 off) := fun u => box_cell X2.out (hp u) 13 _ rfl
    have y14 : ∀ u, (pw u).cell? ⟨g0, 14, none⟩ = some (Value.bool more) := fun u => box_cell X2.out (hp u) 14 _ rfl
    have y15 : ∀ u, (pw u).cell? ⟨g0, 15, none⟩ = some (Value.string P) := fun u => box_cell X2.out (hp u) 15 _ rfl
    have HF1 := Lib.hid (fun u => HF1.out (pw u) (B2.out.trans ((hp u).mono B2.out.size)))
    have HR1 := Lib.hid (fun u => HR1.out (pw u) (B2.out.trans ((hp u).mono B2.out.size)))
    have HR2 := Lib.hid (fun u => HR2.out (pw u) (B2.out.trans ((hp u).mono B2.out.size)))
    have HF2 := Lib.hid (fun u => HF2.out (pw u))
    have HAW := Lib.hid (fun u => lv12 (pw u))
    have HP := Lib.hid hp
    have HQ := Lib.hid hq
    clear hp hq
    repeat (go_big_quiet_step ((first | with_reducible exact Calls.pick_of HQ.out (fun W' hb => (HP.out _).trans (hb.mono (HP.out _).size)) (HF1.out _) | with_reducible exact Calls.pick_of HQ.out (fun W' hb => (HP.out _).trans (hb.mono (HP.out _).size)) (HF2.out _) | with_reducible exact Calls.pick_of HQ.out (fun W' hb => (HP.out _).trans (hb.mono (HP.out _).size)) (HR1.out _) | with_reducible exact Calls.pick_of HQ.out (fun W' hb => (HP.out _).trans (hb.mono (HP.out _).size)) (HR2.out _) | with_reducible exact Calls.pick_of HQ.out (fun W' hb => (HP.out _).trans (hb.mono (HP.out _).size)) (HAW.out _))))
    refine wpQuiet_nil ?_
    rintro _ ⟨u, rfl⟩
    have B5 := Lib.hid (B2.out.trans ((HP.out u).mono B2.out.size))
    generalize pw u = w5 at *
    clear HP HQ HF1 HF2 HR1 HR2 HAW
    go_wp2_with fail
    go_ret
    exact ⟨rfl, B5.out⟩
  · go_enter Try.func6, Try.ntmps6
    go_upto_region 1 with fail
    obtain ⟨W1, hW1⟩ : ∃ W, W = w.alloc (.cells #[.int .i64 cls, .int .i64 lab, .int .i64 hops, .int .i64 nxt, .bool sv, .int .u64 (sh : Int), .int .u64 (sl : Int), .bool dv, .int .u64 (dh : Int), .int .u64 (dl : Int), .slice A n c, .bool frg, .int .i64 id, .int .i64 off, .bool more, .string P] 28) := ⟨_, rfl⟩
    obtain ⟨g0, hg0⟩ : ∃ g, g = w.heap.size := ⟨_, rfl⟩
    have X1 := Lib.hid (show Cells W1 g0 28 #[.int .i64 cls, .int .i64 lab, .int .i64 hops, .int .i64 nxt, .bool sv, .int .u64 (sh : Int), .int .u64 (sl : Int), .bool dv, .int .u64 (dh : Int), .int .u64 (dl : Int), .slice A n c, .bool frg, .int .i64 id, .int .i64 off, .bool more, .string P] by rw [hW1, hg0]; exact heap_alloc_new w _)
    have kW1 : Below w.heap.size w W1 := by rw [hW1]; exact below_alloc6 w _
    have B1 := Lib.hid (B0.out.trans (kW1.mono B0.out.size))
    rw [← hW1, ← hg0]
    clear hW1 hg0
    go_wp2_with (refine wpList_load_row (by rfl) 28 _ (by rfl) g0 (by rfl) 28 #[.int .i64 cls, .int .i64 lab, .int .i64 hops, .int .i64 nxt, .bool sv, .int .u64 (sh : Int), .int .u64 (sl : Int), .bool dv, .int .u64 (dh : Int), .int .u64 (dl : Int), .slice A n c, .bool frg, .int .i64 id, .int .i64 off, .bool more, .string P] (0, 0) _ X1.out Try.underlying28 (by rfl) (by kernel_rfl) ?_)
    refine (HLG.out _ B1.out).mono ?_
    rintro e w2 ⟨rfl, b2⟩
    have X2 := Lib.hid (X1.out.kept b2 X1.out.lt)
    have B2 := Lib.hid (B1.out.trans (b2.mono B1.out.size))
    clear b2
    clear X1 HLG kW1
    go_wp2_with fail
    refine (lv12 _).mono ?_
    rintro e w99 ⟨rfl, b99⟩
    go_wp2_with fail
    go_ret
    exact ⟨rfl, B2.out.trans (b99.mono B2.out.size)⟩

set_option maxRecDepth 100000 in
theorem lifted (os : Os) (started : os.Started) (H : Type) (enc : TypeId × Value → H) :
    ReturnsInHanded {} Try.checked os 6 .any (Rows.ipv6FragmentsSpec.pre6 enc Try.prog Try.f6 Rows.ipv6FragmentsRow.domain false) (Rows.ipv6FragmentsSpec.post enc Try.prog Try.f6 false true false false) := by
  refine returnsInHanded_of_change_sized (C := Try.checked) own started (by kernel_rfl) Try.func6
    (ChangeSpec.witness6 (enc := enc) (C := Try.checked) false ⟨#[], #[(.agg #[.int .i64 0, .int .i64 0, .int .i64 0, .int .i64 0, .bool false, .int .u64 0, .int .u64 0, .bool false, .int .u64 0, .int .u64 0, .slice none 0 0, .bool false, .int .i64 0, .int .i64 0, .bool false, .string ⟨#[]⟩])], []⟩ 8 (by kernel_rfl) (by kernel_rfl) (by kernel_rfl) (by kernel_rfl)) ?_
  intro W base args ds gs before hval0 hW hcnd hsz _
  have hval : ∀ (j : Nat) t v, Try.f6.params[j]? = some t → args[j]? = some v → Value.okWide Try.prog W .any base t v := hval0
  have hW' := hW
  obtain ⟨p, q, hA0, hV, rfl, hfz, hnd⟩ := hW
  have hA : DataW.TrodAll enc Try.prog W 0 (fun _ => true) true Try.f6.params.toList args.toList ds p := hA0
  rw [Try.params6] at hA hval hsz
  obtain ⟨v0, vs0, d0, ds0, p0, q0, hargs, rfl, rfl, h0, r0⟩ := trodAll_cons hA
  obtain ⟨rfl, rfl, rfl⟩ := trodAll_nil r0
  obtain rfl : args = #[v0] := by cases args; simp_all
  obtain ⟨rfl, rfl⟩ := trodVars_none hV
  have k0 := h0
  have lt0 : ∀ x ∈ p0, x.block < W.heap.size := by obtain ⟨m, hm⟩ := k0; exact DataW.trod_lt m _ _ _ hm
  obtain ⟨x0, a0, c0, fx0, rfl, s0, n0⟩ := in_ip6 (hval 0 28 v0 rfl rfl) h0 (fun k hk => of_decide_eq_true (List.all_eq_true.1 hsz _ (DataW.weights_mem_each (j := 0) (t := 28) (d := d0) rfl rfl k hk)))
  clear hA0 hval0
  refine (walk x0 a0 c0 W fx0 s0 n0).mono fun e W' ⟨he, bel⟩ => ?_
  subst he
  exact ⟨_, rfl, _, _, _, [], _, [], hW', trodAll_mk1 (shut_bool Try.underlying4 _), (trodAll_cons_mk (Below.trod laidOut (by kernel_rfl) (of_decide_eq_true (by kernel_rfl)) k0 bel lt0) trodAll_mk0), rfl, bel.frame _, fun h => by cases h⟩

theorem over : Rows.ipv6FragmentsRow.holds Try.pinned (OpenSpec.ofChange Rows.ipv6FragmentsSpec) :=
  OpenClaim.holds_of_wide 6 Try.f6 rfl rfl rfl rfl rfl rfl rfl ⟨rfl, rfl, rfl, rfl, rfl⟩ rfl rfl rfl rfl rfl (by kernel_rfl) Try.func6 (by kernel_rfl)
    (of_decide_eq_true (by kernel_rfl)) (by unfold Func.isWrapper; first | (rw [if_pos (by decide +kernel)]; kernel_rfl) | (rw [if_neg (by decide +kernel)]; exact ⟨rfl, rfl⟩))
    (fun os started H enc _ => lifted os started H enc)

theorem proved : Rows.Ipv6FragmentsSaid := over
#print axioms proved
end Go.Proofs.Ytjjldolafnfpoaa.ipv6Fragments
