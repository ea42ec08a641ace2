/- Ipv4Encodes holds: for every packet the law about Encode, Fragment and Routed beside the reference returns true and leaves memory as it was; no conditions. -/
import Derived.Test.YtimilcjlogcfhaaRows
import Derived.Test.YtimilcjlogcfhaaChecked
import Derived.Deep.Cut
import Derived.Deep.WholeRow
import Derived.BigQuiet
import Derived.Test.YtimilcjlogcfhaaPE45
namespace Go.Proofs.Ytimilcjlogcfhaa.ipv4Encodes
open Go.ChangeShapes Go.WideShapes Go.ChangeAt Go.RowKit
open Go.ChangeMaps (open_string shut_string)
set_option linter.unusedVariables false

theorem own : ownKnob Try.prog.godebug = none := by kernel_rfl
theorem laidOut : laidOutB Try.prog = true := by kernel_rfl
set_option maxHeartbeats 8000000 in
set_option maxRecDepth 20000 in
theorem walk (x : Ip4R) (A : Option Addr) (c : Nat) (w : World) (hw : ipWf x) (h : RowL EOpt w A x.ops) (hc : A = none → c = 0) :
    Calls Try.prog 4 #[.agg (ipC x x.ops.length A c (str x.pay))] w fun e w' => e = .returned (.bool true) ∧ Below w.heap.size w w' := by
  obtain ⟨p, hp⟩ : ∃ q, q = x := ⟨_, rfl⟩
  have HPX := Lib.hid hp
  have HWF := Lib.hid (show ipWf p by rw [hp]; exact hw)
  have HOP := Lib.hid (show RowL EOpt w A p.ops by rw [hp]; exact h)
  obtain ⟨tos, id, ttl, proto, dont, more, off, ⟨sv, sh, sl⟩, ⟨dv, dh, dl⟩, l, pay⟩ := x
  unfold ipC
  dsimp only
  obtain ⟨n, hn⟩ : ∃ n, n = l.length := ⟨_, rfl⟩
  obtain ⟨P, hP⟩ : ∃ P, P = str pay := ⟨_, rfl⟩
  have hPs : P.size = pay.length := by rw [hP, str_size]
  have HLG := Lib.hid (fun (W : World) => large_raw tos id ttl proto off dont more sv dv sh sl dh dl n c A P W)
  rw [← hn, ← hP]
  have HNP := Lib.hid (And.intro hn hP)
  have HPS := Lib.hid hPs
  have HPA := Lib.hid (show #[.int .i64 tos, .int .i64 id, .int .i64 ttl, .int .i64 proto, .bool dont, .bool more, .int .i64 off, .bool sv, .int .u64 (sh : Int), .int .u64 (sl : Int), .bool dv, .int .u64 (dh : Int), .int .u64 (dl : Int), .slice A n c, .string P] = ipC p p.ops.length A c (str p.pay) by rw [hn, hP, hp]; rfl)
  have HPL := Lib.hid (show p.pay.length = P.size ∧ p.ops.length = n by rw [hp]; exact ⟨hPs.symm, hn.symm⟩)
  clear hp hw h hc hn hP hPs
  have B0 := Lib.hid (Below.refl w.heap.size w)
  obtain ⟨lg, hlg⟩ : ∃ b : Bool, decide (70000 < P.size ∨ 60 < n) = b := ⟨_, rfl⟩
  rw [hlg] at HLG
  cases lg
  · have hsm : P.size ≤ 70000 ∧ n ≤ 60 := by have := of_decide_eq_false hlg; omega
    have HOK := Lib.hid (fun (W : World) (hb : Below w.heap.size w W) => show ipOk W p A from ⟨HWF.out, HOP.out.kept hb, by have h1 := HPL.out.2; omega, by have h1 := HPL.out.1; omega⟩)
    obtain ⟨er, her⟩ : ∃ e, e = (encI p).2 := ⟨_, rfl⟩
    obtain ⟨ES, hES⟩ : ∃ e, e = str (encI p).1 := ⟨_, rfl⟩
    have H1 := Lib.hid (fun (W : World) (hb : Below w.heap.size w W) => show Calls Try.prog 15 #[.agg #[.int .i64 tos, .int .i64 id, .int .i64 ttl, .int .i64 proto, .bool dont, .bool more, .int .i64 off, .bool sv, .int .u64 (sh : Int), .int .u64 (sl : Int), .bool dv, .int .u64 (dh : Int), .int .u64 (dl : Int), .slice A n c, .string P]] W fun e w' => e = .returned (.tuple #[.string ES, .int .i64 (er : Int)]) ∧ Below W.heap.size W w' from by
      rw [HPA.out, her, hES]
      exact prog11.enc p A c W trivial (HOK.out W hb))
    have H2 := Lib.hid (fun (W : World) (hb : Below w.heap.size w W) => show Calls Try.prog 16 #[.agg #[.int .i64 tos, .int .i64 id, .int .i64 ttl, .int .i64 proto, .bool dont, .bool more, .int .i64 off, .bool sv, .int .u64 (sh : Int), .int .u64 (sl : Int), .bool dv, .int .u64 (dh : Int), .int .u64 (dl : Int), .slice A n c, .string P]] W fun e w' => e = .returned (.tuple #[.string ES, .int .i64 (er : Int)]) ∧ Below W.heap.size W w' from by
      have hwf := HWF.out
      have hop := HOP.out.kept hb
      have h1 := HPL.out.1
      have h2 := HPL.out.2
      rw [HPX.out] at hwf hop h1 h2
      have := renc11_any tos id ttl proto off dont more sv dv sh sl dh dl l pay A c W hop hwf.2.1.1 hwf.2.1.2 hwf.2.2.1.1 hwf.2.2.1.2 (by show l.length ≤ _; dsimp only at h2; omega) (fun x hx => by have := (hwf.2.2.2.2.2 x hx).2; omega) (by dsimp only at h1; omega)
      rw [← HPX.out, ← her, ← hES, ← HNP.out.1, ← HNP.out.2] at this
      exact this)
    have HF1 := Lib.hid (fun (W : World) => show Calls Try.prog 17 #[.agg #[.int .i64 tos, .int .i64 id, .int .i64 ttl, .int .i64 proto, .bool dont, .bool more, .int .i64 off, .bool sv, .int .u64 (sh : Int), .int .u64 (sl : Int), .bool dv, .int .u64 (dh : Int), .int .u64 (dl : Int), .slice A n c, .string P]] W fun e w' => e = .returned (.agg #[.bool sv, .int .u64 (sh : Int), .int .u64 (sl : Int), .bool dv, .int .u64 (dh : Int), .int .u64 (dl : Int), .int .i64 proto, .int .i64 id, .int .i64 ttl, .int .i64 off, .bool more, .string P]) ∧ Below W.heap.size W w' from pfragment11_any tos id ttl proto off dont more sv dv sh sl dh dl n A c P W)
    have HF2 := Lib.hid (fun (W : World) => show Calls Try.prog 18 #[.agg #[.int .i64 tos, .int .i64 id, .int .i64 ttl, .int .i64 proto, .bool dont, .bool more, .int .i64 off, .bool sv, .int .u64 (sh : Int), .int .u64 (sl : Int), .bool dv, .int .u64 (dh : Int), .int .u64 (dl : Int), .slice A n c, .string P]] W fun e w' => e = .returned (.agg #[.bool sv, .int .u64 (sh : Int), .int .u64 (sl : Int), .bool dv, .int .u64 (dh : Int), .int .u64 (dl : Int), .int .i64 proto, .int .i64 id, .int .i64 ttl, .int .i64 off, .bool more, .string P]) ∧ Below W.heap.size W w' from rfragment11_any tos id ttl proto off dont more sv dv sh sl dh dl n A c P W)
    obtain ⟨rb, hrb⟩ : ∃ b, b = routedI p := ⟨_, rfl⟩
    have HR1 := Lib.hid (fun (W : World) (hb : Below w.heap.size w W) => show Calls Try.prog 19 #[.agg #[.int .i64 tos, .int .i64 id, .int .i64 ttl, .int .i64 proto, .bool dont, .bool more, .int .i64 off, .bool sv, .int .u64 (sh : Int), .int .u64 (sl : Int), .bool dv, .int .u64 (dh : Int), .int .u64 (dl : Int), .slice A n c, .string P]] W fun e w' => e = .returned (.bool rb) ∧ Below W.heap.size W w' from by
      rw [HPA.out, hrb]
      exact prog11.rou p A c W trivial (HOK.out W hb))
    have HR2 := Lib.hid (fun (W : World) (hb : Below w.heap.size w W) => show Calls Try.prog 20 #[.agg #[.int .i64 tos, .int .i64 id, .int .i64 ttl, .int .i64 proto, .bool dont, .bool more, .int .i64 off, .bool sv, .int .u64 (sh : Int), .int .u64 (sl : Int), .bool dv, .int .u64 (dh : Int), .int .u64 (dl : Int), .slice A n c, .string P]] W fun e w' => e = .returned (.bool rb) ∧ Below W.heap.size W w' from by
      rw [HPA.out, hrb]
      exact rrouted11_any p A c (str p.pay) W (HOK.out W hb).2.1 (by have := (HOK.out W hb).2.2.1; omega))
    have hfe := fun (W : World) => frg_eql sv dv more (sh : Int) (sl : Int) (dh : Int) (dl : Int) proto id ttl off P W
    have heq : (ES.toList == ES.toList) = true := beq_self_eq_true _
    have her2 : ((er : Int) == (er : Int)) = true := beq_self_eq_true _
    have hrr : (rb == rb) = true := beq_self_eq_true _
    clear her hES hrb hlg HOK HPA HPL HWF HOP HPX HNP HPS
    go_enter Try.func4, Try.ntmps4
    go_upto_region 1 with fail
    obtain ⟨W1, hW1⟩ : ∃ W, W = w.alloc (.cells #[.int .i64 tos, .int .i64 id, .int .i64 ttl, .int .i64 proto, .bool dont, .bool more, .int .i64 off, .bool sv, .int .u64 (sh : Int), .int .u64 (sl : Int), .bool dv, .int .u64 (dh : Int), .int .u64 (dl : Int), .slice A n c, .string P] 28) := ⟨_, rfl⟩
    obtain ⟨g0, hg0⟩ : ∃ g, g = w.heap.size := ⟨_, rfl⟩
    have X1 := Lib.hid (show Cells W1 g0 28 #[.int .i64 tos, .int .i64 id, .int .i64 ttl, .int .i64 proto, .bool dont, .bool more, .int .i64 off, .bool sv, .int .u64 (sh : Int), .int .u64 (sl : Int), .bool dv, .int .u64 (dh : Int), .int .u64 (dl : Int), .slice A n c, .string P] by rw [hW1, hg0]; exact heap_alloc_new w _)
    have kW1 : Below w.heap.size w W1 := by rw [hW1]; exact below_alloc6 w _
    have B1 := Lib.hid (B0.out.trans (kW1.mono B0.out.size))
    rw [← hW1, ← hg0]
    clear hW1 hg0
    go_wp2_with (refine wpList_load_row (by rfl) 28 _ (by rfl) g0 (by rfl) 28 #[.int .i64 tos, .int .i64 id, .int .i64 ttl, .int .i64 proto, .bool dont, .bool more, .int .i64 off, .bool sv, .int .u64 (sh : Int), .int .u64 (sl : Int), .bool dv, .int .u64 (dh : Int), .int .u64 (dl : Int), .slice A n c, .string P] (0, 0) _ X1.out Try.underlying28 (by rfl) (by kernel_rfl) ?_)
    refine (HLG.out _).mono ?_
    rintro e w2 ⟨rfl, b2⟩
    have X2 := Lib.hid (X1.out.kept b2 X1.out.lt)
    have B2 := Lib.hid (B1.out.trans (b2.mono B1.out.size))
    clear b2
    clear X1 HLG kW1
    go_wp2_with (refine wpList_load_row (by rfl) 28 _ (by rfl) g0 (by rfl) 28 #[.int .i64 tos, .int .i64 id, .int .i64 ttl, .int .i64 proto, .bool dont, .bool more, .int .i64 off, .bool sv, .int .u64 (sh : Int), .int .u64 (sl : Int), .bool dv, .int .u64 (dh : Int), .int .u64 (dl : Int), .slice A n c, .string P] (0, 0) _ X2.out Try.underlying28 (by rfl) (by kernel_rfl) ?_)
    refine (H1.out _ B2.out).mono ?_
    rintro e w3 ⟨rfl, b3⟩
    have X3 := Lib.hid (X2.out.kept b3 X2.out.lt)
    have B3 := Lib.hid (B2.out.trans (b3.mono B2.out.size))
    clear b3
    clear X2 H1
    go_wp2_with (refine wpList_load_row (by rfl) 28 _ (by rfl) g0 (by rfl) 28 #[.int .i64 tos, .int .i64 id, .int .i64 ttl, .int .i64 proto, .bool dont, .bool more, .int .i64 off, .bool sv, .int .u64 (sh : Int), .int .u64 (sl : Int), .bool dv, .int .u64 (dh : Int), .int .u64 (dl : Int), .slice A n c, .string P] (0, 0) _ X3.out Try.underlying28 (by rfl) (by kernel_rfl) ?_)
    refine (H2.out _ B3.out).mono ?_
    rintro e w4 ⟨rfl, b4⟩
    have X4 := Lib.hid (X3.out.kept b4 X3.out.lt)
    have B4 := Lib.hid (B3.out.trans (b4.mono B3.out.size))
    clear b4
    clear X3 H2
    go_upto_region 5 with fail
    refine wp_region_pick (fun w' => Below w4.heap.size w4 w') (by kernel_rfl) (by kernel_rfl) (Below.refl _ _) ⟨rfl, rfl, rfl, Nat.le_refl _, fun _ _ => rfl⟩ (fun pw hp hq => ?_)
    have y0 : ∀ u, (pw u).cell? ⟨g0, 0, none⟩ = some (.int .i64 tos) := fun u => box_cell X4.out (hp u) 0 _ rfl
    have y1 : ∀ u, (pw u).cell? ⟨g0, 1, none⟩ = some (.int .i64 id) := fun u => box_cell X4.out (hp u) 1 _ rfl
    have y2 : ∀ u, (pw u).cell? ⟨g0, 2, none⟩ = some (.int .i64 ttl) := fun u => box_cell X4.out (hp u) 2 _ rfl
    have y3 : ∀ u, (pw u).cell? ⟨g0, 3, none⟩ = some (.int .i64 proto) := fun u => box_cell X4.out (hp u) 3 _ rfl
    have y4 : ∀ u, (pw u).cell? ⟨g0, 4, none⟩ = some (.bool dont) := fun u => box_cell X4.out (hp u) 4 _ rfl
    have y5 : ∀ u, (pw u).cell? ⟨g0, 5, none⟩ = some (.bool more) := fun u => box_cell X4.out (hp u) 5 _ rfl
    have y6 : ∀ u, (pw u).cell? ⟨g0, 6, none⟩ = some (.int .i64 off) := fun u => box_cell X4.out (hp u) 6 _ rfl
    have y7 : ∀ u, (pw u).cell? ⟨g0, 7, none⟩ = some (.bool sv) := fun u => box_cell X4.out (hp u) 7 _ rfl
    have y8 : ∀ u, (pw u).cell? ⟨g0, 8, none⟩ = some (.int .u64 (sh : Int)) := fun u => box_cell X4.out (hp u) 8 _ rfl
    have y9 : ∀ u, (pw u).cell? ⟨g0, 9, none⟩ = some (.int .u64 (sl : Int)) := fun u => box_cell X4.out (hp u) 9 _ rfl
    have y10 : ∀ u, (pw u).cell? ⟨g0, 10, none⟩ = some (.bool dv) := fun u => box_cell X4.out (hp u) 10 _ rfl
    have y11 : ∀ u, (pw u).cell? ⟨g0, 11, none⟩ = some (.int .u64 (dh : Int)) := fun u => box_cell X4.out (hp u) 11 _ rfl
    have y12 : ∀ u, (pw u).cell? ⟨g0, 12, none⟩ = some (.int .u64 (dl : Int)) := fun u => box_cell X4.out (hp u) 12 _ rfl
    have y13 : ∀ u, (pw u).cell? ⟨g0, 13, none⟩ = some (.slice A n c) := fun u => box_cell X4.out (hp u) 13 _ rfl
    have y14 : ∀ u, (pw u).cell? ⟨g0, 14, none⟩ = some (.string P) := fun u => box_cell X4.out (hp u) 14 _ rfl
    have HR1 := Lib.hid (fun u => HR1.out (pw u) (B4.out.trans ((hp u).mono B4.out.size)))
    have HR2 := Lib.hid (fun u => HR2.out (pw u) (B4.out.trans ((hp u).mono B4.out.size)))
    have HAW := Lib.hid (fun u => awk11 (pw u))
    have HP := Lib.hid hp
    have HQ := Lib.hid hq
    clear hp hq
    repeat (go_big_quiet_step ((first | with_reducible exact Calls.pick_of HQ.out (fun W' hb => (HP.out _).trans (hb.mono (HP.out _).size)) (HF1.out _) | with_reducible exact Calls.pick_of HQ.out (fun W' hb => (HP.out _).trans (hb.mono (HP.out _).size)) (HF2.out _) | with_reducible exact Calls.pick_of HQ.out (fun W' hb => (HP.out _).trans (hb.mono (HP.out _).size)) (HR1.out _) | with_reducible exact Calls.pick_of HQ.out (fun W' hb => (HP.out _).trans (hb.mono (HP.out _).size)) (HR2.out _) | with_reducible exact Calls.pick_of HQ.out (fun W' hb => (HP.out _).trans (hb.mono (HP.out _).size)) (HAW.out _))))
    refine wpQuiet_nil ?_
    rintro _ ⟨u, rfl⟩
    have B5 := Lib.hid (B4.out.trans ((HP.out u).mono B4.out.size))
    generalize pw u = w5 at *
    clear HP HQ HR1 HR2 HAW
    go_wp2_with fail
    go_ret
    exact ⟨rfl, B5.out⟩
  · clear hlg
    go_enter Try.func4, Try.ntmps4
    go_upto_region 1 with fail
    obtain ⟨W1, hW1⟩ : ∃ W, W = w.alloc (.cells #[.int .i64 tos, .int .i64 id, .int .i64 ttl, .int .i64 proto, .bool dont, .bool more, .int .i64 off, .bool sv, .int .u64 (sh : Int), .int .u64 (sl : Int), .bool dv, .int .u64 (dh : Int), .int .u64 (dl : Int), .slice A n c, .string P] 28) := ⟨_, rfl⟩
    obtain ⟨g0, hg0⟩ : ∃ g, g = w.heap.size := ⟨_, rfl⟩
    have X1 := Lib.hid (show Cells W1 g0 28 #[.int .i64 tos, .int .i64 id, .int .i64 ttl, .int .i64 proto, .bool dont, .bool more, .int .i64 off, .bool sv, .int .u64 (sh : Int), .int .u64 (sl : Int), .bool dv, .int .u64 (dh : Int), .int .u64 (dl : Int), .slice A n c, .string P] by rw [hW1, hg0]; exact heap_alloc_new w _)
    have kW1 : Below w.heap.size w W1 := by rw [hW1]; exact below_alloc6 w _
    have B1 := Lib.hid (B0.out.trans (kW1.mono B0.out.size))
    rw [← hW1, ← hg0]
    clear hW1 hg0
    go_wp2_with (refine wpList_load_row (by rfl) 28 _ (by rfl) g0 (by rfl) 28 #[.int .i64 tos, .int .i64 id, .int .i64 ttl, .int .i64 proto, .bool dont, .bool more, .int .i64 off, .bool sv, .int .u64 (sh : Int), .int .u64 (sl : Int), .bool dv, .int .u64 (dh : Int), .int .u64 (dl : Int), .slice A n c, .string P] (0, 0) _ X1.out Try.underlying28 (by rfl) (by kernel_rfl) ?_)
    refine (HLG.out _).mono ?_
    rintro e w2 ⟨rfl, b2⟩
    have X2 := Lib.hid (X1.out.kept b2 X1.out.lt)
    have B2 := Lib.hid (B1.out.trans (b2.mono B1.out.size))
    clear b2
    clear X1 HLG kW1
    go_wp2_with fail
    refine (awk11 _).mono ?_
    rintro e w99 ⟨rfl, b99⟩
    go_wp2_with fail
    go_ret
    exact ⟨rfl, B2.out.trans (b99.mono B2.out.size)⟩

set_option maxRecDepth 100000 in
theorem lifted (os : Os) (started : os.Started) (H : Type) (enc : TypeId × Value → H) :
    ReturnsInHanded {} Try.checked os 4 .any (Rows.ipv4EncodesSpec.pre6 enc Try.prog Try.f4 Rows.ipv4EncodesRow.domain false) (Rows.ipv4EncodesSpec.post enc Try.prog Try.f4 false true false false) := by
  refine returnsInHanded_of_change_sized (C := Try.checked) own started (by kernel_rfl) Try.func4
    (ChangeSpec.witness6 (enc := enc) (C := Try.checked) false ⟨#[], #[(.agg #[.int .i64 0, .int .i64 0, .int .i64 0, .int .i64 0, .bool false, .bool false, .int .i64 0, .bool false, .int .u64 0, .int .u64 0, .bool false, .int .u64 0, .int .u64 0, .slice none 0 0, .string ⟨#[]⟩])], []⟩ 8 (by kernel_rfl) (by kernel_rfl) (by kernel_rfl) (by kernel_rfl)) ?_
  intro W base args ds gs before hval0 hW hcnd hsz _
  have hval : ∀ (j : Nat) t v, Try.f4.params[j]? = some t → args[j]? = some v → Value.okWide Try.prog W .any base t v := hval0
  have hW' := hW
  obtain ⟨p, q, hA0, hV, rfl, hfz, hnd⟩ := hW
  have hA : DataW.TrodAll enc Try.prog W 0 (fun _ => true) true Try.f4.params.toList args.toList ds p := hA0
  rw [Try.params4] at hA hval hsz
  obtain ⟨v0, vs0, d0, ds0, p0, q0, hargs, rfl, rfl, h0, r0⟩ := trodAll_cons hA
  obtain ⟨rfl, rfl, rfl⟩ := trodAll_nil r0
  obtain rfl : args = #[v0] := by cases args; simp_all
  obtain ⟨rfl, rfl⟩ := trodVars_none hV
  have k0 := h0
  have lt0 : ∀ x ∈ p0, x.block < W.heap.size := by obtain ⟨m, hm⟩ := k0; exact DataW.trod_lt m _ _ _ hm
  obtain ⟨x0, a0, c0, fx0, rfl, s0, n0⟩ := in_ip4 (hval 0 28 v0 rfl rfl) h0 (fun k hk => of_decide_eq_true (List.all_eq_true.1 hsz _ (DataW.weights_mem_each (j := 0) (t := 28) (d := d0) rfl rfl k hk)))
  clear hA0 hval0
  refine (walk x0 a0 c0 W fx0 s0 n0).mono fun e W' ⟨he, bel⟩ => ?_
  subst he
  exact ⟨_, rfl, _, _, _, [], _, [], hW', trodAll_mk1 (shut_bool Try.underlying4 _), (trodAll_cons_mk (Below.trod laidOut (by kernel_rfl) (of_decide_eq_true (by kernel_rfl)) k0 bel lt0) trodAll_mk0), rfl, bel.frame _, fun h => by cases h⟩

theorem over : Rows.ipv4EncodesRow.holds Try.pinned (OpenSpec.ofChange Rows.ipv4EncodesSpec) :=
  OpenClaim.holds_of_wide 4 Try.f4 rfl rfl rfl rfl rfl rfl rfl ⟨rfl, rfl, rfl, rfl, rfl⟩ rfl rfl rfl rfl rfl (by kernel_rfl) Try.func4 (by kernel_rfl)
    (of_decide_eq_true (by kernel_rfl)) (by unfold Func.isWrapper; first | (rw [if_pos (by decide +kernel)]; kernel_rfl) | (rw [if_neg (by decide +kernel)]; exact ⟨rfl, rfl⟩))
    (fun os started H enc _ => lifted os started H enc)

theorem proved : Rows.Ipv4EncodesSaid := over
#print axioms proved
end Go.Proofs.Ytimilcjlogcfhaa.ipv4Encodes
