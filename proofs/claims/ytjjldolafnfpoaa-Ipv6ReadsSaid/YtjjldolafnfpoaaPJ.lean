/- Ipv6Reads holds: for every string what Decode returns is accepted by Encode and decoded again, and the law returns true and leaves memory as it was; no conditions. -/
import Derived.Test.YtjjldolafnfpoaaRows
import Derived.Test.YtjjldolafnfpoaaChecked
import Derived.Deep.Cut
import Derived.Deep.WholeRow
import Derived.BigQuiet
import Derived.Test.YtjjldolafnfpoaaPE44
namespace Go.Proofs.Ytjjldolafnfpoaa.ipv6Reads
open Go.ChangeShapes Go.WideShapes Go.ChangeAt Go.RowKit
open Go.ChangeMaps (open_string shut_string)
set_option linter.unusedVariables false

theorem own : ownKnob Try.prog.godebug = none := by kernel_rfl
theorem laidOut : laidOutB Try.prog = true := by kernel_rfl
set_option maxHeartbeats 8000000 in
set_option maxRecDepth 20000 in
theorem walk (s : ByteArray) (w : World) (hs : s.size ≤ maxLen) :
    Calls Try.prog 8 #[.string s] w fun e w' => e = .returned (.bool true) ∧ Below w.heap.size w w' := by
  by_cases hl : 3000 < s.size
  · have d0 : decide ((3000 : Int) < (s.size : Int)) = true := by simp; omega
    have nd : (3000 : Int) < (s.size : Int) := by omega
    clear hl
    go_enter Try.func8, Try.ntmps8
    go_wp2_with fail
    refine (lv12 _).mono ?_
    rintro e w0 ⟨rfl, b0⟩
    have B0 := Lib.hid (show Below w.heap.size w w0 from b0)
    clear b0
    go_wp2_with fail
    go_ret
    exact ⟨rfl, B0.out⟩
  have d0 : decide ((3000 : Int) < (s.size : Int)) = false := by simp; omega
  have nd : ¬ (3000 : Int) < (s.size : Int) := by omega
  obtain ⟨L, hL⟩ : ∃ L, L = s.data.toList := ⟨_, rfl⟩
  have hlen : L.length = s.size := by rw [hL]; show s.data.toList.length = s.data.size; simp only [Array.length_toList]
  have hsL : s = str L := by rw [hL]; exact (str_of s).symm
  have H1 := Lib.hid (fun (W : World) => show Calls Try.prog 11 #[.string s] W (Dec6P W (decX L)) from by rw [hsL]; exact prog12.dec L W trivial (by omega))
  by_cases he : (decX L).2 ≠ 0
  · obtain ⟨er, her⟩ : ∃ e, e = (decX L).2 := ⟨_, rfl⟩
    have hz : decX L = (zeroX, er) := by rw [her, ← decX_bad he]
    rw [hz] at H1
    unfold Dec6P zeroX at H1
    dsimp only at H1
    have z1 : ((er : Int) != 0) = true := by rw [bne_iff_ne]; omega
    clear he hz her hL hlen hsL hs hl
    go_enter Try.func8, Try.ntmps8
    go_wp2_with fail
    refine (lv12 _).mono ?_
    rintro e w0 ⟨rfl, b0⟩
    have B0 := Lib.hid (show Below w.heap.size w w0 from b0)
    clear b0
    go_wp2_with fail
    refine (H1.out _).mono ?_
    rintro e w1 ⟨A1, c1, rfl, r1, n1, b1⟩
    clear r1 n1 H1
    have B1 := Lib.hid (B0.out.trans (b1.mono B0.out.size))
    clear b1
    go_upto_region 6 with (refine wpList_store_row (by rfl) 28 _ _ (by rfl) w1.heap.size #[.int .i64 0, .int .i64 0, .int .i64 0, .int .i64 0, .bool false, .int .u64 0, .int .u64 0, .bool false, .int .u64 0, .int .u64 0, .slice A1 0 c1, .bool false, .int .i64 0, .int .i64 0, .bool false, .string ⟨#[]⟩] (by rfl) (by rfl) 28 #[.int .i64 0, .int .i64 0, .int .i64 0, .int .i64 0, .bool false, .int .u64 0, .int .u64 0, .bool false, .int .u64 0, .int .u64 0, .slice none 0 0, .bool false, .int .i64 0, .int .i64 0, .bool false, .string ⟨#[]⟩] (heap_alloc_new _ _) (by kernel_rfl) (by rfl) (by simp [Value.oneCell']) ?_; rw [World.setRow_alloc_new])
    obtain ⟨W2, hW2⟩ : ∃ W, W = w1.alloc (.cells #[.int .i64 0, .int .i64 0, .int .i64 0, .int .i64 0, .bool false, .int .u64 0, .int .u64 0, .bool false, .int .u64 0, .int .u64 0, .slice A1 0 c1, .bool false, .int .i64 0, .int .i64 0, .bool false, .string ⟨#[]⟩] 28) := ⟨_, rfl⟩
    obtain ⟨g1, hg1⟩ : ∃ g, g = w1.heap.size := ⟨_, rfl⟩
    have X2 := Lib.hid (show Cells W2 g1 28 #[.int .i64 0, .int .i64 0, .int .i64 0, .int .i64 0, .bool false, .int .u64 0, .int .u64 0, .bool false, .int .u64 0, .int .u64 0, .slice A1 0 c1, .bool false, .int .i64 0, .int .i64 0, .bool false, .string ⟨#[]⟩] by rw [hW2, hg1]; exact heap_alloc_new w1 _)
    have kW2 : Below w1.heap.size w1 W2 := by rw [hW2]; exact below_alloc6 w1 _
    have B2 := Lib.hid (B1.out.trans (kW2.mono B1.out.size))
    rw [← hW2, ← hg1]
    clear hW2 hg1 kW2 B1
    have x10 := (Cells.cell X2.out 10).trans (show _ = some (Value.slice A1 0 c1) from rfl)
    have x15 := (Cells.cell X2.out 15).trans (show _ = some (Value.string ⟨#[]⟩) from rfl)
    go_wp2_with fail
    go_ret
    exact ⟨rfl, B2.out⟩
  obtain ⟨p, hp⟩ : ∃ p, p = (decX L).1 := ⟨_, rfl⟩
  have hdp : decX L = (p, 0) := by rw [hp, show (0 : Nat) = (decX L).2 by omega]
  obtain ⟨T, henc, ht1, hft, h8, hdt, hpay⟩ := enc_dec6 hdp
  obtain ⟨hd1, hd2, hd3⟩ := dec_enc6 henc hft []
  rw [List.append_nil] at hd1
  have hwf := decX_in hdp
  rw [hdp] at H1
  obtain ⟨tb, htb⟩ : ∃ t, t = str T := ⟨_, rfl⟩
  have htz : tb.size = T.length := by rw [htb, str_size]
  have H2 := Lib.hid (fun (A1 : Option Addr) (c1 : Nat) (hn1 : A1 = none → c1 = 0) (W : World) (h1 : RowL EOpt W A1 p.exts) => show Calls Try.prog 15 #[.agg (ip6C p p.exts.length A1 c1 (str p.pay))] W fun e w' => e = .returned (.tuple #[.string tb, .int .i64 0]) ∧ Below W.heap.size W w' from by
    have := prog12.enc p A1 c1 W trivial ⟨hwf, h1, hn1, by omega, by omega⟩
    rw [henc, ← htb] at this
    exact this)
  have H3 := Lib.hid (fun (W : World) => show Calls Try.prog 11 #[.string tb] W (Dec6P W (p, 0)) from by rw [htb, ← hd1]; exact prog12.dec T W trivial (by omega))
  have e1 : decide ((tb.size : Int) ≤ (s.size : Int)) = true := by simp; omega
  have e2 : (tb.size : Int) ≤ (s.size : Int) := by omega
  have hsz3 : s.size ≤ 3000 := by omega
  have htz3 : tb.size ≤ 3000 := by omega
  clear hp hdp henc ht1 hft hdt hpay hd1 hd2 hd3 hwf htb htz hL hlen hsL hs hl he
  unfold ip6C at H2
  unfold Dec6P at H1 H3
  obtain ⟨cls, lab, hops, nxt, ⟨sv, sh, sl⟩, ⟨dv, dh, dl⟩, l, frg, id, off, more, pay⟩ := p
  dsimp only at H1 H2 H3 h8
  obtain ⟨P, hP⟩ : ∃ P, P = str pay := ⟨_, rfl⟩
  rw [← hP] at H1 H2 H3
  obtain ⟨n, hn⟩ : ∃ n, n = l.length := ⟨_, rfl⟩
  have HSM := Lib.hid (fun (A1 A2 : Option Addr) (c1 c2 : Nat) (W : World) (h1 : RowL EOpt W A1 l) (h2 : RowL EOpt W A2 l) => rsame12_any cls lab hops nxt id off sv dv frg more sh sl dh dl l A1 A2 c1 c2 P W h1 h2 (by omega))
  rw [← hn] at H1 H2 H3 HSM
  clear hP hn h8
  go_enter Try.func8, Try.ntmps8
  go_wp2_with fail
  refine (lv12 _).mono ?_
  rintro e w0 ⟨rfl, b0⟩
  have B0 := Lib.hid (show Below w.heap.size w w0 from b0)
  clear b0
  go_wp2_with fail
  refine (H1.out _).mono ?_
  rintro e w1 ⟨A1, c1, rfl, r1, n1, b1⟩
  have R1 := Lib.hid (show RowL EOpt w1 A1 l from r1)
  have N1 := Lib.hid n1
  clear r1 n1 H1
  have B1 := Lib.hid (B0.out.trans (b1.mono B0.out.size))
  clear b1
  go_upto_region 6 with (refine wpList_store_row (by rfl) 28 _ _ (by rfl) w1.heap.size #[.int .i64 cls, .int .i64 lab, .int .i64 hops, .int .i64 nxt, .bool sv, .int .u64 (sh : Int), .int .u64 (sl : Int), .bool dv, .int .u64 (dh : Int), .int .u64 (dl : Int), .slice A1 n c1, .bool frg, .int .i64 id, .int .i64 off, .bool more, .string P] (by rfl) (by rfl) 28 #[.int .i64 0, .int .i64 0, .int .i64 0, .int .i64 0, .bool false, .int .u64 0, .int .u64 0, .bool false, .int .u64 0, .int .u64 0, .slice none 0 0, .bool false, .int .i64 0, .int .i64 0, .bool false, .string ⟨#[]⟩] (heap_alloc_new _ _) (by kernel_rfl) (by rfl) (by simp [Value.oneCell']) ?_; rw [World.setRow_alloc_new])
  obtain ⟨W2, hW2⟩ : ∃ W, W = w1.alloc (.cells #[.int .i64 cls, .int .i64 lab, .int .i64 hops, .int .i64 nxt, .bool sv, .int .u64 (sh : Int), .int .u64 (sl : Int), .bool dv, .int .u64 (dh : Int), .int .u64 (dl : Int), .slice A1 n c1, .bool frg, .int .i64 id, .int .i64 off, .bool more, .string P] 28) := ⟨_, rfl⟩
  obtain ⟨g1, hg1⟩ : ∃ g, g = w1.heap.size := ⟨_, rfl⟩
  have X2 := Lib.hid (show Cells W2 g1 28 #[.int .i64 cls, .int .i64 lab, .int .i64 hops, .int .i64 nxt, .bool sv, .int .u64 (sh : Int), .int .u64 (sl : Int), .bool dv, .int .u64 (dh : Int), .int .u64 (dl : Int), .slice A1 n c1, .bool frg, .int .i64 id, .int .i64 off, .bool more, .string P] by rw [hW2, hg1]; exact heap_alloc_new w1 _)
  have kW2 : Below w1.heap.size w1 W2 := by rw [hW2]; exact below_alloc6 w1 _
  have B2 := Lib.hid (B1.out.trans (kW2.mono B1.out.size))
  rw [← hW2, ← hg1]
  have R2 := Lib.hid (R1.out.kept kW2)
  clear hW2 hg1 kW2 R1 B1
  go_wp2_with (refine wpList_load_row (by rfl) 28 _ (by rfl) g1 (by rfl) 28 #[.int .i64 cls, .int .i64 lab, .int .i64 hops, .int .i64 nxt, .bool sv, .int .u64 (sh : Int), .int .u64 (sl : Int), .bool dv, .int .u64 (dh : Int), .int .u64 (dl : Int), .slice A1 n c1, .bool frg, .int .i64 id, .int .i64 off, .bool more, .string P] (0, 0) _ X2.out Try.underlying28 (by rfl) (by kernel_rfl) ?_)
  refine (H2.out _ _ N1.out _ R2.out).mono ?_
  rintro e w3 ⟨rfl, b3⟩
  have R3 := Lib.hid (R2.out.kept b3)
  have X3 := Lib.hid (X2.out.kept b3 X2.out.lt)
  have B3 := Lib.hid (B2.out.trans (b3.mono B2.out.size))
  clear b3
  clear R2 X2 H2
  go_wp2_with fail
  refine (H3.out _).mono ?_
  rintro e w4 ⟨A2, c2, rfl, r4, n4, b4⟩
  have R4 := Lib.hid (show RowL EOpt w4 A2 l from r4)
  have Q4 := Lib.hid (R3.out.kept b4)
  have X4 := Lib.hid (X3.out.kept b4 X3.out.lt)
  clear r4 n4 H3 R3 X3
  have B4 := Lib.hid (B3.out.trans (b4.mono B3.out.size))
  clear b4
  go_upto_region 10 with (refine wpList_store_row (by rfl) 28 _ _ (by rfl) w4.heap.size #[.int .i64 cls, .int .i64 lab, .int .i64 hops, .int .i64 nxt, .bool sv, .int .u64 (sh : Int), .int .u64 (sl : Int), .bool dv, .int .u64 (dh : Int), .int .u64 (dl : Int), .slice A2 n c2, .bool frg, .int .i64 id, .int .i64 off, .bool more, .string P] (by rfl) (by rfl) 28 #[.int .i64 0, .int .i64 0, .int .i64 0, .int .i64 0, .bool false, .int .u64 0, .int .u64 0, .bool false, .int .u64 0, .int .u64 0, .slice none 0 0, .bool false, .int .i64 0, .int .i64 0, .bool false, .string ⟨#[]⟩] (heap_alloc_new _ _) (by kernel_rfl) (by rfl) (by simp [Value.oneCell']) ?_; rw [World.setRow_alloc_new])
  obtain ⟨W5, hW5⟩ : ∃ W, W = w4.alloc (.cells #[.int .i64 cls, .int .i64 lab, .int .i64 hops, .int .i64 nxt, .bool sv, .int .u64 (sh : Int), .int .u64 (sl : Int), .bool dv, .int .u64 (dh : Int), .int .u64 (dl : Int), .slice A2 n c2, .bool frg, .int .i64 id, .int .i64 off, .bool more, .string P] 28) := ⟨_, rfl⟩
  obtain ⟨g5, hg5⟩ : ∃ g, g = w4.heap.size := ⟨_, rfl⟩
  have Y5 := Lib.hid (show Cells W5 g5 28 #[.int .i64 cls, .int .i64 lab, .int .i64 hops, .int .i64 nxt, .bool sv, .int .u64 (sh : Int), .int .u64 (sl : Int), .bool dv, .int .u64 (dh : Int), .int .u64 (dl : Int), .slice A2 n c2, .bool frg, .int .i64 id, .int .i64 off, .bool more, .string P] by rw [hW5, hg5]; exact heap_alloc_new w4 _)
  have kW5 : Below w4.heap.size w4 W5 := by rw [hW5]; exact below_alloc6 w4 _
  have B5 := Lib.hid (B4.out.trans (kW5.mono B4.out.size))
  rw [← hW5, ← hg5]
  have R5 := Lib.hid (R4.out.kept kW5)
  have Q5 := Lib.hid (Q4.out.kept kW5)
  have X5 := Lib.hid (X4.out.kept kW5 X4.out.lt)
  clear hW5 hg5 kW5 R4 X4 Q4 B4
  have x0 := (Cells.cell X5.out 0).trans (show _ = some (Value.int .i64 cls) from rfl)
  have x1 := (Cells.cell X5.out 1).trans (show _ = some (Value.int .i64 lab) from rfl)
  have x2 := (Cells.cell X5.out 2).trans (show _ = some (Value.int .i64 hops) from rfl)
  have x3 := (Cells.cell X5.out 3).trans (show _ = some (Value.int .i64 nxt) from rfl)
  have x4 := (Cells.cell X5.out 4).trans (show _ = some (Value.bool sv) from rfl)
  have x5 := (Cells.cell X5.out 5).trans (show _ = some (Value.int .u64 (sh : Int)) from rfl)
  have x6 := (Cells.cell X5.out 6).trans (show _ = some (Value.int .u64 (sl : Int)) from rfl)
  have x7 := (Cells.cell X5.out 7).trans (show _ = some (Value.bool dv) from rfl)
  have x8 := (Cells.cell X5.out 8).trans (show _ = some (Value.int .u64 (dh : Int)) from rfl)
  have x9 := (Cells.cell X5.out 9).trans (show _ = some (Value.int .u64 (dl : Int)) from rfl)
  have x10 := (Cells.cell X5.out 10).trans (show _ = some (Value.slice A1 n c1) from rfl)
  have x11 := (Cells.cell X5.out 11).trans (show _ = some (Value.bool frg) from rfl)
  have x12 := (Cells.cell X5.out 12).trans (show _ = some (Value.int .i64 id) from rfl)
  have x13 := (Cells.cell X5.out 13).trans (show _ = some (Value.int .i64 off) from rfl)
  have x14 := (Cells.cell X5.out 14).trans (show _ = some (Value.bool more) from rfl)
  have x15 := (Cells.cell X5.out 15).trans (show _ = some (Value.string P) from rfl)
  have y0 := (Cells.cell Y5.out 0).trans (show _ = some (Value.int .i64 cls) from rfl)
  have y1 := (Cells.cell Y5.out 1).trans (show _ = some (Value.int .i64 lab) from rfl)
  have y2 := (Cells.cell Y5.out 2).trans (show _ = some (Value.int .i64 hops) from rfl)
  have y3 := (Cells.cell Y5.out 3).trans (show _ = some (Value.int .i64 nxt) from rfl)
  have y4 := (Cells.cell Y5.out 4).trans (show _ = some (Value.bool sv) from rfl)
  have y5 := (Cells.cell Y5.out 5).trans (show _ = some (Value.int .u64 (sh : Int)) from rfl)
  have y6 := (Cells.cell Y5.out 6).trans (show _ = some (Value.int .u64 (sl : Int)) from rfl)
  have y7 := (Cells.cell Y5.out 7).trans (show _ = some (Value.bool dv) from rfl)
  have y8 := (Cells.cell Y5.out 8).trans (show _ = some (Value.int .u64 (dh : Int)) from rfl)
  have y9 := (Cells.cell Y5.out 9).trans (show _ = some (Value.int .u64 (dl : Int)) from rfl)
  have y10 := (Cells.cell Y5.out 10).trans (show _ = some (Value.slice A2 n c2) from rfl)
  have y11 := (Cells.cell Y5.out 11).trans (show _ = some (Value.bool frg) from rfl)
  have y12 := (Cells.cell Y5.out 12).trans (show _ = some (Value.int .i64 id) from rfl)
  have y13 := (Cells.cell Y5.out 13).trans (show _ = some (Value.int .i64 off) from rfl)
  have y14 := (Cells.cell Y5.out 14).trans (show _ = some (Value.bool more) from rfl)
  have y15 := (Cells.cell Y5.out 15).trans (show _ = some (Value.string P) from rfl)
  go_wp2_with fail
  refine (HSM.out _ _ _ _ _ Q5.out R5.out).mono ?_
  rintro e w6 ⟨rfl, b6⟩
  have B6 := Lib.hid (B5.out.trans (b6.mono B5.out.size))
  clear b6
  clear X5 Y5 R5 Q5 HSM x0 y0 x1 y1 x2 y2 x3 y3 x4 y4 x5 y5 x6 y6 x7 y7 x8 y8 x9 y9 x10 y10 x11 y11 x12 y12 x13 y13 x14 y14 x15 y15
  go_wp2_with fail
  go_ret
  exact ⟨rfl, B6.out⟩

set_option maxRecDepth 100000 in
theorem lifted (os : Os) (started : os.Started) (H : Type) (enc : TypeId × Value → H) :
    ReturnsInHanded {} Try.checked os 8 .any (Rows.ipv6ReadsSpec.pre6 enc Try.prog Try.f8 Rows.ipv6ReadsRow.domain false) (Rows.ipv6ReadsSpec.post enc Try.prog Try.f8 false true false false) := by
  refine returnsInHanded_of_change (C := Try.checked) own started (by kernel_rfl) Try.func8
    (ChangeSpec.witness6 (enc := enc) (C := Try.checked) false ⟨#[], #[.string ⟨#[]⟩], []⟩ 8 (by kernel_rfl) (by kernel_rfl) (by kernel_rfl) (by kernel_rfl)) ?_
  intro W base args ds gs before hval0 hW hcnd _
  have hval : ∀ (j : Nat) t v, Try.f8.params[j]? = some t → args[j]? = some v → Value.okWide Try.prog W .any base t v := hval0
  have hW' := hW
  obtain ⟨p, q, hA0, hV, rfl, hfz, hnd⟩ := hW
  have hA : DataW.TrodAll enc Try.prog W 0 (fun _ => true) true Try.f8.params.toList args.toList ds p := hA0
  rw [Try.params8] at hA hval
  obtain ⟨v0, vs0, d0, ds0, p0, q0, hargs, rfl, rfl, h0, r0⟩ := trodAll_cons hA
  obtain ⟨rfl, rfl, rfl⟩ := trodAll_nil r0
  obtain rfl : args = #[v0] := by cases args; simp_all
  obtain ⟨rfl, rfl⟩ := trodVars_none hV
  obtain ⟨a0, rfl, rfl, rfl, w0⟩ := open_string Try.underlying9 (hval 0 9 v0 rfl rfl) h0
  clear hA0 hval0
  refine (walk a0 W w0).mono fun e W' ⟨he, bel⟩ => ?_
  subst he
  exact ⟨_, rfl, _, _, _, [], _, [], hW', trodAll_mk1 (shut_bool Try.underlying4 _), (trodAll_cons_mk (shut_string Try.underlying9 w0) trodAll_mk0), rfl, bel.frame _, fun h => by cases h⟩

theorem over : Rows.ipv6ReadsRow.holds Try.pinned (OpenSpec.ofChange Rows.ipv6ReadsSpec) :=
  OpenClaim.holds_of_wide 8 Try.f8 rfl rfl rfl rfl rfl rfl rfl ⟨rfl, rfl, rfl, rfl, rfl⟩ rfl rfl rfl rfl rfl (by kernel_rfl) Try.func8 (by kernel_rfl)
    (of_decide_eq_true (by kernel_rfl)) (by unfold Func.isWrapper; first | (rw [if_pos (by decide +kernel)]; kernel_rfl) | (rw [if_neg (by decide +kernel)]; exact ⟨rfl, rfl⟩))
    (fun os started H enc _ => lifted os started H enc)

theorem proved : Rows.Ipv6ReadsSaid := over
#print axioms proved
end Go.Proofs.Ytjjldolafnfpoaa.ipv6Reads
