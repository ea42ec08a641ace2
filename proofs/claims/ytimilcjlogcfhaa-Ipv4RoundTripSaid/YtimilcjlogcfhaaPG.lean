/- Ipv4RoundTrip holds: for every packet and every string behind it the law about Decode of Encode returns true and leaves memory as it was; no conditions. -/
import Derived.Test.YtimilcjlogcfhaaRows
import Derived.Test.YtimilcjlogcfhaaChecked
import Derived.Deep.Cut
import Derived.Deep.WholeRow
import Derived.BigQuiet
import Derived.Test.YtimilcjlogcfhaaPE45
namespace Go.Proofs.Ytimilcjlogcfhaa.ipv4RoundTrip
open Go.ChangeShapes Go.WideShapes Go.ChangeAt Go.RowKit
open Go.ChangeMaps (open_string shut_string)
set_option linter.unusedVariables false

theorem own : ownKnob Try.prog.godebug = none := by kernel_rfl
theorem laidOut : laidOutB Try.prog = true := by kernel_rfl
set_option maxHeartbeats 8000000 in
set_option maxRecDepth 20000 in
theorem walk (x : Ip4R) (A : Option Addr) (c : Nat) (s : ByteArray) (w : World) (hw : ipWf x) (h : RowL EOpt w A x.ops) (hc : A = none → c = 0) (hs : s.size ≤ maxLen) :
    Calls Try.prog 6 #[.agg (ipC x x.ops.length A c (str x.pay)), .string s] w fun e w' => e = .returned (.bool true) ∧ Below w.heap.size w w' := by
  obtain ⟨p, hp⟩ : ∃ q, q = x := ⟨_, rfl⟩
  have HPX := Lib.hid hp
  have HWF := Lib.hid (show ipWf p by rw [hp]; exact hw)
  have HOP := Lib.hid (show RowL EOpt w A p.ops by rw [hp]; exact h)
  obtain ⟨tos, id, ttl, proto, dont, more, off, ⟨sv, sh, sl⟩, ⟨dv, dh, dl⟩, l, pay⟩ := x
  unfold ipC
  dsimp only
  obtain ⟨n, hn⟩ : ∃ n, n = l.length := ⟨_, rfl⟩
  obtain ⟨P, hP⟩ : ∃ P, P = str pay := ⟨_, rfl⟩
  have hPs : P.size = pay.length := by rw [hP, str_size]
  have HLG := Lib.hid (fun (W : World) => large_raw tos id ttl proto off dont more sv dv sh sl dh dl n c A P W)
  rw [← hn, ← hP]
  have HNP := Lib.hid (And.intro hn hP)
  have HPS := Lib.hid hPs
  have HPA := Lib.hid (show #[.int .i64 tos, .int .i64 id, .int .i64 ttl, .int .i64 proto, .bool dont, .bool more, .int .i64 off, .bool sv, .int .u64 (sh : Int), .int .u64 (sl : Int), .bool dv, .int .u64 (dh : Int), .int .u64 (dl : Int), .slice A n c, .string P] = ipC p p.ops.length A c (str p.pay) by rw [hn, hP, hp]; rfl)
  have HPL := Lib.hid (show p.pay.length = P.size ∧ p.ops.length = n by rw [hp]; exact ⟨hPs.symm, hn.symm⟩)
  clear hp hw h hc hn hP hPs
  have B0 := Lib.hid (Below.refl w.heap.size w)
  obtain ⟨lg, hlg⟩ : ∃ b : Bool, decide (70000 < P.size ∨ 60 < n) = b := ⟨_, rfl⟩
  rw [hlg] at HLG
  cases lg
  · have hsm : P.size ≤ 70000 ∧ n ≤ 60 := by have := of_decide_eq_false hlg; omega
    have HOK := Lib.hid (fun (W : World) (hb : Below w.heap.size w W) => show ipOk W p A from ⟨HWF.out, HOP.out.kept hb, by have h1 := HPL.out.2; omega, by have h1 := HPL.out.1; omega⟩)
    by_cases ha : 1000 < s.size
    · have d0 : decide ((1000 : Int) < (s.size : Int)) = true := by simp; omega
      have nd : (1000 : Int) < (s.size : Int) := by omega
      clear hlg ha
      go_enter Try.func6, Try.ntmps6
      go_upto_region 1 with fail
      obtain ⟨W1, hW1⟩ : ∃ W, W = w.alloc (.cells #[.int .i64 tos, .int .i64 id, .int .i64 ttl, .int .i64 proto, .bool dont, .bool more, .int .i64 off, .bool sv, .int .u64 (sh : Int), .int .u64 (sl : Int), .bool dv, .int .u64 (dh : Int), .int .u64 (dl : Int), .slice A n c, .string P] 28) := ⟨_, rfl⟩
      obtain ⟨g0, hg0⟩ : ∃ g, g = w.heap.size := ⟨_, rfl⟩
      have X1 := Lib.hid (show Cells W1 g0 28 #[.int .i64 tos, .int .i64 id, .int .i64 ttl, .int .i64 proto, .bool dont, .bool more, .int .i64 off, .bool sv, .int .u64 (sh : Int), .int .u64 (sl : Int), .bool dv, .int .u64 (dh : Int), .int .u64 (dl : Int), .slice A n c, .string P] by rw [hW1, hg0]; exact heap_alloc_new w _)
      have kW1 : Below w.heap.size w W1 := by rw [hW1]; exact below_alloc6 w _
      have B1 := Lib.hid (B0.out.trans (kW1.mono B0.out.size))
      rw [← hW1, ← hg0]
      clear hW1 hg0
      go_wp2_with (refine wpList_load_row (by rfl) 28 _ (by rfl) g0 (by rfl) 28 #[.int .i64 tos, .int .i64 id, .int .i64 ttl, .int .i64 proto, .bool dont, .bool more, .int .i64 off, .bool sv, .int .u64 (sh : Int), .int .u64 (sl : Int), .bool dv, .int .u64 (dh : Int), .int .u64 (dl : Int), .slice A n c, .string P] (0, 0) _ X1.out Try.underlying28 (by rfl) (by kernel_rfl) ?_)
      refine (HLG.out _).mono ?_
      rintro e w2 ⟨rfl, b2⟩
      have X2 := Lib.hid (X1.out.kept b2 X1.out.lt)
      have B2 := Lib.hid (B1.out.trans (b2.mono B1.out.size))
      clear b2
      clear X1 HLG kW1
      go_wp2_with fail
      refine (awk11 _).mono ?_
      rintro e w99 ⟨rfl, b99⟩
      go_wp2_with fail
      go_ret
      exact ⟨rfl, B2.out.trans (b99.mono B2.out.size)⟩
    have d0 : decide ((1000 : Int) < (s.size : Int)) = false := by simp; omega
    have nd : ¬ (1000 : Int) < (s.size : Int) := by omega
    obtain ⟨er, her⟩ : ∃ e, e = (encI p).2 := ⟨_, rfl⟩
    obtain ⟨ES, hES⟩ : ∃ e, e = str (encI p).1 := ⟨_, rfl⟩
    have H1 := Lib.hid (fun (W : World) (hb : Below w.heap.size w W) => show Calls Try.prog 15 #[.agg #[.int .i64 tos, .int .i64 id, .int .i64 ttl, .int .i64 proto, .bool dont, .bool more, .int .i64 off, .bool sv, .int .u64 (sh : Int), .int .u64 (sl : Int), .bool dv, .int .u64 (dh : Int), .int .u64 (dl : Int), .slice A n c, .string P]] W fun e w' => e = .returned (.tuple #[.string ES, .int .i64 (er : Int)]) ∧ Below W.heap.size W w' from by
      rw [HPA.out, her, hES]
      exact prog11.enc p A c W trivial (HOK.out W hb))
    have HE := Lib.hid (And.intro her hES)
    clear hlg her hES hs
    by_cases he : er ≠ 0
    · have HES := Lib.hid (show ES = ⟨#[]⟩ by
        rw [HE.out.2]
        have h1 := HE.out.1
        unfold encI at h1 ⊢
        split
        · rfl
        · next hb =>
          rw [if_neg hb] at h1
          split
          · rfl
          · next hc =>
            rw [if_neg hc] at h1
            split
            · rfl
            · next hd =>
              rw [if_neg hd] at h1
              exact absurd h1 he)
      have z1 : ((er : Int) != 0) = true := by rw [bne_iff_ne]; omega
      have z2 : ¬ (er : Int) = 0 := by omega
      rw [HES.out] at H1
      clear he
      go_enter Try.func6, Try.ntmps6
      go_upto_region 1 with fail
      obtain ⟨W1, hW1⟩ : ∃ W, W = w.alloc (.cells #[.int .i64 tos, .int .i64 id, .int .i64 ttl, .int .i64 proto, .bool dont, .bool more, .int .i64 off, .bool sv, .int .u64 (sh : Int), .int .u64 (sl : Int), .bool dv, .int .u64 (dh : Int), .int .u64 (dl : Int), .slice A n c, .string P] 28) := ⟨_, rfl⟩
      obtain ⟨g0, hg0⟩ : ∃ g, g = w.heap.size := ⟨_, rfl⟩
      have X1 := Lib.hid (show Cells W1 g0 28 #[.int .i64 tos, .int .i64 id, .int .i64 ttl, .int .i64 proto, .bool dont, .bool more, .int .i64 off, .bool sv, .int .u64 (sh : Int), .int .u64 (sl : Int), .bool dv, .int .u64 (dh : Int), .int .u64 (dl : Int), .slice A n c, .string P] by rw [hW1, hg0]; exact heap_alloc_new w _)
      have kW1 : Below w.heap.size w W1 := by rw [hW1]; exact below_alloc6 w _
      have B1 := Lib.hid (B0.out.trans (kW1.mono B0.out.size))
      rw [← hW1, ← hg0]
      clear hW1 hg0
      go_wp2_with (refine wpList_load_row (by rfl) 28 _ (by rfl) g0 (by rfl) 28 #[.int .i64 tos, .int .i64 id, .int .i64 ttl, .int .i64 proto, .bool dont, .bool more, .int .i64 off, .bool sv, .int .u64 (sh : Int), .int .u64 (sl : Int), .bool dv, .int .u64 (dh : Int), .int .u64 (dl : Int), .slice A n c, .string P] (0, 0) _ X1.out Try.underlying28 (by rfl) (by kernel_rfl) ?_)
      refine (HLG.out _).mono ?_
      rintro e w2 ⟨rfl, b2⟩
      have X2 := Lib.hid (X1.out.kept b2 X1.out.lt)
      have B2 := Lib.hid (B1.out.trans (b2.mono B1.out.size))
      clear b2
      clear X1 HLG kW1
      go_wp2_with (refine wpList_load_row (by rfl) 28 _ (by rfl) g0 (by rfl) 28 #[.int .i64 tos, .int .i64 id, .int .i64 ttl, .int .i64 proto, .bool dont, .bool more, .int .i64 off, .bool sv, .int .u64 (sh : Int), .int .u64 (sl : Int), .bool dv, .int .u64 (dh : Int), .int .u64 (dl : Int), .slice A n c, .string P] (0, 0) _ X2.out Try.underlying28 (by rfl) (by kernel_rfl) ?_)
      refine (H1.out _ B2.out).mono ?_
      rintro e w3 ⟨rfl, b3⟩
      have B3 := Lib.hid (B2.out.trans (b3.mono B2.out.size))
      clear b3
      clear X2 H1
      go_wp2_with fail
      refine (awk11 _).mono ?_
      rintro e w99 ⟨rfl, b99⟩
      go_wp2_with fail
      go_ret
      exact ⟨rfl, B3.out.trans (b99.mono B3.out.size)⟩
    have z1 : ((er : Int) != 0) = false := by rw [bne_eq_false_iff_eq]; omega
    have z2 : (er : Int) = 0 := by omega
    obtain ⟨L, hL⟩ : ∃ L, L = s.data.toList := ⟨_, rfl⟩
    have hsL : s = str L := by rw [hL]; exact (str_of s).symm
    have hlen : L.length = s.size := by rw [hL]; show s.data.toList.length = s.data.size; simp only [Array.length_toList]
    have henc : encI p = ((encI p).1, 0) := by rw [show (0 : Nat) = (encI p).2 by rw [← HE.out.1]; omega]
    obtain ⟨hd1, hd2, hd3⟩ := dec_enc4 henc L
    have hES : ES = str (encI p).1 := HE.out.2
    have hsz : ES.size = (encI p).1.length := by rw [hES, str_size]
    have hES6 : ES.size ≤ 65535 := by omega
    have HSS := Lib.hid (show ES ++ s = str ((encI p).1 ++ L) by rw [hES, hsL, str_append])
    have H2 := Lib.hid (fun (W : World) => show Calls Try.prog 11 #[.string (ES ++ s)] W (Dec4P W (p, 0)) from by
      rw [HSS.out, ← hd1]
      exact prog11.dec _ W trivial (by rw [List.length_append]; omega))
    have hss : (9223372036854775807 < ES.size + s.size) = False := by simp only [eq_iff_iff, iff_false]; omega
    have HSM := Lib.hid (fun (A1 A2 : Option Addr) (c1 c2 : Nat) (W : World) (h1 : RowL EOpt W A1 p.ops) (h2 : RowL EOpt W A2 p.ops) => same11_any p A1 A2 c1 c2 W h1 h2 (by have := HPL.out.2; omega))
    have HPF := HPX.out
    rw [HPF] at HSM H2
    have HOP2 := Lib.hid (show RowL EOpt w A l by have := HOP.out; rw [HPF] at this; exact this)
    have hnl := HNP.out.1
    have hPp := HNP.out.2
    dsimp only at HSM
    unfold Dec4P at H2
    dsimp only at H2
    rw [← hnl, ← hPp] at HSM H2
    have HNL := Lib.hid hnl
    clear he hL hsL hlen henc hd1 hd2 hd3 hES hsz HSS HPF hnl hPp HOK HE HPA HPL HWF HOP HPX
    go_enter Try.func6, Try.ntmps6
    go_upto_region 1 with fail
    obtain ⟨W1, hW1⟩ : ∃ W, W = w.alloc (.cells #[.int .i64 tos, .int .i64 id, .int .i64 ttl, .int .i64 proto, .bool dont, .bool more, .int .i64 off, .bool sv, .int .u64 (sh : Int), .int .u64 (sl : Int), .bool dv, .int .u64 (dh : Int), .int .u64 (dl : Int), .slice A n c, .string P] 28) := ⟨_, rfl⟩
    obtain ⟨g0, hg0⟩ : ∃ g, g = w.heap.size := ⟨_, rfl⟩
    have X1 := Lib.hid (show Cells W1 g0 28 #[.int .i64 tos, .int .i64 id, .int .i64 ttl, .int .i64 proto, .bool dont, .bool more, .int .i64 off, .bool sv, .int .u64 (sh : Int), .int .u64 (sl : Int), .bool dv, .int .u64 (dh : Int), .int .u64 (dl : Int), .slice A n c, .string P] by rw [hW1, hg0]; exact heap_alloc_new w _)
    have kW1 : Below w.heap.size w W1 := by rw [hW1]; exact below_alloc6 w _
    have B1 := Lib.hid (B0.out.trans (kW1.mono B0.out.size))
    rw [← hW1, ← hg0]
    clear hW1 hg0
    go_wp2_with (refine wpList_load_row (by rfl) 28 _ (by rfl) g0 (by rfl) 28 #[.int .i64 tos, .int .i64 id, .int .i64 ttl, .int .i64 proto, .bool dont, .bool more, .int .i64 off, .bool sv, .int .u64 (sh : Int), .int .u64 (sl : Int), .bool dv, .int .u64 (dh : Int), .int .u64 (dl : Int), .slice A n c, .string P] (0, 0) _ X1.out Try.underlying28 (by rfl) (by kernel_rfl) ?_)
    refine (HLG.out _).mono ?_
    rintro e w2 ⟨rfl, b2⟩
    have X2 := Lib.hid (X1.out.kept b2 X1.out.lt)
    have B2 := Lib.hid (B1.out.trans (b2.mono B1.out.size))
    clear b2
    clear X1 HLG kW1
    go_wp2_with (refine wpList_load_row (by rfl) 28 _ (by rfl) g0 (by rfl) 28 #[.int .i64 tos, .int .i64 id, .int .i64 ttl, .int .i64 proto, .bool dont, .bool more, .int .i64 off, .bool sv, .int .u64 (sh : Int), .int .u64 (sl : Int), .bool dv, .int .u64 (dh : Int), .int .u64 (dl : Int), .slice A n c, .string P] (0, 0) _ X2.out Try.underlying28 (by rfl) (by kernel_rfl) ?_)
    refine (H1.out _ B2.out).mono ?_
    rintro e w3 ⟨rfl, b3⟩
    have X3 := Lib.hid (X2.out.kept b3 X2.out.lt)
    have B3 := Lib.hid (B2.out.trans (b3.mono B2.out.size))
    clear b3
    clear X2 H1
    go_wp2_with fail
    refine (H2.out _).mono ?_
    rintro e w4 ⟨A2, c2, rfl, r4, n4, b4⟩
    have R4 := Lib.hid (show RowL EOpt w4 A2 l from r4)
    have X4 := Lib.hid (X3.out.kept b4 X3.out.lt)
    clear r4 n4 X3 H2
    have B4 := Lib.hid (B3.out.trans (b4.mono B3.out.size))
    clear b4
    go_upto_region 7 with (refine wpList_store_row (by rfl) 28 _ _ (by rfl) w4.heap.size #[.int .i64 tos, .int .i64 id, .int .i64 ttl, .int .i64 proto, .bool dont, .bool more, .int .i64 off, .bool sv, .int .u64 (sh : Int), .int .u64 (sl : Int), .bool dv, .int .u64 (dh : Int), .int .u64 (dl : Int), .slice A2 n c2, .string P] (by rfl) (by rfl) 28 #[.int .i64 0, .int .i64 0, .int .i64 0, .int .i64 0, .bool false, .bool false, .int .i64 0, .bool false, .int .u64 0, .int .u64 0, .bool false, .int .u64 0, .int .u64 0, .slice none 0 0, .string ⟨#[]⟩] (heap_alloc_new _ _) (by kernel_rfl) (by rfl) (by simp [Value.oneCell']) ?_; rw [World.setRow_alloc_new])
    obtain ⟨W5, hW5⟩ : ∃ W, W = w4.alloc (.cells #[.int .i64 tos, .int .i64 id, .int .i64 ttl, .int .i64 proto, .bool dont, .bool more, .int .i64 off, .bool sv, .int .u64 (sh : Int), .int .u64 (sl : Int), .bool dv, .int .u64 (dh : Int), .int .u64 (dl : Int), .slice A2 n c2, .string P] 28) := ⟨_, rfl⟩
    obtain ⟨g5, hg5⟩ : ∃ g, g = w4.heap.size := ⟨_, rfl⟩
    have Y5 := Lib.hid (show Cells W5 g5 28 #[.int .i64 tos, .int .i64 id, .int .i64 ttl, .int .i64 proto, .bool dont, .bool more, .int .i64 off, .bool sv, .int .u64 (sh : Int), .int .u64 (sl : Int), .bool dv, .int .u64 (dh : Int), .int .u64 (dl : Int), .slice A2 n c2, .string P] by rw [hW5, hg5]; exact heap_alloc_new w4 _)
    have kW5 : Below w4.heap.size w4 W5 := by rw [hW5]; exact below_alloc6 w4 _
    have B5 := Lib.hid (B4.out.trans (kW5.mono B4.out.size))
    rw [← hW5, ← hg5]
    have R5 := Lib.hid (R4.out.kept kW5)
    have X5 := Lib.hid (X4.out.kept kW5 X4.out.lt)
    have Q5 := Lib.hid (HOP2.out.kept B5.out)
    clear hW5 hg5 kW5 R4 X4 B4
    have x0 := (Cells.cell X5.out 0).trans (show _ = some (Value.int .i64 tos) from rfl)
    have x1 := (Cells.cell X5.out 1).trans (show _ = some (Value.int .i64 id) from rfl)
    have x2 := (Cells.cell X5.out 2).trans (show _ = some (Value.int .i64 ttl) from rfl)
    have x3 := (Cells.cell X5.out 3).trans (show _ = some (Value.int .i64 proto) from rfl)
    have x4 := (Cells.cell X5.out 4).trans (show _ = some (Value.bool dont) from rfl)
    have x5 := (Cells.cell X5.out 5).trans (show _ = some (Value.bool more) from rfl)
    have x6 := (Cells.cell X5.out 6).trans (show _ = some (Value.int .i64 off) from rfl)
    have x7 := (Cells.cell X5.out 7).trans (show _ = some (Value.bool sv) from rfl)
    have x8 := (Cells.cell X5.out 8).trans (show _ = some (Value.int .u64 (sh : Int)) from rfl)
    have x9 := (Cells.cell X5.out 9).trans (show _ = some (Value.int .u64 (sl : Int)) from rfl)
    have x10 := (Cells.cell X5.out 10).trans (show _ = some (Value.bool dv) from rfl)
    have x11 := (Cells.cell X5.out 11).trans (show _ = some (Value.int .u64 (dh : Int)) from rfl)
    have x12 := (Cells.cell X5.out 12).trans (show _ = some (Value.int .u64 (dl : Int)) from rfl)
    have x13 := (Cells.cell X5.out 13).trans (show _ = some (Value.slice A n c) from rfl)
    have x14 := (Cells.cell X5.out 14).trans (show _ = some (Value.string P) from rfl)
    have y0 := (Cells.cell Y5.out 0).trans (show _ = some (Value.int .i64 tos) from rfl)
    have y1 := (Cells.cell Y5.out 1).trans (show _ = some (Value.int .i64 id) from rfl)
    have y2 := (Cells.cell Y5.out 2).trans (show _ = some (Value.int .i64 ttl) from rfl)
    have y3 := (Cells.cell Y5.out 3).trans (show _ = some (Value.int .i64 proto) from rfl)
    have y4 := (Cells.cell Y5.out 4).trans (show _ = some (Value.bool dont) from rfl)
    have y5 := (Cells.cell Y5.out 5).trans (show _ = some (Value.bool more) from rfl)
    have y6 := (Cells.cell Y5.out 6).trans (show _ = some (Value.int .i64 off) from rfl)
    have y7 := (Cells.cell Y5.out 7).trans (show _ = some (Value.bool sv) from rfl)
    have y8 := (Cells.cell Y5.out 8).trans (show _ = some (Value.int .u64 (sh : Int)) from rfl)
    have y9 := (Cells.cell Y5.out 9).trans (show _ = some (Value.int .u64 (sl : Int)) from rfl)
    have y10 := (Cells.cell Y5.out 10).trans (show _ = some (Value.bool dv) from rfl)
    have y11 := (Cells.cell Y5.out 11).trans (show _ = some (Value.int .u64 (dh : Int)) from rfl)
    have y12 := (Cells.cell Y5.out 12).trans (show _ = some (Value.int .u64 (dl : Int)) from rfl)
    have y13 := (Cells.cell Y5.out 13).trans (show _ = some (Value.slice A2 n c2) from rfl)
    have y14 := (Cells.cell Y5.out 14).trans (show _ = some (Value.string P) from rfl)
    go_wp2_with fail
    refine (HSM.out _ _ _ _ _ Q5.out R5.out).mono ?_
    rintro e w6 ⟨rfl, b6⟩
    have B6 := Lib.hid (B5.out.trans (b6.mono B5.out.size))
    clear b6
    clear X5 Y5 R5 Q5 HSM
    clear x0 y0 x1 y1 x2 y2 x3 y3 x4 y4 x5 y5 x6 y6 x7 y7 x8 y8 x9 y9 x10 y10 x11 y11 x12 y12 x13 y13 x14 y14
    go_wp2_with fail
    refine (awk11 _).mono ?_
    rintro e w99 ⟨rfl, b99⟩
    go_wp2_with fail
    go_ret
    exact ⟨rfl, B6.out.trans (b99.mono B6.out.size)⟩
  · clear hlg
    go_enter Try.func6, Try.ntmps6
    go_upto_region 1 with fail
    obtain ⟨W1, hW1⟩ : ∃ W, W = w.alloc (.cells #[.int .i64 tos, .int .i64 id, .int .i64 ttl, .int .i64 proto, .bool dont, .bool more, .int .i64 off, .bool sv, .int .u64 (sh : Int), .int .u64 (sl : Int), .bool dv, .int .u64 (dh : Int), .int .u64 (dl : Int), .slice A n c, .string P] 28) := ⟨_, rfl⟩
    obtain ⟨g0, hg0⟩ : ∃ g, g = w.heap.size := ⟨_, rfl⟩
    have X1 := Lib.hid (show Cells W1 g0 28 #[.int .i64 tos, .int .i64 id, .int .i64 ttl, .int .i64 proto, .bool dont, .bool more, .int .i64 off, .bool sv, .int .u64 (sh : Int), .int .u64 (sl : Int), .bool dv, .int .u64 (dh : Int), .int .u64 (dl : Int), .slice A n c, .string P] by rw [hW1, hg0]; exact heap_alloc_new w _)
    have kW1 : Below w.heap.size w W1 := by rw [hW1]; exact below_alloc6 w _
    have B1 := Lib.hid (B0.out.trans (kW1.mono B0.out.size))
    rw [← hW1, ← hg0]
    clear hW1 hg0
    go_wp2_with (refine wpList_load_row (by rfl) 28 _ (by rfl) g0 (by rfl) 28 #[.int .i64 tos, .int .i64 id, .int .i64 ttl, .int .i64 proto, .bool dont, .bool more, .int .i64 off, .bool sv, .int .u64 (sh : Int), .int .u64 (sl : Int), .bool dv, .int .u64 (dh : Int), .int .u64 (dl : Int), .slice A n c, .string P] (0, 0) _ X1.out Try.underlying28 (by rfl) (by kernel_rfl) ?_)
    refine (HLG.out _).mono ?_
    rintro e w2 ⟨rfl, b2⟩
    have X2 := Lib.hid (X1.out.kept b2 X1.out.lt)
    have B2 := Lib.hid (B1.out.trans (b2.mono B1.out.size))
    clear b2
    clear X1 HLG kW1
    go_wp2_with fail
    refine (awk11 _).mono ?_
    rintro e w99 ⟨rfl, b99⟩
    go_wp2_with fail
    go_ret
    exact ⟨rfl, B2.out.trans (b99.mono B2.out.size)⟩

set_option maxRecDepth 100000 in
theorem lifted (os : Os) (started : os.Started) (H : Type) (enc : TypeId × Value → H) :
    ReturnsInHanded {} Try.checked os 6 .any (Rows.ipv4RoundTripSpec.pre6 enc Try.prog Try.f6 Rows.ipv4RoundTripRow.domain false) (Rows.ipv4RoundTripSpec.post enc Try.prog Try.f6 false true false false) := by
  refine returnsInHanded_of_change_sized (C := Try.checked) own started (by kernel_rfl) Try.func6
    (ChangeSpec.witness6 (enc := enc) (C := Try.checked) false ⟨#[], #[(.agg #[.int .i64 0, .int .i64 0, .int .i64 0, .int .i64 0, .bool false, .bool false, .int .i64 0, .bool false, .int .u64 0, .int .u64 0, .bool false, .int .u64 0, .int .u64 0, .slice none 0 0, .string ⟨#[]⟩]), .string ⟨#[]⟩], []⟩ 8 (by kernel_rfl) (by kernel_rfl) (by kernel_rfl) (by kernel_rfl)) ?_
  intro W base args ds gs before hval0 hW hcnd hsz _
  have hval : ∀ (j : Nat) t v, Try.f6.params[j]? = some t → args[j]? = some v → Value.okWide Try.prog W .any base t v := hval0
  have hW' := hW
  obtain ⟨p, q, hA0, hV, rfl, hfz, hnd⟩ := hW
  have hA : DataW.TrodAll enc Try.prog W 0 (fun _ => true) true Try.f6.params.toList args.toList ds p := hA0
  rw [Try.params6] at hA hval hsz
  obtain ⟨v0, vs0, d0, ds0, p0, q0, hargs, rfl, rfl, h0, r0⟩ := trodAll_cons hA
  obtain ⟨v1, vs1, d1, ds1, p1, q1, rfl, rfl, rfl, h1, r1⟩ := trodAll_cons r0
  obtain ⟨rfl, rfl, rfl⟩ := trodAll_nil r1
  obtain rfl : args = #[v0, v1] := by cases args; simp_all
  obtain ⟨rfl, rfl⟩ := trodVars_none hV
  have k0 := h0
  have lt0 : ∀ x ∈ p0, x.block < W.heap.size := by obtain ⟨m, hm⟩ := k0; exact DataW.trod_lt m _ _ _ hm
  obtain ⟨x0, a0, c0, fx0, rfl, s0, n0⟩ := in_ip4 (hval 0 28 v0 rfl rfl) h0 (fun k hk => of_decide_eq_true (List.all_eq_true.1 hsz _ (DataW.weights_mem_each (j := 0) (t := 28) (d := d0) rfl rfl k hk)))
  obtain ⟨a1, rfl, rfl, rfl, w1⟩ := open_string Try.underlying9 (hval 1 9 v1 rfl rfl) h1
  clear hA0 hval0
  refine (walk x0 a0 c0 a1 W fx0 s0 n0 w1).mono fun e W' ⟨he, bel⟩ => ?_
  subst he
  exact ⟨_, rfl, _, _, _, [], _, [], hW', trodAll_mk1 (shut_bool Try.underlying4 _), (trodAll_cons_mk (Below.trod laidOut (by kernel_rfl) (of_decide_eq_true (by kernel_rfl)) k0 bel lt0) (trodAll_cons_mk (shut_string Try.underlying9 w1) trodAll_mk0)), rfl, bel.frame _, fun h => by cases h⟩

theorem over : Rows.ipv4RoundTripRow.holds Try.pinned (OpenSpec.ofChange Rows.ipv4RoundTripSpec) :=
  OpenClaim.holds_of_wide 6 Try.f6 rfl rfl rfl rfl rfl rfl rfl ⟨rfl, rfl, rfl, rfl, rfl⟩ rfl rfl rfl rfl rfl (by kernel_rfl) Try.func6 (by kernel_rfl)
    (of_decide_eq_true (by kernel_rfl)) (by unfold Func.isWrapper; first | (rw [if_pos (by decide +kernel)]; kernel_rfl) | (rw [if_neg (by decide +kernel)]; exact ⟨rfl, rfl⟩))
    (fun os started H enc _ => lifted os started H enc)

theorem proved : Rows.Ipv4RoundTripSaid := over
#print axioms proved
end Go.Proofs.Ytimilcjlogcfhaa.ipv4RoundTrip
