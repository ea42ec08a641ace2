/- Ipv4Accepts holds: for every string what Decode returns is accepted by Encode and decoded again, the header sum is 0, and the law returns true and leaves memory as it was; no conditions. -/
import Derived.Test.YtimilcjlogcfhaaRows
import Derived.Test.YtimilcjlogcfhaaChecked
import Derived.Deep.Cut
import Derived.Deep.WholeRow
import Derived.BigQuiet
import Derived.Test.YtimilcjlogcfhaaPE45
namespace Go.Proofs.Ytimilcjlogcfhaa.ipv4Accepts
open Go.ChangeShapes Go.WideShapes Go.ChangeAt Go.RowKit
open Go.ChangeMaps (open_string shut_string)
set_option linter.unusedVariables false

theorem own : ownKnob Try.prog.godebug = none := by kernel_rfl
theorem laidOut : laidOutB Try.prog = true := by kernel_rfl
set_option maxHeartbeats 8000000 in
set_option maxRecDepth 20000 in
theorem walk (s : ByteArray) (w : World) (hs : s.size ≤ maxLen) :
    Calls Try.prog 7 #[.string s] w fun e w' => e = .returned (.bool true) ∧ Below w.heap.size w w' := by
  have B0 := Lib.hid (Below.refl w.heap.size w)
  by_cases hl : 70000 < s.size
  · have d0 : decide ((70000 : Int) < (s.size : Int)) = true := by simp; omega
    have nd : (70000 : Int) < (s.size : Int) := by omega
    go_enter Try.func7, Try.ntmps7
    go_wp2_with fail
    refine (awk11 _).mono ?_
    rintro e w99 ⟨rfl, b99⟩
    go_wp2_with fail
    go_ret
    exact ⟨rfl, B0.out.trans (b99.mono B0.out.size)⟩
  have d0 : decide ((70000 : Int) < (s.size : Int)) = false := by simp; omega
  have nd : ¬ (70000 : Int) < (s.size : Int) := by omega
  have HL0 := Lib.hid hs
  obtain ⟨L, hL⟩ : ∃ L, L = s.data.toList := ⟨_, rfl⟩
  have hlen : L.length = s.size := by rw [hL]; show s.data.toList.length = s.data.size; simp only [Array.length_toList]
  have hsL : s = str L := by rw [hL]; exact (str_of s).symm
  have H1 := Lib.hid (fun (W : World) => show Calls Try.prog 11 #[.string s] W (Dec4P W (decI L)) from by rw [hsL]; exact prog11.dec L W trivial (by omega))
  by_cases he : (decI L).2 ≠ 0
  · obtain ⟨er, her⟩ : ∃ e, e = (decI L).2 := ⟨_, rfl⟩
    have hz : decI L = (zeroI, er) := by rw [her, ← decI_bad he]
    rw [hz] at H1
    unfold Dec4P zeroI at H1
    dsimp only at H1
    have z1 : ((er : Int) != 0) = true := by rw [bne_iff_ne]; omega
    have z2 : ¬ (er : Int) = 0 := by omega
    have HSM := Lib.hid (fun (A1 : Option Addr) (c1 : Nat) (W : World) => same11_any zeroI A1 none c1 0 W (RowL.nil _ _) (RowL.nil _ _) (by decide))
    unfold zeroI at HSM
    dsimp only [List.length_nil] at HSM H1
    clear he hz her hL hlen hsL hs hl
    go_enter Try.func7, Try.ntmps7
    go_wp2_with fail
    refine (H1.out _).mono ?_
    rintro e w1 ⟨A1, c1, rfl, r1, n1, b1⟩
    clear r1 n1 H1
    have B1 := Lib.hid (B0.out.trans (b1.mono B0.out.size))
    clear b1
    go_upto_region 4 with (refine wpList_store_row (by rfl) 28 _ _ (by rfl) w1.heap.size #[.int .i64 0, .int .i64 0, .int .i64 0, .int .i64 0, .bool false, .bool false, .int .i64 0, .bool false, .int .u64 0, .int .u64 0, .bool false, .int .u64 0, .int .u64 0, .slice A1 0 c1, .string ⟨#[]⟩] (by rfl) (by rfl) 28 #[.int .i64 0, .int .i64 0, .int .i64 0, .int .i64 0, .bool false, .bool false, .int .i64 0, .bool false, .int .u64 0, .int .u64 0, .bool false, .int .u64 0, .int .u64 0, .slice none 0 0, .string ⟨#[]⟩] (heap_alloc_new _ _) (by kernel_rfl) (by rfl) (by simp [Value.oneCell']) ?_; rw [World.setRow_alloc_new])
    obtain ⟨W2, hW2⟩ : ∃ W, W = w1.alloc (.cells #[.int .i64 0, .int .i64 0, .int .i64 0, .int .i64 0, .bool false, .bool false, .int .i64 0, .bool false, .int .u64 0, .int .u64 0, .bool false, .int .u64 0, .int .u64 0, .slice A1 0 c1, .string ⟨#[]⟩] 28) := ⟨_, rfl⟩
    obtain ⟨g1, hg1⟩ : ∃ g, g = w1.heap.size := ⟨_, rfl⟩
    have X2 := Lib.hid (show Cells W2 g1 28 #[.int .i64 0, .int .i64 0, .int .i64 0, .int .i64 0, .bool false, .bool false, .int .i64 0, .bool false, .int .u64 0, .int .u64 0, .bool false, .int .u64 0, .int .u64 0, .slice A1 0 c1, .string ⟨#[]⟩] by rw [hW2, hg1]; exact heap_alloc_new w1 _)
    have kW2 : Below w1.heap.size w1 W2 := by rw [hW2]; exact below_alloc6 w1 _
    have B2 := Lib.hid (B1.out.trans (kW2.mono B1.out.size))
    rw [← hW2, ← hg1]
    clear hW2 hg1 kW2 B1
    go_wp2_with (refine wpList_load_row (by rfl) 28 _ (by rfl) g1 (by rfl) 28 #[.int .i64 0, .int .i64 0, .int .i64 0, .int .i64 0, .bool false, .bool false, .int .i64 0, .bool false, .int .u64 0, .int .u64 0, .bool false, .int .u64 0, .int .u64 0, .slice A1 0 c1, .string ⟨#[]⟩] (0, 0) _ X2.out Try.underlying28 (by rfl) (by kernel_rfl) ?_)
    refine (HSM.out _ _ _).mono ?_
    rintro e w5 ⟨rfl, b5⟩
    have B5 := Lib.hid (B2.out.trans (b5.mono B2.out.size))
    clear b5
    clear X2 HSM
    go_wp2_with fail
    refine (awk11 _).mono ?_
    rintro e w99 ⟨rfl, b99⟩
    go_wp2_with fail
    go_ret
    exact ⟨rfl, B5.out.trans (b99.mono B5.out.size)⟩
  obtain ⟨p, hp⟩ : ∃ p, p = (decI L).1 := ⟨_, rfl⟩
  have hdp : decI L = (p, 0) := by rw [hp, show (0 : Nat) = (decI L).2 by omega]
  obtain ⟨T, henc, ht1, ht2⟩ := enc_dec4 hdp
  obtain ⟨hd1, hd2, hd3⟩ := dec_enc4 henc []
  rw [List.append_nil] at hd1
  obtain ⟨_, ho1, ho2, ho3⟩ := encI_ok henc
  have hok := decI_in hdp
  have hol := decI_ops L
  rw [hdp] at H1 hol
  have hol2 : p.ops.length ≤ 1000 := by
    have h1 := len_wrOs p.ops
    omega
  have hpl : p.pay.length ≤ 70000 := by omega
  obtain ⟨tb, htb⟩ : ∃ t, t = str T := ⟨_, rfl⟩
  have htz : tb.size = T.length := by rw [htb, str_size]
  have H2 := Lib.hid (fun (A1 : Option Addr) (c1 : Nat) (W : World) (h1 : RowL EOpt W A1 p.ops) => show Calls Try.prog 15 #[.agg (ipC p p.ops.length A1 c1 (str p.pay))] W fun e w' => e = .returned (.tuple #[.string tb, .int .i64 0]) ∧ Below W.heap.size W w' from by
    have := prog11.enc p A1 c1 W trivial ⟨hok, h1, by omega, by omega⟩
    rw [henc, ← htb] at this
    exact this)
  have H3 := Lib.hid (fun (W : World) => show Calls Try.prog 11 #[.string tb] W (Dec4P W (p, 0)) from by rw [htb, ← hd1]; exact prog11.dec T W trivial (by omega))
  have HSM := Lib.hid (fun (A1 A2 : Option Addr) (c1 c2 : Nat) (W : World) (h1 : RowL EOpt W A1 p.ops) (h2 : RowL EOpt W A2 p.ops) => same11_any p A1 A2 c1 c2 W h1 h2 (by omega))
  obtain ⟨hl20, hh20⟩ : ∃ h, h = hlI p := ⟨_, rfl⟩
  have htot : T.length = hl20 + p.pay.length := by rw [hd2, hh20]; rfl
  have hex : tb.extract 0 hl20 = str (headI p) := by
    rw [extract_str11 tb T htb, List.drop_zero, Nat.sub_zero, ho3, List.take_append_of_le_length (by rw [headI_len, ← hh20]; exact Nat.le_refl _), List.take_of_length_le (by rw [headI_len, ← hh20]; exact Nat.le_refl _)]
  have HSU := Lib.hid (fun (W : World) => show Calls Try.prog 23 #[.string (str (headI p))] W fun e w' => e = .returned (.int .i64 0) ∧ W = w' from by
    have := sum_any (str (headI p)) W (by rw [str_size, headI_len, ← hh20]; omega)
    rw [str_toList, headI_sum] at this
    exact this)
  generalize str (headI p) = HD at *
  obtain ⟨P, hP⟩ : ∃ P, P = str p.pay := ⟨_, rfl⟩
  have hPs : P.size = p.pay.length := by rw [hP, str_size]
  have HT := Lib.hid (show T.length = hl20 + P.size by omega)
  have htbz : tb.size = hl20 + P.size := by omega
  have e20 : (20 : Int) + (P.size : Int) ≤ (tb.size : Int) := by omega
  have e21 : decide ((tb.size : Int) < 20 + (P.size : Int)) = false := by simp; omega
  have e22 : ¬ (tb.size : Int) < 20 + (P.size : Int) := by omega
  have e23 : decide ((s.size : Int) < (tb.size : Int)) = false := by simp; omega
  have e24 : ¬ (s.size : Int) < (tb.size : Int) := by omega
  have e25 : (tb.size : Int) - (P.size : Int) = (hl20 : Int) := by omega
  have e26 : hl20 ≤ tb.size := by omega
  have e27 : (hl20 : Int) ≤ (tb.size : Int) := by omega
  have e28 : tb.size ≤ 70000 := by omega
  have e29 : P.size ≤ 70000 := by omega
  have e30 : (0 : Int) ≤ (hl20 : Int) := by omega
  clear hp hdp henc ht1 ht2 hd1 hd2 hd3 ho1 ho2 ho3 hok hol hol2 hpl htb htz hh20 htot hL hlen hsL hs hl he hPs HT htbz e20
  unfold ipC at H2
  unfold Dec4P at H1 H3
  obtain ⟨tos, id, ttl, proto, dont, more, off, ⟨sv, sh, sl⟩, ⟨dv, dh, dl⟩, l, pay⟩ := p
  dsimp only at H1 H2 H3 HSM hP
  rw [← hP] at H1 H2 H3 HSM
  obtain ⟨n, hn⟩ : ∃ n, n = l.length := ⟨_, rfl⟩
  rw [← hn] at H1 H2 H3 HSM
  clear hP hn
  go_enter Try.func7, Try.ntmps7
  go_wp2_with fail
  refine (H1.out _).mono ?_
  rintro e w1 ⟨A1, c1, rfl, r1, n1, b1⟩
  have R1 := Lib.hid (show RowL EOpt w1 A1 l from r1)
  clear r1 n1 H1
  have B1 := Lib.hid (B0.out.trans (b1.mono B0.out.size))
  clear b1
  go_upto_region 4 with (refine wpList_store_row (by rfl) 28 _ _ (by rfl) w1.heap.size #[.int .i64 tos, .int .i64 id, .int .i64 ttl, .int .i64 proto, .bool dont, .bool more, .int .i64 off, .bool sv, .int .u64 (sh : Int), .int .u64 (sl : Int), .bool dv, .int .u64 (dh : Int), .int .u64 (dl : Int), .slice A1 n c1, .string P] (by rfl) (by rfl) 28 #[.int .i64 0, .int .i64 0, .int .i64 0, .int .i64 0, .bool false, .bool false, .int .i64 0, .bool false, .int .u64 0, .int .u64 0, .bool false, .int .u64 0, .int .u64 0, .slice none 0 0, .string ⟨#[]⟩] (heap_alloc_new _ _) (by kernel_rfl) (by rfl) (by simp [Value.oneCell']) ?_; rw [World.setRow_alloc_new])
  obtain ⟨W2, hW2⟩ : ∃ W, W = w1.alloc (.cells #[.int .i64 tos, .int .i64 id, .int .i64 ttl, .int .i64 proto, .bool dont, .bool more, .int .i64 off, .bool sv, .int .u64 (sh : Int), .int .u64 (sl : Int), .bool dv, .int .u64 (dh : Int), .int .u64 (dl : Int), .slice A1 n c1, .string P] 28) := ⟨_, rfl⟩
  obtain ⟨g1, hg1⟩ : ∃ g, g = w1.heap.size := ⟨_, rfl⟩
  have X2 := Lib.hid (show Cells W2 g1 28 #[.int .i64 tos, .int .i64 id, .int .i64 ttl, .int .i64 proto, .bool dont, .bool more, .int .i64 off, .bool sv, .int .u64 (sh : Int), .int .u64 (sl : Int), .bool dv, .int .u64 (dh : Int), .int .u64 (dl : Int), .slice A1 n c1, .string P] by rw [hW2, hg1]; exact heap_alloc_new w1 _)
  have kW2 : Below w1.heap.size w1 W2 := by rw [hW2]; exact below_alloc6 w1 _
  have B2 := Lib.hid (B1.out.trans (kW2.mono B1.out.size))
  rw [← hW2, ← hg1]
  have R2 := Lib.hid (R1.out.kept kW2)
  clear hW2 hg1 kW2 R1 B1
  go_wp2_with (refine wpList_load_row (by rfl) 28 _ (by rfl) g1 (by rfl) 28 #[.int .i64 tos, .int .i64 id, .int .i64 ttl, .int .i64 proto, .bool dont, .bool more, .int .i64 off, .bool sv, .int .u64 (sh : Int), .int .u64 (sl : Int), .bool dv, .int .u64 (dh : Int), .int .u64 (dl : Int), .slice A1 n c1, .string P] (0, 0) _ X2.out Try.underlying28 (by rfl) (by kernel_rfl) ?_)
  refine (H2.out _ _ _ R2.out).mono ?_
  rintro e w3 ⟨rfl, b3⟩
  have R3 := Lib.hid (R2.out.kept b3)
  have X3 := Lib.hid (X2.out.kept b3 X2.out.lt)
  have B3 := Lib.hid (B2.out.trans (b3.mono B2.out.size))
  clear b3
  clear R2 X2 H2
  have x14 := (Cells.cell X3.out 14).trans (show _ = some (Value.string P) from rfl)
  go_wp2_with fail
  refine (H3.out _).mono ?_
  rintro e w4 ⟨A2, c2, rfl, r4, n4, b4⟩
  have R4 := Lib.hid (show RowL EOpt w4 A2 l from r4)
  have Q4 := Lib.hid (R3.out.kept b4)
  have X4 := Lib.hid (X3.out.kept b4 X3.out.lt)
  clear r4 n4 H3 R3 X3 x14
  have B4 := Lib.hid (B3.out.trans (b4.mono B3.out.size))
  clear b4
  go_upto_region 10 with (refine wpList_store_row (by rfl) 28 _ _ (by rfl) w4.heap.size #[.int .i64 tos, .int .i64 id, .int .i64 ttl, .int .i64 proto, .bool dont, .bool more, .int .i64 off, .bool sv, .int .u64 (sh : Int), .int .u64 (sl : Int), .bool dv, .int .u64 (dh : Int), .int .u64 (dl : Int), .slice A2 n c2, .string P] (by rfl) (by rfl) 28 #[.int .i64 0, .int .i64 0, .int .i64 0, .int .i64 0, .bool false, .bool false, .int .i64 0, .bool false, .int .u64 0, .int .u64 0, .bool false, .int .u64 0, .int .u64 0, .slice none 0 0, .string ⟨#[]⟩] (heap_alloc_new _ _) (by kernel_rfl) (by rfl) (by simp [Value.oneCell']) ?_; rw [World.setRow_alloc_new])
  obtain ⟨W5, hW5⟩ : ∃ W, W = w4.alloc (.cells #[.int .i64 tos, .int .i64 id, .int .i64 ttl, .int .i64 proto, .bool dont, .bool more, .int .i64 off, .bool sv, .int .u64 (sh : Int), .int .u64 (sl : Int), .bool dv, .int .u64 (dh : Int), .int .u64 (dl : Int), .slice A2 n c2, .string P] 28) := ⟨_, rfl⟩
  obtain ⟨g5, hg5⟩ : ∃ g, g = w4.heap.size := ⟨_, rfl⟩
  have Y5 := Lib.hid (show Cells W5 g5 28 #[.int .i64 tos, .int .i64 id, .int .i64 ttl, .int .i64 proto, .bool dont, .bool more, .int .i64 off, .bool sv, .int .u64 (sh : Int), .int .u64 (sl : Int), .bool dv, .int .u64 (dh : Int), .int .u64 (dl : Int), .slice A2 n c2, .string P] by rw [hW5, hg5]; exact heap_alloc_new w4 _)
  have kW5 : Below w4.heap.size w4 W5 := by rw [hW5]; exact below_alloc6 w4 _
  have B5 := Lib.hid (B4.out.trans (kW5.mono B4.out.size))
  rw [← hW5, ← hg5]
  have R5 := Lib.hid (R4.out.kept kW5)
  have Q5 := Lib.hid (Q4.out.kept kW5)
  have X5 := Lib.hid (X4.out.kept kW5 X4.out.lt)
  clear hW5 hg5 kW5 R4 X4 Q4 B4
  have x0 := (Cells.cell X5.out 0).trans (show _ = some (Value.int .i64 tos) from rfl)
  have x1 := (Cells.cell X5.out 1).trans (show _ = some (Value.int .i64 id) from rfl)
  have x2 := (Cells.cell X5.out 2).trans (show _ = some (Value.int .i64 ttl) from rfl)
  have x3 := (Cells.cell X5.out 3).trans (show _ = some (Value.int .i64 proto) from rfl)
  have x4 := (Cells.cell X5.out 4).trans (show _ = some (Value.bool dont) from rfl)
  have x5 := (Cells.cell X5.out 5).trans (show _ = some (Value.bool more) from rfl)
  have x6 := (Cells.cell X5.out 6).trans (show _ = some (Value.int .i64 off) from rfl)
  have x7 := (Cells.cell X5.out 7).trans (show _ = some (Value.bool sv) from rfl)
  have x8 := (Cells.cell X5.out 8).trans (show _ = some (Value.int .u64 (sh : Int)) from rfl)
  have x9 := (Cells.cell X5.out 9).trans (show _ = some (Value.int .u64 (sl : Int)) from rfl)
  have x10 := (Cells.cell X5.out 10).trans (show _ = some (Value.bool dv) from rfl)
  have x11 := (Cells.cell X5.out 11).trans (show _ = some (Value.int .u64 (dh : Int)) from rfl)
  have x12 := (Cells.cell X5.out 12).trans (show _ = some (Value.int .u64 (dl : Int)) from rfl)
  have x13 := (Cells.cell X5.out 13).trans (show _ = some (Value.slice A1 n c1) from rfl)
  have x14 := (Cells.cell X5.out 14).trans (show _ = some (Value.string P) from rfl)
  have y0 := (Cells.cell Y5.out 0).trans (show _ = some (Value.int .i64 tos) from rfl)
  have y1 := (Cells.cell Y5.out 1).trans (show _ = some (Value.int .i64 id) from rfl)
  have y2 := (Cells.cell Y5.out 2).trans (show _ = some (Value.int .i64 ttl) from rfl)
  have y3 := (Cells.cell Y5.out 3).trans (show _ = some (Value.int .i64 proto) from rfl)
  have y4 := (Cells.cell Y5.out 4).trans (show _ = some (Value.bool dont) from rfl)
  have y5 := (Cells.cell Y5.out 5).trans (show _ = some (Value.bool more) from rfl)
  have y6 := (Cells.cell Y5.out 6).trans (show _ = some (Value.int .i64 off) from rfl)
  have y7 := (Cells.cell Y5.out 7).trans (show _ = some (Value.bool sv) from rfl)
  have y8 := (Cells.cell Y5.out 8).trans (show _ = some (Value.int .u64 (sh : Int)) from rfl)
  have y9 := (Cells.cell Y5.out 9).trans (show _ = some (Value.int .u64 (sl : Int)) from rfl)
  have y10 := (Cells.cell Y5.out 10).trans (show _ = some (Value.bool dv) from rfl)
  have y11 := (Cells.cell Y5.out 11).trans (show _ = some (Value.int .u64 (dh : Int)) from rfl)
  have y12 := (Cells.cell Y5.out 12).trans (show _ = some (Value.int .u64 (dl : Int)) from rfl)
  have y13 := (Cells.cell Y5.out 13).trans (show _ = some (Value.slice A2 n c2) from rfl)
  have y14 := (Cells.cell Y5.out 14).trans (show _ = some (Value.string P) from rfl)
  go_wp2_with fail
  refine (HSM.out _ _ _ _ _ Q5.out R5.out).mono ?_
  rintro e w6 ⟨rfl, b6⟩
  have X6 := Lib.hid (X5.out.kept b6 X5.out.lt)
  have B6 := Lib.hid (B5.out.trans (b6.mono B5.out.size))
  clear b6
  clear x0 y0 x1 y1 x2 y2 x3 y3 x4 y4 x5 y5 x6 y6 x7 y7 x8 y8 x9 y9 x10 y10 x11 y11 x12 y12 x13 y13 x14 y14
  clear X5 Y5 R5 Q5 HSM
  have x14 := (Cells.cell X6.out 14).trans (show _ = some (Value.string P) from rfl)
  go_wp2_with fail
  refine (HSU.out _).mono ?_
  rintro e w7 ⟨rfl, rfl⟩
  clear HSU X6 x14
  go_wp2_with fail
  refine (awk11 _).mono ?_
  rintro e w99 ⟨rfl, b99⟩
  go_wp2_with fail
  go_ret
  exact ⟨rfl, B6.out.trans (b99.mono B6.out.size)⟩

set_option maxRecDepth 100000 in
theorem lifted (os : Os) (started : os.Started) (H : Type) (enc : TypeId × Value → H) :
    ReturnsInHanded {} Try.checked os 7 .any (Rows.ipv4AcceptsSpec.pre6 enc Try.prog Try.f7 Rows.ipv4AcceptsRow.domain false) (Rows.ipv4AcceptsSpec.post enc Try.prog Try.f7 false true false false) := by
  refine returnsInHanded_of_change (C := Try.checked) own started (by kernel_rfl) Try.func7
    (ChangeSpec.witness6 (enc := enc) (C := Try.checked) false ⟨#[], #[.string ⟨#[]⟩], []⟩ 8 (by kernel_rfl) (by kernel_rfl) (by kernel_rfl) (by kernel_rfl)) ?_
  intro W base args ds gs before hval0 hW hcnd _
  have hval : ∀ (j : Nat) t v, Try.f7.params[j]? = some t → args[j]? = some v → Value.okWide Try.prog W .any base t v := hval0
  have hW' := hW
  obtain ⟨p, q, hA0, hV, rfl, hfz, hnd⟩ := hW
  have hA : DataW.TrodAll enc Try.prog W 0 (fun _ => true) true Try.f7.params.toList args.toList ds p := hA0
  rw [Try.params7] at hA hval
  obtain ⟨v0, vs0, d0, ds0, p0, q0, hargs, rfl, rfl, h0, r0⟩ := trodAll_cons hA
  obtain ⟨rfl, rfl, rfl⟩ := trodAll_nil r0
  obtain rfl : args = #[v0] := by cases args; simp_all
  obtain ⟨rfl, rfl⟩ := trodVars_none hV
  obtain ⟨a0, rfl, rfl, rfl, w0⟩ := open_string Try.underlying9 (hval 0 9 v0 rfl rfl) h0
  clear hA0 hval0
  refine (walk a0 W w0).mono fun e W' ⟨he, bel⟩ => ?_
  subst he
  exact ⟨_, rfl, _, _, _, [], _, [], hW', trodAll_mk1 (shut_bool Try.underlying4 _), (trodAll_cons_mk (shut_string Try.underlying9 w0) trodAll_mk0), rfl, bel.frame _, fun h => by cases h⟩

theorem over : Rows.ipv4AcceptsRow.holds Try.pinned (OpenSpec.ofChange Rows.ipv4AcceptsSpec) :=
  OpenClaim.holds_of_wide 7 Try.f7 rfl rfl rfl rfl rfl rfl rfl ⟨rfl, rfl, rfl, rfl, rfl⟩ rfl rfl rfl rfl rfl (by kernel_rfl) Try.func7 (by kernel_rfl)
    (of_decide_eq_true (by kernel_rfl)) (by unfold Func.isWrapper; first | (rw [if_pos (by decide +kernel)]; kernel_rfl) | (rw [if_neg (by decide +kernel)]; exact ⟨rfl, rfl⟩))
    (fun os started H enc _ => lifted os started H enc)

theorem proved : Rows.Ipv4AcceptsSaid := over
#print axioms proved
end Go.Proofs.Ytimilcjlogcfhaa.ipv4Accepts
