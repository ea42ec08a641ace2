/- Ipv4Notices holds: for every packet, place and change a changed byte of the header is noticed, and the law returns true and leaves memory as it was; no conditions. -/
import Derived.Test.YtimilcjlogcfhaaRows
import Derived.Test.YtimilcjlogcfhaaChecked
import Derived.Deep.Cut
import Derived.Deep.WholeRow
import Derived.BigQuiet
import Derived.Test.YtimilcjlogcfhaaPE45
import Derived.Test.YtimilcjlogcfhaaPK1
namespace Go.Proofs.Ytimilcjlogcfhaa.ipv4Notices
open Go.ChangeShapes Go.WideShapes Go.ChangeAt Go.RowKit
open Go.ChangeMaps (open_string shut_string)
set_option linter.unusedVariables false

theorem own : ownKnob Try.prog.godebug = none := by kernel_rfl
theorem laidOut : laidOutB Try.prog = true := by kernel_rfl
theorem u8_of_wf11 {x : Int} (h : (Lit.int .u8 x).wf = true) : ∃ n : Nat, x = n ∧ n < 256 := by
  have h' : IntKind.u8.min ≤ x ∧ x ≤ IntKind.u8.max := by simpa [Lit.wf] using h
  have h0 : (0 : Int) ≤ x := h'.1
  have h1 : x ≤ 255 := h'.2
  obtain ⟨k, rfl⟩ := Int.eq_ofNat_of_zero_le h0
  exact ⟨k, rfl, by omega⟩
/-- string([]byte{a}). -/
theorem one_strW (W : World) (g : Nat) (a : Nat) (ha : a < 256) (h : W.heap[g]? = some (.cells #[.int .u8 (a : Int)] 5 (0, 0))) : (convert 46 9 (.slice (some ⟨g, 0, none⟩) 1 1)).run Try.prog W = .ok (.string (str [UInt8.ofNat a])) W := by
  have hla : (UInt8.ofNat a).toNat = a := by rw [UInt8.toNat_ofNat']; omega
  have hbs : BS W 0 (.slice (some ⟨g, 0, none⟩) [UInt8.ofNat a].length 1) [UInt8.ofNat a] := by
    refine ⟨some ⟨g, 0, none⟩, 1, rfl, Nat.le_refl _, fun _ => ⟨g, 0, rfl, Nat.zero_le _, (Array.getElem?_eq_some_iff.1 h).1, fun j hj => ?_⟩⟩
    have hj2 : j = 0 := by simp at hj; omega
    subst hj2
    simp [World.cell?, World.frozen?, h, hla]
  exact bs_string hbs
theorem set_cut {S : List UInt8} {i : Nat} {c : UInt8} (h : i < S.length) : S.set i c = S.take i ++ (c :: S.drop (i + 1)) := by
  rw [List.set_eq_take_append_cons_drop, if_pos h]
theorem xor_neq {x b : Nat} (hx : x < 256) (hb : b < 256) (h0 : b ≠ 0) : (x ^^^ b) ≠ x := fun e => h0 (by
  have h1 : x ^^^ (x ^^^ b) = x ^^^ x := by rw [e]
  rw [← Nat.xor_assoc, Nat.xor_self, Nat.zero_xor] at h1
  exact h1)
set_option maxHeartbeats 8000000 in
set_option maxRecDepth 20000 in
theorem walk (x : Ip4R) (A : Option Addr) (c : Nat) (q bi : Int) (w : World) (hw : ipWf x) (h : RowL EOpt w A x.ops) (hc : A = none → c = 0) (hz : (Lit.int .i64 q).wf = true) (hz2 : (Lit.int .u8 bi).wf = true) :
    Calls Try.prog 8 #[.agg (ipC x x.ops.length A c (str x.pay)), .int .i64 q, .int .u8 bi] w fun e w' => e = .returned (.bool true) ∧ Below w.heap.size w w' := by
  obtain ⟨p, hp⟩ : ∃ q, q = x := ⟨_, rfl⟩
  have HPX := Lib.hid hp
  have HWF := Lib.hid (show ipWf p by rw [hp]; exact hw)
  have HOP := Lib.hid (show RowL EOpt w A p.ops by rw [hp]; exact h)
  obtain ⟨tos, id, ttl, proto, dont, more, off, ⟨sv, sh, sl⟩, ⟨dv, dh, dl⟩, l, pay⟩ := x
  unfold ipC
  dsimp only
  obtain ⟨n, hn⟩ : ∃ n, n = l.length := ⟨_, rfl⟩
  obtain ⟨P, hP⟩ : ∃ P, P = str pay := ⟨_, rfl⟩
  have hPs : P.size = pay.length := by rw [hP, str_size]
  have HLG := Lib.hid (fun (W : World) => large_raw tos id ttl proto off dont more sv dv sh sl dh dl n c A P W)
  rw [← hn, ← hP]
  have HNP := Lib.hid (And.intro hn hP)
  have HPS := Lib.hid hPs
  have HPA := Lib.hid (show #[.int .i64 tos, .int .i64 id, .int .i64 ttl, .int .i64 proto, .bool dont, .bool more, .int .i64 off, .bool sv, .int .u64 (sh : Int), .int .u64 (sl : Int), .bool dv, .int .u64 (dh : Int), .int .u64 (dl : Int), .slice A n c, .string P] = ipC p p.ops.length A c (str p.pay) by rw [hn, hP, hp]; rfl)
  have HPL := Lib.hid (show p.pay.length = P.size ∧ p.ops.length = n by rw [hp]; exact ⟨hPs.symm, hn.symm⟩)
  clear hp hw h hc hn hP hPs
  have B0 := Lib.hid (Below.refl w.heap.size w)
  obtain ⟨lg, hlg⟩ : ∃ b : Bool, decide (70000 < P.size ∨ 60 < n) = b := ⟨_, rfl⟩
  rw [hlg] at HLG
  cases lg
  · have hsm : P.size ≤ 70000 ∧ n ≤ 60 := by have := of_decide_eq_false hlg; omega
    have HOK := Lib.hid (fun (W : World) (hb : Below w.heap.size w W) => show ipOk W p A from ⟨HWF.out, HOP.out.kept hb, by have h1 := HPL.out.2; omega, by have h1 := HPL.out.1; omega⟩)
    by_cases ha : 3000 < P.size
    · have d0 : decide ((3000 : Int) < (P.size : Int)) = true := by simp; omega
      have nd : (3000 : Int) < (P.size : Int) := by omega
      clear hlg ha
      go_enter Try.func8, Try.ntmps8
      go_upto_region 1 with fail
      obtain ⟨W1, hW1⟩ : ∃ W, W = w.alloc (.cells #[.int .i64 tos, .int .i64 id, .int .i64 ttl, .int .i64 proto, .bool dont, .bool more, .int .i64 off, .bool sv, .int .u64 (sh : Int), .int .u64 (sl : Int), .bool dv, .int .u64 (dh : Int), .int .u64 (dl : Int), .slice A n c, .string P] 28) := ⟨_, rfl⟩
      obtain ⟨g0, hg0⟩ : ∃ g, g = w.heap.size := ⟨_, rfl⟩
      have X1 := Lib.hid (show Cells W1 g0 28 #[.int .i64 tos, .int .i64 id, .int .i64 ttl, .int .i64 proto, .bool dont, .bool more, .int .i64 off, .bool sv, .int .u64 (sh : Int), .int .u64 (sl : Int), .bool dv, .int .u64 (dh : Int), .int .u64 (dl : Int), .slice A n c, .string P] by rw [hW1, hg0]; exact heap_alloc_new w _)
      have kW1 : Below w.heap.size w W1 := by rw [hW1]; exact below_alloc6 w _
      have B1 := Lib.hid (B0.out.trans (kW1.mono B0.out.size))
      rw [← hW1, ← hg0]
      clear hW1 hg0
      go_wp2_with (refine wpList_load_row (by rfl) 28 _ (by rfl) g0 (by rfl) 28 #[.int .i64 tos, .int .i64 id, .int .i64 ttl, .int .i64 proto, .bool dont, .bool more, .int .i64 off, .bool sv, .int .u64 (sh : Int), .int .u64 (sl : Int), .bool dv, .int .u64 (dh : Int), .int .u64 (dl : Int), .slice A n c, .string P] (0, 0) _ X1.out Try.underlying28 (by rfl) (by kernel_rfl) ?_)
      refine (HLG.out _).mono ?_
      rintro e w2 ⟨rfl, b2⟩
      have X2 := Lib.hid (X1.out.kept b2 X1.out.lt)
      have B2 := Lib.hid (B1.out.trans (b2.mono B1.out.size))
      clear b2
      clear X1 HLG kW1
      have x14 := (Cells.cell X2.out 14).trans (show _ = some (Value.string P) from rfl)
      go_wp2_with fail
      refine (awk11 _).mono ?_
      rintro e w99 ⟨rfl, b99⟩
      go_wp2_with fail
      go_ret
      exact ⟨rfl, B2.out.trans (b99.mono B2.out.size)⟩
    have d0 : decide ((3000 : Int) < (P.size : Int)) = false := by simp; omega
    have nd : ¬ (3000 : Int) < (P.size : Int) := by omega
    have hP3 : P.size ≤ 3000 := by omega
    obtain ⟨b, rfl, hb8⟩ := u8_of_wf11 hz2
    obtain ⟨er, her⟩ : ∃ e, e = (encI p).2 := ⟨_, rfl⟩
    obtain ⟨ES, hES⟩ : ∃ e, e = str (encI p).1 := ⟨_, rfl⟩
    have H1 := Lib.hid (fun (W : World) (hb : Below w.heap.size w W) => show Calls Try.prog 15 #[.agg #[.int .i64 tos, .int .i64 id, .int .i64 ttl, .int .i64 proto, .bool dont, .bool more, .int .i64 off, .bool sv, .int .u64 (sh : Int), .int .u64 (sl : Int), .bool dv, .int .u64 (dh : Int), .int .u64 (dl : Int), .slice A n c, .string P]] W fun e w' => e = .returned (.tuple #[.string ES, .int .i64 (er : Int)]) ∧ Below W.heap.size W w' from by
      rw [HPA.out, her, hES]
      exact prog11.enc p A c W trivial (HOK.out W hb))
    have HE := Lib.hid (And.intro her hES)
    clear hlg her hES hz2
    by_cases he : er ≠ 0
    · have z1 : ((er : Int) != 0) = true := by rw [bne_iff_ne]; omega
      have z2 : ¬ (er : Int) = 0 := by omega
      clear he HOK HE HPA HPL HWF HOP HPX HNP HPS
      go_enter Try.func8, Try.ntmps8
      go_upto_region 1 with fail
      obtain ⟨W1, hW1⟩ : ∃ W, W = w.alloc (.cells #[.int .i64 tos, .int .i64 id, .int .i64 ttl, .int .i64 proto, .bool dont, .bool more, .int .i64 off, .bool sv, .int .u64 (sh : Int), .int .u64 (sl : Int), .bool dv, .int .u64 (dh : Int), .int .u64 (dl : Int), .slice A n c, .string P] 28) := ⟨_, rfl⟩
      obtain ⟨g0, hg0⟩ : ∃ g, g = w.heap.size := ⟨_, rfl⟩
      have X1 := Lib.hid (show Cells W1 g0 28 #[.int .i64 tos, .int .i64 id, .int .i64 ttl, .int .i64 proto, .bool dont, .bool more, .int .i64 off, .bool sv, .int .u64 (sh : Int), .int .u64 (sl : Int), .bool dv, .int .u64 (dh : Int), .int .u64 (dl : Int), .slice A n c, .string P] by rw [hW1, hg0]; exact heap_alloc_new w _)
      have kW1 : Below w.heap.size w W1 := by rw [hW1]; exact below_alloc6 w _
      have B1 := Lib.hid (B0.out.trans (kW1.mono B0.out.size))
      rw [← hW1, ← hg0]
      clear hW1 hg0
      go_wp2_with (refine wpList_load_row (by rfl) 28 _ (by rfl) g0 (by rfl) 28 #[.int .i64 tos, .int .i64 id, .int .i64 ttl, .int .i64 proto, .bool dont, .bool more, .int .i64 off, .bool sv, .int .u64 (sh : Int), .int .u64 (sl : Int), .bool dv, .int .u64 (dh : Int), .int .u64 (dl : Int), .slice A n c, .string P] (0, 0) _ X1.out Try.underlying28 (by rfl) (by kernel_rfl) ?_)
      refine (HLG.out _).mono ?_
      rintro e w2 ⟨rfl, b2⟩
      have X2 := Lib.hid (X1.out.kept b2 X1.out.lt)
      have B2 := Lib.hid (B1.out.trans (b2.mono B1.out.size))
      clear b2
      clear X1 HLG kW1
      have x14 := (Cells.cell X2.out 14).trans (show _ = some (Value.string P) from rfl)
      go_wp2_with (refine wpList_load_row (by rfl) 28 _ (by rfl) g0 (by rfl) 28 #[.int .i64 tos, .int .i64 id, .int .i64 ttl, .int .i64 proto, .bool dont, .bool more, .int .i64 off, .bool sv, .int .u64 (sh : Int), .int .u64 (sl : Int), .bool dv, .int .u64 (dh : Int), .int .u64 (dl : Int), .slice A n c, .string P] (0, 0) _ X2.out Try.underlying28 (by rfl) (by kernel_rfl) ?_)
      refine (H1.out _ B2.out).mono ?_
      rintro e w3 ⟨rfl, b3⟩
      have X3 := Lib.hid (X2.out.kept b3 X2.out.lt)
      have B3 := Lib.hid (B2.out.trans (b3.mono B2.out.size))
      clear b3
      clear X2 H1 x14
      have x14 := (Cells.cell X3.out 14).trans (show _ = some (Value.string P) from rfl)
      go_wp2_with fail
      refine (awk11 _).mono ?_
      rintro e w99 ⟨rfl, b99⟩
      go_wp2_with fail
      go_ret
      exact ⟨rfl, B3.out.trans (b99.mono B3.out.size)⟩
    have z1 : ((er : Int) != 0) = false := by rw [bne_eq_false_iff_eq]; omega
    have z2 : (er : Int) = 0 := by omega
    by_cases hb0 : b = 0
    · have z3 : ((b : Int) == 0) = true := by rw [hb0]; rfl
      have z4 : (b : Int) = 0 := by omega
      clear he hb0 HOK HE HPA HPL HWF HOP HPX HNP HPS
      go_enter Try.func8, Try.ntmps8
      go_upto_region 1 with fail
      obtain ⟨W1, hW1⟩ : ∃ W, W = w.alloc (.cells #[.int .i64 tos, .int .i64 id, .int .i64 ttl, .int .i64 proto, .bool dont, .bool more, .int .i64 off, .bool sv, .int .u64 (sh : Int), .int .u64 (sl : Int), .bool dv, .int .u64 (dh : Int), .int .u64 (dl : Int), .slice A n c, .string P] 28) := ⟨_, rfl⟩
      obtain ⟨g0, hg0⟩ : ∃ g, g = w.heap.size := ⟨_, rfl⟩
      have X1 := Lib.hid (show Cells W1 g0 28 #[.int .i64 tos, .int .i64 id, .int .i64 ttl, .int .i64 proto, .bool dont, .bool more, .int .i64 off, .bool sv, .int .u64 (sh : Int), .int .u64 (sl : Int), .bool dv, .int .u64 (dh : Int), .int .u64 (dl : Int), .slice A n c, .string P] by rw [hW1, hg0]; exact heap_alloc_new w _)
      have kW1 : Below w.heap.size w W1 := by rw [hW1]; exact below_alloc6 w _
      have B1 := Lib.hid (B0.out.trans (kW1.mono B0.out.size))
      rw [← hW1, ← hg0]
      clear hW1 hg0
      go_wp2_with (refine wpList_load_row (by rfl) 28 _ (by rfl) g0 (by rfl) 28 #[.int .i64 tos, .int .i64 id, .int .i64 ttl, .int .i64 proto, .bool dont, .bool more, .int .i64 off, .bool sv, .int .u64 (sh : Int), .int .u64 (sl : Int), .bool dv, .int .u64 (dh : Int), .int .u64 (dl : Int), .slice A n c, .string P] (0, 0) _ X1.out Try.underlying28 (by rfl) (by kernel_rfl) ?_)
      refine (HLG.out _).mono ?_
      rintro e w2 ⟨rfl, b2⟩
      have X2 := Lib.hid (X1.out.kept b2 X1.out.lt)
      have B2 := Lib.hid (B1.out.trans (b2.mono B1.out.size))
      clear b2
      clear X1 HLG kW1
      have x14 := (Cells.cell X2.out 14).trans (show _ = some (Value.string P) from rfl)
      go_wp2_with (refine wpList_load_row (by rfl) 28 _ (by rfl) g0 (by rfl) 28 #[.int .i64 tos, .int .i64 id, .int .i64 ttl, .int .i64 proto, .bool dont, .bool more, .int .i64 off, .bool sv, .int .u64 (sh : Int), .int .u64 (sl : Int), .bool dv, .int .u64 (dh : Int), .int .u64 (dl : Int), .slice A n c, .string P] (0, 0) _ X2.out Try.underlying28 (by rfl) (by kernel_rfl) ?_)
      refine (H1.out _ B2.out).mono ?_
      rintro e w3 ⟨rfl, b3⟩
      have X3 := Lib.hid (X2.out.kept b3 X2.out.lt)
      have B3 := Lib.hid (B2.out.trans (b3.mono B2.out.size))
      clear b3
      clear X2 H1 x14
      have x14 := (Cells.cell X3.out 14).trans (show _ = some (Value.string P) from rfl)
      go_wp2_with fail
      refine (awk11 _).mono ?_
      rintro e w99 ⟨rfl, b99⟩
      go_wp2_with fail
      go_ret
      exact ⟨rfl, B3.out.trans (b99.mono B3.out.size)⟩
    have z3 : ((b : Int) == 0) = false := by simpa using hb0
    have z4 : ¬ (b : Int) = 0 := by omega
    by_cases hq1 : q < 1
    · have z5 : decide (q < 1) = true := by simp; omega
      clear he hb0 HOK HE HPA HPL HWF HOP HPX HNP HPS
      go_enter Try.func8, Try.ntmps8
      go_upto_region 1 with fail
      obtain ⟨W1, hW1⟩ : ∃ W, W = w.alloc (.cells #[.int .i64 tos, .int .i64 id, .int .i64 ttl, .int .i64 proto, .bool dont, .bool more, .int .i64 off, .bool sv, .int .u64 (sh : Int), .int .u64 (sl : Int), .bool dv, .int .u64 (dh : Int), .int .u64 (dl : Int), .slice A n c, .string P] 28) := ⟨_, rfl⟩
      obtain ⟨g0, hg0⟩ : ∃ g, g = w.heap.size := ⟨_, rfl⟩
      have X1 := Lib.hid (show Cells W1 g0 28 #[.int .i64 tos, .int .i64 id, .int .i64 ttl, .int .i64 proto, .bool dont, .bool more, .int .i64 off, .bool sv, .int .u64 (sh : Int), .int .u64 (sl : Int), .bool dv, .int .u64 (dh : Int), .int .u64 (dl : Int), .slice A n c, .string P] by rw [hW1, hg0]; exact heap_alloc_new w _)
      have kW1 : Below w.heap.size w W1 := by rw [hW1]; exact below_alloc6 w _
      have B1 := Lib.hid (B0.out.trans (kW1.mono B0.out.size))
      rw [← hW1, ← hg0]
      clear hW1 hg0
      go_wp2_with (refine wpList_load_row (by rfl) 28 _ (by rfl) g0 (by rfl) 28 #[.int .i64 tos, .int .i64 id, .int .i64 ttl, .int .i64 proto, .bool dont, .bool more, .int .i64 off, .bool sv, .int .u64 (sh : Int), .int .u64 (sl : Int), .bool dv, .int .u64 (dh : Int), .int .u64 (dl : Int), .slice A n c, .string P] (0, 0) _ X1.out Try.underlying28 (by rfl) (by kernel_rfl) ?_)
      refine (HLG.out _).mono ?_
      rintro e w2 ⟨rfl, b2⟩
      have X2 := Lib.hid (X1.out.kept b2 X1.out.lt)
      have B2 := Lib.hid (B1.out.trans (b2.mono B1.out.size))
      clear b2
      clear X1 HLG kW1
      have x14 := (Cells.cell X2.out 14).trans (show _ = some (Value.string P) from rfl)
      go_wp2_with (refine wpList_load_row (by rfl) 28 _ (by rfl) g0 (by rfl) 28 #[.int .i64 tos, .int .i64 id, .int .i64 ttl, .int .i64 proto, .bool dont, .bool more, .int .i64 off, .bool sv, .int .u64 (sh : Int), .int .u64 (sl : Int), .bool dv, .int .u64 (dh : Int), .int .u64 (dl : Int), .slice A n c, .string P] (0, 0) _ X2.out Try.underlying28 (by rfl) (by kernel_rfl) ?_)
      refine (H1.out _ B2.out).mono ?_
      rintro e w3 ⟨rfl, b3⟩
      have X3 := Lib.hid (X2.out.kept b3 X2.out.lt)
      have B3 := Lib.hid (B2.out.trans (b3.mono B2.out.size))
      clear b3
      clear X2 H1 x14
      have x14 := (Cells.cell X3.out 14).trans (show _ = some (Value.string P) from rfl)
      go_wp2_with fail
      refine (awk11 _).mono ?_
      rintro e w99 ⟨rfl, b99⟩
      go_wp2_with fail
      go_ret
      exact ⟨rfl, B3.out.trans (b99.mono B3.out.size)⟩
    have z5 : decide (q < 1) = false := by simp; omega
    obtain ⟨i, rfl⟩ := Int.eq_ofNat_of_zero_le (show 0 ≤ q by omega)
    have henc : encI p = ((encI p).1, 0) := by rw [show (0 : Nat) = (encI p).2 by rw [← HE.out.1]; omega]
    obtain ⟨hd1, hd2, hd3⟩ := dec_enc4 henc []
    obtain ⟨S, hS⟩ : ∃ S, S = (encI p).1 := ⟨_, rfl⟩
    rw [← hS] at henc hd2
    have hES : ES = str S := by rw [HE.out.2, hS]
    have hsz : ES.size = S.length := by rw [hES, str_size]
    have hHL : S.length = hlI p + P.size := by rw [hd2, ← HPL.out.1]; rfl
    have e0 : (ES.size : Int) - (P.size : Int) = ((ES.size - P.size : Nat) : Int) := by omega
    obtain ⟨m, hm⟩ : ∃ m, m = ES.size - P.size := ⟨_, rfl⟩
    rw [← hm] at e0
    by_cases hq2 : m ≤ i
    · have z6 : decide ((m : Int) ≤ (i : Int)) = true := by simp; omega
      have z7 : (m : Int) ≤ (i : Int) := by omega
      have hE65 : ES.size ≤ 65535 := by omega
      clear he hb0 henc hd1 hd2 hd3 hS hES hsz hHL hm hq2 HOK HE HPA HPL HWF HOP HPX HNP HPS
      go_enter Try.func8, Try.ntmps8
      go_upto_region 1 with fail
      obtain ⟨W1, hW1⟩ : ∃ W, W = w.alloc (.cells #[.int .i64 tos, .int .i64 id, .int .i64 ttl, .int .i64 proto, .bool dont, .bool more, .int .i64 off, .bool sv, .int .u64 (sh : Int), .int .u64 (sl : Int), .bool dv, .int .u64 (dh : Int), .int .u64 (dl : Int), .slice A n c, .string P] 28) := ⟨_, rfl⟩
      obtain ⟨g0, hg0⟩ : ∃ g, g = w.heap.size := ⟨_, rfl⟩
      have X1 := Lib.hid (show Cells W1 g0 28 #[.int .i64 tos, .int .i64 id, .int .i64 ttl, .int .i64 proto, .bool dont, .bool more, .int .i64 off, .bool sv, .int .u64 (sh : Int), .int .u64 (sl : Int), .bool dv, .int .u64 (dh : Int), .int .u64 (dl : Int), .slice A n c, .string P] by rw [hW1, hg0]; exact heap_alloc_new w _)
      have kW1 : Below w.heap.size w W1 := by rw [hW1]; exact below_alloc6 w _
      have B1 := Lib.hid (B0.out.trans (kW1.mono B0.out.size))
      rw [← hW1, ← hg0]
      clear hW1 hg0
      go_wp2_with (refine wpList_load_row (by rfl) 28 _ (by rfl) g0 (by rfl) 28 #[.int .i64 tos, .int .i64 id, .int .i64 ttl, .int .i64 proto, .bool dont, .bool more, .int .i64 off, .bool sv, .int .u64 (sh : Int), .int .u64 (sl : Int), .bool dv, .int .u64 (dh : Int), .int .u64 (dl : Int), .slice A n c, .string P] (0, 0) _ X1.out Try.underlying28 (by rfl) (by kernel_rfl) ?_)
      refine (HLG.out _).mono ?_
      rintro e w2 ⟨rfl, b2⟩
      have X2 := Lib.hid (X1.out.kept b2 X1.out.lt)
      have B2 := Lib.hid (B1.out.trans (b2.mono B1.out.size))
      clear b2
      clear X1 HLG kW1
      have x14 := (Cells.cell X2.out 14).trans (show _ = some (Value.string P) from rfl)
      go_wp2_with (refine wpList_load_row (by rfl) 28 _ (by rfl) g0 (by rfl) 28 #[.int .i64 tos, .int .i64 id, .int .i64 ttl, .int .i64 proto, .bool dont, .bool more, .int .i64 off, .bool sv, .int .u64 (sh : Int), .int .u64 (sl : Int), .bool dv, .int .u64 (dh : Int), .int .u64 (dl : Int), .slice A n c, .string P] (0, 0) _ X2.out Try.underlying28 (by rfl) (by kernel_rfl) ?_)
      refine (H1.out _ B2.out).mono ?_
      rintro e w3 ⟨rfl, b3⟩
      have X3 := Lib.hid (X2.out.kept b3 X2.out.lt)
      have B3 := Lib.hid (B2.out.trans (b3.mono B2.out.size))
      clear b3
      clear X2 H1 x14
      have x14 := (Cells.cell X3.out 14).trans (show _ = some (Value.string P) from rfl)
      go_wp2_with fail
      refine (awk11 _).mono ?_
      rintro e w99 ⟨rfl, b99⟩
      go_wp2_with fail
      go_ret
      exact ⟨rfl, B3.out.trans (b99.mono B3.out.size)⟩
    have z6 : decide ((m : Int) ≤ (i : Int)) = false := by simp; omega
    have z7 : ¬ (m : Int) ≤ (i : Int) := by omega
    have hE65 : ES.size ≤ 65535 := by omega
    have hi1 : i < S.length := by omega
    have hi2 : i < ES.size := by omega
    obtain ⟨x, hx⟩ : ∃ x, x = (ES[i]'hi2).toNat := ⟨_, rfl⟩
    have hx8 : x < 256 := by rw [hx]; exact u8_lt _
    have hxS : x = (S[i]'hi1).toNat := by
      rw [hx, s0_at hES i hi2]
      unfold byt
      rw [List.getD_eq_getElem?_getD, List.getElem?_eq_getElem hi1]
      rfl
    obtain ⟨y, hy⟩ : ∃ y, y = x ^^^ b := ⟨_, rfl⟩
    have hy8 : y < 256 := by rw [hy]; exact Nat.xor_lt_two_pow (n := 8) hx8 hb8
    have hxor : bits .xor .u8 (x : Int) (b : Int) = (y : Int) := by rw [hy]; exact u8_xor_nat x b hx8 hb8
    have hne : UInt8.ofNat y ≠ S[i]'hi1 := fun e => by
      have h1 : (UInt8.ofNat y).toNat = (S[i]'hi1).toNat := by rw [e]
      rw [UInt8.toNat_ofNat', ← hxS] at h1
      exact xor_neq hx8 hb8 hb0 (by rw [← hy]; omega)
    obtain ⟨e2, he2⟩ : ∃ e, e = (decI (S.set i (UInt8.ofNat y))).2 := ⟨_, rfl⟩
    have hbad := dec_set henc (by omega) (show i < hlI p by omega) hi1 hne
    have z8 : ((e2 : Int) != 0) = true := by rw [bne_iff_ne]; rw [← he2] at hbad; omega
    have hzr : decI (S.set i (UInt8.ofNat y)) = (zeroI, e2) := by rw [he2, ← decI_bad hbad]
    obtain ⟨X1, hX1⟩ : ∃ X, X = ES.extract 0 i := ⟨_, rfl⟩
    obtain ⟨X2', hX2⟩ : ∃ X, X = ES.extract (i + 1) ES.size := ⟨_, rfl⟩
    obtain ⟨C1, hC1⟩ : ∃ X, X = str [UInt8.ofNat y] := ⟨_, rfl⟩
    have hX1s : X1 = str (S.take i) := by rw [hX1, extract_str11 ES S hES, List.drop_zero, Nat.sub_zero]
    have hX2s : X2' = str (S.drop (i + 1)) := by rw [hX2, extract_str11 ES S hES, List.take_of_length_le (by rw [List.length_drop, hsz]; exact Nat.le_refl _)]
    have hcat : X1 ++ C1 ++ X2' = str (S.set i (UInt8.ofNat y)) := by
      rw [hX1s, hX2s, hC1, str_append, str_append, set_cut hi1, List.append_assoc]
      rfl
    have H2 := Lib.hid (fun (W : World) => show Calls Try.prog 11 #[.string (X1 ++ C1 ++ X2')] W (fun e w' => (∃ A2 c2, e = .returned (.tuple #[.agg #[.int .i64 0, .int .i64 0, .int .i64 0, .int .i64 0, .bool false, .bool false, .int .i64 0, .bool false, .int .u64 0, .int .u64 0, .bool false, .int .u64 0, .int .u64 0, .slice A2 0 c2, .string ⟨#[]⟩], .int .i64 (e2 : Int)])) ∧ Below W.heap.size W w') from by
      rw [hcat]
      refine (prog11.dec _ W trivial (by rw [List.length_set]; omega)).mono ?_
      rintro e w' h
      rw [hzr] at h
      obtain ⟨A2, c2, h1, h2, h3, h4⟩ := h
      exact ⟨⟨A2, c2, h1⟩, h4⟩)
    have s1 : X1.size = i := by rw [hX1s, str_size, List.length_take]; omega
    have s2 : C1.size = 1 := by rw [hC1, str_size]; rfl
    have s3 : X2'.size ≤ 65535 := by rw [hX2s, str_size, List.length_drop]; omega
    have HX1 := Lib.hid hX1
    have HC1 := Lib.hid hC1
    have HX := Lib.hid hx
    have hi65 : i ≤ 65535 := by omega
    obtain ⟨i1, hi1e⟩ : ∃ k, k = i + 1 := ⟨_, rfl⟩
    rw [← hi1e] at hX2
    have HX2 := Lib.hid hX2
    have hI1 : (i : Int) + 1 = (i1 : Int) := by omega
    have hI4 : i1 ≤ ES.size := by omega
    have hI5 : (i1 : Int) ≤ (ES.size : Int) := by omega
    have hI6 : i1 ≤ 65536 := by omega
    have j1 : (9223372036854775807 < i + 1) = False := by simp only [eq_iff_iff, iff_false]; omega
    have j2 : (9223372036854775807 < i + 1 + X2'.size) = False := by simp only [eq_iff_iff, iff_false]; omega
    have j3 : IntKind.i64.wrap (i1 : Int) = (i1 : Int) := by rw [IntKind.wrap_i64]; omega
    have hI2 : (i : Int) ≤ (ES.size : Int) := by omega
    have hI3 : (i : Int) < (ES.size : Int) := by omega
    have hI0 : (0 : Int) ≤ (i : Int) := by omega
    clear he hb0 henc hd1 hd2 hd3 hS hES hsz hHL hm hq2 hq1 hi1 hi1e hx hxS hy hne he2 hbad hzr hX1 hX2 hC1 hcat hX1s hX2s HOK HE HPA HPL HWF HOP HPX HNP HPS
    go_enter Try.func8, Try.ntmps8
    go_upto_region 1 with fail
    obtain ⟨W1, hW1⟩ : ∃ W, W = w.alloc (.cells #[.int .i64 tos, .int .i64 id, .int .i64 ttl, .int .i64 proto, .bool dont, .bool more, .int .i64 off, .bool sv, .int .u64 (sh : Int), .int .u64 (sl : Int), .bool dv, .int .u64 (dh : Int), .int .u64 (dl : Int), .slice A n c, .string P] 28) := ⟨_, rfl⟩
    obtain ⟨g0, hg0⟩ : ∃ g, g = w.heap.size := ⟨_, rfl⟩
    have X1 := Lib.hid (show Cells W1 g0 28 #[.int .i64 tos, .int .i64 id, .int .i64 ttl, .int .i64 proto, .bool dont, .bool more, .int .i64 off, .bool sv, .int .u64 (sh : Int), .int .u64 (sl : Int), .bool dv, .int .u64 (dh : Int), .int .u64 (dl : Int), .slice A n c, .string P] by rw [hW1, hg0]; exact heap_alloc_new w _)
    have kW1 : Below w.heap.size w W1 := by rw [hW1]; exact below_alloc6 w _
    have B1 := Lib.hid (B0.out.trans (kW1.mono B0.out.size))
    rw [← hW1, ← hg0]
    clear hW1 hg0
    go_wp2_with (refine wpList_load_row (by rfl) 28 _ (by rfl) g0 (by rfl) 28 #[.int .i64 tos, .int .i64 id, .int .i64 ttl, .int .i64 proto, .bool dont, .bool more, .int .i64 off, .bool sv, .int .u64 (sh : Int), .int .u64 (sl : Int), .bool dv, .int .u64 (dh : Int), .int .u64 (dl : Int), .slice A n c, .string P] (0, 0) _ X1.out Try.underlying28 (by rfl) (by kernel_rfl) ?_)
    refine (HLG.out _).mono ?_
    rintro e w2 ⟨rfl, b2⟩
    have X2 := Lib.hid (X1.out.kept b2 X1.out.lt)
    have B2 := Lib.hid (B1.out.trans (b2.mono B1.out.size))
    clear b2
    clear X1 HLG kW1
    have x14 := (Cells.cell X2.out 14).trans (show _ = some (Value.string P) from rfl)
    go_wp2_with (refine wpList_load_row (by rfl) 28 _ (by rfl) g0 (by rfl) 28 #[.int .i64 tos, .int .i64 id, .int .i64 ttl, .int .i64 proto, .bool dont, .bool more, .int .i64 off, .bool sv, .int .u64 (sh : Int), .int .u64 (sl : Int), .bool dv, .int .u64 (dh : Int), .int .u64 (dl : Int), .slice A n c, .string P] (0, 0) _ X2.out Try.underlying28 (by rfl) (by kernel_rfl) ?_)
    refine (H1.out _ B2.out).mono ?_
    rintro e w3 ⟨rfl, b3⟩
    have X3 := Lib.hid (X2.out.kept b3 X2.out.lt)
    have B3 := Lib.hid (B2.out.trans (b3.mono B2.out.size))
    clear b3
    clear X2 H1 x14
    have x14 := (Cells.cell X3.out 14).trans (show _ = some (Value.string P) from rfl)
    go_upto_region 6 with fail
    refine wp_region_specs_row 28 [.val (Value.string ES), .val (Value.int .i64 (i : Int)), .val (Value.string X1), .val (Value.string ES), .val (Value.int .i64 (i : Int)), .val (Value.int .u8 (x : Int)), .val (Value.int .u8 (b : Int)), .val (Value.int .u8 (y : Int)), .row #[Value.int .u8 (y : Int)] 5 1, .val (Value.string C1), .val (Value.string (X1 ++ C1)), .val (Value.string ES), .val (Value.int .i64 (i : Int)), .val (Value.int .i64 ((i1 : Nat) : Int)), .val (Value.string X2'), .val (Value.string (X1 ++ C1 ++ X2')), .any (fun v => ∃ A2 c2, v = Value.tuple #[.agg #[.int .i64 0, .int .i64 0, .int .i64 0, .int .i64 0, .bool false, .bool false, .int .i64 0, .bool false, .int .u64 0, .int .u64 0, .bool false, .int .u64 0, .int .u64 0, .slice A2 0 c2, .string ⟨#[]⟩], .int .i64 (e2 : Int)]), .any (fun v => ∃ A2 c2, v = Value.tuple #[.agg #[.int .i64 0, .int .i64 0, .int .i64 0, .int .i64 0, .bool false, .bool false, .int .i64 0, .bool false, .int .u64 0, .int .u64 0, .bool false, .int .u64 0, .int .u64 0, .slice A2 0 c2, .string ⟨#[]⟩], .int .i64 (e2 : Int)]), .any (fun v => ∃ A2 c2, v = Value.agg #[.int .i64 0, .int .i64 0, .int .i64 0, .int .i64 0, .bool false, .bool false, .int .i64 0, .bool false, .int .u64 0, .int .u64 0, .bool false, .int .u64 0, .int .u64 0, .slice A2 0 c2, .string ⟨#[]⟩]), .val (Value.int .i64 (e2 : Int)), .box 15, .val (undef), .val (Value.int .i64 (e2 : Int))] (by kernel_rfl) (by kernel_rfl) (by kernel_rfl) (by kernel_rfl) ?_ ?_
    · refine ⟨⟨rfl, ?_⟩, ⟨rfl, ?_⟩, ⟨rfl, ?_⟩, ⟨rfl, ?_⟩, ⟨rfl, ?_⟩, ⟨rfl, ?_⟩, ⟨rfl, ?_⟩, ⟨rfl, ?_⟩, ⟨rfl, ?_⟩, ⟨rfl, ?_⟩, ⟨rfl, ?_⟩, ⟨rfl, ?_⟩, ⟨rfl, ?_⟩, ⟨rfl, ?_⟩, ⟨rfl, ?_⟩, ⟨rfl, ?_⟩, ⟨rfl, ?_⟩, ⟨rfl, ?_⟩, ⟨rfl, ?_⟩, ⟨rfl, ?_⟩, ⟨rfl, ?_⟩, ⟨rfl, ?_⟩, ⟨rfl, ?_⟩, trivial⟩
      · intro a W hbW hk K hK
        have e7 := kvalP hk 7 (Value.string ES) (by kernel_rfl)
        clear hk
        go_simp
        exact ⟨_, rfl, hK _ _ rfl (relB_below (Below.refl _ _))⟩
      · intro a W hbW hk K hK
        have e1 := kvalP hk 1 (Value.int .i64 (i : Int)) (by kernel_rfl)
        clear hk
        go_simp
        exact ⟨_, rfl, hK _ _ rfl (relB_below (Below.refl _ _))⟩
      · intro a W hbW hk K hK
        have e47 := kvalP hk 47 (Value.string ES) (by kernel_rfl)
        have e48 := kvalP hk 48 (Value.int .i64 (i : Int)) (by kernel_rfl)
        clear hk
        rw [HX1.out] at hK
        go_simp
        exact ⟨_, rfl, hK _ _ rfl (relB_below (Below.refl _ _))⟩
      · intro a W hbW hk K hK
        have e7 := kvalP hk 7 (Value.string ES) (by kernel_rfl)
        clear hk
        go_simp
        exact ⟨_, rfl, hK _ _ rfl (relB_below (Below.refl _ _))⟩
      · intro a W hbW hk K hK
        have e1 := kvalP hk 1 (Value.int .i64 (i : Int)) (by kernel_rfl)
        clear hk
        go_simp
        exact ⟨_, rfl, hK _ _ rfl (relB_below (Below.refl _ _))⟩
      · intro a W hbW hk K hK
        have e50 := kvalP hk 50 (Value.string ES) (by kernel_rfl)
        have e51 := kvalP hk 51 (Value.int .i64 (i : Int)) (by kernel_rfl)
        clear hk
        rw [HX.out] at hK
        go_simp
        exact ⟨_, rfl, hK _ _ rfl (relB_below (Below.refl _ _))⟩
      · intro a W hbW hk K hK
        have e2 := kvalP hk 2 (Value.int .u8 (b : Int)) (by kernel_rfl)
        clear hk
        go_simp
        exact ⟨_, rfl, hK _ _ rfl (relB_below (Below.refl _ _))⟩
      · intro a W hbW hk K hK
        have e52 := kvalP hk 52 (Value.int .u8 (x : Int)) (by kernel_rfl)
        have e53 := kvalP hk 53 (Value.int .u8 (b : Int)) (by kernel_rfl)
        clear hk
        go_simp
        exact ⟨_, rfl, hK _ _ rfl (relB_below (Below.refl _ _))⟩
      · intro a W hbW hk K hK
        have e54 := kvalP hk 54 (Value.int .u8 (y : Int)) (by kernel_rfl)
        clear hk
        go_simp
        exact ⟨_, rfl, hK _ _ ⟨by decide, W.heap.size, rfl, hbW.size, heap_alloc_new W _⟩ (relB_below (below_alloc6 W _))⟩
      · intro a W hbW hk K hK
        obtain ⟨gr, er0, _, hgr⟩ := krowP hk 55 #[Value.int .u8 (y : Int)] 5 1 (by kernel_rfl)
        clear hk
        have hcv := one_strW W gr y hy8 hgr
        rw [← HC1.out] at hcv
        go_simp
        exact ⟨_, rfl, hK _ _ rfl (relB_below (Below.refl _ _))⟩
      · intro a W hbW hk K hK
        have e49 := kvalP hk 49 (Value.string X1) (by kernel_rfl)
        have e56 := kvalP hk 56 (Value.string C1) (by kernel_rfl)
        clear hk
        go_simp
        exact ⟨_, rfl, hK _ _ rfl (relB_below (Below.refl _ _))⟩
      · intro a W hbW hk K hK
        have e7 := kvalP hk 7 (Value.string ES) (by kernel_rfl)
        clear hk
        go_simp
        exact ⟨_, rfl, hK _ _ rfl (relB_below (Below.refl _ _))⟩
      · intro a W hbW hk K hK
        have e1 := kvalP hk 1 (Value.int .i64 (i : Int)) (by kernel_rfl)
        clear hk
        go_simp
        exact ⟨_, rfl, hK _ _ rfl (relB_below (Below.refl _ _))⟩
      · intro a W hbW hk K hK
        have e59 := kvalP hk 59 (Value.int .i64 (i : Int)) (by kernel_rfl)
        clear hk
        go_simp
        exact ⟨_, rfl, hK _ _ rfl (relB_below (Below.refl _ _))⟩
      · intro a W hbW hk K hK
        have e58 := kvalP hk 58 (Value.string ES) (by kernel_rfl)
        have e60 := kvalP hk 60 (Value.int .i64 ((i1 : Nat) : Int)) (by kernel_rfl)
        clear hk
        rw [HX2.out] at hK
        go_simp
        exact ⟨_, rfl, hK _ _ rfl (relB_below (Below.refl _ _))⟩
      · intro a W hbW hk K hK
        have e57 := kvalP hk 57 (Value.string (X1 ++ C1)) (by kernel_rfl)
        have e61 := kvalP hk 61 (Value.string X2') (by kernel_rfl)
        clear hk
        go_simp
        exact ⟨_, rfl, hK _ _ rfl (relB_below (Below.refl _ _))⟩
      · intro a W hbW hk K hK
        have e62 := kvalP hk 62 (Value.string (X1 ++ C1 ++ X2')) (by kernel_rfl)
        clear hk
        go_simp
        refine (H2.out W).mono ?_
        rintro e w9 ⟨⟨A2, c2, rfl⟩, hb9⟩
        exact ⟨_, rfl, hK _ _ ⟨A2, c2, rfl⟩ (relB_below hb9)⟩
      · intro a W hbW hk K hK
        obtain ⟨A2, c2, e63⟩ := kanyP hk 63 (fun v => ∃ A2 c2, v = Value.tuple #[.agg #[.int .i64 0, .int .i64 0, .int .i64 0, .int .i64 0, .bool false, .bool false, .int .i64 0, .bool false, .int .u64 0, .int .u64 0, .bool false, .int .u64 0, .int .u64 0, .slice A2 0 c2, .string ⟨#[]⟩], .int .i64 (e2 : Int)]) (by kernel_rfl)
        clear hk
        go_simp
        exact ⟨_, rfl, hK _ _ ⟨A2, c2, rfl⟩ (relB_below (Below.refl _ _))⟩
      · intro a W hbW hk K hK
        obtain ⟨A2, c2, e46⟩ := kanyP hk 46 (fun v => ∃ A2 c2, v = Value.tuple #[.agg #[.int .i64 0, .int .i64 0, .int .i64 0, .int .i64 0, .bool false, .bool false, .int .i64 0, .bool false, .int .u64 0, .int .u64 0, .bool false, .int .u64 0, .int .u64 0, .slice A2 0 c2, .string ⟨#[]⟩], .int .i64 (e2 : Int)]) (by kernel_rfl)
        clear hk
        go_simp
        exact ⟨_, rfl, hK _ _ ⟨A2, c2, rfl⟩ (relB_below (Below.refl _ _))⟩
      · intro a W hbW hk K hK
        obtain ⟨A2, c2, e46⟩ := kanyP hk 46 (fun v => ∃ A2 c2, v = Value.tuple #[.agg #[.int .i64 0, .int .i64 0, .int .i64 0, .int .i64 0, .bool false, .bool false, .int .i64 0, .bool false, .int .u64 0, .int .u64 0, .bool false, .int .u64 0, .int .u64 0, .slice A2 0 c2, .string ⟨#[]⟩], .int .i64 (e2 : Int)]) (by kernel_rfl)
        clear hk
        go_simp
        exact ⟨_, rfl, hK _ _ rfl (relB_below (Below.refl _ _))⟩
      · intro a W hbW hk K hK
        clear hk
        go_simp
        exact ⟨_, rfl, hK _ _ ⟨_, _, rfl, hbW.size, heap_alloc_new W _, rfl⟩ (relB_below (below_alloc6 W _))⟩
      · intro a W hbW hk K hK
        obtain ⟨g9, cs9, e9, hg9, hc9, hs9⟩ := kboxP hk 9 15 (by kernel_rfl)
        obtain ⟨A2, c2, e64⟩ := kanyP hk 64 (fun v => ∃ A2 c2, v = Value.agg #[.int .i64 0, .int .i64 0, .int .i64 0, .int .i64 0, .bool false, .bool false, .int .i64 0, .bool false, .int .u64 0, .int .u64 0, .bool false, .int .u64 0, .int .u64 0, .slice A2 0 c2, .string ⟨#[]⟩]) (by kernel_rfl)
        clear hk
        refine wp_store_row 28 _ _ rfl g9 #[.int .i64 0, .int .i64 0, .int .i64 0, .int .i64 0, .bool false, .bool false, .int .i64 0, .bool false, .int .u64 0, .int .u64 0, .bool false, .int .u64 0, .int .u64 0, .slice A2 0 c2, .string ⟨#[]⟩] ?_ ?_ 28 cs9 hc9 (by kernel_rfl) (by rw [hs9]; rfl) (by simp [Value.oneCell']) ⟨undef, rfl, hK _ _ rfl (relB_row hg9 hc9 (by rw [hs9]; rfl))⟩
        · go_simp
        · go_simp
      · intro a W hbW hk K hK
        have e65 := kvalP hk 65 (Value.int .i64 (e2 : Int)) (by kernel_rfl)
        clear hk
        go_simp
        exact ⟨_, rfl, hK _ _ rfl (relB_below (Below.refl _ _))⟩
    · intro w5 hb5
      simp only [endP, putP]
      intro gr hgr v1 hv1 v2 hv2 v3 hv3 g9 hg9
      go_simp
      clear hgr hv1 hv2 hv3 hg9 H2 X3 x14
      have B5 := Lib.hid (B3.out.trans (hb5.mono B3.out.size))
      clear hb5
      go_wp2_with fail
      refine (awk11 _).mono ?_
      rintro e w99 ⟨rfl, b99⟩
      go_wp2_with fail
      go_ret
      exact ⟨rfl, B5.out.trans (b99.mono B5.out.size)⟩
  · clear hlg
    go_enter Try.func8, Try.ntmps8
    go_upto_region 1 with fail
    obtain ⟨W1, hW1⟩ : ∃ W, W = w.alloc (.cells #[.int .i64 tos, .int .i64 id, .int .i64 ttl, .int .i64 proto, .bool dont, .bool more, .int .i64 off, .bool sv, .int .u64 (sh : Int), .int .u64 (sl : Int), .bool dv, .int .u64 (dh : Int), .int .u64 (dl : Int), .slice A n c, .string P] 28) := ⟨_, rfl⟩
    obtain ⟨g0, hg0⟩ : ∃ g, g = w.heap.size := ⟨_, rfl⟩
    have X1 := Lib.hid (show Cells W1 g0 28 #[.int .i64 tos, .int .i64 id, .int .i64 ttl, .int .i64 proto, .bool dont, .bool more, .int .i64 off, .bool sv, .int .u64 (sh : Int), .int .u64 (sl : Int), .bool dv, .int .u64 (dh : Int), .int .u64 (dl : Int), .slice A n c, .string P] by rw [hW1, hg0]; exact heap_alloc_new w _)
    have kW1 : Below w.heap.size w W1 := by rw [hW1]; exact below_alloc6 w _
    have B1 := Lib.hid (B0.out.trans (kW1.mono B0.out.size))
    rw [← hW1, ← hg0]
    clear hW1 hg0
    go_wp2_with (refine wpList_load_row (by rfl) 28 _ (by rfl) g0 (by rfl) 28 #[.int .i64 tos, .int .i64 id, .int .i64 ttl, .int .i64 proto, .bool dont, .bool more, .int .i64 off, .bool sv, .int .u64 (sh : Int), .int .u64 (sl : Int), .bool dv, .int .u64 (dh : Int), .int .u64 (dl : Int), .slice A n c, .string P] (0, 0) _ X1.out Try.underlying28 (by rfl) (by kernel_rfl) ?_)
    refine (HLG.out _).mono ?_
    rintro e w2 ⟨rfl, b2⟩
    have X2 := Lib.hid (X1.out.kept b2 X1.out.lt)
    have B2 := Lib.hid (B1.out.trans (b2.mono B1.out.size))
    clear b2
    clear X1 HLG kW1
    go_wp2_with fail
    refine (awk11 _).mono ?_
    rintro e w99 ⟨rfl, b99⟩
    go_wp2_with fail
    go_ret
    exact ⟨rfl, B2.out.trans (b99.mono B2.out.size)⟩

set_option maxRecDepth 100000 in
theorem lifted (os : Os) (started : os.Started) (H : Type) (enc : TypeId × Value → H) :
    ReturnsInHanded {} Try.checked os 8 .any (Rows.ipv4NoticesSpec.pre6 enc Try.prog Try.f8 Rows.ipv4NoticesRow.domain false) (Rows.ipv4NoticesSpec.post enc Try.prog Try.f8 false true false false) := by
  refine returnsInHanded_of_change_sized (C := Try.checked) own started (by kernel_rfl) Try.func8
    (ChangeSpec.witness6 (enc := enc) (C := Try.checked) false ⟨#[], #[(.agg #[.int .i64 0, .int .i64 0, .int .i64 0, .int .i64 0, .bool false, .bool false, .int .i64 0, .bool false, .int .u64 0, .int .u64 0, .bool false, .int .u64 0, .int .u64 0, .slice none 0 0, .string ⟨#[]⟩]), .int .i64 0, .int .u8 0], []⟩ 8 (by kernel_rfl) (by kernel_rfl) (by kernel_rfl) (by kernel_rfl)) ?_
  intro W base args ds gs before hval0 hW hcnd hsz _
  have hval : ∀ (j : Nat) t v, Try.f8.params[j]? = some t → args[j]? = some v → Value.okWide Try.prog W .any base t v := hval0
  have hW' := hW
  obtain ⟨p, q, hA0, hV, rfl, hfz, hnd⟩ := hW
  have hA : DataW.TrodAll enc Try.prog W 0 (fun _ => true) true Try.f8.params.toList args.toList ds p := hA0
  rw [Try.params8] at hA hval hsz
  obtain ⟨v0, vs0, d0, ds0, p0, q0, hargs, rfl, rfl, h0, r0⟩ := trodAll_cons hA
  obtain ⟨v1, vs1, d1, ds1, p1, q1, rfl, rfl, rfl, h1, r1⟩ := trodAll_cons r0
  obtain ⟨v2, vs2, d2, ds2, p2, q2, rfl, rfl, rfl, h2, r2⟩ := trodAll_cons r1
  obtain ⟨rfl, rfl, rfl⟩ := trodAll_nil r2
  obtain rfl : args = #[v0, v1, v2] := by cases args; simp_all
  obtain ⟨rfl, rfl⟩ := trodVars_none hV
  have k0 := h0
  have lt0 : ∀ x ∈ p0, x.block < W.heap.size := by obtain ⟨m, hm⟩ := k0; exact DataW.trod_lt m _ _ _ hm
  obtain ⟨x0, a0, c0, fx0, rfl, s0, n0⟩ := in_ip4 (hval 0 28 v0 rfl rfl) h0 (fun k hk => of_decide_eq_true (List.all_eq_true.1 hsz _ (DataW.weights_mem_each (j := 0) (t := 28) (d := d0) rfl rfl k hk)))
  obtain ⟨a1, rfl, rfl, rfl, w1⟩ := open_int Try.underlying3 (hval 1 3 v1 rfl rfl) h1
  obtain ⟨a2, rfl, rfl, rfl, w2⟩ := open_int Try.underlying5 (hval 2 5 v2 rfl rfl) h2
  clear hA0 hval0
  refine (walk x0 a0 c0 a1 a2 W fx0 s0 n0 w1 w2).mono fun e W' ⟨he, bel⟩ => ?_
  subst he
  exact ⟨_, rfl, _, _, _, [], _, [], hW', trodAll_mk1 (shut_bool Try.underlying4 _), (trodAll_cons_mk (Below.trod laidOut (by kernel_rfl) (of_decide_eq_true (by kernel_rfl)) k0 bel lt0) (trodAll_cons_mk (shut_int Try.underlying3 w1) (trodAll_cons_mk (shut_int Try.underlying5 w2) trodAll_mk0))), rfl, bel.frame _, fun h => by cases h⟩

theorem over : Rows.ipv4NoticesRow.holds Try.pinned (OpenSpec.ofChange Rows.ipv4NoticesSpec) :=
  OpenClaim.holds_of_wide 8 Try.f8 rfl rfl rfl rfl rfl rfl rfl ⟨rfl, rfl, rfl, rfl, rfl⟩ rfl rfl rfl rfl rfl (by kernel_rfl) Try.func8 (by kernel_rfl)
    (of_decide_eq_true (by kernel_rfl)) (by unfold Func.isWrapper; first | (rw [if_pos (by decide +kernel)]; kernel_rfl) | (rw [if_neg (by decide +kernel)]; exact ⟨rfl, rfl⟩))
    (fun os started H enc _ => lifted os started H enc)

theorem proved : Rows.Ipv4NoticesSaid := over
#print axioms proved
end Go.Proofs.Ytimilcjlogcfhaa.ipv4Notices
