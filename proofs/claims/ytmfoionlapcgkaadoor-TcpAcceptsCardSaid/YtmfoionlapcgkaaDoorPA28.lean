/- Contracts of the functions, part 28: TDecs, RdB, AdrGrp. -/
import Derived.Deep.Cut
import Derived.Deep.WholeRow
import Derived.Test.YtmfoionlapcgkaaDoorPA3
import Derived.Test.YtmfoionlapcgkaaDoorPA6
import Derived.Test.YtmfoionlapcgkaaDoorPA8
import Derived.Test.YtmfoionlapcgkaaDoorPA27
/- TcpDecodes: the walk, over the bundle P14. -/
namespace Go.Proofs.YtmfoionlapcgkaaDoor
open Go.ChangeShapes Go.WideShapes Go.ChangeAt Go.RowKit
set_option linter.unusedVariables false
set_option maxRecDepth 100000

theorem wrOs_ge : ∀ l : List OpR, 2 * l.length ≤ (wrOs l).length
  | [] => Nat.zero_le _
  | x :: r => by
    have := wrOs_ge r
    rw [wrOs_cons, List.length_append, wrO_len, List.length_cons]
    omega
theorem decT_ops (a b : AdR) (S : List UInt8) : (decT a b S).1.ops.length ≤ 20 := by
  by_cases h : (decT a b S).2 = 0
  · obtain ⟨l, hl, ht, -, -, -, hh, -⟩ := decT_ok (t := (decT a b S).1) (Prod.ext rfl h)
    rw [ht]
    show l.length ≤ 20
    obtain ⟨-, g2, -⟩ := opts_ok _ _ l (Nat.le_refl _) hl
    have := wrOs_ge l
    have h60 : hdT S ≤ 60 := by unfold hdT; have := byt_lt S 12; omega
    rw [List.length_drop, List.length_take] at g2
    omega
  · rw [decT_bad h]
    exact Nat.zero_le _
set_option maxHeartbeats 8000000 in
set_option maxRecDepth 100000 in
theorem walkD14 {T : World → Prop} (H : P14 T) (v1 v2 : Bool) (h1 l1 h2 l2 : Nat) (s : ByteArray) (w : World) (hT : T w) (ha : fits13 ⟨v1, h1, l1⟩) (hb : fits13 ⟨v2, h2, l2⟩) :
    Calls Tryd.prog 3 #[.agg #[.bool v1, .int .u64 (h1 : Int), .int .u64 (l1 : Int), .bool v2, .int .u64 (h2 : Int), .int .u64 (l2 : Int)], .string s] w fun e w' => e = .returned (.bool true) ∧ Below w.heap.size w w' := by
  obtain ⟨W0, hW0⟩ : ∃ W, W = w.alloc (.cells #[.bool v1, .int .u64 (h1 : Int), .int .u64 (l1 : Int), .bool v2, .int .u64 (h2 : Int), .int .u64 (l2 : Int)] 26) := ⟨_, rfl⟩
  obtain ⟨gx, hgx⟩ : ∃ g, g = w.heap.size := ⟨_, rfl⟩
  have bx : Below w.heap.size w W0 := by rw [hW0]; exact below_alloc6 w _
  have px : Cells W0 gx 26 #[.bool v1, .int .u64 (h1 : Int), .int .u64 (l1 : Int), .bool v2, .int .u64 (h2 : Int), .int .u64 (l2 : Int)] := by rw [hW0, hgx]; exact heap_alloc_new w _
  have B0 := Lib.hid (show Below w.heap.size w W0 from bx)
  have Px0 := Lib.hid (show Cells W0 gx 26 #[.bool v1, .int .u64 (h1 : Int), .int .u64 (l1 : Int), .bool v2, .int .u64 (h2 : Int), .int .u64 (l2 : Int)] from px)
  have HK := Lib.hid H.keep
  have HL := Lib.hid (fun (W : World) (hW : T W) => awk14 H W hW)
  have K0 := Lib.hid (H.keep w W0 hT B0.out)
  by_cases hl : 70000 < s.size
  · have d0 : decide ((70000 : Int) < (s.size : Int)) = true := by simp; omega
    have nd : (70000 : Int) < (s.size : Int) := by omega
    clear hl
    have ex : gx = w.heap.size := by exact hgx
    have HW0 := Lib.hid hW0
    have Ex := Lib.hid ex
    clear hW0 hgx ex bx px
    go_enter Tryd.func3, Tryd.ntmps3
    go_upto_region 1 with fail
    rw [← HW0.out, ← Ex.out]
    clear HW0 Ex
    go_wp2_with fail
    refine (HL.out _ K0.out).mono ?_
    rintro e w99 ⟨rfl, hb⟩
    have BZ := Lib.hid (B0.out.trans (hb.mono B0.out.size))
    clear hb
    go_wp2_with fail
    go_ret
    exact ⟨rfl, BZ.out⟩
  have d0 : decide ((70000 : Int) < (s.size : Int)) = false := by simp; omega
  have nd : ¬ (70000 : Int) < (s.size : Int) := by omega
  obtain ⟨S, hS⟩ : ∃ L, L = s.data.toList := ⟨_, rfl⟩
  have hlen : S.length = s.size := by rw [hS]; show s.data.toList.length = s.data.size; simp only [Array.length_toList]
  have hsL : s = str S := by rw [hS]; exact (str_of s).symm
  obtain ⟨R, hR⟩ : ∃ R, R = decT ⟨v1, h1, l1⟩ ⟨v2, h2, l2⟩ S := ⟨_, rfl⟩
  have hnl : R.1.ops.length ≤ 1000000 := by rw [hR]; have := decT_ops ⟨v1, h1, l1⟩ ⟨v2, h2, l2⟩ S; omega
  have f1 := fun (W : World) (hW : T W) => show Calls Tryd.prog 10 #[.agg #[.bool v1, .int .u64 (h1 : Int), .int .u64 (l1 : Int)], .agg #[.bool v2, .int .u64 (h2 : Int), .int .u64 (l2 : Int)], .string s] W (DecTP W R) from by rw [hsL, hR]; exact H.dec v1 v2 h1 l1 h2 l2 S W hW ha hb (by omega)
  have f2 := fun (W : World) => show Calls Tryd.prog 11 #[.agg #[.bool v1, .int .u64 (h1 : Int), .int .u64 (l1 : Int)], .agg #[.bool v2, .int .u64 (h2 : Int), .int .u64 (l2 : Int)], .string s] W (DecTP W R) from by rw [hsL, hR]; exact rdec14_any v1 v2 h1 l1 h2 l2 S W ha hb (by omega)
  clear hS hlen hsL hl hR hT
  obtain ⟨⟨src, dst, sq, ak, fl, win, urg, l, pay⟩, er⟩ := R
  unfold DecTP tcC at f1 f2
  dsimp only at f1 f2 hnl
  obtain ⟨D, hD⟩ : ∃ Y, Y = str pay := ⟨_, rfl⟩
  obtain ⟨n, hn⟩ : ∃ n, n = l.length := ⟨_, rfl⟩
  rw [← hD, ← hn] at f1 f2
  have HSM := Lib.hid (fun (A1 A2 : Option Addr) (c1 c2 : Nat) (W : World) (h1 : RowL EOpt W A1 l) (h2 : RowL EOpt W A2 l) => show Calls Tryd.prog 12 #[.agg #[.int .i64 src, .int .i64 dst, .int .u32 (sq : Int), .int .u32 (ak : Int), .int .i64 fl, .int .i64 win, .int .i64 urg, .slice A1 n c1, .string D], .agg #[.int .i64 src, .int .i64 dst, .int .u32 (sq : Int), .int .u32 (ak : Int), .int .i64 fl, .int .i64 win, .int .i64 urg, .slice A2 n c2, .string D]] W fun e w' => e = .returned (.bool true) ∧ Below W.heap.size W w' from by rw [hn]; exact same14_any ⟨src, dst, sq, ak, fl, win, urg, l, pay⟩ A1 A2 c1 c2 D W h1 h2 hnl)
  have H1 := Lib.hid f1
  have H2 := Lib.hid f2
  clear f1 f2 hD hn hnl
  have her : ((er : Int) == (er : Int)) = true := beq_self_eq_true _
  have ex : gx = w.heap.size := by exact hgx
  have HW0 := Lib.hid hW0
  have Ex := Lib.hid ex
  clear hW0 hgx ex bx px
  go_enter Tryd.func3, Tryd.ntmps3
  go_upto_region 1 with fail
  rw [← HW0.out, ← Ex.out]
  clear HW0 Ex
  have xx0 := (Cells.cell Px0.out 0).trans (show _ = some (Value.bool v1) from rfl)
  have xx1 := (Cells.cell Px0.out 1).trans (show _ = some (Value.int .u64 (h1 : Int)) from rfl)
  have xx2 := (Cells.cell Px0.out 2).trans (show _ = some (Value.int .u64 (l1 : Int)) from rfl)
  have xx3 := (Cells.cell Px0.out 3).trans (show _ = some (Value.bool v2) from rfl)
  have xx4 := (Cells.cell Px0.out 4).trans (show _ = some (Value.int .u64 (h2 : Int)) from rfl)
  have xx5 := (Cells.cell Px0.out 5).trans (show _ = some (Value.int .u64 (l2 : Int)) from rfl)
  go_wp2_with fail
  refine (H1.out _ K0.out).mono ?_
  rintro e w1 ⟨A1, c1, rfl, hr1, -, hb⟩
  have Ra1n := Lib.hid hr1
  clear H1 xx0 xx1 xx2 xx3 xx4 xx5
  have Px1 := Lib.hid (Cells.kept Px0.out hb Px0.out.lt)
  have K1 := Lib.hid (HK.out _ _ K0.out hb)
  have B1 := Lib.hid (B0.out.trans (hb.mono B0.out.size))
  clear hb Px0 K0 B0
  have Ra1 := Ra1n
  clear Ra1n hr1
  go_upto_region 4 with fail
  obtain ⟨W2, hW⟩ : ∃ W, W = w1.alloc (.cells #[.int .i64 src, .int .i64 dst, .int .u32 (sq : Int), .int .u32 (ak : Int), .int .i64 fl, .int .i64 win, .int .i64 urg, .slice A1 n c1, .string D] 31) := ⟨_, rfl⟩
  obtain ⟨ga, hg⟩ : ∃ g, g = w1.heap.size := ⟨_, rfl⟩
  have Na := Lib.hid (show Cells W2 ga 31 #[.int .i64 src, .int .i64 dst, .int .u32 (sq : Int), .int .u32 (ak : Int), .int .i64 fl, .int .i64 win, .int .i64 urg, .slice A1 n c1, .string D] by rw [hW, hg]; exact heap_alloc_new w1 _)
  have hb : Below w1.heap.size w1 W2 := by rw [hW]; exact below_alloc6 w1 _
  rw [← hW, ← hg]
  clear hW hg
  have Px2 := Lib.hid (Cells.kept Px1.out hb Px1.out.lt)
  have Ra2 := Lib.hid (Ra1.out.kept hb)
  have K2 := Lib.hid (HK.out _ _ K1.out hb)
  have B2 := Lib.hid (B1.out.trans (hb.mono B1.out.size))
  clear hb Px1 Ra1 K1 B1
  have Pa2 := Na
  clear Na
  have xx0 := (Cells.cell Px2.out 0).trans (show _ = some (Value.bool v1) from rfl)
  have xx1 := (Cells.cell Px2.out 1).trans (show _ = some (Value.int .u64 (h1 : Int)) from rfl)
  have xx2 := (Cells.cell Px2.out 2).trans (show _ = some (Value.int .u64 (l1 : Int)) from rfl)
  have xx3 := (Cells.cell Px2.out 3).trans (show _ = some (Value.bool v2) from rfl)
  have xx4 := (Cells.cell Px2.out 4).trans (show _ = some (Value.int .u64 (h2 : Int)) from rfl)
  have xx5 := (Cells.cell Px2.out 5).trans (show _ = some (Value.int .u64 (l2 : Int)) from rfl)
  go_wp2_with fail
  refine (H2.out _).mono ?_
  rintro e w3 ⟨A2, c2, rfl, hr2, -, hb⟩
  have Rb3n := Lib.hid hr2
  clear H2 xx0 xx1 xx2 xx3 xx4 xx5
  have Px3 := Lib.hid (Cells.kept Px2.out hb Px2.out.lt)
  have Pa3 := Lib.hid (Cells.kept Pa2.out hb Pa2.out.lt)
  have Ra3 := Lib.hid (Ra2.out.kept hb)
  have K3 := Lib.hid (HK.out _ _ K2.out hb)
  have B3 := Lib.hid (B2.out.trans (hb.mono B2.out.size))
  clear hb Px2 Pa2 Ra2 K2 B2
  have Rb3 := Rb3n
  clear Rb3n hr2
  go_upto_region 5 with fail
  obtain ⟨W4, hW⟩ : ∃ W, W = w3.alloc (.cells #[.int .i64 src, .int .i64 dst, .int .u32 (sq : Int), .int .u32 (ak : Int), .int .i64 fl, .int .i64 win, .int .i64 urg, .slice A2 n c2, .string D] 31) := ⟨_, rfl⟩
  obtain ⟨gb, hg⟩ : ∃ g, g = w3.heap.size := ⟨_, rfl⟩
  have Nb := Lib.hid (show Cells W4 gb 31 #[.int .i64 src, .int .i64 dst, .int .u32 (sq : Int), .int .u32 (ak : Int), .int .i64 fl, .int .i64 win, .int .i64 urg, .slice A2 n c2, .string D] by rw [hW, hg]; exact heap_alloc_new w3 _)
  have hb : Below w3.heap.size w3 W4 := by rw [hW]; exact below_alloc6 w3 _
  rw [← hW, ← hg]
  clear hW hg
  have Px4 := Lib.hid (Cells.kept Px3.out hb Px3.out.lt)
  have Pa4 := Lib.hid (Cells.kept Pa3.out hb Pa3.out.lt)
  have Ra4 := Lib.hid (Ra3.out.kept hb)
  have Rb4 := Lib.hid (Rb3.out.kept hb)
  have K4 := Lib.hid (HK.out _ _ K3.out hb)
  have B4 := Lib.hid (B3.out.trans (hb.mono B3.out.size))
  clear hb Px3 Pa3 Ra3 Rb3 K3 B3
  have Pb4 := Nb
  clear Nb
  have xa0 := (Cells.cell Pa4.out 0).trans (show _ = some (Value.int .i64 src) from rfl)
  have xa1 := (Cells.cell Pa4.out 1).trans (show _ = some (Value.int .i64 dst) from rfl)
  have xa2 := (Cells.cell Pa4.out 2).trans (show _ = some (Value.int .u32 (sq : Int)) from rfl)
  have xa3 := (Cells.cell Pa4.out 3).trans (show _ = some (Value.int .u32 (ak : Int)) from rfl)
  have xa4 := (Cells.cell Pa4.out 4).trans (show _ = some (Value.int .i64 fl) from rfl)
  have xa5 := (Cells.cell Pa4.out 5).trans (show _ = some (Value.int .i64 win) from rfl)
  have xa6 := (Cells.cell Pa4.out 6).trans (show _ = some (Value.int .i64 urg) from rfl)
  have xa7 := (Cells.cell Pa4.out 7).trans (show _ = some (Value.slice A1 n c1) from rfl)
  have xa8 := (Cells.cell Pa4.out 8).trans (show _ = some (Value.string D) from rfl)
  have xb0 := (Cells.cell Pb4.out 0).trans (show _ = some (Value.int .i64 src) from rfl)
  have xb1 := (Cells.cell Pb4.out 1).trans (show _ = some (Value.int .i64 dst) from rfl)
  have xb2 := (Cells.cell Pb4.out 2).trans (show _ = some (Value.int .u32 (sq : Int)) from rfl)
  have xb3 := (Cells.cell Pb4.out 3).trans (show _ = some (Value.int .u32 (ak : Int)) from rfl)
  have xb4 := (Cells.cell Pb4.out 4).trans (show _ = some (Value.int .i64 fl) from rfl)
  have xb5 := (Cells.cell Pb4.out 5).trans (show _ = some (Value.int .i64 win) from rfl)
  have xb6 := (Cells.cell Pb4.out 6).trans (show _ = some (Value.int .i64 urg) from rfl)
  have xb7 := (Cells.cell Pb4.out 7).trans (show _ = some (Value.slice A2 n c2) from rfl)
  have xb8 := (Cells.cell Pb4.out 8).trans (show _ = some (Value.string D) from rfl)
  go_wp2_with fail
  refine (HSM.out _ _ _ _ _ Ra4.out Rb4.out).mono ?_
  rintro e w5 ⟨rfl, hb⟩
  clear HSM xa0 xa1 xa2 xa3 xa4 xa5 xa6 xa7 xa8 xb0 xb1 xb2 xb3 xb4 xb5 xb6 xb7 xb8
  have Px5 := Lib.hid (Cells.kept Px4.out hb Px4.out.lt)
  have Pa5 := Lib.hid (Cells.kept Pa4.out hb Pa4.out.lt)
  have Pb5 := Lib.hid (Cells.kept Pb4.out hb Pb4.out.lt)
  have Ra5 := Lib.hid (Ra4.out.kept hb)
  have Rb5 := Lib.hid (Rb4.out.kept hb)
  have K5 := Lib.hid (HK.out _ _ K4.out hb)
  have B5 := Lib.hid (B4.out.trans (hb.mono B4.out.size))
  clear hb Px4 Pa4 Pb4 Ra4 Rb4 K4 B4
  go_wp2_with fail
  refine (HL.out _ K5.out).mono ?_
  rintro e w99 ⟨rfl, hb⟩
  have BZ := Lib.hid (B5.out.trans (hb.mono B5.out.size))
  clear hb
  go_wp2_with fail
  go_ret
  exact ⟨rfl, BZ.out⟩
end Go.Proofs.YtmfoionlapcgkaaDoor

/- The program's reader, all of whose blocks lie below a number B: so it stands apart from whatever the caller makes later. -/
namespace Go.Proofs.YtmfoionlapcgkaaDoor
open Go.ChangeShapes Go.WideShapes Go.ChangeAt Go.RowKit
set_option linter.unusedVariables false

/-- A reader at block p below B. -/
def RdB (w : World) (B p : Nat) (l : List UInt8) (err : Int) : Prop :=
  ∃ A cap, p < B ∧ Cells w p 89 #[.slice A l.length cap, .int .i64 err] ∧ Left w p A l cap ∧ (0 < l.length → ∀ a, A = some a → a.block < B)
theorem RdB.rd {w : World} {B p : Nat} {l : List UInt8} {err : Int} (h : RdB w B p l err) : Rd w p l err := by
  obtain ⟨A, cap, _, h1, h2, _⟩ := h
  exact ⟨A, cap, h1, h2⟩
theorem RdB.lt {w : World} {B p : Nat} {l : List UInt8} {err : Int} (h : RdB w B p l err) : p < B := by
  obtain ⟨A, cap, h0, _⟩ := h
  exact h0
theorem RdB.of {w : World} {p : Nat} {l : List UInt8} {err : Int} (h : Rd w p l err) : RdB w w.heap.size p l err := by
  obtain ⟨A, cap, h1, h2⟩ := h
  refine ⟨A, cap, h1.lt, h1, h2, fun hp a ha => ?_⟩
  obtain ⟨g, o, e, _, hlt, _⟩ := h2.2 hp
  rw [e] at ha
  obtain rfl := Option.some.inj ha
  exact hlt
theorem RdB.mono {w : World} {B B' p : Nat} {l : List UInt8} {err : Int} (h : RdB w B p l err) (hB : B ≤ B') : RdB w B' p l err := by
  obtain ⟨A, cap, h0, h1, h2, h3⟩ := h
  exact ⟨A, cap, by omega, h1, h2, fun hp a ha => by have := h3 hp a ha; omega⟩
/-- Whatever writes at or above B. -/
theorem RdB.blocks {w w' : World} {B p : Nat} {l : List UInt8} {err : Int} (h : RdB w B p l err) (hz : w.heap.size ≤ w'.heap.size) (hb : ∀ b, b < B → w'.heap[b]? = w.heap[b]?) : RdB w' B p l err := by
  obtain ⟨A, cap, h0, h1, h2, h3⟩ := h
  refine ⟨A, cap, h0, (hb p h0).trans h1, ⟨h2.1, fun hp => ?_⟩, h3⟩
  obtain ⟨g, o, e, hne, hlt, hc⟩ := h2.2 hp
  have hgB : g < B := h3 hp _ e
  refine ⟨g, o, e, hne, by omega, fun j hj => ?_⟩
  rw [World.cell?_of_block (w := w) (w' := w') (a := ⟨g, o + j, none⟩) (hb g hgB), World.frozen?_of_block (w := w) (w' := w') (a := ⟨g, o + j, none⟩) (hb g hgB)]
  exact hc j hj
theorem RdB.set {w : World} {B p g i : Nat} {l : List UInt8} {err : Int} (h : RdB w B p l err) (hg : B ≤ g) (v : Value) : RdB (w.setCell ⟨g, i, none⟩ v) B p l err :=
  h.blocks (by simp [World.setCell]) (fun b hb => Below.heap_setCell w ⟨g, i, none⟩ v b (by simp only; omega))
theorem RdB.kept {w w' : World} {B p : Nat} {l : List UInt8} {err : Int} (h : RdB w B p l err) (hb : Below w.heap.size w w') (hB : B ≤ w.heap.size) : RdB w' B p l err :=
  h.blocks hb.size (fun b hlt => hb.block b (by omega))
theorem RdB.grown {w w' : World} {B p : Nat} {l : List UInt8} {err : Int} {row : Option Nat} (h : RdB w B p l err) (hg : w.grownBy w' row) (hB : B ≤ w.heap.size) (hr : ∀ g, row = some g → B ≤ g) : RdB w' B p l err :=
  h.blocks hg.size (fun b hlt => hg.block b (by omega) (by intro e; have := hr b e.symm; omega))
theorem nextB_short (B p : Nat) (l : List UInt8) (n : Int) (w : World) (h : RdB w B p l 0) (hm : l.length ≤ 9223372036854775807) (hn : (l.length : Int) < n) :
    Calls Tryd.prog 71 #[.pointer (some ⟨p, 0, none⟩), .int .i64 n, .bool true] w fun e w' => e = .returned (.slice none 0 0) ∧ RdB w' B p l 1 ∧ w.grownBy w' (some p) := by
  obtain ⟨A, cap, h0, hc, hl, h3⟩ := h
  have c0 := hc.cell 0
  have c1 := hc.cell 1
  have f1 := hc.frozen 1
  simp at c0 c1
  have H3 := Lib.hid h3
  clear h3
  go_enter Tryd.func71, Tryd.ntmps71
  go_wp2_with fail
  go_ret
  exact ⟨rfl, ⟨A, cap, h0, hc.set 1 _, hl.only (only_set ..), H3.out⟩, only_set ..⟩
theorem add_block (a : Addr) (n : Nat) : (a.add n).block = a.block := by
  unfold Addr.add
  split <;> rfl
theorem nextB_ok (B p : Nat) (l : List UInt8) (n : Nat) (w : World) (h : RdB w B p l 0) (hm : l.length ≤ 9223372036854775807) (hn : n ≤ l.length) :
    Calls Tryd.prog 71 #[.pointer (some ⟨p, 0, none⟩), .int .i64 n, .bool true] w fun e w' => ∃ A, e = .returned (.slice A n n) ∧ BS w' 0 (.slice A n n) (l.take n) ∧ RdB w' B p (l.drop n) 0 ∧ w.grownBy w' (some p) := by
  obtain ⟨A, cap, h0, hc, hl, h3⟩ := h
  have c0 := hc.cell 0
  have c1 := hc.cell 1
  have f0 := hc.frozen 0
  have hcap := hl.1
  have H3 := Lib.hid h3
  clear h3
  simp at c0 c1
  by_cases hcn : cap = n
  · obtain rfl : cap = l.length := by omega
    subst hcn
    go_enter Tryd.func71, Tryd.ntmps71
    go_wp2_with fail
    go_ret
    have hx := hc.set 0 (.slice A 0 0)
    exact ⟨A, rfl, ((hl.only (only_set w p 0 _)).take _ (Nat.le_refl _)), ⟨A, 0, h0, by simpa using hx, ⟨by simp, by simp⟩, by simp⟩, only_set ..⟩
  · go_enter Tryd.func71, Tryd.ntmps71
    go_wp2_with fail
    go_ret
    have hx := hc.set 0 (.slice (A.map fun x => x.add n) (l.length - n) (cap - n))
    rw [← List.length_drop] at hx
    refine ⟨A, rfl, ((hl.only (only_set w p 0 _)).take _ hn), ⟨_, _, h0, by rw [List.length_drop] at *; exact hx, (hl.drop n hn).only (only_set ..), fun hp a ha => ?_⟩, only_set ..⟩
    rw [List.length_drop] at hp
    obtain ⟨a0, h1, h2⟩ := Option.map_eq_some_iff.1 ha
    have := H3.out (by omega) a0 h1
    rw [← h2, add_block]
    exact this
/-- What a call of Int reads: the number, what is left, the error. -/
def rdI (l : List UInt8) (err n : Nat) : Nat × List UInt8 × Nat := if err ≠ 0 then (0, l, err) else if l.length < n then (0, l, 1) else (num (l.take n), l.drop n, 0)
theorem rdI_lt (l : List UInt8) (err n : Nat) : (rdI l err n).1 < 256 ^ n := by
  have h : 0 < 256 ^ n := Nat.pow_pos (by decide)
  unfold rdI
  split
  · exact h
  · split
    · exact h
    · have := num_lt (l.take n)
      rwa [show (l.take n).length = n by rw [List.length_take]; omega] at this
theorem rdI_len (l : List UInt8) (err n : Nat) : (rdI l err n).2.1.length ≤ l.length := by
  unfold rdI
  split
  · exact Nat.le_refl _
  · split
    · exact Nat.le_refl _
    · rw [List.length_drop]; omega
theorem next_any_err (B p n : Nat) (l : List UInt8) (err : Nat) (w : World) (h : RdB w B p l (err : Int)) (he : err ≠ 0) (h1 : 1 ≤ n) (h7 : n ≤ 7) :
    Calls Tryd.prog 48 #[.pointer (some ⟨p, 0, none⟩), .int .i64 (n : Int)] w fun e w' => e = .returned (.int .i64 ((0 : Nat) : Int)) ∧ RdB w' B p l (err : Int) ∧ w.grownBy w' (some p) := by
  have he' : (err : Int) ≠ 0 := by omega
  have HNX := Lib.hid (fun (W : World) (hh : Rd W p l (err : Int)) => next_err p l (err : Int) (n : Int) true W hh he')
  have HR := Lib.hid h
  clear h he he'
  go_enter Tryd.func48, Tryd.ntmps48
  go_wp2_with fail
  refine (valid_yes n _ (by omega) (by omega)).mono ?_
  rintro e w1 ⟨rfl, rfl⟩
  go_wp2_with fail
  refine (HNX.out _ HR.out.rd).mono ?_
  rintro e w1 ⟨rfl, rfl⟩
  go_wp2_with fail
  refine (number_any none 0 0 [] _ (bs_nil _ _) (by simp)).mono ?_
  rintro e w1 ⟨rfl, rfl⟩
  go_wp2_with fail
  go_ret
  exact ⟨rfl, HR.out, only_refl ..⟩
set_option maxHeartbeats 2000000 in
theorem intB_any (B p n : Nat) (N : Int) (hN : (n : Int) = N) (l : List UInt8) (err : Nat) (w : World) (h : RdB w B p l (err : Int)) (hm : l.length ≤ 9223372036854775807) (h1 : 1 ≤ n) (h7 : n ≤ 7) :
    Calls Tryd.prog 48 #[.pointer (some ⟨p, 0, none⟩), .int .i64 N] w fun e w' => e = .returned (.int .i64 ((rdI l err n).1 : Int)) ∧ RdB w' B p (rdI l err n).2.1 ((rdI l err n).2.2 : Int) ∧ w.grownBy w' (some p) := by
  subst hN
  unfold rdI
  by_cases he : err ≠ 0
  · rw [if_pos he]
    refine (next_any_err B p n l err w h he (by omega) (by omega)).mono ?_
    exact fun e w' h => h
  · obtain rfl : err = 0 := by omega
    rw [if_neg (by simp)]
    by_cases hs : l.length < n
    · rw [if_pos hs]
      go_enter Tryd.func48, Tryd.ntmps48
      go_wp2_with fail
      refine (valid_yes n _ (by omega) (by omega)).mono ?_
      rintro e w1 ⟨rfl, rfl⟩
      go_wp2_with fail
      refine (nextB_short B p l n _ h hm (by omega)).mono ?_
      rintro e w1 ⟨rfl, h1, hg1⟩
      go_wp2_with fail
      refine (number_any none 0 0 [] _ (bs_nil _ _) (by simp)).mono ?_
      rintro e w2 ⟨rfl, rfl⟩
      go_wp2_with fail
      go_ret
      exact ⟨rfl, h1, hg1⟩
    · rw [if_neg hs]
      have hlen : (l.take n).length = n := by rw [List.length_take]; omega
      have HL := Lib.hid hlen
      clear hlen
      have hn : n ≤ l.length := by omega
      clear hs
      go_enter Tryd.func48, Tryd.ntmps48
      go_wp2_with fail
      refine (valid_yes n _ (by omega) (by omega)).mono ?_
      rintro e w1 ⟨rfl, rfl⟩
      go_wp2_with fail
      refine (nextB_ok B p l n _ h hm hn).mono ?_
      rintro e w1 ⟨A, rfl, hbs, h2, hg1⟩
      go_wp2_with fail
      have hc := number_any A n 0 (l.take n) w1 (by rw [HL.out]; exact hbs) (by rw [HL.out]; exact h7)
      rw [HL.out] at hc
      refine hc.mono ?_
      rintro e w2 ⟨rfl, rfl⟩
      go_wp2_with fail
      go_ret
      exact ⟨rfl, h2, hg1⟩
end Go.Proofs.YtmfoionlapcgkaaDoor

/- Contracts of the reference of layer 6: group. -/
namespace Go.Proofs.YtmfoionlapcgkaaDoor
open Go.ChangeShapes Go.WideShapes Go.ChangeAt Go.RowKit
set_option linter.unusedVariables false

/-- What the reference's group answers. -/
def grpI (s : By) : Int := match grpS s with
  | none => -1
  | some n => n
theorem pow16_le {k : Nat} (h : k < 4) : 16 ^ k ≤ 4096 := by
  calc 16 ^ k ≤ 16 ^ 3 := Nat.pow_le_pow_right (by omega) (by omega)
    _ = 4096 := rfl
end Go.Proofs.YtmfoionlapcgkaaDoor
