/- Contracts of the functions, part 37: TcpPEn. -/
import Derived.Deep.Cut
import Derived.Test.YtmfoionlapcgkaaDoorPA6
import Derived.Test.YtmfoionlapcgkaaDoorPA9
import Derived.Test.YtmfoionlapcgkaaDoorPA24
import Derived.Test.YtmfoionlapcgkaaDoorPA31
import Derived.Test.YtmfoionlapcgkaaDoorPA33
import Derived.Test.YtmfoionlapcgkaaDoorPA36
/- Contract of the program of layer 14: Encode. -/
namespace Go.Proofs.YtmfoionlapcgkaaDoor
open Go.ChangeShapes Go.WideShapes Go.ChangeAt Go.RowKit
set_option linter.unusedVariables false
set_option maxRecDepth 100000

set_option maxHeartbeats 8000000 in
set_option maxRecDepth 100000 in
theorem penc14_any (v1 v2 : Bool) (h1 l1 h2 l2 : Nat) (src dst fl win urg : Int) (seq ack : Nat) (l : List OpR) (pay : List UInt8) (A : Option Addr) (c : Nat) (w : World) (ha : fits13 ⟨v1, h1, l1⟩) (hb : fits13 ⟨v2, h2, l2⟩) (h : RowL EOpt w A l) (hl : l.length ≤ 1000) (hd : ∀ x ∈ l, x.dat.length ≤ 281474976710656) (hp : pay.length ≤ 1000000) (hsq : seq < 4294967296) (hak : ack < 4294967296) (hsh : Sh w) :
    Calls Tryd.prog 14 #[.agg #[.bool v1, .int .u64 (h1 : Int), .int .u64 (l1 : Int)], .agg #[.bool v2, .int .u64 (h2 : Int), .int .u64 (l2 : Int)], .agg #[.int .i64 src, .int .i64 dst, .int .u32 (seq : Int), .int .u32 (ack : Int), .int .i64 fl, .int .i64 win, .int .i64 urg, .slice A l.length c, .string (str pay)]] w fun e w' => e = .returned (.tuple #[.string (str (encT ⟨v1, h1, l1⟩ ⟨v2, h2, l2⟩ ⟨src, dst, seq, ack, fl, win, urg, l, pay⟩).1), .int .i64 ((encT ⟨v1, h1, l1⟩ ⟨v2, h2, l2⟩ ⟨src, dst, seq, ack, fl, win, urg, l, pay⟩).2 : Int)]) ∧ Below w.heap.size w w' := by
  obtain ⟨t, ht⟩ : ∃ t : TcpR, t = ⟨src, dst, seq, ack, fl, win, urg, l, pay⟩ := ⟨_, rfl⟩
  rw [← ht]
  obtain ⟨P, hP⟩ : ∃ P, P = str pay := ⟨_, rfl⟩
  have hPs : P.size = pay.length := by rw [hP, str_size]
  rw [← hP]
  have hP6 : P.size ≤ 1000000 := by omega
  obtain ⟨R, hR⟩ : ∃ R, R = encT ⟨v1, h1, l1⟩ ⟨v2, h2, l2⟩ t := ⟨_, rfl⟩
  rw [← hR]
  obtain ⟨n, hn⟩ : ∃ n, n = l.length := ⟨_, rfl⟩
  rw [← hn]
  obtain ⟨W0, hW0⟩ : ∃ W0, W0 = ((w.alloc (.cells #[.bool v1, .int .u64 (h1 : Int), .int .u64 (l1 : Int)] 24)).alloc (.cells #[.bool v2, .int .u64 (h2 : Int), .int .u64 (l2 : Int)] 24)).alloc (.cells #[.int .i64 src, .int .i64 dst, .int .u32 (seq : Int), .int .u32 (ack : Int), .int .i64 fl, .int .i64 win, .int .i64 urg, .slice A n c, .string P] 31) := ⟨_, rfl⟩
  obtain ⟨g, hg⟩ : ∃ g, g = w.heap.size + 2 := ⟨_, rfl⟩
  have HT0 := Lib.hid (show Two W0 w.heap.size v1 h1 l1 v2 h2 l2 by rw [hW0]; exact (two_new w v1 h1 l1 v2 h2 l2 _).kept (below_alloc6 _ _))
  have hB0 : Below w.heap.size w W0 := by rw [hW0]; exact (((Below.refl _ _).alloc (Nat.le_refl _) _).alloc (by simp) _).alloc (by simp; omega) _
  have HB0 := Lib.hid hB0
  have HS0 := Lib.hid (hsh.kept hB0)
  have HZ0 := Lib.hid (show Cells W0 g 31 #[.int .i64 src, .int .i64 dst, .int .u32 (seq : Int), .int .u32 (ack : Int), .int .i64 fl, .int .i64 win, .int .i64 urg, .slice A n c, .string P] by
    have h := heap_alloc_new ((w.alloc (.cells #[.bool v1, .int .u64 (h1 : Int), .int .u64 (l1 : Int)] 24)).alloc (.cells #[.bool v2, .int .u64 (h2 : Int), .int .u64 (l2 : Int)] 24)) (.cells #[.int .i64 src, .int .i64 dst, .int .u32 (seq : Int), .int .u32 (ack : Int), .int .i64 fl, .int .i64 win, .int .i64 urg, .slice A n c, .string P] 31)
    rw [hW0, hg]
    rwa [show ((w.alloc (.cells #[.bool v1, .int .u64 (h1 : Int), .int .u64 (l1 : Int)] 24)).alloc (.cells #[.bool v2, .int .u64 (h2 : Int), .int .u64 (l2 : Int)] 24)).heap.size = w.heap.size + 2 by simp] at h)
  have hrg := fun (b : Bool) (hbd : b = true ↔ ¬ badT t) (W : World) (hb : Below w.heap.size w W) => show Calls Tryd.prog 36 #[.agg #[.int .i64 src, .int .i64 dst, .int .u32 (seq : Int), .int .u32 (ack : Int), .int .i64 fl, .int .i64 win, .int .i64 urg, .slice A n c, .string P]] W fun e w' => e = .returned (.bool b) ∧ Below W.heap.size W w' from by
    rw [hn]
    exact prange14_any src dst fl win urg seq ack l A c P b W (h.kept hb) (by omega) (by rw [hbd, ht]; rfl)
  obtain ⟨z, hz⟩ : ∃ z, z = (wrOs l).length := ⟨_, rfl⟩
  have HSZ := Lib.hid (fun (W : World) (hb : Below w.heap.size w W) => show Calls Tryd.prog 37 #[.slice A n c] W fun e w' => e = .returned (.int .i64 (z : Int)) ∧ Below W.heap.size W w' from by
    rw [hn, hz]
    exact psize14_any A c l W (h.kept hb) hl hd)
  have hfit := fun W => pfit14_any v1 v2 h1 l1 h2 l2 W
  have hto : t.ops = l := by rw [ht]
  have htp : t.pay = pay := by rw [ht]
  unfold encT at hR
  rw [hto, htp, ← hz] at hR
  clear hB0 hsh
  by_cases h0 : badT t
  · have hR2 := Lib.hid (show R = ([], 4) by rw [hR, if_pos h0])
    have HRG := Lib.hid (hrg false (by simp [h0]))
    clear hR h0 hfit ha hb hP hPs hrg hto htp ht hz hn HSZ h hd
    go_enter Tryd.func14, Tryd.ntmps14
    go_upto_region 1 with fail
    rw [← hW0, ← hg]
    clear hW0 hg
    have x0 := (Cells.cell HZ0.out 0).trans (show _ = some (Value.int .i64 src) from rfl)
    have x1 := (Cells.cell HZ0.out 1).trans (show _ = some (Value.int .i64 dst) from rfl)
    have x2 := (Cells.cell HZ0.out 2).trans (show _ = some (Value.int .u32 (seq : Int)) from rfl)
    have x3 := (Cells.cell HZ0.out 3).trans (show _ = some (Value.int .u32 (ack : Int)) from rfl)
    have x4 := (Cells.cell HZ0.out 4).trans (show _ = some (Value.int .i64 fl) from rfl)
    have x5 := (Cells.cell HZ0.out 5).trans (show _ = some (Value.int .i64 win) from rfl)
    have x6 := (Cells.cell HZ0.out 6).trans (show _ = some (Value.int .i64 urg) from rfl)
    have x7 := (Cells.cell HZ0.out 7).trans (show _ = some (Value.slice A n c) from rfl)
    have x8 := (Cells.cell HZ0.out 8).trans (show _ = some (Value.string P) from rfl)
    have hgl := HZ0.out.lt
    go_wp2_with fail
    refine (HRG.out _ HB0.out).mono ?_
    rintro e w1 ⟨rfl, hbb⟩
    have HT1 := Lib.hid (HT0.out.kept hbb)
    have HZ1 := Lib.hid (Cells.kept HZ0.out hbb HZ0.out.lt)
    have HS1 := Lib.hid (HS0.out.kept hbb)
    have HB1 := Lib.hid (HB0.out.trans (hbb.mono HB0.out.size))
    clear hbb HT0 HZ0 HS0 HB0
    clear x0 x1 x2 x3 x4 x5 x6 x7 x8 hgl
    go_wp2_with fail
    go_ret2
    exact ⟨by rw [hR2.out]; try rfl, HB1.out⟩
  rw [if_neg h0] at hR
  have HRG := Lib.hid (hrg true (by simp [h0]))
  clear hrg
  by_cases c1 : 40 < z
  · have hR2 := Lib.hid (show R = ([], 3) by rw [hR, if_pos (.inl c1)])
    have d1 : decide ((40 : Int) < (z : Int)) = true := by simp; omega
    have n1 : (40 : Int) < (z : Int) := by omega
    clear hR h0 hfit ha hb hP hPs hto htp ht hz hn h hd c1
    go_enter Tryd.func14, Tryd.ntmps14
    go_upto_region 1 with fail
    rw [← hW0, ← hg]
    clear hW0 hg
    have x0 := (Cells.cell HZ0.out 0).trans (show _ = some (Value.int .i64 src) from rfl)
    have x1 := (Cells.cell HZ0.out 1).trans (show _ = some (Value.int .i64 dst) from rfl)
    have x2 := (Cells.cell HZ0.out 2).trans (show _ = some (Value.int .u32 (seq : Int)) from rfl)
    have x3 := (Cells.cell HZ0.out 3).trans (show _ = some (Value.int .u32 (ack : Int)) from rfl)
    have x4 := (Cells.cell HZ0.out 4).trans (show _ = some (Value.int .i64 fl) from rfl)
    have x5 := (Cells.cell HZ0.out 5).trans (show _ = some (Value.int .i64 win) from rfl)
    have x6 := (Cells.cell HZ0.out 6).trans (show _ = some (Value.int .i64 urg) from rfl)
    have x7 := (Cells.cell HZ0.out 7).trans (show _ = some (Value.slice A n c) from rfl)
    have x8 := (Cells.cell HZ0.out 8).trans (show _ = some (Value.string P) from rfl)
    have hgl := HZ0.out.lt
    go_wp2_with fail
    refine (HRG.out _ HB0.out).mono ?_
    rintro e w1 ⟨rfl, hbb⟩
    have HT1 := Lib.hid (HT0.out.kept hbb)
    have HZ1 := Lib.hid (Cells.kept HZ0.out hbb HZ0.out.lt)
    have HS1 := Lib.hid (HS0.out.kept hbb)
    have HB1 := Lib.hid (HB0.out.trans (hbb.mono HB0.out.size))
    clear hbb HT0 HZ0 HS0 HB0
    clear x0 x1 x2 x3 x4 x5 x6 x7 x8 hgl
    have x7 := (Cells.cell HZ1.out 7).trans (show _ = some (Value.slice A n c) from rfl)
    have x8 := (Cells.cell HZ1.out 8).trans (show _ = some (Value.string P) from rfl)
    have hgl := HZ1.out.lt
    go_wp2_with fail
    refine (HSZ.out _ HB1.out).mono ?_
    rintro e w2 ⟨rfl, hbb⟩
    have HT2 := Lib.hid (HT1.out.kept hbb)
    have HZ2 := Lib.hid (Cells.kept HZ1.out hbb HZ1.out.lt)
    have HS2 := Lib.hid (HS1.out.kept hbb)
    have HB2 := Lib.hid (HB1.out.trans (hbb.mono HB1.out.size))
    clear hbb HT1 HZ1 HS1 HB1
    clear x7 x8 hgl
    have x8 := (Cells.cell HZ2.out 8).trans (show _ = some (Value.string P) from rfl)
    have hgl := HZ2.out.lt
    go_wp2_with fail
    go_ret2
    exact ⟨by rw [hR2.out]; try rfl, HB2.out⟩
  have d1 : decide ((40 : Int) < (z : Int)) = false := by simp; omega
  have n1 : ¬ (40 : Int) < (z : Int) := by omega
  by_cases c2 : 60000 < pay.length
  · have hR2 := Lib.hid (show R = ([], 3) by rw [hR, if_pos (.inr c2)])
    have d2 : decide ((60000 : Int) < (P.size : Int)) = true := by simp; omega
    have n2 : (60000 : Int) < (P.size : Int) := by omega
    clear hR h0 hfit ha hb hP hPs hto htp ht hz hn h hd c1 c2
    go_enter Tryd.func14, Tryd.ntmps14
    go_upto_region 1 with fail
    rw [← hW0, ← hg]
    clear hW0 hg
    have x0 := (Cells.cell HZ0.out 0).trans (show _ = some (Value.int .i64 src) from rfl)
    have x1 := (Cells.cell HZ0.out 1).trans (show _ = some (Value.int .i64 dst) from rfl)
    have x2 := (Cells.cell HZ0.out 2).trans (show _ = some (Value.int .u32 (seq : Int)) from rfl)
    have x3 := (Cells.cell HZ0.out 3).trans (show _ = some (Value.int .u32 (ack : Int)) from rfl)
    have x4 := (Cells.cell HZ0.out 4).trans (show _ = some (Value.int .i64 fl) from rfl)
    have x5 := (Cells.cell HZ0.out 5).trans (show _ = some (Value.int .i64 win) from rfl)
    have x6 := (Cells.cell HZ0.out 6).trans (show _ = some (Value.int .i64 urg) from rfl)
    have x7 := (Cells.cell HZ0.out 7).trans (show _ = some (Value.slice A n c) from rfl)
    have x8 := (Cells.cell HZ0.out 8).trans (show _ = some (Value.string P) from rfl)
    have hgl := HZ0.out.lt
    go_wp2_with fail
    refine (HRG.out _ HB0.out).mono ?_
    rintro e w1 ⟨rfl, hbb⟩
    have HT1 := Lib.hid (HT0.out.kept hbb)
    have HZ1 := Lib.hid (Cells.kept HZ0.out hbb HZ0.out.lt)
    have HS1 := Lib.hid (HS0.out.kept hbb)
    have HB1 := Lib.hid (HB0.out.trans (hbb.mono HB0.out.size))
    clear hbb HT0 HZ0 HS0 HB0
    clear x0 x1 x2 x3 x4 x5 x6 x7 x8 hgl
    have x7 := (Cells.cell HZ1.out 7).trans (show _ = some (Value.slice A n c) from rfl)
    have x8 := (Cells.cell HZ1.out 8).trans (show _ = some (Value.string P) from rfl)
    have hgl := HZ1.out.lt
    go_wp2_with fail
    refine (HSZ.out _ HB1.out).mono ?_
    rintro e w2 ⟨rfl, hbb⟩
    have HT2 := Lib.hid (HT1.out.kept hbb)
    have HZ2 := Lib.hid (Cells.kept HZ1.out hbb HZ1.out.lt)
    have HS2 := Lib.hid (HS1.out.kept hbb)
    have HB2 := Lib.hid (HB1.out.trans (hbb.mono HB1.out.size))
    clear hbb HT1 HZ1 HS1 HB1
    clear x7 x8 hgl
    have x8 := (Cells.cell HZ2.out 8).trans (show _ = some (Value.string P) from rfl)
    have hgl := HZ2.out.lt
    go_wp2_with fail
    go_ret2
    exact ⟨by rw [hR2.out]; try rfl, HB2.out⟩
  have d2 : decide ((60000 : Int) < (P.size : Int)) = false := by simp; omega
  have n2 : ¬ (60000 : Int) < (P.size : Int) := by omega
  rw [if_neg (by omega)] at hR
  by_cases h3 : ¬ fitU ⟨v1, h1, l1⟩ ⟨v2, h2, l2⟩
  · have hR2 := Lib.hid (show R = ([], 13) by rw [hR, if_pos h3])
    rw [decide_eq_false h3] at hfit
    have HFIT := Lib.hid hfit
    clear hR h0 hfit ha hb hP hPs hto htp ht hz hn h hd c1 c2 h3
    go_enter Tryd.func14, Tryd.ntmps14
    go_upto_region 1 with fail
    rw [← hW0, ← hg]
    clear hW0 hg
    have x0 := (Cells.cell HZ0.out 0).trans (show _ = some (Value.int .i64 src) from rfl)
    have x1 := (Cells.cell HZ0.out 1).trans (show _ = some (Value.int .i64 dst) from rfl)
    have x2 := (Cells.cell HZ0.out 2).trans (show _ = some (Value.int .u32 (seq : Int)) from rfl)
    have x3 := (Cells.cell HZ0.out 3).trans (show _ = some (Value.int .u32 (ack : Int)) from rfl)
    have x4 := (Cells.cell HZ0.out 4).trans (show _ = some (Value.int .i64 fl) from rfl)
    have x5 := (Cells.cell HZ0.out 5).trans (show _ = some (Value.int .i64 win) from rfl)
    have x6 := (Cells.cell HZ0.out 6).trans (show _ = some (Value.int .i64 urg) from rfl)
    have x7 := (Cells.cell HZ0.out 7).trans (show _ = some (Value.slice A n c) from rfl)
    have x8 := (Cells.cell HZ0.out 8).trans (show _ = some (Value.string P) from rfl)
    have hgl := HZ0.out.lt
    go_wp2_with fail
    refine (HRG.out _ HB0.out).mono ?_
    rintro e w1 ⟨rfl, hbb⟩
    have HT1 := Lib.hid (HT0.out.kept hbb)
    have HZ1 := Lib.hid (Cells.kept HZ0.out hbb HZ0.out.lt)
    have HS1 := Lib.hid (HS0.out.kept hbb)
    have HB1 := Lib.hid (HB0.out.trans (hbb.mono HB0.out.size))
    clear hbb HT0 HZ0 HS0 HB0
    clear x0 x1 x2 x3 x4 x5 x6 x7 x8 hgl
    have x7 := (Cells.cell HZ1.out 7).trans (show _ = some (Value.slice A n c) from rfl)
    have x8 := (Cells.cell HZ1.out 8).trans (show _ = some (Value.string P) from rfl)
    have hgl := HZ1.out.lt
    go_wp2_with fail
    refine (HSZ.out _ HB1.out).mono ?_
    rintro e w2 ⟨rfl, hbb⟩
    have HT2 := Lib.hid (HT1.out.kept hbb)
    have HZ2 := Lib.hid (Cells.kept HZ1.out hbb HZ1.out.lt)
    have HS2 := Lib.hid (HS1.out.kept hbb)
    have HB2 := Lib.hid (HB1.out.trans (hbb.mono HB1.out.size))
    clear hbb HT1 HZ1 HS1 HB1
    clear x7 x8 hgl
    have x8 := (Cells.cell HZ2.out 8).trans (show _ = some (Value.string P) from rfl)
    have hgl := HZ2.out.lt
    obtain ⟨q0, q1, q2, q3, q4, q5, q6⟩ := id HT2.out
    go_wp2_with fail
    refine (HFIT.out _).mono ?_
    rintro e w3 ⟨rfl, hbb⟩
    have HT3 := Lib.hid (HT2.out.kept hbb)
    have HZ3 := Lib.hid (Cells.kept HZ2.out hbb HZ2.out.lt)
    have HS3 := Lib.hid (HS2.out.kept hbb)
    have HB3 := Lib.hid (HB2.out.trans (hbb.mono HB2.out.size))
    clear hbb HT2 HZ2 HS2 HB2
    clear x8 hgl
    clear q0 q1 q2 q3 q4 q5 q6
    go_wp2_with fail
    go_ret2
    exact ⟨by rw [hR2.out]; try rfl, HB3.out⟩
  rw [if_neg h3] at hR
  have h3' := Classical.not_not.1 h3
  rw [decide_eq_true h3'] at hfit
  have HFIT := Lib.hid hfit
  clear hfit h3
  have hbd := h0
  rw [ht] at hbd
  unfold badT wrd at hbd
  simp only [not_or, Classical.not_not] at hbd
  obtain ⟨⟨a1, a2⟩, ⟨a3, a4⟩, ⟨a5, a6⟩, ⟨a7, a8⟩, ⟨a9, a10⟩, hk⟩ := hbd
  obtain ⟨s', rfl⟩ : ∃ k : Nat, src = (k : Int) := ⟨src.toNat, by omega⟩
  obtain ⟨d', rfl⟩ : ∃ k : Nat, dst = (k : Int) := ⟨dst.toNat, by omega⟩
  obtain ⟨f', rfl⟩ : ∃ k : Nat, fl = (k : Int) := ⟨fl.toNat, by omega⟩
  obtain ⟨n', rfl⟩ : ∃ k : Nat, win = (k : Int) := ⟨win.toNat, by omega⟩
  obtain ⟨u', rfl⟩ : ∃ k : Nat, urg = (k : Int) := ⟨urg.toNat, by omega⟩
  obtain ⟨OB, hOB⟩ : ∃ O, O = str (wrP l) := ⟨_, rfl⟩
  obtain ⟨m, hm⟩ : ∃ m, m = (wrP l).length := ⟨_, rfl⟩
  have hOs : OB.size = m := by rw [hOB, str_size, hm]
  have hm4 : m % 4 = 0 := by rw [hm]; exact (wrP_len l).2
  have hm40 : m ≤ 40 := by
    have h1 := (wrP_len l).1
    have h2 := need_pad (n := (wrOs l).length) (by omega)
    omega
  obtain ⟨H, hH⟩ : ∃ x, x = 20 + m := ⟨_, rfl⟩
  have kH : (20 : Int) + (m : Int) = (H : Int) := by omega
  obtain ⟨H4, hH4⟩ : ∃ x, x = H * 4 := ⟨_, rfl⟩
  have kH4 : (H : Int) * 4 = (H4 : Int) := by omega
  have hH60 : H ≤ 60 := by omega
  have hH240 : H4 ≤ 240 := by omega
  have HOBC := Lib.hid (fun (W : World) (hb : Below w.heap.size w W) => show Calls Tryd.prog 38 #[.slice A n c] W fun e w' => e = .returned (.string OB) ∧ Below W.heap.size W w' from by
    rw [hn, hOB]
    exact pbytes14_any A c l W (h.kept hb) (by omega) hk)
  have wsq : IntKind.i64.wrap (seq : Int) = (seq : Int) := by rw [IntKind.wrap_i64]; omega
  have wak : IntKind.i64.wrap (ack : Int) = (ack : Int) := by rw [IntKind.wrap_i64]; omega
  obtain ⟨T1, hT1⟩ : ∃ T, T = str (beL 2 s') := ⟨_, rfl⟩
  have zT1 : T1.size = 2 := by rw [hT1, str_size, beL_len]
  have HTP1 := Lib.hid (fun (W : World) => show Calls Tryd.prog 39 #[.int .i64 (s' : Int), .int .i64 2] W fun e w' => e = .returned (.string T1) ∧ Below W.heap.size W w' from by rw [hT1]; exact pputB_any 2 s' (s' : Int) 2 rfl rfl (by decide) (by decide) (by omega) (by omega) W)
  obtain ⟨T2, hT2⟩ : ∃ T, T = str (beL 2 d') := ⟨_, rfl⟩
  have zT2 : T2.size = 2 := by rw [hT2, str_size, beL_len]
  have HTP2 := Lib.hid (fun (W : World) => show Calls Tryd.prog 39 #[.int .i64 (d' : Int), .int .i64 2] W fun e w' => e = .returned (.string T2) ∧ Below W.heap.size W w' from by rw [hT2]; exact pputB_any 2 d' (d' : Int) 2 rfl rfl (by decide) (by decide) (by omega) (by omega) W)
  obtain ⟨T3, hT3⟩ : ∃ T, T = str (beL 4 seq) := ⟨_, rfl⟩
  have zT3 : T3.size = 4 := by rw [hT3, str_size, beL_len]
  have HTP3 := Lib.hid (fun (W : World) => show Calls Tryd.prog 39 #[.int .i64 (seq : Int), .int .i64 4] W fun e w' => e = .returned (.string T3) ∧ Below W.heap.size W w' from by rw [hT3]; exact pputB_any 4 seq (seq : Int) 4 rfl rfl (by decide) (by decide) (by omega) (by omega) W)
  obtain ⟨T4, hT4⟩ : ∃ T, T = str (beL 4 ack) := ⟨_, rfl⟩
  have zT4 : T4.size = 4 := by rw [hT4, str_size, beL_len]
  have HTP4 := Lib.hid (fun (W : World) => show Calls Tryd.prog 39 #[.int .i64 (ack : Int), .int .i64 4] W fun e w' => e = .returned (.string T4) ∧ Below W.heap.size W w' from by rw [hT4]; exact pputB_any 4 ack (ack : Int) 4 rfl rfl (by decide) (by decide) (by omega) (by omega) W)
  obtain ⟨T5, hT5⟩ : ∃ T, T = str (beL 1 H4) := ⟨_, rfl⟩
  have zT5 : T5.size = 1 := by rw [hT5, str_size, beL_len]
  have HTP5 := Lib.hid (fun (W : World) => show Calls Tryd.prog 39 #[.int .i64 (H4 : Int), .int .i64 1] W fun e w' => e = .returned (.string T5) ∧ Below W.heap.size W w' from by rw [hT5]; exact pputB_any 1 H4 (H4 : Int) 1 rfl rfl (by decide) (by decide) (by omega) (by omega) W)
  obtain ⟨T6, hT6⟩ : ∃ T, T = str (beL 1 f') := ⟨_, rfl⟩
  have zT6 : T6.size = 1 := by rw [hT6, str_size, beL_len]
  have HTP6 := Lib.hid (fun (W : World) => show Calls Tryd.prog 39 #[.int .i64 (f' : Int), .int .i64 1] W fun e w' => e = .returned (.string T6) ∧ Below W.heap.size W w' from by rw [hT6]; exact pputB_any 1 f' (f' : Int) 1 rfl rfl (by decide) (by decide) (by omega) (by omega) W)
  obtain ⟨T7, hT7⟩ : ∃ T, T = str (beL 2 n') := ⟨_, rfl⟩
  have zT7 : T7.size = 2 := by rw [hT7, str_size, beL_len]
  have HTP7 := Lib.hid (fun (W : World) => show Calls Tryd.prog 39 #[.int .i64 (n' : Int), .int .i64 2] W fun e w' => e = .returned (.string T7) ∧ Below W.heap.size W w' from by rw [hT7]; exact pputB_any 2 n' (n' : Int) 2 rfl rfl (by decide) (by decide) (by omega) (by omega) W)
  obtain ⟨T8, hT8⟩ : ∃ T, T = str (beL 2 u') := ⟨_, rfl⟩
  have zT8 : T8.size = 2 := by rw [hT8, str_size, beL_len]
  have HTP8 := Lib.hid (fun (W : World) => show Calls Tryd.prog 39 #[.int .i64 (u' : Int), .int .i64 2] W fun e w' => e = .returned (.string T8) ∧ Below W.heap.size W w' from by rw [hT8]; exact pputB_any 2 u' (u' : Int) 2 rfl rfl (by decide) (by decide) (by omega) (by omega) W)
  obtain ⟨F1, hF1⟩ : ∃ F, F = T1 ++ T2 ++ T3 ++ T4 := ⟨_, rfl⟩
  obtain ⟨F2, hF2⟩ : ∃ F, F = F1 ++ (T5 ++ T6 ++ T7) := ⟨_, rfl⟩
  obtain ⟨BK, hBK⟩ : ∃ F, F = T8 ++ OB ++ P := ⟨_, rfl⟩
  have zF1 : F1.size = 12 := by rw [hF1]; simp only [ByteArray.size_append]; omega
  have zF2 : F2.size = 16 := by rw [hF2]; simp only [ByteArray.size_append]; omega
  have zBK : BK.size ≤ 1000042 := by rw [hBK]; simp only [ByteArray.size_append]; omega
  have e1 : ∀ z : Nat, beL 1 z = [UInt8.ofNat z] := fun z => by simp only [beL, leL, List.reverse_cons, List.reverse_nil, List.nil_append]; exact congrArg (· :: []) (UInt8.toNat_inj.1 (by simp))
  have hpre : F2 = str (preT t) := by
    rw [hF2, hF1, hT1, hT2, hT3, hT4, hT5, hT6, hT7, ht]
    unfold preT hlT
    dsimp only
    rw [← hm, show (20 + m) / 4 * 16 = H4 by omega, e1, e1]
    simp only [str_append, Int.toNat_natCast, List.append_assoc, List.cons_append, List.nil_append]
  have hpost : BK = str (postT t) := by
    rw [hBK, hT8, hOB, hP, ht]
    unfold postT
    dsimp only
    simp only [str_append, Int.toNat_natCast, List.append_assoc]
  obtain ⟨q, hq⟩ : ∃ q, q = sumT ⟨v1, h1, l1⟩ ⟨v2, h2, l2⟩ t := ⟨_, rfl⟩
  have hql : q ≤ 65535 := by rw [hq]; exact sumT_le _ _ _
  have HSUM := Lib.hid (fun (W : World) (hs : Sh W) => show Calls Tryd.prog 28 #[.agg #[.bool v1, .int .u64 (h1 : Int), .int .u64 (l1 : Int)], .agg #[.bool v2, .int .u64 (h2 : Int), .int .u64 (l2 : Int)], .string (F2 ++ ⟨#[0, 0]⟩ ++ BK)] W fun e w' => e = .returned (.int .i64 (q : Int)) ∧ Below W.heap.size W w' from by
    have hlen := encT_len t 0
    have htot : totT t ≤ 65535 := by unfold totT hlT; rw [hto, htp, ← hm]; omega
    have := psum14_any v1 v2 h1 l1 h2 l2 (preT t ++ (beL 2 0 ++ postT t)) W h3' ha hb (by omega) hs
    rw [hlen] at this
    rw [hpre, hpost, show (⟨#[0, 0]⟩ : ByteArray) = str (beL 2 0) from rfl, str_append, str_append, hq]
    unfold sumT
    simp only [List.append_assoc] at this ⊢
    exact this)
  obtain ⟨T9, hT9⟩ : ∃ T, T = str (beL 2 q) := ⟨_, rfl⟩
  have zT9 : T9.size = 2 := by rw [hT9, str_size, beL_len]
  have HT9P := Lib.hid (fun (W : World) => show Calls Tryd.prog 39 #[.int .i64 (q : Int), .int .i64 2] W fun e w' => e = .returned (.string T9) ∧ Below W.heap.size W w' from by rw [hT9]; exact pputB_any 2 q (q : Int) 2 rfl rfl (by decide) (by decide) (by omega) (by omega) W)
  have hR2 := Lib.hid (show R = (preT t ++ (beL 2 (sumT ⟨v1, h1, l1⟩ ⟨v2, h2, l2⟩ t) ++ postT t), 0) from hR)
  have HF := Lib.hid (show F2 ++ T9 ++ BK = str (preT t ++ (beL 2 (sumT ⟨v1, h1, l1⟩ ⟨v2, h2, l2⟩ t) ++ postT t)) from by rw [hpre, hpost, hT9, hq, str_append, str_append, List.append_assoc])
  have HF1 := Lib.hid hF1
  have HF2 := Lib.hid hF2
  have HBK := Lib.hid hBK
  have r0 : (9223372036854775807 < T1.size + T2.size) = False := by simp only [eq_iff_iff, iff_false]; omega
  have r1 : (9223372036854775807 < T1.size + T2.size + T3.size) = False := by simp only [eq_iff_iff, iff_false]; omega
  have r1a : (9223372036854775807 < (T1 ++ T2).size + T3.size) = False := by simp only [eq_iff_iff, iff_false, ByteArray.size_append]; omega
  have r2 : (9223372036854775807 < T1.size + T2.size + T3.size + T4.size) = False := by simp only [eq_iff_iff, iff_false]; omega
  have r2a : (9223372036854775807 < (T1 ++ T2 ++ T3).size + T4.size) = False := by simp only [eq_iff_iff, iff_false, ByteArray.size_append]; omega
  have s0 : (9223372036854775807 < T5.size + T6.size) = False := by simp only [eq_iff_iff, iff_false]; omega
  have s1 : (9223372036854775807 < T5.size + T6.size + T7.size) = False := by simp only [eq_iff_iff, iff_false]; omega
  have s1a : (9223372036854775807 < (T5 ++ T6).size + T7.size) = False := by simp only [eq_iff_iff, iff_false, ByteArray.size_append]; omega
  have s2 : (9223372036854775807 < F1.size + (T5.size + T6.size + T7.size)) = False := by simp only [eq_iff_iff, iff_false]; omega
  have s2a : (9223372036854775807 < F1.size + (T5 ++ T6 ++ T7).size) = False := by simp only [eq_iff_iff, iff_false, ByteArray.size_append]; omega
  have t0 : (9223372036854775807 < T8.size + OB.size) = False := by simp only [eq_iff_iff, iff_false]; omega
  have t1 : (9223372036854775807 < T8.size + OB.size + P.size) = False := by simp only [eq_iff_iff, iff_false]; omega
  have t1a : (9223372036854775807 < (T8 ++ OB).size + P.size) = False := by simp only [eq_iff_iff, iff_false, ByteArray.size_append]; omega
  have t0b : (9223372036854775807 < T8.size + m) = False := by simp only [eq_iff_iff, iff_false]; omega
  have t1b : (9223372036854775807 < T8.size + m + P.size) = False := by simp only [eq_iff_iff, iff_false]; omega
  have u0 : (9223372036854775807 < F2.size + 2) = False := by simp only [eq_iff_iff, iff_false]; omega
  have u0a : (9223372036854775807 < F2.size + (⟨#[0, 0]⟩ : ByteArray).size) = False := by simp only [eq_iff_iff, iff_false]; show ¬ _ < F2.size + 2; omega
  have u1 : (9223372036854775807 < F2.size + 2 + BK.size) = False := by simp only [eq_iff_iff, iff_false]; omega
  have u1a : (9223372036854775807 < (F2 ++ ⟨#[0, 0]⟩).size + BK.size) = False := by simp only [eq_iff_iff, iff_false, ByteArray.size_append]; show ¬ _ < F2.size + 2 + BK.size; omega
  have u1b : (9223372036854775807 < F2.size + (⟨#[0, 0]⟩ : ByteArray).size + BK.size) = False := by simp only [eq_iff_iff, iff_false]; show ¬ _ < F2.size + 2 + BK.size; omega
  have v0 : (9223372036854775807 < F2.size + T9.size) = False := by simp only [eq_iff_iff, iff_false]; omega
  have v1 : (9223372036854775807 < F2.size + T9.size + BK.size) = False := by simp only [eq_iff_iff, iff_false]; omega
  have v1a : (9223372036854775807 < (F2 ++ T9).size + BK.size) = False := by simp only [eq_iff_iff, iff_false, ByteArray.size_append]; omega
  clear hR h0 ha hb hP hPs hto htp ht hz hn h hd c1 c2 hk hOB hm hm4 hm40 hH hH4 hT1 hT2 hT3 hT4 hT5 hT6 hT7 hT8 hT9 hF1 hF2 hBK zF1 zF2 zBK e1 hpre hpost hq h3' a1 a2 a3 a4 a5 a6 a7 a8 a9 a10 zT1 zT2 zT3 zT4 zT5 zT6 zT7 zT8 zT9 hP6
  go_enter Tryd.func14, Tryd.ntmps14
  go_upto_region 1 with fail
  rw [← hW0, ← hg]
  clear hW0 hg
  have x0 := (Cells.cell HZ0.out 0).trans (show _ = some (Value.int .i64 (s' : Int)) from rfl)
  have x1 := (Cells.cell HZ0.out 1).trans (show _ = some (Value.int .i64 (d' : Int)) from rfl)
  have x2 := (Cells.cell HZ0.out 2).trans (show _ = some (Value.int .u32 (seq : Int)) from rfl)
  have x3 := (Cells.cell HZ0.out 3).trans (show _ = some (Value.int .u32 (ack : Int)) from rfl)
  have x4 := (Cells.cell HZ0.out 4).trans (show _ = some (Value.int .i64 (f' : Int)) from rfl)
  have x5 := (Cells.cell HZ0.out 5).trans (show _ = some (Value.int .i64 (n' : Int)) from rfl)
  have x6 := (Cells.cell HZ0.out 6).trans (show _ = some (Value.int .i64 (u' : Int)) from rfl)
  have x7 := (Cells.cell HZ0.out 7).trans (show _ = some (Value.slice A n c) from rfl)
  have x8 := (Cells.cell HZ0.out 8).trans (show _ = some (Value.string P) from rfl)
  have hgl := HZ0.out.lt
  go_wp2_with fail
  refine (HRG.out _ HB0.out).mono ?_
  rintro e w1 ⟨rfl, hbb⟩
  have HT1 := Lib.hid (HT0.out.kept hbb)
  have HZ1 := Lib.hid (Cells.kept HZ0.out hbb HZ0.out.lt)
  have HS1 := Lib.hid (HS0.out.kept hbb)
  have HB1 := Lib.hid (HB0.out.trans (hbb.mono HB0.out.size))
  clear hbb HT0 HZ0 HS0 HB0
  clear x0 x1 x2 x3 x4 x5 x6 x7 x8 hgl
  have x7 := (Cells.cell HZ1.out 7).trans (show _ = some (Value.slice A n c) from rfl)
  have x8 := (Cells.cell HZ1.out 8).trans (show _ = some (Value.string P) from rfl)
  have hgl := HZ1.out.lt
  go_wp2_with fail
  refine (HSZ.out _ HB1.out).mono ?_
  rintro e w2 ⟨rfl, hbb⟩
  have HT2 := Lib.hid (HT1.out.kept hbb)
  have HZ2 := Lib.hid (Cells.kept HZ1.out hbb HZ1.out.lt)
  have HS2 := Lib.hid (HS1.out.kept hbb)
  have HB2 := Lib.hid (HB1.out.trans (hbb.mono HB1.out.size))
  clear hbb HT1 HZ1 HS1 HB1
  clear x7 x8 hgl
  have x8 := (Cells.cell HZ2.out 8).trans (show _ = some (Value.string P) from rfl)
  have hgl := HZ2.out.lt
  obtain ⟨q0, q1, q2, q3, q4, q5, q6⟩ := id HT2.out
  go_wp2_with fail
  refine (HFIT.out _).mono ?_
  rintro e w3 ⟨rfl, hbb⟩
  have HT3 := Lib.hid (HT2.out.kept hbb)
  have HZ3 := Lib.hid (Cells.kept HZ2.out hbb HZ2.out.lt)
  have HS3 := Lib.hid (HS2.out.kept hbb)
  have HB3 := Lib.hid (HB2.out.trans (hbb.mono HB2.out.size))
  clear hbb HT2 HZ2 HS2 HB2
  clear x8 hgl
  clear q0 q1 q2 q3 q4 q5 q6
  have x7 := (Cells.cell HZ3.out 7).trans (show _ = some (Value.slice A n c) from rfl)
  have hgl := HZ3.out.lt
  go_wp2_with fail
  refine (HOBC.out _ HB3.out).mono ?_
  rintro e w4 ⟨rfl, hbb⟩
  have HT4 := Lib.hid (HT3.out.kept hbb)
  have HZ4 := Lib.hid (Cells.kept HZ3.out hbb HZ3.out.lt)
  have HS4 := Lib.hid (HS3.out.kept hbb)
  have HB4 := Lib.hid (HB3.out.trans (hbb.mono HB3.out.size))
  clear hbb HT3 HZ3 HS3 HB3
  clear x7 hgl
  go_upto_region 9 with fail
  have HV := Lib.hid (fun (W : World) (hb : Below w4.heap.size w4 W) (i : Nat) (v : Value) (hv : (#[.int .i64 (s' : Int), .int .i64 (d' : Int), .int .u32 (seq : Int), .int .u32 (ack : Int), .int .i64 (f' : Int), .int .i64 (n' : Int), .int .i64 (u' : Int), .slice A n c, .string P] : Array Value)[i]? = some v) => show W.cell? ⟨g, i, none⟩ = some v from box_cell HZ4.out hb i v hv)
  have HBX := Lib.hid (Below.refl w4.heap.size w4)
  refine wp_region_pick (fun w' => Below w4.heap.size w4 w') (by kernel_rfl) (by kernel_rfl) (Below.refl _ _) ⟨rfl, rfl, rfl, Nat.le_refl _, fun _ _ => rfl⟩ (fun pw hp hq => ?_)
  have y0 : ∀ u, (pw u).cell? ⟨g, 0, none⟩ = some (Value.int .i64 (s' : Int)) := fun u => HV.out _ (HBX.out.trans ((hp u).mono HBX.out.size)) 0 _ rfl
  have y1 : ∀ u, (pw u).cell? ⟨g, 1, none⟩ = some (Value.int .i64 (d' : Int)) := fun u => HV.out _ (HBX.out.trans ((hp u).mono HBX.out.size)) 1 _ rfl
  have y2 : ∀ u, (pw u).cell? ⟨g, 2, none⟩ = some (Value.int .u32 (seq : Int)) := fun u => HV.out _ (HBX.out.trans ((hp u).mono HBX.out.size)) 2 _ rfl
  have y3 : ∀ u, (pw u).cell? ⟨g, 3, none⟩ = some (Value.int .u32 (ack : Int)) := fun u => HV.out _ (HBX.out.trans ((hp u).mono HBX.out.size)) 3 _ rfl
  have HP := Lib.hid hp
  have HQ := Lib.hid hq
  clear hp hq
  repeat (go_big_quiet_step ((first | with_reducible exact Calls.pick_of HQ.out (fun W' hb => (HP.out _).trans (hb.mono (HP.out _).size)) (HTP1.out _) | with_reducible exact Calls.pick_of HQ.out (fun W' hb => (HP.out _).trans (hb.mono (HP.out _).size)) (HTP2.out _) | with_reducible exact Calls.pick_of HQ.out (fun W' hb => (HP.out _).trans (hb.mono (HP.out _).size)) (HTP3.out _) | with_reducible exact Calls.pick_of HQ.out (fun W' hb => (HP.out _).trans (hb.mono (HP.out _).size)) (HTP4.out _))))
  refine wpQuiet_nil ?_
  rintro _ ⟨u, rfl⟩
  have HBY := Lib.hid (HBX.out.trans ((HP.out u).mono HBX.out.size))
  generalize pw u = w5 at *
  clear HP HQ y0 y1 y2 y3 HBX HTP1 HTP2 HTP3 HTP4
  go_upto_region 10 with fail
  try rw [← HF1.out]
  refine wp_region_pick (fun w' => Below w5.heap.size w5 w') (by kernel_rfl) (by kernel_rfl) (Below.refl _ _) ⟨rfl, rfl, rfl, Nat.le_refl _, fun _ _ => rfl⟩ (fun pw hp hq => ?_)
  have y4 : ∀ u, (pw u).cell? ⟨g, 4, none⟩ = some (Value.int .i64 (f' : Int)) := fun u => HV.out _ (HBY.out.trans ((hp u).mono HBY.out.size)) 4 _ rfl
  have y5 : ∀ u, (pw u).cell? ⟨g, 5, none⟩ = some (Value.int .i64 (n' : Int)) := fun u => HV.out _ (HBY.out.trans ((hp u).mono HBY.out.size)) 5 _ rfl
  have HP := Lib.hid hp
  have HQ := Lib.hid hq
  clear hp hq
  repeat (go_big_quiet_step ((first | with_reducible exact Calls.pick_of HQ.out (fun W' hb => (HP.out _).trans (hb.mono (HP.out _).size)) (HTP5.out _) | with_reducible exact Calls.pick_of HQ.out (fun W' hb => (HP.out _).trans (hb.mono (HP.out _).size)) (HTP6.out _) | with_reducible exact Calls.pick_of HQ.out (fun W' hb => (HP.out _).trans (hb.mono (HP.out _).size)) (HTP7.out _))))
  refine wpQuiet_nil ?_
  rintro _ ⟨u, rfl⟩
  have HBZ := Lib.hid (HBY.out.trans ((HP.out u).mono HBY.out.size))
  generalize pw u = w6 at *
  clear HP HQ y4 y5 HBY HTP5 HTP6 HTP7
  go_upto_region 11 with fail
  try rw [← HF2.out]
  refine wp_region_pick (fun w' => Below w6.heap.size w6 w') (by kernel_rfl) (by kernel_rfl) (Below.refl _ _) ⟨rfl, rfl, rfl, Nat.le_refl _, fun _ _ => rfl⟩ (fun pw hp hq => ?_)
  have y6 : ∀ u, (pw u).cell? ⟨g, 6, none⟩ = some (Value.int .i64 (u' : Int)) := fun u => HV.out _ (HBZ.out.trans ((hp u).mono HBZ.out.size)) 6 _ rfl
  have y8 : ∀ u, (pw u).cell? ⟨g, 8, none⟩ = some (Value.string P) := fun u => HV.out _ (HBZ.out.trans ((hp u).mono HBZ.out.size)) 8 _ rfl
  have HP := Lib.hid hp
  have HQ := Lib.hid hq
  clear hp hq
  repeat (go_big_quiet_step ((first | with_reducible exact Calls.pick_of HQ.out (fun W' hb => (HP.out _).trans (hb.mono (HP.out _).size)) (HTP8.out _))))
  refine wpQuiet_nil ?_
  rintro _ ⟨u, rfl⟩
  have HBQ := Lib.hid (HBZ.out.trans ((HP.out u).mono HBZ.out.size))
  generalize pw u = w7 at *
  clear HP HQ y6 y8 HBZ HTP8
  have HT7 := Lib.hid (HT4.out.kept HBQ.out)
  have HS7 := Lib.hid (HS4.out.kept HBQ.out)
  have HB7 := Lib.hid (HB4.out.trans (HBQ.out.mono HB4.out.size))
  clear HT4 HZ4 HS4 HB4 HBQ HV
  go_upto_region 12 with fail
  try rw [← HBK.out]
  obtain ⟨q0, q1, q2, q3, q4, q5, q6⟩ := id HT7.out
  go_wp2_with fail
  refine (HSUM.out _ HS7.out).mono ?_
  rintro e w8 ⟨rfl, hb8⟩
  have HB8 := Lib.hid (HB7.out.trans (hb8.mono HB7.out.size))
  clear q0 q1 q2 q3 q4 q5 q6
  clear hb8 HT7 HS7 HB7 HSUM
  go_wp2_with fail
  refine (HT9P.out _).mono ?_
  rintro e w9 ⟨rfl, hb9⟩
  have HB9 := Lib.hid (HB8.out.trans (hb9.mono HB8.out.size))
  clear hb9 HB8 HT9P
  go_wp2_with fail
  go_ret2
  exact ⟨by rw [hR2.out]; dsimp only; rw [← HF.out]; try rfl, HB9.out⟩
end Go.Proofs.YtmfoionlapcgkaaDoor
