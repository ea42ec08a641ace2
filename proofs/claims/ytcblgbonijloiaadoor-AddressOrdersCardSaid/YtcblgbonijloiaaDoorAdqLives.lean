/- The law's examples (lives) of layer 6. -/
import Derived.Test.YtcblgbonijloiaaDoorAdqFP
import Derived.Test.YtcblgbonijloiaaDoorAdqNext
namespace Go.Proofs.YtcblgbonijloiaaDoor
open Go.ChangeShapes Go.WideShapes Go.ChangeAt Go.RowKit
set_option linter.unusedVariables false

theorem num1 {n : Nat} (h : n ≤ 9) : numL n = [dig n] := by rw [numL, if_pos h]
theorem hex1 {n : Nat} (h : n ≤ 15) : hexL n = [hexd n] := by rw [hexL, if_pos h]
theorem num10 : numL 10 = [49, 48] := by
  rw [numL, if_neg (by decide), num1 (by decide)]; rfl
theorem live_f4 : str (fmtA false 0 167838211) = ⟨#[49, 48, 46, 49, 46, 50, 46, 51]⟩ := by
  have e : digitsOf 256 167838211 4 = [10, 1, 2, 3] := by decide
  unfold fmtA
  rw [if_neg (by decide), e]
  unfold fmt4
  rw [List.map_cons, List.map_cons, List.map_cons, List.map_cons, num10, num1 (by decide), num1 (by decide), num1 (by decide)]
  rfl
theorem live_f6 : str (fmtA true 0 65536) = ⟨#[58, 58, 49, 58, 48]⟩ := by
  have e : digitsOf 65536 (numA 0 65536) 8 = [0, 0, 0, 0, 0, 0, 1, 0] := by decide
  have hb : best [0, 0, 0, 0, 0, 0, 1, 0] = (some 0, 6) := by decide
  unfold fmtA
  rw [if_pos (by decide), e, fmt6_some hb]
  show str (joinC 58 [] ++ [58, 58] ++ joinC 58 [hexL 1, hexL 0]) = _
  rw [hex1 (by decide), hex1 (by decide)]
  rfl
theorem live_p1 : pRes [58, 58, 49, 58, 48] = .tuple #[.agg #[.bool true, .int .u64 ((0 : Nat) : Int), .int .u64 ((65536 : Nat) : Int)], .int .i64 0] := by kernel_rfl
theorem live_p2 : ppRes [49, 48, 46, 48, 46, 48, 46, 48, 47, 56] = .tuple #[.agg #[.bool false, .int .u64 ((0 : Nat) : Int), .int .u64 ((167772160 : Nat) : Int), .int .i64 ((8 : Nat) : Int)], .int .i64 0] := by kernel_rfl
theorem live_p3 : pRes [49, 48, 46, 49, 46, 50, 46, 51] = .tuple #[.agg #[.bool false, .int .u64 ((0 : Nat) : Int), .int .u64 ((167838211 : Nat) : Int)], .int .i64 0] := by kernel_rfl
theorem live_c : cntB false 0 167772160 ((8 : Nat) : Int) false 0 167838211 = true := by decide +kernel
theorem live_cmp : cmpA false 0 167838211 true 0 65536 = -1 := by decide
theorem live_v : vldA false 0 167838211 = true := by decide
theorem live_n : nxtA false 0 255 = some (false, 0, 256) := by decide
theorem AB.al {w : World} {g : Nat} {v6 : Bool} {hi lo : Nat} (h : AB w g v6 hi lo) (o : Obj) : AB (w.alloc o) g v6 hi lo := h.kept (below_alloc6 w o) h.lt
theorem PB.al {w : World} {g : Nat} {v6 : Bool} {hi lo : Nat} {k : Int} (h : PB w g v6 hi lo k) (o : Obj) : PB (w.alloc o) g v6 hi lo k := h.kept (below_alloc6 w o) h.lt
theorem TW.al {w : World} (h : TW w) (o : Obj) : TW (w.alloc o) := h.kept (below_alloc6 w o)
set_option maxHeartbeats 4000000 in
set_option maxRecDepth 20000 in
/-- THE LAW'S EXAMPLES. -/
theorem lives_any (w : World) (ht : TW w) : Calls Tryd.prog 10 #[] w fun e w' => e = .returned (.bool true) ∧ Below w.heap.size w w' := by
  have hm := addr_guard
  have hm2 := pfx_guard
  have HT := Lib.hid ht
  have HP1 := Lib.hid (fun W t => show Calls Tryd.prog 11 #[.string ⟨#[58, 58, 49, 58, 48]⟩] W fun e w' => e = .returned (.tuple #[.agg #[.bool true, .int .u64 ((0 : Nat) : Int), .int .u64 ((65536 : Nat) : Int)], .int .i64 0]) ∧ Below W.heap.size W w' from by
    have h := qparse_any ⟨#[58, 58, 49, 58, 48]⟩ W (by decide) t
    rw [show (⟨#[58, 58, 49, 58, 48]⟩ : ByteArray).data.toList = [58, 58, 49, 58, 48] from rfl, live_p1] at h
    exact h)
  have HP2 := Lib.hid (fun W t => show Calls Tryd.prog 13 #[.string ⟨#[49, 48, 46, 48, 46, 48, 46, 48, 47, 56]⟩] W fun e w' => e = .returned (.tuple #[.agg #[.bool false, .int .u64 ((0 : Nat) : Int), .int .u64 ((167772160 : Nat) : Int), .int .i64 ((8 : Nat) : Int)], .int .i64 0]) ∧ Below W.heap.size W w' from by
    have h := qpparse_any ⟨#[49, 48, 46, 48, 46, 48, 46, 48, 47, 56]⟩ W (by decide) t
    rw [show (⟨#[49, 48, 46, 48, 46, 48, 46, 48, 47, 56]⟩ : ByteArray).data.toList = [49, 48, 46, 48, 46, 48, 46, 48, 47, 56] from rfl, live_p2] at h
    exact h)
  have HP3 := Lib.hid (fun W t => show Calls Tryd.prog 11 #[.string ⟨#[49, 48, 46, 49, 46, 50, 46, 51]⟩] W fun e w' => e = .returned (.tuple #[.agg #[.bool false, .int .u64 ((0 : Nat) : Int), .int .u64 ((167838211 : Nat) : Int)], .int .i64 0]) ∧ Below W.heap.size W w' from by
    have h := qparse_any ⟨#[49, 48, 46, 49, 46, 50, 46, 51]⟩ W (by decide) t
    rw [show (⟨#[49, 48, 46, 49, 46, 50, 46, 51]⟩ : ByteArray).data.toList = [49, 48, 46, 49, 46, 50, 46, 51] from rfl, live_p3] at h
    exact h)
  have HNX := Lib.hid (fun W => show Calls Tryd.prog 31 #[.agg #[.bool false, .int .u64 0, .int .u64 255]] W fun e w' => e = .returned (.tuple #[.agg #[.bool false, .int .u64 ((0 : Nat) : Int), .int .u64 ((256 : Nat) : Int)], .bool true]) ∧ Below W.heap.size W w' from by
    have h := qnext_any false 0 255 W (by decide) (by decide) (by decide)
    rw [live_n] at h
    exact h)
  have HCO := Lib.hid (fun W => show Calls Tryd.prog 37 #[.agg #[.bool false, .int .u64 0, .int .u64 167772160, .int .i64 8], .agg #[.bool false, .int .u64 0, .int .u64 167838211]] W fun e w' => e = .returned (.bool true) ∧ Below W.heap.size W w' from by
    have h := qcont_any false 0 167772160 ((8 : Nat) : Int) false 0 167838211 W (by decide) (by decide)
    rw [live_c] at h
    exact h)
  have HVA := Lib.hid (fun W => show Calls Tryd.prog 15 #[.agg #[.bool false, .int .u64 0, .int .u64 167838211]] W fun e w' => e = .returned (.bool true) ∧ Below W.heap.size W w' from by
    have h := qvalid_any false 0 167838211 W
    rw [live_v] at h
    exact h)
  have HF4 := Lib.hid (fun W t => show Calls Tryd.prog 21 #[.agg #[.bool false, .int .u64 0, .int .u64 167838211]] W fun e w' => e = .returned (.string ⟨#[49, 48, 46, 49, 46, 50, 46, 51]⟩) ∧ Below W.heap.size W w' from by
    have h := qfmt_any false 0 167838211 W (by decide) (by decide) (by decide) t
    rw [live_f4] at h
    exact h)
  have HF6 := Lib.hid (fun W t => show Calls Tryd.prog 21 #[.agg #[.bool true, .int .u64 0, .int .u64 65536]] W fun e w' => e = .returned (.string ⟨#[58, 58, 49, 58, 48]⟩) ∧ Below W.heap.size W w' from by
    have h := qfmt_any true 0 65536 W (by decide) (by decide) (by decide) t
    rw [live_f6] at h
    exact h)
  have HCM := Lib.hid (fun W => show Calls Tryd.prog 33 #[.agg #[.bool false, .int .u64 0, .int .u64 167838211], .agg #[.bool true, .int .u64 0, .int .u64 65536]] W fun e w' => e = .returned (.int .i64 (-1)) ∧ Below W.heap.size W w' from by
    have h := qcmp_any false 0 167838211 true 0 65536 W
    rw [live_cmp] at h
    exact h)
  have q1 := fun W => addr_eql true true 0 0 65536 65536 W
  have q2 := fun W => pfx_eql false false 0 0 167772160 167772160 8 8 W
  have q3 := fun W => addr_eql false false 0 0 256 256 W
  simp only [beq_self_eq_true, Bool.and_self] at q1 q2 q3
  clear ht
  go_enter Tryd.func10, Tryd.ntmps10
  go_wp2_with fail
  refine (HP1.out _ HT.out).mono ?_
  rintro e w1 ⟨rfl, hb⟩
  obtain ⟨g1, hg1⟩ : ∃ g, g = w1.heap.size := ⟨_, rfl⟩
  obtain ⟨W1, hW1⟩ : ∃ W, W = w1.alloc (.cells #[.bool true, .int .u64 0, .int .u64 65536] 25) := ⟨_, rfl⟩
  have HA1 := Lib.hid (show AB W1 g1 true 0 65536 by rw [hW1, hg1]; exact ab_new w1 true 0 65536)
  have HB1 := Lib.hid (show Below w.heap.size w W1 by rw [hW1]; exact hb.trans ((below_alloc6 w1 _).mono hb.size))
  have HT1 := Lib.hid (show TW W1 by rw [hW1]; exact (HT.out.kept hb).al _)
  clear hb
  go_wp2_with fail
  rw [← hW1, ← hg1]
  clear hW1 hg1
  refine (HP2.out _ HT1.out).mono ?_
  rintro e w2 ⟨rfl, hb⟩
  obtain ⟨g2, hg2⟩ : ∃ g, g = w2.heap.size := ⟨_, rfl⟩
  obtain ⟨W2, hW2⟩ : ∃ W, W = w2.alloc (.cells #[.bool false, .int .u64 0, .int .u64 167772160, .int .i64 8] 30) := ⟨_, rfl⟩
  have HA2 := Lib.hid (show PB W2 g2 false 0 167772160 8 by rw [hW2, hg2]; exact pb_new w2 false 0 167772160 8)
  have HB2 := Lib.hid (show Below w.heap.size w W2 by rw [hW2]; exact (HB1.out.trans (hb.mono HB1.out.size)).trans ((below_alloc6 w2 _).mono (HB1.out.trans (hb.mono HB1.out.size)).size))
  have HT2 := Lib.hid (show TW W2 by rw [hW2]; exact (HT1.out.kept hb).al _)
  have HA1_ := Lib.hid (show AB W2 g1 true 0 65536 by rw [hW2]; exact (HA1.out.kept hb HA1.out.lt).al _)
  clear hb
  go_wp2_with fail
  rw [← hW2, ← hg2]
  clear hW2 hg2
  refine (HP3.out _ HT2.out).mono ?_
  rintro e w3 ⟨rfl, hb⟩
  obtain ⟨g3, hg3⟩ : ∃ g, g = w3.heap.size := ⟨_, rfl⟩
  obtain ⟨W3, hW3⟩ : ∃ W, W = w3.alloc (.cells #[.bool false, .int .u64 0, .int .u64 167838211] 25) := ⟨_, rfl⟩
  have HA3 := Lib.hid (show AB W3 g3 false 0 167838211 by rw [hW3, hg3]; exact ab_new w3 false 0 167838211)
  have HB3 := Lib.hid (show Below w.heap.size w W3 by rw [hW3]; exact (HB2.out.trans (hb.mono HB2.out.size)).trans ((below_alloc6 w3 _).mono (HB2.out.trans (hb.mono HB2.out.size)).size))
  have HT3 := Lib.hid (show TW W3 by rw [hW3]; exact (HT2.out.kept hb).al _)
  have HA1__ := Lib.hid (show AB W3 g1 true 0 65536 by rw [hW3]; exact (HA1_.out.kept hb HA1_.out.lt).al _)
  have HA2_ := Lib.hid (show PB W3 g2 false 0 167772160 8 by rw [hW3]; exact (HA2.out.kept hb HA2.out.lt).al _)
  clear hb
  go_wp2_with fail
  rw [← hW3, ← hg3]
  clear hW3 hg3
  refine (HNX.out _).mono ?_
  rintro e w4 ⟨rfl, hb⟩
  obtain ⟨g4, hg4⟩ : ∃ g, g = w4.heap.size := ⟨_, rfl⟩
  obtain ⟨W4, hW4⟩ : ∃ W, W = w4.alloc (.cells #[.bool false, .int .u64 0, .int .u64 256] 25) := ⟨_, rfl⟩
  have HB4 := Lib.hid (show Below w.heap.size w W4 by rw [hW4]; exact (HB3.out.trans (hb.mono HB3.out.size)).trans ((below_alloc6 w4 _).mono (HB3.out.trans (hb.mono HB3.out.size)).size))
  have HT4 := Lib.hid (show TW W4 by rw [hW4]; exact (HT3.out.kept hb).al _)
  have HE4 := Lib.hid (show AB W4 g1 true 0 65536 ∧ PB W4 g2 false 0 167772160 8 ∧ AB W4 g3 false 0 167838211 ∧ AB W4 g4 false 0 256 from by rw [hW4, hg4]; exact ⟨(HA1__.out.kept hb HA1__.out.lt).al _, (HA2_.out.kept hb HA2_.out.lt).al _, (HA3.out.kept hb HA3.out.lt).al _, ab_new w4 false 0 256⟩)
  have hx1 := HA1__.out.kept hb HA1__.out.lt
  have hx2 := HA2_.out.kept hb HA2_.out.lt
  have hx3 := HA3.out.kept hb HA3.out.lt
  have a0 := hx1.c0
  have a1 := hx1.c1
  have a2 := hx1.c2
  have al := hx1.lt
  have p0 := hx2.c0
  have p1 := hx2.c1
  have p2 := hx2.c2
  have p3 := hx2.c3
  have pl := hx2.lt
  have b0 := hx3.c0
  have b1 := hx3.c1
  have b2 := hx3.c2
  have bl := hx3.lt
  clear hb hx1 hx2 hx3
  go_wp2_with fail
  rw [← hW4, ← hg4]
  clear hW4 hg4 al pl bl a0 a1 a2 p0 p1 p2 p3 b0 b1 b2
  refine (HCO.out _).mono ?_
  rintro e w5 ⟨rfl, hb⟩
  have HE5 := Lib.hid (show AB w5 g1 true 0 65536 ∧ PB w5 g2 false 0 167772160 8 ∧ AB w5 g3 false 0 167838211 ∧ AB w5 g4 false 0 256 from ⟨HE4.out.1.kept hb HE4.out.1.lt, HE4.out.2.1.kept hb HE4.out.2.1.lt, HE4.out.2.2.1.kept hb HE4.out.2.2.1.lt, HE4.out.2.2.2.kept hb HE4.out.2.2.2.lt⟩)
  have HB5 := Lib.hid (HB4.out.trans (hb.mono HB4.out.size))
  have HT5 := Lib.hid (HT4.out.kept hb)
  clear hb HE4 HB4 HT4
  have a0 := HE5.out.1.c0
  have a1 := HE5.out.1.c1
  have a2 := HE5.out.1.c2
  have p0 := HE5.out.2.1.c0
  have p1 := HE5.out.2.1.c1
  have p2 := HE5.out.2.1.c2
  have p3 := HE5.out.2.1.c3
  have b0 := HE5.out.2.2.1.c0
  have b1 := HE5.out.2.2.1.c1
  have b2 := HE5.out.2.2.1.c2
  have n0 := HE5.out.2.2.2.c0
  have n1 := HE5.out.2.2.2.c1
  have n2 := HE5.out.2.2.2.c2
  go_wp2_with fail
  clear a0 a1 a2 p0 p1 p2 p3 b0 b1 b2 n0 n1 n2
  refine (HVA.out _).mono ?_
  rintro e w6 ⟨rfl, hb⟩
  have HE6 := Lib.hid (show AB w6 g1 true 0 65536 ∧ PB w6 g2 false 0 167772160 8 ∧ AB w6 g3 false 0 167838211 ∧ AB w6 g4 false 0 256 from ⟨HE5.out.1.kept hb HE5.out.1.lt, HE5.out.2.1.kept hb HE5.out.2.1.lt, HE5.out.2.2.1.kept hb HE5.out.2.2.1.lt, HE5.out.2.2.2.kept hb HE5.out.2.2.2.lt⟩)
  have HB6 := Lib.hid (HB5.out.trans (hb.mono HB5.out.size))
  have HT6 := Lib.hid (HT5.out.kept hb)
  clear hb HE5 HB5 HT5
  have a0 := HE6.out.1.c0
  have a1 := HE6.out.1.c1
  have a2 := HE6.out.1.c2
  have p0 := HE6.out.2.1.c0
  have p1 := HE6.out.2.1.c1
  have p2 := HE6.out.2.1.c2
  have p3 := HE6.out.2.1.c3
  have b0 := HE6.out.2.2.1.c0
  have b1 := HE6.out.2.2.1.c1
  have b2 := HE6.out.2.2.1.c2
  have n0 := HE6.out.2.2.2.c0
  have n1 := HE6.out.2.2.2.c1
  have n2 := HE6.out.2.2.2.c2
  go_wp2_with fail
  clear a0 a1 a2 p0 p1 p2 p3 b0 b1 b2 n0 n1 n2
  refine (HF4.out _ HT6.out).mono ?_
  rintro e w7 ⟨rfl, hb⟩
  have HE7 := Lib.hid (show AB w7 g1 true 0 65536 ∧ PB w7 g2 false 0 167772160 8 ∧ AB w7 g3 false 0 167838211 ∧ AB w7 g4 false 0 256 from ⟨HE6.out.1.kept hb HE6.out.1.lt, HE6.out.2.1.kept hb HE6.out.2.1.lt, HE6.out.2.2.1.kept hb HE6.out.2.2.1.lt, HE6.out.2.2.2.kept hb HE6.out.2.2.2.lt⟩)
  have HB7 := Lib.hid (HB6.out.trans (hb.mono HB6.out.size))
  have HT7 := Lib.hid (HT6.out.kept hb)
  clear hb HE6 HB6 HT6
  have a0 := HE7.out.1.c0
  have a1 := HE7.out.1.c1
  have a2 := HE7.out.1.c2
  have p0 := HE7.out.2.1.c0
  have p1 := HE7.out.2.1.c1
  have p2 := HE7.out.2.1.c2
  have p3 := HE7.out.2.1.c3
  have b0 := HE7.out.2.2.1.c0
  have b1 := HE7.out.2.2.1.c1
  have b2 := HE7.out.2.2.1.c2
  have n0 := HE7.out.2.2.2.c0
  have n1 := HE7.out.2.2.2.c1
  have n2 := HE7.out.2.2.2.c2
  go_wp2_with fail
  clear a0 a1 a2 p0 p1 p2 p3 b0 b1 b2 n0 n1 n2
  refine (HF6.out _ HT7.out).mono ?_
  rintro e w8 ⟨rfl, hb⟩
  have HE8 := Lib.hid (show AB w8 g1 true 0 65536 ∧ PB w8 g2 false 0 167772160 8 ∧ AB w8 g3 false 0 167838211 ∧ AB w8 g4 false 0 256 from ⟨HE7.out.1.kept hb HE7.out.1.lt, HE7.out.2.1.kept hb HE7.out.2.1.lt, HE7.out.2.2.1.kept hb HE7.out.2.2.1.lt, HE7.out.2.2.2.kept hb HE7.out.2.2.2.lt⟩)
  have HB8 := Lib.hid (HB7.out.trans (hb.mono HB7.out.size))
  have HT8 := Lib.hid (HT7.out.kept hb)
  clear hb HE7 HB7 HT7
  have a0 := HE8.out.1.c0
  have a1 := HE8.out.1.c1
  have a2 := HE8.out.1.c2
  have p0 := HE8.out.2.1.c0
  have p1 := HE8.out.2.1.c1
  have p2 := HE8.out.2.1.c2
  have p3 := HE8.out.2.1.c3
  have b0 := HE8.out.2.2.1.c0
  have b1 := HE8.out.2.2.1.c1
  have b2 := HE8.out.2.2.1.c2
  have n0 := HE8.out.2.2.2.c0
  have n1 := HE8.out.2.2.2.c1
  have n2 := HE8.out.2.2.2.c2
  go_wp2_with fail
  clear a0 a1 a2 p0 p1 p2 p3 b0 b1 b2 n0 n1 n2
  refine (HCM.out _).mono ?_
  rintro e w9 ⟨rfl, hb⟩
  have HE9 := Lib.hid (show AB w9 g1 true 0 65536 ∧ PB w9 g2 false 0 167772160 8 ∧ AB w9 g3 false 0 167838211 ∧ AB w9 g4 false 0 256 from ⟨HE8.out.1.kept hb HE8.out.1.lt, HE8.out.2.1.kept hb HE8.out.2.1.lt, HE8.out.2.2.1.kept hb HE8.out.2.2.1.lt, HE8.out.2.2.2.kept hb HE8.out.2.2.2.lt⟩)
  have HB9 := Lib.hid (HB8.out.trans (hb.mono HB8.out.size))
  have HT9 := Lib.hid (HT8.out.kept hb)
  clear hb HE8 HB8 HT8
  have a0 := HE9.out.1.c0
  have a1 := HE9.out.1.c1
  have a2 := HE9.out.1.c2
  have p0 := HE9.out.2.1.c0
  have p1 := HE9.out.2.1.c1
  have p2 := HE9.out.2.1.c2
  have p3 := HE9.out.2.1.c3
  have b0 := HE9.out.2.2.1.c0
  have b1 := HE9.out.2.2.1.c1
  have b2 := HE9.out.2.2.1.c2
  have n0 := HE9.out.2.2.2.c0
  have n1 := HE9.out.2.2.2.c1
  have n2 := HE9.out.2.2.2.c2
  go_wp2_with fail
  go_ret
  exact ⟨rfl, HB9.out⟩
end Go.Proofs.YtcblgbonijloiaaDoor
