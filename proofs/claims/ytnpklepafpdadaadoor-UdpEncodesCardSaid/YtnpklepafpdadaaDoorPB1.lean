/- Contracts of the functions, further part 1: UEncs. -/
import Derived.Deep.Cut
import Derived.Deep.WholeRow
import Derived.Test.YtnpklepafpdadaaDoorPA27
/- The laws of layer 13 about Encode beside the reference: the walks, over the bundle. -/
namespace Go.Proofs.YtnpklepafpdadaaDoor
open Go.ChangeShapes Go.WideShapes Go.ChangeAt Go.RowKit
set_option linter.unusedVariables false

set_option maxHeartbeats 4000000 in
set_option maxRecDepth 20000 in
theorem walkE13 {T : World → Prop} (H : P13 T) (v1 v2 : Bool) (h1 l1 h2 l2 : Nat) (src dst : Int) (pay : List UInt8) (w : World) (hT : T w) (ha : fits13 ⟨v1, h1, l1⟩) (hb : fits13 ⟨v2, h2, l2⟩) (hw : udpWf ⟨src, dst, pay⟩) :
    Calls Tryd.prog 4 #[.agg #[.bool v1, .int .u64 (h1 : Int), .int .u64 (l1 : Int), .bool v2, .int .u64 (h2 : Int), .int .u64 (l2 : Int)], .agg #[.int .i64 src, .int .i64 dst, .string (str pay)]] w fun e w' => e = .returned (.bool true) ∧ Below w.heap.size w w' := by
  obtain ⟨P, hP⟩ : ∃ P, P = str pay := ⟨_, rfl⟩
  rw [← hP]
  obtain ⟨W0, hW0⟩ : ∃ W, W = (w.alloc (.cells #[.bool v1, .int .u64 (h1 : Int), .int .u64 (l1 : Int), .bool v2, .int .u64 (h2 : Int), .int .u64 (l2 : Int)] 26)).alloc (.cells #[.int .i64 src, .int .i64 dst, .string P] 29) := ⟨_, rfl⟩
  obtain ⟨g0, hg0⟩ : ∃ g, g = w.heap.size := ⟨_, rfl⟩
  obtain ⟨g1, hg1⟩ : ∃ g, g = w.heap.size + 1 := ⟨_, rfl⟩
  have P0 := Lib.hid (show Cells W0 g0 26 #[.bool v1, .int .u64 (h1 : Int), .int .u64 (l1 : Int), .bool v2, .int .u64 (h2 : Int), .int .u64 (l2 : Int)] by rw [hW0, hg0]; exact alloc2_0 w _ _)
  have Q0 := Lib.hid (show Cells W0 g1 29 #[.int .i64 src, .int .i64 dst, .string P] by rw [hW0, hg1]; exact heap2 w _ _)
  have B0 := Lib.hid (show Below w.heap.size w W0 by rw [hW0]; exact ((Below.refl _ _).alloc (Nat.le_refl _) _).alloc (by simp) _)
  have K0 := Lib.hid (H.keep w W0 hT B0.out)
  have HL := Lib.hid (fun (W : World) (hW : T W) => awk13 H W hW)
  obtain ⟨R, hR⟩ : ∃ R, R = encU ⟨v1, h1, l1⟩ ⟨v2, h2, l2⟩ ⟨src, dst, pay⟩ := ⟨_, rfl⟩
  have H1 := Lib.hid (fun (W : World) (hW : T W) => show Calls Tryd.prog 10 #[.agg #[.bool v1, .int .u64 (h1 : Int), .int .u64 (l1 : Int)], .agg #[.bool v2, .int .u64 (h2 : Int), .int .u64 (l2 : Int)], .agg #[.int .i64 src, .int .i64 dst, .string P]] W fun e w' => e = .returned (.tuple #[.string (str R.1), .int .i64 (R.2 : Int)]) ∧ Below W.heap.size W w' from by rw [hP, hR]; exact H.enc v1 v2 h1 l1 h2 l2 src dst pay W hW ha hb hw)
  have H2 := Lib.hid (fun (W : World) => show Calls Tryd.prog 11 #[.agg #[.bool v1, .int .u64 (h1 : Int), .int .u64 (l1 : Int)], .agg #[.bool v2, .int .u64 (h2 : Int), .int .u64 (l2 : Int)], .agg #[.int .i64 src, .int .i64 dst, .string P]] W fun e w' => e = .returned (.tuple #[.string (str R.1), .int .i64 (R.2 : Int)]) ∧ Below W.heap.size W w' from by rw [hP, hR]; exact renc13_any v1 v2 h1 l1 h2 l2 src dst pay W ha hb hw.2.2)
  have HK := Lib.hid H.keep
  clear hR hT hP hw ha hb
  by_cases hl : 300 < P.size ∧ P.size ≤ 65507
  · have d0 : decide ((300 : Int) < (P.size : Int)) = true := by simp; omega
    have n0 : (300 : Int) < (P.size : Int) := by omega
    have d1 : decide ((P.size : Int) ≤ 65507) = true := by simp; omega
    have n1 : (P.size : Int) ≤ 65507 := by omega
    clear hl
    go_enter Tryd.func4, Tryd.ntmps4
    go_upto_region 1 with fail
    rw [← hW0, ← hg1, ← hg0]
    clear hW0 hg0 hg1
    have x0 := (Cells.cell P0.out 0).trans (show _ = some (Value.bool v1) from rfl)
    have x1 := (Cells.cell P0.out 1).trans (show _ = some (Value.int .u64 (h1 : Int)) from rfl)
    have x2 := (Cells.cell P0.out 2).trans (show _ = some (Value.int .u64 (l1 : Int)) from rfl)
    have x3 := (Cells.cell P0.out 3).trans (show _ = some (Value.bool v2) from rfl)
    have x4 := (Cells.cell P0.out 4).trans (show _ = some (Value.int .u64 (h2 : Int)) from rfl)
    have x5 := (Cells.cell P0.out 5).trans (show _ = some (Value.int .u64 (l2 : Int)) from rfl)
    have u0 := (Cells.cell Q0.out 0).trans (show _ = some (Value.int .i64 src) from rfl)
    have u1 := (Cells.cell Q0.out 1).trans (show _ = some (Value.int .i64 dst) from rfl)
    have u2 := (Cells.cell Q0.out 2).trans (show _ = some (Value.string P) from rfl)
    go_wp2_with fail
    refine (HL.out _ K0.out).mono ?_
    rintro e w9 ⟨rfl, b9⟩
    go_wp2_with fail
    go_ret
    exact ⟨rfl, B0.out.trans (b9.mono B0.out.size)⟩
  obtain ⟨⟨es, er⟩, hRR⟩ : ∃ Q, Q = R := ⟨_, rfl⟩
  rw [← hRR] at H1 H2
  dsimp only at H1 H2
  obtain ⟨E, hE⟩ : ∃ E, E = str es := ⟨_, rfl⟩
  rw [← hE] at H1 H2
  clear hE hRR
  have her : ((er : Int) == (er : Int)) = true := beq_self_eq_true _
  have hry : (E.toList == E.toList) = true := beq_self_eq_true _
  have hcs : decide ((300 : Int) < (P.size : Int)) = false ∨ (decide ((300 : Int) < (P.size : Int)) = true ∧ decide ((P.size : Int) ≤ 65507) = false) := by
    simp only [decide_eq_true_eq, decide_eq_false_iff_not]
    omega
  clear hl
  rcases hcs with d0 | ⟨d0, d1⟩
  · go_enter Tryd.func4, Tryd.ntmps4
    go_upto_region 1 with fail
    rw [← hW0, ← hg1, ← hg0]
    clear hW0 hg0 hg1
    have x0 := (Cells.cell P0.out 0).trans (show _ = some (Value.bool v1) from rfl)
    have x1 := (Cells.cell P0.out 1).trans (show _ = some (Value.int .u64 (h1 : Int)) from rfl)
    have x2 := (Cells.cell P0.out 2).trans (show _ = some (Value.int .u64 (l1 : Int)) from rfl)
    have x3 := (Cells.cell P0.out 3).trans (show _ = some (Value.bool v2) from rfl)
    have x4 := (Cells.cell P0.out 4).trans (show _ = some (Value.int .u64 (h2 : Int)) from rfl)
    have x5 := (Cells.cell P0.out 5).trans (show _ = some (Value.int .u64 (l2 : Int)) from rfl)
    have u0 := (Cells.cell Q0.out 0).trans (show _ = some (Value.int .i64 src) from rfl)
    have u1 := (Cells.cell Q0.out 1).trans (show _ = some (Value.int .i64 dst) from rfl)
    have u2 := (Cells.cell Q0.out 2).trans (show _ = some (Value.string P) from rfl)
    go_wp2_with fail
    refine (H1.out _ K0.out).mono ?_
    rintro e w1 ⟨rfl, b1⟩
    have P1 := Lib.hid (P0.out.kept b1 P0.out.lt)
    have Q1 := Lib.hid (Q0.out.kept b1 Q0.out.lt)
    have K1 := Lib.hid (HK.out _ _ K0.out b1)
    have B1 := Lib.hid (B0.out.trans (b1.mono B0.out.size))
    clear b1 P0 Q0 K0 B0 x0 x1 x2 x3 x4 x5 u0 u1 u2
    have x0 := (Cells.cell P1.out 0).trans (show _ = some (Value.bool v1) from rfl)
    have x1 := (Cells.cell P1.out 1).trans (show _ = some (Value.int .u64 (h1 : Int)) from rfl)
    have x2 := (Cells.cell P1.out 2).trans (show _ = some (Value.int .u64 (l1 : Int)) from rfl)
    have x3 := (Cells.cell P1.out 3).trans (show _ = some (Value.bool v2) from rfl)
    have x4 := (Cells.cell P1.out 4).trans (show _ = some (Value.int .u64 (h2 : Int)) from rfl)
    have x5 := (Cells.cell P1.out 5).trans (show _ = some (Value.int .u64 (l2 : Int)) from rfl)
    have u0 := (Cells.cell Q1.out 0).trans (show _ = some (Value.int .i64 src) from rfl)
    have u1 := (Cells.cell Q1.out 1).trans (show _ = some (Value.int .i64 dst) from rfl)
    have u2 := (Cells.cell Q1.out 2).trans (show _ = some (Value.string P) from rfl)
    go_wp2_with fail
    refine (H2.out _).mono ?_
    rintro e w2 ⟨rfl, b2⟩
    have P2 := Lib.hid (P1.out.kept b2 P1.out.lt)
    have Q2 := Lib.hid (Q1.out.kept b2 Q1.out.lt)
    have K2 := Lib.hid (HK.out _ _ K1.out b2)
    have B2 := Lib.hid (B1.out.trans (b2.mono B1.out.size))
    clear b2 P1 Q1 K1 B1 x0 x1 x2 x3 x4 x5 u0 u1 u2
    have x0 := (Cells.cell P2.out 0).trans (show _ = some (Value.bool v1) from rfl)
    have x1 := (Cells.cell P2.out 1).trans (show _ = some (Value.int .u64 (h1 : Int)) from rfl)
    have x2 := (Cells.cell P2.out 2).trans (show _ = some (Value.int .u64 (l1 : Int)) from rfl)
    have x3 := (Cells.cell P2.out 3).trans (show _ = some (Value.bool v2) from rfl)
    have x4 := (Cells.cell P2.out 4).trans (show _ = some (Value.int .u64 (h2 : Int)) from rfl)
    have x5 := (Cells.cell P2.out 5).trans (show _ = some (Value.int .u64 (l2 : Int)) from rfl)
    have u0 := (Cells.cell Q2.out 0).trans (show _ = some (Value.int .i64 src) from rfl)
    have u1 := (Cells.cell Q2.out 1).trans (show _ = some (Value.int .i64 dst) from rfl)
    have u2 := (Cells.cell Q2.out 2).trans (show _ = some (Value.string P) from rfl)
    go_wp2_with fail
    refine (HL.out _ K2.out).mono ?_
    rintro e w9 ⟨rfl, b9⟩
    go_wp2_with fail
    go_ret
    exact ⟨rfl, B2.out.trans (b9.mono B2.out.size)⟩
  · go_enter Tryd.func4, Tryd.ntmps4
    go_upto_region 1 with fail
    rw [← hW0, ← hg1, ← hg0]
    clear hW0 hg0 hg1
    have x0 := (Cells.cell P0.out 0).trans (show _ = some (Value.bool v1) from rfl)
    have x1 := (Cells.cell P0.out 1).trans (show _ = some (Value.int .u64 (h1 : Int)) from rfl)
    have x2 := (Cells.cell P0.out 2).trans (show _ = some (Value.int .u64 (l1 : Int)) from rfl)
    have x3 := (Cells.cell P0.out 3).trans (show _ = some (Value.bool v2) from rfl)
    have x4 := (Cells.cell P0.out 4).trans (show _ = some (Value.int .u64 (h2 : Int)) from rfl)
    have x5 := (Cells.cell P0.out 5).trans (show _ = some (Value.int .u64 (l2 : Int)) from rfl)
    have u0 := (Cells.cell Q0.out 0).trans (show _ = some (Value.int .i64 src) from rfl)
    have u1 := (Cells.cell Q0.out 1).trans (show _ = some (Value.int .i64 dst) from rfl)
    have u2 := (Cells.cell Q0.out 2).trans (show _ = some (Value.string P) from rfl)
    go_wp2_with fail
    refine (H1.out _ K0.out).mono ?_
    rintro e w1 ⟨rfl, b1⟩
    have P1 := Lib.hid (P0.out.kept b1 P0.out.lt)
    have Q1 := Lib.hid (Q0.out.kept b1 Q0.out.lt)
    have K1 := Lib.hid (HK.out _ _ K0.out b1)
    have B1 := Lib.hid (B0.out.trans (b1.mono B0.out.size))
    clear b1 P0 Q0 K0 B0 x0 x1 x2 x3 x4 x5 u0 u1 u2
    have x0 := (Cells.cell P1.out 0).trans (show _ = some (Value.bool v1) from rfl)
    have x1 := (Cells.cell P1.out 1).trans (show _ = some (Value.int .u64 (h1 : Int)) from rfl)
    have x2 := (Cells.cell P1.out 2).trans (show _ = some (Value.int .u64 (l1 : Int)) from rfl)
    have x3 := (Cells.cell P1.out 3).trans (show _ = some (Value.bool v2) from rfl)
    have x4 := (Cells.cell P1.out 4).trans (show _ = some (Value.int .u64 (h2 : Int)) from rfl)
    have x5 := (Cells.cell P1.out 5).trans (show _ = some (Value.int .u64 (l2 : Int)) from rfl)
    have u0 := (Cells.cell Q1.out 0).trans (show _ = some (Value.int .i64 src) from rfl)
    have u1 := (Cells.cell Q1.out 1).trans (show _ = some (Value.int .i64 dst) from rfl)
    have u2 := (Cells.cell Q1.out 2).trans (show _ = some (Value.string P) from rfl)
    go_wp2_with fail
    refine (H2.out _).mono ?_
    rintro e w2 ⟨rfl, b2⟩
    have P2 := Lib.hid (P1.out.kept b2 P1.out.lt)
    have Q2 := Lib.hid (Q1.out.kept b2 Q1.out.lt)
    have K2 := Lib.hid (HK.out _ _ K1.out b2)
    have B2 := Lib.hid (B1.out.trans (b2.mono B1.out.size))
    clear b2 P1 Q1 K1 B1 x0 x1 x2 x3 x4 x5 u0 u1 u2
    have x0 := (Cells.cell P2.out 0).trans (show _ = some (Value.bool v1) from rfl)
    have x1 := (Cells.cell P2.out 1).trans (show _ = some (Value.int .u64 (h1 : Int)) from rfl)
    have x2 := (Cells.cell P2.out 2).trans (show _ = some (Value.int .u64 (l1 : Int)) from rfl)
    have x3 := (Cells.cell P2.out 3).trans (show _ = some (Value.bool v2) from rfl)
    have x4 := (Cells.cell P2.out 4).trans (show _ = some (Value.int .u64 (h2 : Int)) from rfl)
    have x5 := (Cells.cell P2.out 5).trans (show _ = some (Value.int .u64 (l2 : Int)) from rfl)
    have u0 := (Cells.cell Q2.out 0).trans (show _ = some (Value.int .i64 src) from rfl)
    have u1 := (Cells.cell Q2.out 1).trans (show _ = some (Value.int .i64 dst) from rfl)
    have u2 := (Cells.cell Q2.out 2).trans (show _ = some (Value.string P) from rfl)
    go_wp2_with fail
    refine (HL.out _ K2.out).mono ?_
    rintro e w9 ⟨rfl, b9⟩
    go_wp2_with fail
    go_ret
    exact ⟨rfl, B2.out.trans (b9.mono B2.out.size)⟩
end Go.Proofs.YtnpklepafpdadaaDoor
