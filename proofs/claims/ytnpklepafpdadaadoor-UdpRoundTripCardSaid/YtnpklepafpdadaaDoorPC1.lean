/- Contracts of the functions, further part 1: UTrip. -/
import Derived.Deep.Cut
import Derived.Deep.WholeRow
import Derived.Test.YtnpklepafpdadaaDoorPA27
/- The laws of layer 13 about the way there and back: the walks, over the bundle. -/
namespace Go.Proofs.YtnpklepafpdadaaDoor
open Go.ChangeShapes Go.WideShapes Go.ChangeAt Go.RowKit
set_option linter.unusedVariables false

set_option maxHeartbeats 4000000 in
set_option maxRecDepth 20000 in
theorem walkR13 {T : World → Prop} (H : P13 T) (v1 v2 : Bool) (h1 l1 h2 l2 : Nat) (src dst : Int) (pay : List UInt8) (s : ByteArray) (w : World) (hT : T w) (ha : fits13 ⟨v1, h1, l1⟩) (hb : fits13 ⟨v2, h2, l2⟩) (hw : udpWf ⟨src, dst, pay⟩) :
    Calls Tryd.prog 5 #[.agg #[.bool v1, .int .u64 (h1 : Int), .int .u64 (l1 : Int), .bool v2, .int .u64 (h2 : Int), .int .u64 (l2 : Int)], .agg #[.int .i64 src, .int .i64 dst, .string (str pay)], .string s] w fun e w' => e = .returned (.bool true) ∧ Below w.heap.size w w' := by
  obtain ⟨P, hP⟩ : ∃ P, P = str pay := ⟨_, rfl⟩
  have hPs : P.size = pay.length := by rw [hP, str_size]
  rw [← hP]
  obtain ⟨W0, hW0⟩ : ∃ W, W = (w.alloc (.cells #[.bool v1, .int .u64 (h1 : Int), .int .u64 (l1 : Int), .bool v2, .int .u64 (h2 : Int), .int .u64 (l2 : Int)] 26)).alloc (.cells #[.int .i64 src, .int .i64 dst, .string P] 29) := ⟨_, rfl⟩
  obtain ⟨g0, hg0⟩ : ∃ g, g = w.heap.size := ⟨_, rfl⟩
  obtain ⟨g1, hg1⟩ : ∃ g, g = w.heap.size + 1 := ⟨_, rfl⟩
  have P0 := Lib.hid (show Cells W0 g0 26 #[.bool v1, .int .u64 (h1 : Int), .int .u64 (l1 : Int), .bool v2, .int .u64 (h2 : Int), .int .u64 (l2 : Int)] by rw [hW0, hg0]; exact alloc2_0 w _ _)
  have Q0 := Lib.hid (show Cells W0 g1 29 #[.int .i64 src, .int .i64 dst, .string P] by rw [hW0, hg1]; exact heap2 w _ _)
  have B0 := Lib.hid (show Below w.heap.size w W0 by rw [hW0]; exact ((Below.refl _ _).alloc (Nat.le_refl _) _).alloc (by simp) _)
  have K0 := Lib.hid (H.keep w W0 hT B0.out)
  have HL := Lib.hid (fun (W : World) (hW : T W) => awk13 H W hW)
  have HK := Lib.hid H.keep
  obtain ⟨R, hR⟩ : ∃ R, R = encU ⟨v1, h1, l1⟩ ⟨v2, h2, l2⟩ ⟨src, dst, pay⟩ := ⟨_, rfl⟩
  have H1 := Lib.hid (fun (W : World) (hW : T W) => show Calls Tryd.prog 10 #[.agg #[.bool v1, .int .u64 (h1 : Int), .int .u64 (l1 : Int)], .agg #[.bool v2, .int .u64 (h2 : Int), .int .u64 (l2 : Int)], .agg #[.int .i64 src, .int .i64 dst, .string P]] W fun e w' => e = .returned (.tuple #[.string (str R.1), .int .i64 (R.2 : Int)]) ∧ Below W.heap.size W w' from by rw [hP, hR]; exact H.enc v1 v2 h1 l1 h2 l2 src dst pay W hW ha hb hw)
  by_cases hl : 300 < P.size ∨ 300 < s.size
  · have hcs : decide ((300 : Int) < (P.size : Int)) = true ∨ (decide ((300 : Int) < (P.size : Int)) = false ∧ decide ((300 : Int) < (s.size : Int)) = true) := by
      simp only [decide_eq_true_eq, decide_eq_false_iff_not]
      omega
    clear hl hR hT hP hw ha hb hPs
    rcases hcs with d0 | ⟨d0, d1⟩
    · go_enter Tryd.func5, Tryd.ntmps5
      go_upto_region 1 with fail
      rw [← hW0, ← hg1, ← hg0]
      clear hW0 hg0 hg1
      have x0 := (Cells.cell P0.out 0).trans (show _ = some (Value.bool v1) from rfl)
      have x1 := (Cells.cell P0.out 1).trans (show _ = some (Value.int .u64 (h1 : Int)) from rfl)
      have x2 := (Cells.cell P0.out 2).trans (show _ = some (Value.int .u64 (l1 : Int)) from rfl)
      have x3 := (Cells.cell P0.out 3).trans (show _ = some (Value.bool v2) from rfl)
      have x4 := (Cells.cell P0.out 4).trans (show _ = some (Value.int .u64 (h2 : Int)) from rfl)
      have x5 := (Cells.cell P0.out 5).trans (show _ = some (Value.int .u64 (l2 : Int)) from rfl)
      have u0 := (Cells.cell Q0.out 0).trans (show _ = some (Value.int .i64 src) from rfl)
      have u1 := (Cells.cell Q0.out 1).trans (show _ = some (Value.int .i64 dst) from rfl)
      have u2 := (Cells.cell Q0.out 2).trans (show _ = some (Value.string P) from rfl)
      go_wp2_with fail
      refine (HL.out _ K0.out).mono ?_
      rintro e w9 ⟨rfl, b9⟩
      go_wp2_with fail
      go_ret
      exact ⟨rfl, B0.out.trans (b9.mono B0.out.size)⟩
    · go_enter Tryd.func5, Tryd.ntmps5
      go_upto_region 1 with fail
      rw [← hW0, ← hg1, ← hg0]
      clear hW0 hg0 hg1
      have x0 := (Cells.cell P0.out 0).trans (show _ = some (Value.bool v1) from rfl)
      have x1 := (Cells.cell P0.out 1).trans (show _ = some (Value.int .u64 (h1 : Int)) from rfl)
      have x2 := (Cells.cell P0.out 2).trans (show _ = some (Value.int .u64 (l1 : Int)) from rfl)
      have x3 := (Cells.cell P0.out 3).trans (show _ = some (Value.bool v2) from rfl)
      have x4 := (Cells.cell P0.out 4).trans (show _ = some (Value.int .u64 (h2 : Int)) from rfl)
      have x5 := (Cells.cell P0.out 5).trans (show _ = some (Value.int .u64 (l2 : Int)) from rfl)
      have u0 := (Cells.cell Q0.out 0).trans (show _ = some (Value.int .i64 src) from rfl)
      have u1 := (Cells.cell Q0.out 1).trans (show _ = some (Value.int .i64 dst) from rfl)
      have u2 := (Cells.cell Q0.out 2).trans (show _ = some (Value.string P) from rfl)
      go_wp2_with fail
      refine (HL.out _ K0.out).mono ?_
      rintro e w9 ⟨rfl, b9⟩
      go_wp2_with fail
      go_ret
      exact ⟨rfl, B0.out.trans (b9.mono B0.out.size)⟩
  have d0 : decide ((300 : Int) < (P.size : Int)) = false := by simp; omega
  have d1 : decide ((300 : Int) < (s.size : Int)) = false := by simp; omega
  have n0 : ¬ (300 : Int) < (P.size : Int) := by omega
  have n1 : ¬ (300 : Int) < (s.size : Int) := by omega
  obtain ⟨⟨es, er⟩, hRR⟩ : ∃ Q, Q = R := ⟨_, rfl⟩
  rw [← hRR] at H1 hR
  dsimp only at H1
  by_cases he : er ≠ 0
  · have hes : es = [] := by have := encU_bad (show (encU ⟨v1, h1, l1⟩ ⟨v2, h2, l2⟩ ⟨src, dst, pay⟩).2 ≠ 0 by rw [← hR]; exact he); rwa [← hR] at this
    subst hes
    have H1' := Lib.hid (fun (W : World) (hW : T W) => show Calls Tryd.prog 10 #[.agg #[.bool v1, .int .u64 (h1 : Int), .int .u64 (l1 : Int)], .agg #[.bool v2, .int .u64 (h2 : Int), .int .u64 (l2 : Int)], .agg #[.int .i64 src, .int .i64 dst, .string P]] W fun e w' => e = .returned (.tuple #[.string ⟨#[]⟩, .int .i64 (er : Int)]) ∧ Below W.heap.size W w' from H1.out W hW)
    have z1 : ((er : Int) != 0) = true := by rw [bne_iff_ne]; omega
    have z2 : ¬ (er : Int) = 0 := by omega
    clear hl hR hT hP hw ha hb hPs hRR he H1
    go_enter Tryd.func5, Tryd.ntmps5
    go_upto_region 1 with fail
    rw [← hW0, ← hg1, ← hg0]
    clear hW0 hg0 hg1
    have x0 := (Cells.cell P0.out 0).trans (show _ = some (Value.bool v1) from rfl)
    have x1 := (Cells.cell P0.out 1).trans (show _ = some (Value.int .u64 (h1 : Int)) from rfl)
    have x2 := (Cells.cell P0.out 2).trans (show _ = some (Value.int .u64 (l1 : Int)) from rfl)
    have x3 := (Cells.cell P0.out 3).trans (show _ = some (Value.bool v2) from rfl)
    have x4 := (Cells.cell P0.out 4).trans (show _ = some (Value.int .u64 (h2 : Int)) from rfl)
    have x5 := (Cells.cell P0.out 5).trans (show _ = some (Value.int .u64 (l2 : Int)) from rfl)
    have u0 := (Cells.cell Q0.out 0).trans (show _ = some (Value.int .i64 src) from rfl)
    have u1 := (Cells.cell Q0.out 1).trans (show _ = some (Value.int .i64 dst) from rfl)
    have u2 := (Cells.cell Q0.out 2).trans (show _ = some (Value.string P) from rfl)
    go_wp2_with fail
    refine (H1'.out _ K0.out).mono ?_
    rintro e w1 ⟨rfl, b1⟩
    have P1 := Lib.hid (P0.out.kept b1 P0.out.lt)
    have Q1 := Lib.hid (Q0.out.kept b1 Q0.out.lt)
    have K1 := Lib.hid (HK.out _ _ K0.out b1)
    have B1 := Lib.hid (B0.out.trans (b1.mono B0.out.size))
    clear b1 P0 Q0 K0 B0 x0 x1 x2 x3 x4 x5 u0 u1 u2
    have x0 := (Cells.cell P1.out 0).trans (show _ = some (Value.bool v1) from rfl)
    have x1 := (Cells.cell P1.out 1).trans (show _ = some (Value.int .u64 (h1 : Int)) from rfl)
    have x2 := (Cells.cell P1.out 2).trans (show _ = some (Value.int .u64 (l1 : Int)) from rfl)
    have x3 := (Cells.cell P1.out 3).trans (show _ = some (Value.bool v2) from rfl)
    have x4 := (Cells.cell P1.out 4).trans (show _ = some (Value.int .u64 (h2 : Int)) from rfl)
    have x5 := (Cells.cell P1.out 5).trans (show _ = some (Value.int .u64 (l2 : Int)) from rfl)
    have u0 := (Cells.cell Q1.out 0).trans (show _ = some (Value.int .i64 src) from rfl)
    have u1 := (Cells.cell Q1.out 1).trans (show _ = some (Value.int .i64 dst) from rfl)
    have u2 := (Cells.cell Q1.out 2).trans (show _ = some (Value.string P) from rfl)
    go_wp2_with fail
    refine (HL.out _ K1.out).mono ?_
    rintro e w9 ⟨rfl, b9⟩
    go_wp2_with fail
    go_ret
    exact ⟨rfl, B1.out.trans (b9.mono B1.out.size)⟩
  obtain rfl : er = 0 := Classical.not_not.1 he
  obtain ⟨L, hL⟩ : ∃ L, L = s.data.toList := ⟨_, rfl⟩
  have hlen : L.length = s.size := by rw [hL]; show s.data.toList.length = s.data.size; simp only [Array.length_toList]
  have hsL : s = str L := by rw [hL]; exact (str_of s).symm
  obtain ⟨g2, g3, g4⟩ := dec_encU (show encU ⟨v1, h1, l1⟩ ⟨v2, h2, l2⟩ ⟨src, dst, pay⟩ = (es, 0) from hR.symm) L
  obtain ⟨E, hE⟩ : ∃ E, E = str es := ⟨_, rfl⟩
  have hEs : E.size = 8 + P.size := by rw [hE, str_size, hPs]; exact g3
  have H2 := Lib.hid (fun (W : World) (hW : T W) => show Calls Tryd.prog 8 #[.agg #[.bool v1, .int .u64 (h1 : Int), .int .u64 (l1 : Int)], .agg #[.bool v2, .int .u64 (h2 : Int), .int .u64 (l2 : Int)], .string (E ++ s)] W fun e w' => e = .returned (.tuple #[.agg #[.int .i64 src, .int .i64 dst, .string P], .int .i64 0]) ∧ Below W.heap.size W w' from by
    have := H.dec v1 v2 h1 l1 h2 l2 (es ++ L) W hW ha hb (by rw [List.length_append]; omega)
    rw [g2] at this
    rw [hE, hsL, hP, str_append]
    exact this)
  rw [← hE] at H1
  have kZ : (8 : Int) + (P.size : Int) = (E.size : Int) := by omega
  have hEE : ((E.size : Int) == (E.size : Int)) = true := beq_self_eq_true _
  have r1 : (9223372036854775807 < E.size + s.size) = False := by simp only [eq_iff_iff, iff_false]; omega
  have hEl : E.size ≤ 308 := by omega
  have hrs : (src == src) = true := beq_self_eq_true _
  have hrd : (dst == dst) = true := beq_self_eq_true _
  have hry : (P.toList == P.toList) = true := beq_self_eq_true _
  clear hl hR hT hP hw ha hb hPs hRR he hL hlen hsL g2 g3 g4 hE hEs
  go_enter Tryd.func5, Tryd.ntmps5
  go_upto_region 1 with fail
  rw [← hW0, ← hg1, ← hg0]
  clear hW0 hg0 hg1
  have x0 := (Cells.cell P0.out 0).trans (show _ = some (Value.bool v1) from rfl)
  have x1 := (Cells.cell P0.out 1).trans (show _ = some (Value.int .u64 (h1 : Int)) from rfl)
  have x2 := (Cells.cell P0.out 2).trans (show _ = some (Value.int .u64 (l1 : Int)) from rfl)
  have x3 := (Cells.cell P0.out 3).trans (show _ = some (Value.bool v2) from rfl)
  have x4 := (Cells.cell P0.out 4).trans (show _ = some (Value.int .u64 (h2 : Int)) from rfl)
  have x5 := (Cells.cell P0.out 5).trans (show _ = some (Value.int .u64 (l2 : Int)) from rfl)
  have u0 := (Cells.cell Q0.out 0).trans (show _ = some (Value.int .i64 src) from rfl)
  have u1 := (Cells.cell Q0.out 1).trans (show _ = some (Value.int .i64 dst) from rfl)
  have u2 := (Cells.cell Q0.out 2).trans (show _ = some (Value.string P) from rfl)
  go_wp2_with fail
  refine (H1.out _ K0.out).mono ?_
  rintro e w1 ⟨rfl, b1⟩
  have P1 := Lib.hid (P0.out.kept b1 P0.out.lt)
  have Q1 := Lib.hid (Q0.out.kept b1 Q0.out.lt)
  have K1 := Lib.hid (HK.out _ _ K0.out b1)
  have B1 := Lib.hid (B0.out.trans (b1.mono B0.out.size))
  clear b1 P0 Q0 K0 B0 H1 x0 x1 x2 x3 x4 x5 u0 u1 u2
  have x0 := (Cells.cell P1.out 0).trans (show _ = some (Value.bool v1) from rfl)
  have x1 := (Cells.cell P1.out 1).trans (show _ = some (Value.int .u64 (h1 : Int)) from rfl)
  have x2 := (Cells.cell P1.out 2).trans (show _ = some (Value.int .u64 (l1 : Int)) from rfl)
  have x3 := (Cells.cell P1.out 3).trans (show _ = some (Value.bool v2) from rfl)
  have x4 := (Cells.cell P1.out 4).trans (show _ = some (Value.int .u64 (h2 : Int)) from rfl)
  have x5 := (Cells.cell P1.out 5).trans (show _ = some (Value.int .u64 (l2 : Int)) from rfl)
  have u0 := (Cells.cell Q1.out 0).trans (show _ = some (Value.int .i64 src) from rfl)
  have u1 := (Cells.cell Q1.out 1).trans (show _ = some (Value.int .i64 dst) from rfl)
  have u2 := (Cells.cell Q1.out 2).trans (show _ = some (Value.string P) from rfl)
  go_wp2_with fail
  refine (H2.out _ K1.out).mono ?_
  rintro e w3 ⟨rfl, b3⟩
  have X3 := Lib.hid (Q1.out.kept b3 Q1.out.lt)
  have K3 := Lib.hid (HK.out _ _ K1.out b3)
  have B3 := Lib.hid (B1.out.trans (b3.mono B1.out.size))
  clear b3 P1 K1 B1 H2 x0 x1 x2 x3 x4 x5 u0 u1 u2 Q1
  go_upto_region 7 with fail
  obtain ⟨W4, hW4⟩ : ∃ W, W = w3.alloc (.cells #[.int .i64 src, .int .i64 dst, .string P] 29) := ⟨_, rfl⟩
  obtain ⟨g2, hg2⟩ : ∃ g, g = w3.heap.size := ⟨_, rfl⟩
  have Y4 := Lib.hid (show Cells W4 g2 29 #[.int .i64 src, .int .i64 dst, .string P] by rw [hW4, hg2]; exact heap_alloc_new w3 _)
  have kW4 : Below w3.heap.size w3 W4 := by rw [hW4]; exact below_alloc6 w3 _
  have B4 := Lib.hid (B3.out.trans (kW4.mono B3.out.size))
  have X4 := Lib.hid (X3.out.kept kW4 X3.out.lt)
  have K4 := Lib.hid (HK.out _ _ K3.out kW4)
  rw [← hW4, ← hg2]
  clear hW4 hg2 kW4 B3 X3 K3
  have u0 := (Cells.cell X4.out 0).trans (show _ = some (Value.int .i64 src) from rfl)
  have u1 := (Cells.cell X4.out 1).trans (show _ = some (Value.int .i64 dst) from rfl)
  have u2 := (Cells.cell X4.out 2).trans (show _ = some (Value.string P) from rfl)
  have y0 := (Cells.cell Y4.out 0).trans (show _ = some (Value.int .i64 src) from rfl)
  have y1 := (Cells.cell Y4.out 1).trans (show _ = some (Value.int .i64 dst) from rfl)
  have y2 := (Cells.cell Y4.out 2).trans (show _ = some (Value.string P) from rfl)
  go_wp2_with fail
  refine (HL.out _ K4.out).mono ?_
  rintro e w9 ⟨rfl, b9⟩
  go_wp2_with fail
  go_ret
  exact ⟨rfl, B4.out.trans (b9.mono B4.out.size)⟩
end Go.Proofs.YtnpklepafpdadaaDoor
