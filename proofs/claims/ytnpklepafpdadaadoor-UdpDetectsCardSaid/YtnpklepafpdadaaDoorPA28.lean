/- Contracts of the functions, part 28: UDecs, EthREnc. -/
import Derived.Deep.Cut
import Derived.Deep.WholeRow
import Derived.Test.YtnpklepafpdadaaDoorPA24
import Derived.Test.YtnpklepafpdadaaDoorPA27
/- The laws of layer 13 about Decode and Encode beside the reference: the walks, over the bundle. -/
namespace Go.Proofs.YtnpklepafpdadaaDoor
open Go.ChangeShapes Go.WideShapes Go.ChangeAt Go.RowKit
set_option linter.unusedVariables false

set_option maxHeartbeats 4000000 in
set_option maxRecDepth 20000 in
theorem walkD13 {T : World → Prop} (H : P13 T) (v1 v2 : Bool) (h1 l1 h2 l2 : Nat) (s : ByteArray) (w : World) (hT : T w) (ha : fits13 ⟨v1, h1, l1⟩) (hb : fits13 ⟨v2, h2, l2⟩) :
    Calls Tryd.prog 3 #[.agg #[.bool v1, .int .u64 (h1 : Int), .int .u64 (l1 : Int), .bool v2, .int .u64 (h2 : Int), .int .u64 (l2 : Int)], .string s] w fun e w' => e = .returned (.bool true) ∧ Below w.heap.size w w' := by
  obtain ⟨W0, hW0⟩ : ∃ W, W = w.alloc (.cells #[.bool v1, .int .u64 (h1 : Int), .int .u64 (l1 : Int), .bool v2, .int .u64 (h2 : Int), .int .u64 (l2 : Int)] 26) := ⟨_, rfl⟩
  obtain ⟨g0, hg0⟩ : ∃ g, g = w.heap.size := ⟨_, rfl⟩
  have P0 := Lib.hid (show Cells W0 g0 26 #[.bool v1, .int .u64 (h1 : Int), .int .u64 (l1 : Int), .bool v2, .int .u64 (h2 : Int), .int .u64 (l2 : Int)] by rw [hW0, hg0]; exact heap_alloc_new w _)
  have B0 := Lib.hid (show Below w.heap.size w W0 by rw [hW0]; exact below_alloc6 w _)
  have K0 := Lib.hid (H.keep w W0 hT B0.out)
  have HL := Lib.hid (fun (W : World) (hW : T W) => awk13 H W hW)
  by_cases hl : 300 < s.size
  · have d0 : decide ((300 : Int) < (s.size : Int)) = true := by simp; omega
    have nd : (300 : Int) < (s.size : Int) := by omega
    go_enter Tryd.func3, Tryd.ntmps3
    go_upto_region 1 with fail
    rw [← hW0]
    clear hW0 hg0 hl
    go_wp2_with fail
    refine (HL.out _ K0.out).mono ?_
    rintro e w9 ⟨rfl, b9⟩
    go_wp2_with fail
    go_ret
    exact ⟨rfl, B0.out.trans (b9.mono B0.out.size)⟩
  have d0 : decide ((300 : Int) < (s.size : Int)) = false := by simp; omega
  have nd : ¬ (300 : Int) < (s.size : Int) := by omega
  obtain ⟨L, hL⟩ : ∃ L, L = s.data.toList := ⟨_, rfl⟩
  have hlen : L.length = s.size := by rw [hL]; show s.data.toList.length = s.data.size; simp only [Array.length_toList]
  have hsL : s = str L := by rw [hL]; exact (str_of s).symm
  obtain ⟨R, hR⟩ : ∃ R, R = decU ⟨v1, h1, l1⟩ ⟨v2, h2, l2⟩ L := ⟨_, rfl⟩
  have H1 := Lib.hid (fun (W : World) (hW : T W) => show Calls Tryd.prog 8 #[.agg #[.bool v1, .int .u64 (h1 : Int), .int .u64 (l1 : Int)], .agg #[.bool v2, .int .u64 (h2 : Int), .int .u64 (l2 : Int)], .string s] W (DecUP W R) from by rw [hsL, hR]; exact H.dec v1 v2 h1 l1 h2 l2 L W hW ha hb (by omega))
  have H2 := Lib.hid (fun (W : World) => show Calls Tryd.prog 9 #[.agg #[.bool v1, .int .u64 (h1 : Int), .int .u64 (l1 : Int)], .agg #[.bool v2, .int .u64 (h2 : Int), .int .u64 (l2 : Int)], .string s] W (DecUP W R) from by rw [hsL, hR]; exact rdec13_any v1 v2 h1 l1 h2 l2 L W ha hb (by omega))
  have HK := Lib.hid H.keep
  clear hL hlen hsL hl hR hT
  obtain ⟨⟨rs, rd, pay⟩, er⟩ := R
  obtain ⟨Y, hY⟩ : ∃ Y, Y = str pay := ⟨_, rfl⟩
  unfold DecUP at H1 H2
  dsimp only at H1 H2
  rw [← hY] at H1 H2
  clear hY
  have her : ((er : Int) == (er : Int)) = true := beq_self_eq_true _
  have hrs : (rs == rs) = true := beq_self_eq_true _
  have hrd : (rd == rd) = true := beq_self_eq_true _
  have hry : (Y.toList == Y.toList) = true := beq_self_eq_true _
  go_enter Tryd.func3, Tryd.ntmps3
  go_upto_region 1 with fail
  rw [← hW0, ← hg0]
  clear hW0 hg0
  have x0 := (Cells.cell P0.out 0).trans (show _ = some (Value.bool v1) from rfl)
  have x1 := (Cells.cell P0.out 1).trans (show _ = some (Value.int .u64 (h1 : Int)) from rfl)
  have x2 := (Cells.cell P0.out 2).trans (show _ = some (Value.int .u64 (l1 : Int)) from rfl)
  have x3 := (Cells.cell P0.out 3).trans (show _ = some (Value.bool v2) from rfl)
  have x4 := (Cells.cell P0.out 4).trans (show _ = some (Value.int .u64 (h2 : Int)) from rfl)
  have x5 := (Cells.cell P0.out 5).trans (show _ = some (Value.int .u64 (l2 : Int)) from rfl)
  go_wp2_with fail
  refine (H1.out _ K0.out).mono ?_
  rintro e w1 ⟨rfl, b1⟩
  have P1 := Lib.hid (P0.out.kept b1 P0.out.lt)
  have K1 := Lib.hid (HK.out _ _ K0.out b1)
  have B1 := Lib.hid (B0.out.trans (b1.mono B0.out.size))
  clear b1 P0 K0 B0 H1 x0 x1 x2 x3 x4 x5
  go_upto_region 4 with fail
  obtain ⟨W2, hW2⟩ : ∃ W, W = w1.alloc (.cells #[.int .i64 rs, .int .i64 rd, .string Y] 29) := ⟨_, rfl⟩
  obtain ⟨g1, hg1⟩ : ∃ g, g = w1.heap.size := ⟨_, rfl⟩
  have X2 := Lib.hid (show Cells W2 g1 29 #[.int .i64 rs, .int .i64 rd, .string Y] by rw [hW2, hg1]; exact heap_alloc_new w1 _)
  have kW2 : Below w1.heap.size w1 W2 := by rw [hW2]; exact below_alloc6 w1 _
  have B2 := Lib.hid (B1.out.trans (kW2.mono B1.out.size))
  have P2 := Lib.hid (P1.out.kept kW2 P1.out.lt)
  have K2 := Lib.hid (HK.out _ _ K1.out kW2)
  rw [← hW2, ← hg1]
  clear hW2 hg1 kW2 B1 P1 K1
  have x0 := (Cells.cell P2.out 0).trans (show _ = some (Value.bool v1) from rfl)
  have x1 := (Cells.cell P2.out 1).trans (show _ = some (Value.int .u64 (h1 : Int)) from rfl)
  have x2 := (Cells.cell P2.out 2).trans (show _ = some (Value.int .u64 (l1 : Int)) from rfl)
  have x3 := (Cells.cell P2.out 3).trans (show _ = some (Value.bool v2) from rfl)
  have x4 := (Cells.cell P2.out 4).trans (show _ = some (Value.int .u64 (h2 : Int)) from rfl)
  have x5 := (Cells.cell P2.out 5).trans (show _ = some (Value.int .u64 (l2 : Int)) from rfl)
  go_wp2_with fail
  refine (H2.out _).mono ?_
  rintro e w3 ⟨rfl, b3⟩
  have X3 := Lib.hid (X2.out.kept b3 X2.out.lt)
  have K3 := Lib.hid (HK.out _ _ K2.out b3)
  have B3 := Lib.hid (B2.out.trans (b3.mono B2.out.size))
  clear b3 P2 K2 B2 H2 x0 x1 x2 x3 x4 x5 X2
  go_upto_region 5 with fail
  obtain ⟨W4, hW4⟩ : ∃ W, W = w3.alloc (.cells #[.int .i64 rs, .int .i64 rd, .string Y] 29) := ⟨_, rfl⟩
  obtain ⟨g2, hg2⟩ : ∃ g, g = w3.heap.size := ⟨_, rfl⟩
  have Y4 := Lib.hid (show Cells W4 g2 29 #[.int .i64 rs, .int .i64 rd, .string Y] by rw [hW4, hg2]; exact heap_alloc_new w3 _)
  have kW4 : Below w3.heap.size w3 W4 := by rw [hW4]; exact below_alloc6 w3 _
  have B4 := Lib.hid (B3.out.trans (kW4.mono B3.out.size))
  have X4 := Lib.hid (X3.out.kept kW4 X3.out.lt)
  have K4 := Lib.hid (HK.out _ _ K3.out kW4)
  rw [← hW4, ← hg2]
  clear hW4 hg2 kW4 B3 X3 K3
  have x0 := (Cells.cell X4.out 0).trans (show _ = some (Value.int .i64 rs) from rfl)
  have x1 := (Cells.cell X4.out 1).trans (show _ = some (Value.int .i64 rd) from rfl)
  have x2 := (Cells.cell X4.out 2).trans (show _ = some (Value.string Y) from rfl)
  have y0 := (Cells.cell Y4.out 0).trans (show _ = some (Value.int .i64 rs) from rfl)
  have y1 := (Cells.cell Y4.out 1).trans (show _ = some (Value.int .i64 rd) from rfl)
  have y2 := (Cells.cell Y4.out 2).trans (show _ = some (Value.string Y) from rfl)
  go_wp2_with fail
  refine (HL.out _ K4.out).mono ?_
  rintro e w9 ⟨rfl, b9⟩
  go_wp2_with fail
  go_ret
  exact ⟨rfl, B4.out.trans (b9.mono B4.out.size)⟩
end Go.Proofs.YtnpklepafpdadaaDoor

/- Contract of the reference of layer 10: Encode. -/
namespace Go.Proofs.YtnpklepafpdadaaDoor
open Go.ChangeShapes Go.WideShapes Go.ChangeAt Go.RowKit
set_option linter.unusedVariables false

theorem add_ok10 {P Q : ByteArray} {a b : Nat} (h1 : P.size ≤ a) (h2 : Q.size ≤ b) (h : a + b ≤ 1000000000) : (9223372036854775807 < P.size + Q.size) = False := by
  simp only [eq_iff_iff, iff_false]; omega
theorem app_le10 {P Q : ByteArray} {a b : Nat} (h1 : P.size ≤ a) (h2 : Q.size ≤ b) : (P ++ Q).size ≤ a + b := by
  rw [ByteArray.size_append]; omega
theorem bad_of {x : EthR} (h : badE x) : encE x = ([], 4) := by unfold encE; rw [if_pos h]
theorem box_cell {w0 w : World} {g : Nat} {t : TypeId} {cs : Array Value} (h : Cells w0 g t cs) (hb : Below w0.heap.size w0 w) (i : Nat) (v : Value) (hv : cs[i]? = some v) : w.cell? ⟨g, i, none⟩ = some v :=
  ((Cells.cell (Cells.kept h hb (Cells.lt h)) i).trans hv)
end Go.Proofs.YtnpklepafpdadaaDoor
