/- Contracts of the functions, further part 1: VIns. -/
import Derived.Deep.Cut
import Derived.Deep.WholeRow
import Derived.Test.YtafpmlikocchpaaPA21
import Derived.Test.YtafpmlikocchpaaPA22
import Derived.Test.YtafpmlikocchpaaPA6
/- OverlapInserts: the walk, over the bundle P15. -/
namespace Go.Proofs.Ytafpmlikocchpaa
open Go.ChangeShapes Go.WideShapes Go.ChangeAt Go.RowKit
set_option linter.unusedVariables false
set_option maxRecDepth 100000

set_option maxHeartbeats 8000000 in
set_option maxRecDepth 100000 in
theorem walkI15 {T : World → Prop} (H : P15 T) (l : List PcR) (A : Option Addr) (c : Nat) (x : PcR) (pol : Int) (w : World) (hT : T w) (hr : RowL EPc w A l) (hA : A = none → c = 0) (hm : l.length ≤ maxLen) (hf : ∀ y ∈ l, pcWf y) (hx : pcWf x) (hp : (Lit.int .i64 pol).wf = true) :
    Calls Try.prog 4 #[.slice A l.length c, .agg (pcC x), .int .i64 pol] w fun e w' => e = .returned (.bool true) ∧ Below w.heap.size w w' := by
  obtain ⟨a, d, pf, pt⟩ := x
  obtain ⟨x1, x2, x3, x4⟩ := hx
  unfold pcC
  dsimp only at x1 x2 x3 x4 ⊢
  obtain ⟨D, hD⟩ : ∃ Y, Y = str d := ⟨_, rfl⟩
  have hDs : D.size = d.length := by rw [hD, str_size]
  obtain ⟨n, hn⟩ : ∃ n, n = l.length := ⟨_, rfl⟩
  rw [← hD, ← hn]
  obtain ⟨W0, hW0⟩ : ∃ W, W = w.alloc (.cells #[.int .i64 a, .string D, .int .i64 pf, .int .i64 pt] 23) := ⟨_, rfl⟩
  obtain ⟨gx, hgx⟩ : ∃ g, g = w.heap.size := ⟨_, rfl⟩
  have bx : Below w.heap.size w W0 := by rw [hW0]; exact below_alloc6 w _
  have px : Cells W0 gx 23 #[.int .i64 a, .string D, .int .i64 pf, .int .i64 pt] := by rw [hW0, hgx]; exact heap_alloc_new w _
  have B0 := Lib.hid (show Below w.heap.size w W0 from bx)
  have Px0 := Lib.hid (show Cells W0 gx 23 #[.int .i64 a, .string D, .int .i64 pf, .int .i64 pt] from px)
  have HK := Lib.hid H.keep
  have HL := Lib.hid (fun (W : World) (hW : T W) => awk15 H W hW)
  have K0 := Lib.hid (H.keep w W0 hT B0.out)
  have Rl0 := Lib.hid (hr.kept B0.out)
  have hF := (fun (W : World) (h : RowL EPc W A l) => show Calls Try.prog 13 #[.slice A n c, .int .i64 70, .int .i64 400] W fun e w' => e = .returned (.bool (fewB l 70 400)) ∧ Below W.heap.size W w' from by
    rw [hn]
    exact (rfew15_any l A c 70 400 70 400 rfl rfl W h hm (by decide) (by decide)).mono fun e w' ⟨h1, h2⟩ => ⟨h1, h2 ▸ Below.refl _ _⟩)
  cases hfw : fewB l 70 400 with
  | false =>
    rw [hfw] at hF
    have HF := Lib.hid hF
    clear hF hfw hr hA hm hf hn hD hDs x1 x2 x3 x4 hp hT
    have ex : gx = w.heap.size := by exact hgx
    have HW0 := Lib.hid hW0
    have Ex := Lib.hid ex
    clear hW0 hgx ex bx px
    go_enter Try.func4, Try.ntmps4
    go_upto_region 1 with fail
    rw [← HW0.out, ← Ex.out]
    clear HW0 Ex
    go_wp2_with fail
    refine (HF.out _ Rl0.out).mono ?_
    rintro e w1 ⟨rfl, hb⟩
    clear HF
    have Px1 := Lib.hid (Cells.kept Px0.out hb Px0.out.lt)
    have Rl1 := Lib.hid (Rl0.out.kept hb)
    have K1 := Lib.hid (HK.out _ _ K0.out hb)
    have B1 := Lib.hid (B0.out.trans (hb.mono B0.out.size))
    clear hb Px0 Rl0 K0 B0
    go_wp2_with fail
    refine (HL.out _ K1.out).mono ?_
    rintro e w99 ⟨rfl, hb⟩
    have BZ := Lib.hid (B1.out.trans (hb.mono B1.out.size))
    clear hb
    go_wp2_with fail
    go_ret
    exact ⟨rfl, BZ.out⟩
  | true =>
    rw [hfw] at hF
    have HF := Lib.hid hF
    obtain ⟨hl70, hz400⟩ := fewB_true hfw
    clear hF hfw
    by_cases hlong : 200 < D.size
    · have d0 : decide ((200 : Int) < (D.size : Int)) = true := by simp; omega
      have n0 : (200 : Int) < (D.size : Int) := by omega
      clear hlong hl70 hz400 hr hA hm hf hn hD hDs x1 x2 x3 x4 hp hT
      have ex : gx = w.heap.size := by exact hgx
      have HW0 := Lib.hid hW0
      have Ex := Lib.hid ex
      clear hW0 hgx ex bx px
      go_enter Try.func4, Try.ntmps4
      go_upto_region 1 with fail
      rw [← HW0.out, ← Ex.out]
      clear HW0 Ex
      go_wp2_with fail
      refine (HF.out _ Rl0.out).mono ?_
      rintro e w1 ⟨rfl, hb⟩
      clear HF
      have Px1 := Lib.hid (Cells.kept Px0.out hb Px0.out.lt)
      have Rl1 := Lib.hid (Rl0.out.kept hb)
      have K1 := Lib.hid (HK.out _ _ K0.out hb)
      have B1 := Lib.hid (B0.out.trans (hb.mono B0.out.size))
      clear hb Px0 Rl0 K0 B0
      have xx0 := (Cells.cell Px1.out 0).trans (show _ = some (Value.int .i64 a) from rfl)
      have xx1 := (Cells.cell Px1.out 1).trans (show _ = some (Value.string D) from rfl)
      have xx2 := (Cells.cell Px1.out 2).trans (show _ = some (Value.int .i64 pf) from rfl)
      have xx3 := (Cells.cell Px1.out 3).trans (show _ = some (Value.int .i64 pt) from rfl)
      go_wp2_with fail
      refine (HL.out _ K1.out).mono ?_
      rintro e w99 ⟨rfl, hb⟩
      have BZ := Lib.hid (B1.out.trans (hb.mono B1.out.size))
      clear hb
      go_wp2_with fail
      go_ret
      exact ⟨rfl, BZ.out⟩
    have d0 : decide ((200 : Int) < (D.size : Int)) = false := by simp; omega
    have n0 : ¬ (200 : Int) < (D.size : Int) := by omega
    have hV := fun (W : World) (h : RowL EPc W A l) => show Calls Try.prog 14 #[.slice A n c] W fun e w' => e = .returned (.bool (decide (vldL l))) ∧ Below W.heap.size W w' from by rw [hn]; exact rvalid15_any l A c W h (by omega)
    by_cases hv : ¬ vldL l
    · rw [decide_eq_false hv] at hV
      have HV := Lib.hid hV
      clear hV hv hlong hl70 hz400 hr hA hm hf hn hD hDs x1 x2 x3 x4 hp hT
      have ex : gx = w.heap.size := by exact hgx
      have HW0 := Lib.hid hW0
      have Ex := Lib.hid ex
      clear hW0 hgx ex bx px
      go_enter Try.func4, Try.ntmps4
      go_upto_region 1 with fail
      rw [← HW0.out, ← Ex.out]
      clear HW0 Ex
      go_wp2_with fail
      refine (HF.out _ Rl0.out).mono ?_
      rintro e w1 ⟨rfl, hb⟩
      clear HF
      have Px1 := Lib.hid (Cells.kept Px0.out hb Px0.out.lt)
      have Rl1 := Lib.hid (Rl0.out.kept hb)
      have K1 := Lib.hid (HK.out _ _ K0.out hb)
      have B1 := Lib.hid (B0.out.trans (hb.mono B0.out.size))
      clear hb Px0 Rl0 K0 B0
      have xx0 := (Cells.cell Px1.out 0).trans (show _ = some (Value.int .i64 a) from rfl)
      have xx1 := (Cells.cell Px1.out 1).trans (show _ = some (Value.string D) from rfl)
      have xx2 := (Cells.cell Px1.out 2).trans (show _ = some (Value.int .i64 pf) from rfl)
      have xx3 := (Cells.cell Px1.out 3).trans (show _ = some (Value.int .i64 pt) from rfl)
      go_wp2_with fail
      refine (HV.out _ Rl1.out).mono ?_
      rintro e w2 ⟨rfl, hb⟩
      clear HV xx0 xx1 xx2 xx3
      have Px2 := Lib.hid (Cells.kept Px1.out hb Px1.out.lt)
      have Rl2 := Lib.hid (Rl1.out.kept hb)
      have K2 := Lib.hid (HK.out _ _ K1.out hb)
      have B2 := Lib.hid (B1.out.trans (hb.mono B1.out.size))
      clear hb Px1 Rl1 K1 B1
      go_wp2_with fail
      refine (HL.out _ K2.out).mono ?_
      rintro e w99 ⟨rfl, hb⟩
      have BZ := Lib.hid (B2.out.trans (hb.mono B2.out.size))
      clear hb
      go_wp2_with fail
      go_ret
      exact ⟨rfl, BZ.out⟩
    have hv' := Classical.not_not.1 hv
    rw [decide_eq_true hv'] at hV
    have HV := Lib.hid hV
    obtain ⟨R, hR⟩ : ∃ R, R = insL l a d pol := ⟨_, rfl⟩
    have hRl := insL_len l a d pol
    rw [← hR] at hRl
    have f1 := fun (W : World) (hW : T W) (h : RowL EPc W A l) => show Calls Try.prog 15 #[.slice A n c, .agg #[.int .i64 a, .string D, .int .i64 pf, .int .i64 pt], .int .i64 pol] W (InP W R) from by rw [hR, hn, hD]; exact H.ins l A c a pf pt pol d W hW h hA (by omega) hv' (by omega) (by omega) x1 x2 x3 hp
    have f2 := fun (W : World) (h : RowL EPc W A l) => show Calls Try.prog 16 #[.slice A n c, .agg #[.int .i64 a, .string D, .int .i64 pf, .int .i64 pt], .int .i64 pol] W (InP W R) from by rw [hR, hn, hD]; exact rins15_any l A c a pf pt pol d W h hA (by omega) hv' (by omega) (by omega)
    clear hR
    obtain ⟨ls, df, er⟩ := R
    unfold InP at f1 f2
    dsimp only at f1 f2 hRl
    obtain ⟨m, hmm⟩ : ∃ m, m = ls.length := ⟨_, rfl⟩
    have HSM := Lib.hid (fun (A1 A2 : Option Addr) (c1 c2 : Nat) (W : World) (h1 : RowL EPc W A1 ls) (h2 : RowL EPc W A2 ls) => show Calls Try.prog 17 #[.slice A1 m c1, .slice A2 m c2] W fun e w' => e = .returned (.bool true) ∧ Below W.heap.size W w' from by rw [hmm]; exact rsame15_any ls A1 A2 c1 c2 W h1 h2 (by omega))
    rw [← hmm] at f1 f2
    have H1 := Lib.hid f1
    have H2 := Lib.hid f2
    have her : ((er : Int) == (er : Int)) = true := beq_self_eq_true _
    have hdf : ((df : Int) == (df : Int)) = true := beq_self_eq_true _
    clear f1 f2 hV hv hv' hlong hl70 hz400 hRl hmm hr hA hm hf hn hD hDs x1 x2 x3 x4 hp hT
    have ex : gx = w.heap.size := by exact hgx
    have HW0 := Lib.hid hW0
    have Ex := Lib.hid ex
    clear hW0 hgx ex bx px
    go_enter Try.func4, Try.ntmps4
    go_upto_region 1 with fail
    rw [← HW0.out, ← Ex.out]
    clear HW0 Ex
    go_wp2_with fail
    refine (HF.out _ Rl0.out).mono ?_
    rintro e w1 ⟨rfl, hb⟩
    clear HF
    have Px1 := Lib.hid (Cells.kept Px0.out hb Px0.out.lt)
    have Rl1 := Lib.hid (Rl0.out.kept hb)
    have K1 := Lib.hid (HK.out _ _ K0.out hb)
    have B1 := Lib.hid (B0.out.trans (hb.mono B0.out.size))
    clear hb Px0 Rl0 K0 B0
    have xx0 := (Cells.cell Px1.out 0).trans (show _ = some (Value.int .i64 a) from rfl)
    have xx1 := (Cells.cell Px1.out 1).trans (show _ = some (Value.string D) from rfl)
    have xx2 := (Cells.cell Px1.out 2).trans (show _ = some (Value.int .i64 pf) from rfl)
    have xx3 := (Cells.cell Px1.out 3).trans (show _ = some (Value.int .i64 pt) from rfl)
    go_wp2_with fail
    refine (HV.out _ Rl1.out).mono ?_
    rintro e w2 ⟨rfl, hb⟩
    clear HV xx0 xx1 xx2 xx3
    have Px2 := Lib.hid (Cells.kept Px1.out hb Px1.out.lt)
    have Rl2 := Lib.hid (Rl1.out.kept hb)
    have K2 := Lib.hid (HK.out _ _ K1.out hb)
    have B2 := Lib.hid (B1.out.trans (hb.mono B1.out.size))
    clear hb Px1 Rl1 K1 B1
    have xx0 := (Cells.cell Px2.out 0).trans (show _ = some (Value.int .i64 a) from rfl)
    have xx1 := (Cells.cell Px2.out 1).trans (show _ = some (Value.string D) from rfl)
    have xx2 := (Cells.cell Px2.out 2).trans (show _ = some (Value.int .i64 pf) from rfl)
    have xx3 := (Cells.cell Px2.out 3).trans (show _ = some (Value.int .i64 pt) from rfl)
    go_wp2_with fail
    refine (H1.out _ K2.out Rl2.out).mono ?_
    rintro e w3 ⟨A1, c1, rfl, hr1, -, hb⟩
    have Ra3n := Lib.hid hr1
    clear H1 xx0 xx1 xx2 xx3
    have Px3 := Lib.hid (Cells.kept Px2.out hb Px2.out.lt)
    have Rl3 := Lib.hid (Rl2.out.kept hb)
    have K3 := Lib.hid (HK.out _ _ K2.out hb)
    have B3 := Lib.hid (B2.out.trans (hb.mono B2.out.size))
    clear hb Px2 Rl2 K2 B2
    have Ra3 := Ra3n
    clear Ra3n hr1
    have xx0 := (Cells.cell Px3.out 0).trans (show _ = some (Value.int .i64 a) from rfl)
    have xx1 := (Cells.cell Px3.out 1).trans (show _ = some (Value.string D) from rfl)
    have xx2 := (Cells.cell Px3.out 2).trans (show _ = some (Value.int .i64 pf) from rfl)
    have xx3 := (Cells.cell Px3.out 3).trans (show _ = some (Value.int .i64 pt) from rfl)
    go_wp2_with fail
    refine (H2.out _ Rl3.out).mono ?_
    rintro e w4 ⟨A2, c2, rfl, hr2, -, hb⟩
    have Rb4n := Lib.hid hr2
    clear H2 xx0 xx1 xx2 xx3
    have Px4 := Lib.hid (Cells.kept Px3.out hb Px3.out.lt)
    have Rl4 := Lib.hid (Rl3.out.kept hb)
    have Ra4 := Lib.hid (Ra3.out.kept hb)
    have K4 := Lib.hid (HK.out _ _ K3.out hb)
    have B4 := Lib.hid (B3.out.trans (hb.mono B3.out.size))
    clear hb Px3 Rl3 Ra3 K3 B3
    have Rb4 := Rb4n
    clear Rb4n hr2
    go_wp2_with fail
    refine (HSM.out _ _ _ _ _ Ra4.out Rb4.out).mono ?_
    rintro e w5 ⟨rfl, hb⟩
    clear HSM
    have Px5 := Lib.hid (Cells.kept Px4.out hb Px4.out.lt)
    have Rl5 := Lib.hid (Rl4.out.kept hb)
    have Ra5 := Lib.hid (Ra4.out.kept hb)
    have Rb5 := Lib.hid (Rb4.out.kept hb)
    have K5 := Lib.hid (HK.out _ _ K4.out hb)
    have B5 := Lib.hid (B4.out.trans (hb.mono B4.out.size))
    clear hb Px4 Rl4 Ra4 Rb4 K4 B4
    go_wp2_with fail
    refine (HL.out _ K5.out).mono ?_
    rintro e w99 ⟨rfl, hb⟩
    have BZ := Lib.hid (B5.out.trans (hb.mono B5.out.size))
    clear hb
    go_wp2_with fail
    go_ret
    exact ⟨rfl, BZ.out⟩
end Go.Proofs.Ytafpmlikocchpaa
